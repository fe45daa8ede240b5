/- The reference's engine for targets: a value for a frame; bind. -/
import Derived.Test.YtnjalpcmjkahkaaZt11
import Derived.Test.YtnjalpcmjkahkaaZt35
set_option maxRecDepth 100000
set_option maxHeartbeats 8000000
namespace Go.Proofs.Ytnjalpcmjkahkaa
open Go.RowKit
set_option linter.unusedVariables false
set_option linter.unusedSimpArgs false
def ThG (W : World) (G : Nat) (t : V7) : Prop := W.cell? ⟨G, 5, none⟩ = some (.int .i64 t.k) ∧ W.cell? ⟨G, 6, none⟩ = some (.int .i64 t.n) ∧ W.cell? ⟨G, 7, none⟩ = some (.int .i64 t.nd) ∧ W.cell? ⟨G, 8, none⟩ = some (.pointer t.en) ∧ W.cell? ⟨G, 9, none⟩ = some (.slice none 0 0) ∧ W.cell? ⟨G, 10, none⟩ = some (.pointer t.one) ∧ W.cell? ⟨G, 11, none⟩ = some (.pointer t.two)
theorem EcC.thG {W : World} {G : Nat} {tv sv : Value} {m : Ec} (h : EcC W G tv sv m) : ThG W G m.th := ⟨h.c5, h.c6, h.c7, h.c8, h.c9, h.c10, h.c11⟩
theorem ThG.below {W W' : World} {G : Nat} {t : V7} (h : ThG W G t) (hG : G < W.heap.size) (hb : Below W.heap.size W W') : ThG W' G t :=
 ⟨carry hb hG h.1, carry hb hG h.2.1, carry hb hG h.2.2.1, carry hb hG h.2.2.2.1, carry hb hG h.2.2.2.2.1, carry hb hG h.2.2.2.2.2.1, carry hb hG h.2.2.2.2.2.2⟩
theorem gives_st2 {B G : Nat} {tv sv : Value} {c : Ec} {l : List Fx} {w : World} (h : ERc B G tv sv c l w) {ts : List Tg} {stk : List NF} {v : NV} (t : V7) (W : World) (hb : Below w.heap.size w W) (hs : StX ts W stk l) (hv : VR W v (.inl t)) :
  Calls Try.prog 44 #[.pointer (some ⟨G, 0, none⟩), t.val] W fun e w' => NxP c.w0 ts B G tv (.gv stk v) e w' ∧ Bar (Bq G) W w' ∧ ThG w' G t :=
 (gives_any W G tv sv c t (Lib.hid (h.ec.below hb))).mono fun e w' hp => ⟨⟨hp.1, mx_gv (h.below hb) hs hv hp⟩, hp.2.2, hp.2.1.thG⟩
theorem vr_comp {W : World} {v : NV} {t : V7} (h : VR W v (.inl t)) :
  (∃ u g tu, v = .ret u ∧ t = ⟨5, 0, 0, none, some ⟨g, 0, none⟩, none⟩ ∧ g < W.heap.size ∧ TyAt W g 67 ∧ VCo W g 0 tu ∧ VR W u (.inl tu)) ∨
  (∃ n u k g tu g2 tk, v = .op n u k ∧ t = ⟨6, n, 0, none, some ⟨g, 0, none⟩, some ⟨g2, 0, none⟩⟩ ∧ (g < W.heap.size ∧ TyAt W g 67 ∧ VCo W g 0 tu) ∧ VR W u (.inl tu) ∧ (g2 < W.heap.size ∧ TyAt W g2 67 ∧ VCo W g2 0 tk) ∧ VR W k (.inl tk)) ∨
  ((t.k ≠ 5 ∧ t.k ≠ 6) ∧ (∀ x stk nd env, nBind x stk nd env v = .en 5 0) ∧ ∀ x stk env, nCase x stk env v = .en 5 0) := by
 have hno : ∀ k : Int, k ≠ 5 ∧ k ≠ 6 → t.k = k → t.k ≠ 5 ∧ t.k ≠ 6 := fun k h e => by rw [e]; exact h
 cases v with
 | num n => cases h; exact .inr (.inr ⟨hno 0 (by decide) rfl, fun _ _ _ _ => rfl, fun _ _ _ => rfl⟩)
 | tru n => cases h; exact .inr (.inr ⟨hno 1 (by decide) rfl, fun _ _ _ _ => rfl, fun _ _ _ => rfl⟩)
 | fn n e => obtain ⟨_, h, _⟩ := h; cases h; exact .inr (.inr ⟨hno 2 (by decide) rfl, fun _ _ _ _ => rfl, fun _ _ _ => rfl⟩)
 | bnd n e f => obtain ⟨_, _, _, h, _⟩ := h; cases h; exact .inr (.inr ⟨hno 7 (by decide) rfl, fun _ _ _ _ => rfl, fun _ _ _ => rfl⟩)
 | fwd f g => obtain ⟨_, _, _, _, h, _⟩ := h; cases h; exact .inr (.inr ⟨hno 8 (by decide) rfl, fun _ _ _ _ => rfl, fun _ _ _ => rfl⟩)
 | ret u =>
  obtain ⟨a, x, h, ⟨g, ha, hg, hT, hc⟩, hu⟩ := h
  cases h
  exact .inl ⟨u, g, x, rfl, by rw [ha], hg, hT, hc, hu⟩
 | op n u f =>
  obtain ⟨a, x, b, y, h, ⟨g, ha, hg, hT, hc⟩, hu, ⟨g2, hb, hg2, hT2, hc2⟩, hk⟩ := h
  cases h
  exact .inr (.inl ⟨n, u, f, g, x, g2, y, rfl, by rw [ha, hb], ⟨hg, hT, hc⟩, hu, ⟨hg2, hT2, hc2⟩, hk⟩)
 | nil => cases h
 | cons x u r => obtain ⟨_, _, _, h, _⟩ := h; cases h
theorem bx_ft {w W : World} {x : Fx} {n : Tg} (hW : (w.alloc (.cells #[.int .i64 x.st, .int .i64 x.nd, .pointer x.en, .int .i64 x.th.k, .int .i64 x.th.n, .int .i64 x.th.nd, .pointer x.th.en, .slice none 0 0, .pointer x.th.one, .pointer x.th.two] 91)).alloc (.cells #[.int .i64 n.k, .int .i64 n.a, .int .i64 n.b, .int .i64 n.c, .int .i64 n.n, .int .i64 n.x, .int .i64 n.y, .int .i64 n.z, .int .i64 n.w] 37) = W) :
  Below w.heap.size w W ∧ W.heap.size = w.heap.size + 2 ∧ (W.cell? ⟨w.heap.size, 1, none⟩ = some (.int .i64 x.nd) ∧ W.cell? ⟨w.heap.size, 2, none⟩ = some (.pointer x.en)) ∧
  W.cell? ⟨w.heap.size + 1, 2, none⟩ = some (.int .i64 n.b) ∧ W.cell? ⟨w.heap.size + 1, 3, none⟩ = some (.int .i64 n.c) ∧ W.cell? ⟨w.heap.size + 1, 4, none⟩ = some (.int .i64 n.n) ∧ W.cell? ⟨w.heap.size + 1, 5, none⟩ = some (.int .i64 n.x) ∧ W.cell? ⟨w.heap.size + 1, 6, none⟩ = some (.int .i64 n.y) ∧ W.cell? ⟨w.heap.size + 1, 7, none⟩ = some (.int .i64 n.z) ∧ W.cell? ⟨w.heap.size + 1, 8, none⟩ = some (.int .i64 n.w) := by
 subst hW
 refine ⟨by (repeat' (first | (with_reducible first | exact bR _ _ | assumption | apply bS | apply bA | apply bD | apply bN | exact bL _) | (simp; done) | (simp; omega) | omega | exact bL _)), by simp, ⟨by simp [go_sem], by simp [go_sem]⟩, by simp [go_sem], by simp [go_sem], by simp [go_sem], by simp [go_sem], by simp [go_sem], by simp [go_sem], by simp [go_sem]⟩
def Fx.val (x : Fx) : Value := .agg #[.int .i64 x.st, .int .i64 x.nd, .pointer x.en, .int .i64 x.th.k, .int .i64 x.th.n, .int .i64 x.th.nd, .pointer x.th.en, .slice none 0 0, .pointer x.th.one, .pointer x.th.two]
def Tg.val7 (n : Tg) : Value := .agg #[.int .i64 n.k, .int .i64 n.a, .int .i64 n.b, .int .i64 n.c, .int .i64 n.n, .int .i64 n.x, .int .i64 n.y, .int .i64 n.z, .int .i64 n.w]
theorem bind17_any (B G : Nat) (tv sv : Value) (c : Ec) (l : List Fx) (ts : List Tg) (w : World) (stk : List NF) (env v : NV) (x : Fx) (n : Tg) (h : Hid (ERc B G tv sv c l w)) (hs : Hid (StX ts w stk l)) (henv : Hid (VR w env (.inr x.en))) (hv : Hid (VR w v (.inl c.th))) (hl : l.length ≤ 4096) :
  Calls Try.prog 49 #[.pointer (some ⟨G, 0, none⟩), x.val, n.val7] w (NxP c.w0 ts B G tv (nBind n stk x.nd env v)) := by
 have hgo := Lib.hid fun (env : NV) (p : Option Addr) (n : Int) (W : World) (hb : Below w.heap.size w W) (he : VR W env (.inr p)) => goes_st h.out n W hb (hs.out.below hb) he
 have hgv := Lib.hid fun (v : NV) (t : V7) (W : World) (hb : Below w.heap.size w W) (hh : VR W v (.inl t)) => gives_st2 h.out t W hb (hs.out.below hb) hh
 have hend := Lib.hid fun (W : World) (hb : Below w.heap.size w W) => end_st h.out (ts := ts) 5 0 W hb hl
 have hG := h.out.ec.lt
 have hnG : ∀ g, TyAt w g 67 → ¬ Bq G g := fun g hT e => (h.out.vf g (.inl e)).1 hT
 have hth := h.out.ec.thG
 obtain ⟨xst, xnd, xen, ⟨y0, y1, y2, y3, y4, y5⟩⟩ := x
 obtain ⟨nk, na, nb, nc, nn, nx, ny, nz, nw⟩ := n
 unfold Fx.val Tg.val7
 dsimp only at henv ⊢
 rcases vr_comp hv.out with ⟨u, g, tu, rfl, hct, hgw, hgT, hgc, hru⟩ | ⟨m, u, k, g, tu, g2, tk, rfl, hct, ⟨hgw, hgT, hgc⟩, hru, ⟨hgw2, hgT2, hgc2⟩, hrk⟩ | ⟨⟨hn5, hn6⟩, he, _⟩
 ·have hgoal : nBind ⟨nk, na, nb, nc, nn, nx, ny, nz, nw⟩ stk xnd env (.ret u) = .ev stk nb (.cons nx u env) := rfl
  rw [hgoal]
  rw [hct] at hth
  have hE10 : ∀ (W : World) (nd : Int) (p : Option Addr), EcC W G tv sv { c with ev := true, nd := nd, en := p } → W.cell? ⟨G, 10, none⟩ = some (.pointer (some ⟨g, 0, none⟩)) := fun W nd p h => by have := h.c10; dsimp only at this; rw [hct] at this; exact this
  have hE10 := Lib.hid hE10
  have hnb := hnG g hgT
  have hru := Lib.hid fun (W : World) hb => hru.below (W' := W) hb
  have henv := Lib.hid fun (W : World) hb => henv.out.below (W' := W) hb
  clear hgoal h hs hv hct hend hgv hnG
  go_enter Try.func49, Try.ntmps49
  go_upto_region 1 with fail
  obtain ⟨W0, hW0⟩ : ∃ W, (w.alloc (.cells #[.int .i64 xst, .int .i64 xnd, .pointer xen, .int .i64 y0, .int .i64 y1, .int .i64 y2, .pointer y3, .slice none 0 0, .pointer y4, .pointer y5] 91)).alloc (.cells #[.int .i64 nk, .int .i64 na, .int .i64 nb, .int .i64 nc, .int .i64 nn, .int .i64 nx, .int .i64 ny, .int .i64 nz, .int .i64 nw] 37) = W := ⟨_, rfl⟩
  rw [hW0]
  obtain ⟨hb0, hs0, ⟨f1, f2⟩, n2, n3, n4, n5, n6, n7, n8⟩ := bx_ft (x := ⟨xst, xnd, xen, ⟨y0, y1, y2, y3, y4, y5⟩⟩) (n := ⟨nk, na, nb, nc, nn, nx, ny, nz, nw⟩) hW0
  dsimp only at f1 f2 n2 n3 n4 n5 n6 n7 n8
  have hG0 : G < W0.heap.size := Nat.lt_of_lt_of_le hG hb0.size
  have hl0 : w.heap.size < W0.heap.size := by omega
  have hl1 : w.heap.size + 1 < W0.heap.size := by omega
  have hT0 := hth.below hG hb0
  obtain ⟨c5, c6, c7, c8, c9, c10, c11⟩ := hT0
  dsimp only at c5 c6 c7 c8 c9 c10 c11
  have hnf : ¬ Bq G w.heap.size := fun e => by have e : w.heap.size = G := e; omega
  have hnv : ¬ Bq G (w.heap.size + 1) := fun e => by have e : w.heap.size + 1 = G := e; omega
  have hb0 := Lib.hid hb0
  clear hW0 hs0
  obtain ⟨u0, u1, u2, u3, u4, u5, u6⟩ := hgc
  simp only [Nat.zero_add] at u1 u2 u3 u4 u5 u6
  have u0 : W0.cell? _ = _ := carry hb0.out hgw u0
  have u1 : W0.cell? _ = _ := carry hb0.out hgw u1
  have u2 : W0.cell? _ = _ := carry hb0.out hgw u2
  have u3 : W0.cell? _ = _ := carry hb0.out hgw u3
  have u4 : W0.cell? _ = _ := carry hb0.out hgw u4
  have u5 : W0.cell? _ = _ := carry hb0.out hgw u5
  have u6 : W0.cell? _ = _ := carry hb0.out hgw u6
  have hgw0 : g < W0.heap.size := Nat.lt_of_lt_of_le hgw hb0.out.size
  go_upto_region 4 with fail
  refine wp_region_held_drew (S := fun W => Bar (Bq G) W0 W ∧ W.cell? ⟨G, 10, none⟩ = some (.pointer (some ⟨g, 0, none⟩))) (by kernel_rfl) (⟨Bar.of_below ((Below.refl _ _).drew), carry ((Below.refl _ _).drew) hG0 c10⟩) (fun hHeld => ?_)
  refine rg_take 0 (some 15) (v := ?v1) rfl rfl (by kernel_rfl) (by kernel_rfl) (by kernel_rfl) (fun _ _ _ h => h) (by rfl) ?hy1 (by assumption) ?_
  case hy1 => intro W hSW; (try dsimp only at hSW); have q0 := Nat.lt_of_lt_of_le hG0 hSW.1.size; have q1 := Nat.lt_of_lt_of_le hl0 hSW.1.size; have q2 := Nat.lt_of_lt_of_le hl1 hSW.1.size; have z0 := hSW.1.cell f1 hnf; have z1 := hSW.1.cell f2 hnf; have z2 := hSW.1.cell n2 hnv; have z3 := hSW.1.cell n3 hnv; have z4 := hSW.1.cell n5 hnv; have z5 := hSW.1.cell n6 hnv; have z6 := hSW.1.cell n7 hnv; have y0 := hSW.1.cell u0 hnb; have y1 := hSW.1.cell u1 hnb; have y2 := hSW.1.cell u2 hnb; have y3 := hSW.1.cell u3 hnb; have y4 := hSW.1.cell u4 hnb; have y5 := hSW.1.cell u5 hnb; have y6 := hSW.1.cell u6 hnb; have q3 := Nat.lt_of_lt_of_le hgw0 hSW.1.size; have z8 := hSW.2; go_simp; (try with_reducible rfl)
  try simp only [Act.put, bP, bQ, bT]
  refine rg_take 1 (some 16) (v := ?v2) rfl rfl (by kernel_rfl) (by kernel_rfl) (by kernel_rfl) (fun _ _ _ h => h) (by rfl) ?hy2 (by assumption) ?_
  case hy2 => intro W hSW; (try dsimp only at hSW); have q0 := Nat.lt_of_lt_of_le hG0 hSW.1.size; have q1 := Nat.lt_of_lt_of_le hl0 hSW.1.size; have q2 := Nat.lt_of_lt_of_le hl1 hSW.1.size; have z0 := hSW.1.cell f1 hnf; have z1 := hSW.1.cell f2 hnf; have z2 := hSW.1.cell n2 hnv; have z3 := hSW.1.cell n3 hnv; have z4 := hSW.1.cell n5 hnv; have z5 := hSW.1.cell n6 hnv; have z6 := hSW.1.cell n7 hnv; have y0 := hSW.1.cell u0 hnb; have y1 := hSW.1.cell u1 hnb; have y2 := hSW.1.cell u2 hnb; have y3 := hSW.1.cell u3 hnb; have y4 := hSW.1.cell u4 hnb; have y5 := hSW.1.cell u5 hnb; have y6 := hSW.1.cell u6 hnb; have q3 := Nat.lt_of_lt_of_le hgw0 hSW.1.size; have z8 := hSW.2; go_simp; (try with_reducible rfl)
  try simp only [Act.put, bP, bQ, bT]
  refine rg_take 2 (some 17) (v := ?v3) rfl rfl (by kernel_rfl) (by kernel_rfl) (by kernel_rfl) (fun _ _ _ h => h) (by rfl) ?hy3 (by assumption) ?_
  case hy3 => intro W hSW; (try dsimp only at hSW); have q0 := Nat.lt_of_lt_of_le hG0 hSW.1.size; have q1 := Nat.lt_of_lt_of_le hl0 hSW.1.size; have q2 := Nat.lt_of_lt_of_le hl1 hSW.1.size; have z0 := hSW.1.cell f1 hnf; have z1 := hSW.1.cell f2 hnf; have z2 := hSW.1.cell n2 hnv; have z3 := hSW.1.cell n3 hnv; have z4 := hSW.1.cell n5 hnv; have z5 := hSW.1.cell n6 hnv; have z6 := hSW.1.cell n7 hnv; have y0 := hSW.1.cell u0 hnb; have y1 := hSW.1.cell u1 hnb; have y2 := hSW.1.cell u2 hnb; have y3 := hSW.1.cell u3 hnb; have y4 := hSW.1.cell u4 hnb; have y5 := hSW.1.cell u5 hnb; have y6 := hSW.1.cell u6 hnb; have q3 := Nat.lt_of_lt_of_le hgw0 hSW.1.size; have z8 := hSW.2; go_simp; (try with_reducible rfl)
  try simp only [Act.put, bP, bQ, bT]
  refine rg_take 3 (some 18) (v := ?v4) rfl rfl (by kernel_rfl) (by kernel_rfl) (by kernel_rfl) (fun _ _ _ h => h) (by rfl) ?hy4 (by assumption) ?_
  case hy4 => intro W hSW; (try dsimp only at hSW); have q0 := Nat.lt_of_lt_of_le hG0 hSW.1.size; have q1 := Nat.lt_of_lt_of_le hl0 hSW.1.size; have q2 := Nat.lt_of_lt_of_le hl1 hSW.1.size; have z0 := hSW.1.cell f1 hnf; have z1 := hSW.1.cell f2 hnf; have z2 := hSW.1.cell n2 hnv; have z3 := hSW.1.cell n3 hnv; have z4 := hSW.1.cell n5 hnv; have z5 := hSW.1.cell n6 hnv; have z6 := hSW.1.cell n7 hnv; have y0 := hSW.1.cell u0 hnb; have y1 := hSW.1.cell u1 hnb; have y2 := hSW.1.cell u2 hnb; have y3 := hSW.1.cell u3 hnb; have y4 := hSW.1.cell u4 hnb; have y5 := hSW.1.cell u5 hnb; have y6 := hSW.1.cell u6 hnb; have q3 := Nat.lt_of_lt_of_le hgw0 hSW.1.size; have z8 := hSW.2; go_simp; (try with_reducible rfl)
  try simp only [Act.put, bP, bQ, bT]
  refine rg_take 4 (some 19) (v := ?v5) rfl rfl (by kernel_rfl) (by kernel_rfl) (by kernel_rfl) (fun _ _ _ h => h) (by rfl) ?hy5 (by assumption) ?_
  case hy5 => intro W hSW; (try dsimp only at hSW); have q0 := Nat.lt_of_lt_of_le hG0 hSW.1.size; have q1 := Nat.lt_of_lt_of_le hl0 hSW.1.size; have q2 := Nat.lt_of_lt_of_le hl1 hSW.1.size; have z0 := hSW.1.cell f1 hnf; have z1 := hSW.1.cell f2 hnf; have z2 := hSW.1.cell n2 hnv; have z3 := hSW.1.cell n3 hnv; have z4 := hSW.1.cell n5 hnv; have z5 := hSW.1.cell n6 hnv; have z6 := hSW.1.cell n7 hnv; have y0 := hSW.1.cell u0 hnb; have y1 := hSW.1.cell u1 hnb; have y2 := hSW.1.cell u2 hnb; have y3 := hSW.1.cell u3 hnb; have y4 := hSW.1.cell u4 hnb; have y5 := hSW.1.cell u5 hnb; have y6 := hSW.1.cell u6 hnb; have q3 := Nat.lt_of_lt_of_le hgw0 hSW.1.size; have z8 := hSW.2; go_simp; (try with_reducible rfl)
  try simp only [Act.put, bP, bQ, bT]
  refine rg_take 5 (some 20) (v := ?v6) rfl rfl (by kernel_rfl) (by kernel_rfl) (by kernel_rfl) (fun _ _ _ h => h) (by rfl) ?hy6 (by assumption) ?_
  case hy6 => intro W hSW; (try dsimp only at hSW); have q0 := Nat.lt_of_lt_of_le hG0 hSW.1.size; have q1 := Nat.lt_of_lt_of_le hl0 hSW.1.size; have q2 := Nat.lt_of_lt_of_le hl1 hSW.1.size; have z0 := hSW.1.cell f1 hnf; have z1 := hSW.1.cell f2 hnf; have z2 := hSW.1.cell n2 hnv; have z3 := hSW.1.cell n3 hnv; have z4 := hSW.1.cell n5 hnv; have z5 := hSW.1.cell n6 hnv; have z6 := hSW.1.cell n7 hnv; have y0 := hSW.1.cell u0 hnb; have y1 := hSW.1.cell u1 hnb; have y2 := hSW.1.cell u2 hnb; have y3 := hSW.1.cell u3 hnb; have y4 := hSW.1.cell u4 hnb; have y5 := hSW.1.cell u5 hnb; have y6 := hSW.1.cell u6 hnb; have q3 := Nat.lt_of_lt_of_le hgw0 hSW.1.size; have z8 := hSW.2; go_simp; (try with_reducible rfl)
  try simp only [Act.put, bP, bQ, bT]
  refine rg_take 6 (some 21) (v := ?v7) rfl rfl (by kernel_rfl) (by kernel_rfl) (by kernel_rfl) (fun _ _ _ h => h) (by rfl) ?hy7 (by assumption) ?_
  case hy7 => intro W hSW; (try dsimp only at hSW); have q0 := Nat.lt_of_lt_of_le hG0 hSW.1.size; have q1 := Nat.lt_of_lt_of_le hl0 hSW.1.size; have q2 := Nat.lt_of_lt_of_le hl1 hSW.1.size; have z0 := hSW.1.cell f1 hnf; have z1 := hSW.1.cell f2 hnf; have z2 := hSW.1.cell n2 hnv; have z3 := hSW.1.cell n3 hnv; have z4 := hSW.1.cell n5 hnv; have z5 := hSW.1.cell n6 hnv; have z6 := hSW.1.cell n7 hnv; have y0 := hSW.1.cell u0 hnb; have y1 := hSW.1.cell u1 hnb; have y2 := hSW.1.cell u2 hnb; have y3 := hSW.1.cell u3 hnb; have y4 := hSW.1.cell u4 hnb; have y5 := hSW.1.cell u5 hnb; have y6 := hSW.1.cell u6 hnb; have q3 := Nat.lt_of_lt_of_le hgw0 hSW.1.size; have z8 := hSW.2; go_simp; (try with_reducible rfl)
  try simp only [Act.put, bP, bQ, bT]
  refine rg_take 7 (some 22) (v := ?v8) rfl rfl (by kernel_rfl) (by kernel_rfl) (by kernel_rfl) (fun _ _ _ h => h) (by rfl) ?hy8 (by assumption) ?_
  case hy8 => intro W hSW; (try dsimp only at hSW); have q0 := Nat.lt_of_lt_of_le hG0 hSW.1.size; have q1 := Nat.lt_of_lt_of_le hl0 hSW.1.size; have q2 := Nat.lt_of_lt_of_le hl1 hSW.1.size; have z0 := hSW.1.cell f1 hnf; have z1 := hSW.1.cell f2 hnf; have z2 := hSW.1.cell n2 hnv; have z3 := hSW.1.cell n3 hnv; have z4 := hSW.1.cell n5 hnv; have z5 := hSW.1.cell n6 hnv; have z6 := hSW.1.cell n7 hnv; have y0 := hSW.1.cell u0 hnb; have y1 := hSW.1.cell u1 hnb; have y2 := hSW.1.cell u2 hnb; have y3 := hSW.1.cell u3 hnb; have y4 := hSW.1.cell u4 hnb; have y5 := hSW.1.cell u5 hnb; have y6 := hSW.1.cell u6 hnb; have q3 := Nat.lt_of_lt_of_le hgw0 hSW.1.size; have z8 := hSW.2; go_simp; (try with_reducible rfl)
  try simp only [Act.put, bP, bQ, bT]
  refine rg_take 8 (some 23) (v := ?v9) rfl rfl (by kernel_rfl) (by kernel_rfl) (by kernel_rfl) (fun _ _ _ h => h) (by rfl) ?hy9 (by assumption) ?_
  case hy9 => intro W hSW; (try dsimp only at hSW); have q0 := Nat.lt_of_lt_of_le hG0 hSW.1.size; have q1 := Nat.lt_of_lt_of_le hl0 hSW.1.size; have q2 := Nat.lt_of_lt_of_le hl1 hSW.1.size; have z0 := hSW.1.cell f1 hnf; have z1 := hSW.1.cell f2 hnf; have z2 := hSW.1.cell n2 hnv; have z3 := hSW.1.cell n3 hnv; have z4 := hSW.1.cell n5 hnv; have z5 := hSW.1.cell n6 hnv; have z6 := hSW.1.cell n7 hnv; have y0 := hSW.1.cell u0 hnb; have y1 := hSW.1.cell u1 hnb; have y2 := hSW.1.cell u2 hnb; have y3 := hSW.1.cell u3 hnb; have y4 := hSW.1.cell u4 hnb; have y5 := hSW.1.cell u5 hnb; have y6 := hSW.1.cell u6 hnb; have q3 := Nat.lt_of_lt_of_le hgw0 hSW.1.size; have z8 := hSW.2; go_simp; (try with_reducible rfl)
  try simp only [Act.put, bP, bQ, bT]
  refine rg_take 9 (some 24) (v := ?v10) rfl rfl (by kernel_rfl) (by kernel_rfl) (by kernel_rfl) (fun _ _ _ h => h) (by rfl) ?hy10 (by assumption) ?_
  case hy10 => intro W hSW; (try dsimp only at hSW); have q0 := Nat.lt_of_lt_of_le hG0 hSW.1.size; have q1 := Nat.lt_of_lt_of_le hl0 hSW.1.size; have q2 := Nat.lt_of_lt_of_le hl1 hSW.1.size; have z0 := hSW.1.cell f1 hnf; have z1 := hSW.1.cell f2 hnf; have z2 := hSW.1.cell n2 hnv; have z3 := hSW.1.cell n3 hnv; have z4 := hSW.1.cell n5 hnv; have z5 := hSW.1.cell n6 hnv; have z6 := hSW.1.cell n7 hnv; have y0 := hSW.1.cell u0 hnb; have y1 := hSW.1.cell u1 hnb; have y2 := hSW.1.cell u2 hnb; have y3 := hSW.1.cell u3 hnb; have y4 := hSW.1.cell u4 hnb; have y5 := hSW.1.cell u5 hnb; have y6 := hSW.1.cell u6 hnb; have q3 := Nat.lt_of_lt_of_le hgw0 hSW.1.size; have z8 := hSW.2; go_simp; (try with_reducible rfl)
  try simp only [Act.put, bP, bQ, bT]
  refine rg_take 10 (some 25) (v := ?v11) rfl rfl (by kernel_rfl) (by kernel_rfl) (by kernel_rfl) (fun _ _ _ h => h) (by rfl) ?hy11 (by assumption) ?_
  case hy11 => intro W hSW; (try dsimp only at hSW); have q0 := Nat.lt_of_lt_of_le hG0 hSW.1.size; have q1 := Nat.lt_of_lt_of_le hl0 hSW.1.size; have q2 := Nat.lt_of_lt_of_le hl1 hSW.1.size; have z0 := hSW.1.cell f1 hnf; have z1 := hSW.1.cell f2 hnf; have z2 := hSW.1.cell n2 hnv; have z3 := hSW.1.cell n3 hnv; have z4 := hSW.1.cell n5 hnv; have z5 := hSW.1.cell n6 hnv; have z6 := hSW.1.cell n7 hnv; have y0 := hSW.1.cell u0 hnb; have y1 := hSW.1.cell u1 hnb; have y2 := hSW.1.cell u2 hnb; have y3 := hSW.1.cell u3 hnb; have y4 := hSW.1.cell u4 hnb; have y5 := hSW.1.cell u5 hnb; have y6 := hSW.1.cell u6 hnb; have q3 := Nat.lt_of_lt_of_le hgw0 hSW.1.size; have z8 := hSW.2; go_simp; (try with_reducible rfl)
  try simp only [Act.put, bP, bQ, bT]
  refine rg_take 11 (some 26) (v := ?v12) rfl rfl (by kernel_rfl) (by kernel_rfl) (by kernel_rfl) (fun _ _ _ h => h) (by rfl) ?hy12 (by assumption) ?_
  case hy12 => intro W hSW; (try dsimp only at hSW); have q0 := Nat.lt_of_lt_of_le hG0 hSW.1.size; have q1 := Nat.lt_of_lt_of_le hl0 hSW.1.size; have q2 := Nat.lt_of_lt_of_le hl1 hSW.1.size; have z0 := hSW.1.cell f1 hnf; have z1 := hSW.1.cell f2 hnf; have z2 := hSW.1.cell n2 hnv; have z3 := hSW.1.cell n3 hnv; have z4 := hSW.1.cell n5 hnv; have z5 := hSW.1.cell n6 hnv; have z6 := hSW.1.cell n7 hnv; have y0 := hSW.1.cell u0 hnb; have y1 := hSW.1.cell u1 hnb; have y2 := hSW.1.cell u2 hnb; have y3 := hSW.1.cell u3 hnb; have y4 := hSW.1.cell u4 hnb; have y5 := hSW.1.cell u5 hnb; have y6 := hSW.1.cell u6 hnb; have q3 := Nat.lt_of_lt_of_le hgw0 hSW.1.size; have z8 := hSW.2; go_simp; (try with_reducible rfl)
  try simp only [Act.put, bP, bQ, bT]
  refine rg_take 12 (some 27) (v := ?v13) rfl rfl (by kernel_rfl) (by kernel_rfl) (by kernel_rfl) (fun _ _ _ h => h) (by rfl) ?hy13 (by assumption) ?_
  case hy13 => intro W hSW; (try dsimp only at hSW); have q0 := Nat.lt_of_lt_of_le hG0 hSW.1.size; have q1 := Nat.lt_of_lt_of_le hl0 hSW.1.size; have q2 := Nat.lt_of_lt_of_le hl1 hSW.1.size; have z0 := hSW.1.cell f1 hnf; have z1 := hSW.1.cell f2 hnf; have z2 := hSW.1.cell n2 hnv; have z3 := hSW.1.cell n3 hnv; have z4 := hSW.1.cell n5 hnv; have z5 := hSW.1.cell n6 hnv; have z6 := hSW.1.cell n7 hnv; have y0 := hSW.1.cell u0 hnb; have y1 := hSW.1.cell u1 hnb; have y2 := hSW.1.cell u2 hnb; have y3 := hSW.1.cell u3 hnb; have y4 := hSW.1.cell u4 hnb; have y5 := hSW.1.cell u5 hnb; have y6 := hSW.1.cell u6 hnb; have q3 := Nat.lt_of_lt_of_le hgw0 hSW.1.size; have z8 := hSW.2; go_simp; (try with_reducible rfl)
  try simp only [Act.put, bP, bQ, bT]
  refine rg_take 13 (some 28) (v := ?v14) rfl rfl (by kernel_rfl) (by kernel_rfl) (by kernel_rfl) (fun _ _ _ h => h) (by rfl) ?hy14 (by assumption) ?_
  case hy14 => intro W hSW; (try dsimp only at hSW); have q0 := Nat.lt_of_lt_of_le hG0 hSW.1.size; have q1 := Nat.lt_of_lt_of_le hl0 hSW.1.size; have q2 := Nat.lt_of_lt_of_le hl1 hSW.1.size; have z0 := hSW.1.cell f1 hnf; have z1 := hSW.1.cell f2 hnf; have z2 := hSW.1.cell n2 hnv; have z3 := hSW.1.cell n3 hnv; have z4 := hSW.1.cell n5 hnv; have z5 := hSW.1.cell n6 hnv; have z6 := hSW.1.cell n7 hnv; have y0 := hSW.1.cell u0 hnb; have y1 := hSW.1.cell u1 hnb; have y2 := hSW.1.cell u2 hnb; have y3 := hSW.1.cell u3 hnb; have y4 := hSW.1.cell u4 hnb; have y5 := hSW.1.cell u5 hnb; have y6 := hSW.1.cell u6 hnb; have q3 := Nat.lt_of_lt_of_le hgw0 hSW.1.size; have z8 := hSW.2; go_simp; (try with_reducible rfl)
  try simp only [Act.put, bP, bQ, bT]
  refine rg_one 14 rfl (by kernel_rfl) (by rfl) (fun K hK => ?_)
  go_simp
  refine (named_any _ env u xen nx tu (Lib.hid (henv.out _ (belT hb0.out ((Below.refl _ _).drew)))) (Lib.hid (hru.out _ (belT hb0.out ((Below.refl _ _).drew))))).mono ?_
  rintro e9 w9 ⟨g9, rfl, hr9, hb9⟩
  have hc9 : Below W0.heap.size W0 w9 := belT ((Below.refl _ _).drew) hb9
  refine hK.out _ _ ⟨Bar.of_below hc9, carry hc9 hG0 c10⟩ (fun hH9 => ?_)
  clear hK K
  try simp only [Act.put, bP, bQ, bT]
  refine rg_one 15 rfl (by kernel_rfl) (by rfl) (fun K hK => ?_)
  go_simp
  refine (hgo.out (.cons nx u env) (some ⟨g9, 0, none⟩) nb w9 (belT hb0.out hc9) hr9).mono ?_
  rintro e8 w8 ⟨hf, hb8, hE8⟩
  have he8 := hf.1
  subst he8
  have hf := Lib.hid hf
  refine hK.out _ _ ⟨(Bar.of_below hc9).trans hb8 fun _ _ h => h, hE10.out _ _ _ hE8⟩ (fun hH8 => ?_)
  clear hK K
  try simp only [Act.put, bP, bQ, bT]
  refine wpAnyH_done (by kernel_rfl) ?_ _
  go_wp2_with fail
  all_goals go_end0
  all_goals exact hf.out
 ·have hgoal : nBind ⟨nk, na, nb, nc, nn, nx, ny, nz, nw⟩ stk xnd env (.op m u k) = .gv stk (.op m u (.bnd xnd env k)) := rfl
  rw [hgoal]
  rw [hct] at hth
  have hres : ∀ (W : World) (b : Nat), Below w.heap.size w W → b < W.heap.size → TyAt W b 67 → VCo W b 0 ⟨7, 0, xnd, xen, some ⟨g2, 0, none⟩, none⟩ → VR W (.op m u (.bnd xnd env k)) (.inl ⟨6, m, 0, none, some ⟨g, 0, none⟩, some ⟨b, 0, none⟩⟩) := fun W b hb h1 h2 h3 =>
   ⟨some ⟨g, 0, none⟩, tu, some ⟨b, 0, none⟩, ⟨7, 0, xnd, xen, some ⟨g2, 0, none⟩, none⟩, rfl, VBx.below ⟨g, rfl, hgw, hgT, hgc⟩ hb, hru.below hb, ⟨b, rfl, h1, h2, h3⟩, ⟨xen, some ⟨g2, 0, none⟩, tk, rfl, henv.out.below hb, VBx.below ⟨g2, rfl, hgw2, hgT2, hgc2⟩ hb, hrk.below hb⟩⟩
  have hres := Lib.hid hres
  clear hgoal h hs hv hct hend hgo hnG hgc hgc2 hgT hgT2 hru hrk henv
  go_enter Try.func49, Try.ntmps49
  go_upto_region 1 with fail
  obtain ⟨W0, hW0⟩ : ∃ W, (w.alloc (.cells #[.int .i64 xst, .int .i64 xnd, .pointer xen, .int .i64 y0, .int .i64 y1, .int .i64 y2, .pointer y3, .slice none 0 0, .pointer y4, .pointer y5] 91)).alloc (.cells #[.int .i64 nk, .int .i64 na, .int .i64 nb, .int .i64 nc, .int .i64 nn, .int .i64 nx, .int .i64 ny, .int .i64 nz, .int .i64 nw] 37) = W := ⟨_, rfl⟩
  rw [hW0]
  obtain ⟨hb0, hs0, ⟨f1, f2⟩, n2, n3, n4, n5, n6, n7, n8⟩ := bx_ft (x := ⟨xst, xnd, xen, ⟨y0, y1, y2, y3, y4, y5⟩⟩) (n := ⟨nk, na, nb, nc, nn, nx, ny, nz, nw⟩) hW0
  dsimp only at f1 f2 n2 n3 n4 n5 n6 n7 n8
  have hG0 : G < W0.heap.size := Nat.lt_of_lt_of_le hG hb0.size
  have hl0 : w.heap.size < W0.heap.size := by omega
  have hl1 : w.heap.size + 1 < W0.heap.size := by omega
  have hT0 := hth.below hG hb0
  obtain ⟨c5, c6, c7, c8, c9, c10, c11⟩ := hT0
  dsimp only at c5 c6 c7 c8 c9 c10 c11
  have hnf : ¬ Bq G w.heap.size := fun e => by have e : w.heap.size = G := e; omega
  have hnv : ¬ Bq G (w.heap.size + 1) := fun e => by have e : w.heap.size + 1 = G := e; omega
  have hb0 := Lib.hid hb0
  clear hW0 hs0
  go_upto_region 6 with fail
  have hD : Below W0.heap.size W0 W0.drew := (Below.refl _ _).drew
  have hG1 := Nat.lt_of_lt_of_le hG0 hD.size
  have d11 : W0.drew.cell? _ = _ := carry hD hG0 c11
  have hD := Lib.hid hD
  refine wp_region_held_drew (S := fun W => Bar (Bq G) W0 W ∧ W.cell? ⟨G, 6, none⟩ = some (.int .i64 m) ∧ W.cell? ⟨G, 10, none⟩ = some (.pointer (some ⟨g, 0, none⟩))) (by kernel_rfl) (⟨Bar.of_below hD.out, carry hD.out hG0 c6, carry hD.out hG0 c10⟩) (fun hHeld => ?_)
  refine rg_take 0 (some 33) (v := ?v15) rfl rfl (by kernel_rfl) (by kernel_rfl) (by kernel_rfl) (fun _ _ _ h => h) (by rfl) ?hy15 (by assumption) ?_
  case hy15 => intro W hSW; (try dsimp only at hSW); have q0 := Nat.lt_of_lt_of_le hG0 hSW.1.size; have q1 := Nat.lt_of_lt_of_le hl0 hSW.1.size; have q2 := Nat.lt_of_lt_of_le hl1 hSW.1.size; have z0 := hSW.1.cell f1 hnf; have z1 := hSW.1.cell f2 hnf; have z2 := hSW.1.cell n2 hnv; have z3 := hSW.1.cell n3 hnv; have z4 := hSW.1.cell n5 hnv; have z5 := hSW.1.cell n6 hnv; have z6 := hSW.1.cell n7 hnv; have z8 := hSW.2.1; have z9 := hSW.2.2; go_simp; (try with_reducible rfl)
  try simp only [Act.put, bP, bQ, bT]
  refine rg_take 1 (some 34) (v := ?v16) rfl rfl (by kernel_rfl) (by kernel_rfl) (by kernel_rfl) (fun _ _ _ h => h) (by rfl) ?hy16 (by assumption) ?_
  case hy16 => intro W hSW; (try dsimp only at hSW); have q0 := Nat.lt_of_lt_of_le hG0 hSW.1.size; have q1 := Nat.lt_of_lt_of_le hl0 hSW.1.size; have q2 := Nat.lt_of_lt_of_le hl1 hSW.1.size; have z0 := hSW.1.cell f1 hnf; have z1 := hSW.1.cell f2 hnf; have z2 := hSW.1.cell n2 hnv; have z3 := hSW.1.cell n3 hnv; have z4 := hSW.1.cell n5 hnv; have z5 := hSW.1.cell n6 hnv; have z6 := hSW.1.cell n7 hnv; have z8 := hSW.2.1; have z9 := hSW.2.2; go_simp; (try with_reducible rfl)
  try simp only [Act.put, bP, bQ, bT]
  refine rg_take 2 (some 35) (v := ?v17) rfl rfl (by kernel_rfl) (by kernel_rfl) (by kernel_rfl) (fun _ _ _ h => h) (by rfl) ?hy17 (by assumption) ?_
  case hy17 => intro W hSW; (try dsimp only at hSW); have q0 := Nat.lt_of_lt_of_le hG0 hSW.1.size; have q1 := Nat.lt_of_lt_of_le hl0 hSW.1.size; have q2 := Nat.lt_of_lt_of_le hl1 hSW.1.size; have z0 := hSW.1.cell f1 hnf; have z1 := hSW.1.cell f2 hnf; have z2 := hSW.1.cell n2 hnv; have z3 := hSW.1.cell n3 hnv; have z4 := hSW.1.cell n5 hnv; have z5 := hSW.1.cell n6 hnv; have z6 := hSW.1.cell n7 hnv; have z8 := hSW.2.1; have z9 := hSW.2.2; go_simp; (try with_reducible rfl)
  try simp only [Act.put, bP, bQ, bT]
  refine rg_take 3 (some 36) (v := ?v18) rfl rfl (by kernel_rfl) (by kernel_rfl) (by kernel_rfl) (fun _ _ _ h => h) (by rfl) ?hy18 (by assumption) ?_
  case hy18 => intro W hSW; (try dsimp only at hSW); have q0 := Nat.lt_of_lt_of_le hG0 hSW.1.size; have q1 := Nat.lt_of_lt_of_le hl0 hSW.1.size; have q2 := Nat.lt_of_lt_of_le hl1 hSW.1.size; have z0 := hSW.1.cell f1 hnf; have z1 := hSW.1.cell f2 hnf; have z2 := hSW.1.cell n2 hnv; have z3 := hSW.1.cell n3 hnv; have z4 := hSW.1.cell n5 hnv; have z5 := hSW.1.cell n6 hnv; have z6 := hSW.1.cell n7 hnv; have z8 := hSW.2.1; have z9 := hSW.2.2; go_simp; (try with_reducible rfl)
  try simp only [Act.put, bP, bQ, bT]
  refine rg_take 4 (some 37) (v := ?v19) rfl rfl (by kernel_rfl) (by kernel_rfl) (by kernel_rfl) (fun _ _ _ h => h) (by rfl) ?hy19 (by assumption) ?_
  case hy19 => intro W hSW; (try dsimp only at hSW); have q0 := Nat.lt_of_lt_of_le hG0 hSW.1.size; have q1 := Nat.lt_of_lt_of_le hl0 hSW.1.size; have q2 := Nat.lt_of_lt_of_le hl1 hSW.1.size; have z0 := hSW.1.cell f1 hnf; have z1 := hSW.1.cell f2 hnf; have z2 := hSW.1.cell n2 hnv; have z3 := hSW.1.cell n3 hnv; have z4 := hSW.1.cell n5 hnv; have z5 := hSW.1.cell n6 hnv; have z6 := hSW.1.cell n7 hnv; have z8 := hSW.2.1; have z9 := hSW.2.2; go_simp; (try with_reducible rfl)
  try simp only [Act.put, bP, bQ, bT]
  refine rg_take 5 (some 38) (v := ?v20) rfl rfl (by kernel_rfl) (by kernel_rfl) (by kernel_rfl) (fun _ _ _ h => h) (by rfl) ?hy20 (by assumption) ?_
  case hy20 => intro W hSW; (try dsimp only at hSW); have q0 := Nat.lt_of_lt_of_le hG0 hSW.1.size; have q1 := Nat.lt_of_lt_of_le hl0 hSW.1.size; have q2 := Nat.lt_of_lt_of_le hl1 hSW.1.size; have z0 := hSW.1.cell f1 hnf; have z1 := hSW.1.cell f2 hnf; have z2 := hSW.1.cell n2 hnv; have z3 := hSW.1.cell n3 hnv; have z4 := hSW.1.cell n5 hnv; have z5 := hSW.1.cell n6 hnv; have z6 := hSW.1.cell n7 hnv; have z8 := hSW.2.1; have z9 := hSW.2.2; go_simp; (try with_reducible rfl)
  try simp only [Act.put, bP, bQ, bT]
  refine rg_take 6 (some 39) (v := ?v21) rfl rfl (by kernel_rfl) (by kernel_rfl) (by kernel_rfl) (fun _ _ _ h => h) (by rfl) ?hy21 (by assumption) ?_
  case hy21 => intro W hSW; (try dsimp only at hSW); have q0 := Nat.lt_of_lt_of_le hG0 hSW.1.size; have q1 := Nat.lt_of_lt_of_le hl0 hSW.1.size; have q2 := Nat.lt_of_lt_of_le hl1 hSW.1.size; have z0 := hSW.1.cell f1 hnf; have z1 := hSW.1.cell f2 hnf; have z2 := hSW.1.cell n2 hnv; have z3 := hSW.1.cell n3 hnv; have z4 := hSW.1.cell n5 hnv; have z5 := hSW.1.cell n6 hnv; have z6 := hSW.1.cell n7 hnv; have z8 := hSW.2.1; have z9 := hSW.2.2; go_simp; (try with_reducible rfl)
  try simp only [Act.put, bP, bQ, bT]
  refine rg_take 7 (some 40) (v := ?v22) rfl rfl (by kernel_rfl) (by kernel_rfl) (by kernel_rfl) (fun _ _ _ h => h) (by rfl) ?hy22 (by assumption) ?_
  case hy22 => intro W hSW; (try dsimp only at hSW); have q0 := Nat.lt_of_lt_of_le hG0 hSW.1.size; have q1 := Nat.lt_of_lt_of_le hl0 hSW.1.size; have q2 := Nat.lt_of_lt_of_le hl1 hSW.1.size; have z0 := hSW.1.cell f1 hnf; have z1 := hSW.1.cell f2 hnf; have z2 := hSW.1.cell n2 hnv; have z3 := hSW.1.cell n3 hnv; have z4 := hSW.1.cell n5 hnv; have z5 := hSW.1.cell n6 hnv; have z6 := hSW.1.cell n7 hnv; have z8 := hSW.2.1; have z9 := hSW.2.2; go_simp; (try with_reducible rfl)
  try simp only [Act.put, bP, bQ, bT]
  refine rg_take 8 (some 41) (v := ?v23) rfl rfl (by kernel_rfl) (by kernel_rfl) (by kernel_rfl) (fun _ _ _ h => h) (by rfl) ?hy23 (by assumption) ?_
  case hy23 => intro W hSW; (try dsimp only at hSW); have q0 := Nat.lt_of_lt_of_le hG0 hSW.1.size; have q1 := Nat.lt_of_lt_of_le hl0 hSW.1.size; have q2 := Nat.lt_of_lt_of_le hl1 hSW.1.size; have z0 := hSW.1.cell f1 hnf; have z1 := hSW.1.cell f2 hnf; have z2 := hSW.1.cell n2 hnv; have z3 := hSW.1.cell n3 hnv; have z4 := hSW.1.cell n5 hnv; have z5 := hSW.1.cell n6 hnv; have z6 := hSW.1.cell n7 hnv; have z8 := hSW.2.1; have z9 := hSW.2.2; go_simp; (try with_reducible rfl)
  try simp only [Act.put, bP, bQ, bT]
  refine rg_take 9 (some 42) (v := ?v24) rfl rfl (by kernel_rfl) (by kernel_rfl) (by kernel_rfl) (fun _ _ _ h => h) (by rfl) ?hy24 (by assumption) ?_
  case hy24 => intro W hSW; (try dsimp only at hSW); have q0 := Nat.lt_of_lt_of_le hG0 hSW.1.size; have q1 := Nat.lt_of_lt_of_le hl0 hSW.1.size; have q2 := Nat.lt_of_lt_of_le hl1 hSW.1.size; have z0 := hSW.1.cell f1 hnf; have z1 := hSW.1.cell f2 hnf; have z2 := hSW.1.cell n2 hnv; have z3 := hSW.1.cell n3 hnv; have z4 := hSW.1.cell n5 hnv; have z5 := hSW.1.cell n6 hnv; have z6 := hSW.1.cell n7 hnv; have z8 := hSW.2.1; have z9 := hSW.2.2; go_simp; (try with_reducible rfl)
  try simp only [Act.put, bP, bQ, bT]
  refine rg_take 10 (some 43) (v := ?v25) rfl rfl (by kernel_rfl) (by kernel_rfl) (by kernel_rfl) (fun _ _ _ h => h) (by rfl) ?hy25 (by assumption) ?_
  case hy25 => intro W hSW; (try dsimp only at hSW); have q0 := Nat.lt_of_lt_of_le hG0 hSW.1.size; have q1 := Nat.lt_of_lt_of_le hl0 hSW.1.size; have q2 := Nat.lt_of_lt_of_le hl1 hSW.1.size; have z0 := hSW.1.cell f1 hnf; have z1 := hSW.1.cell f2 hnf; have z2 := hSW.1.cell n2 hnv; have z3 := hSW.1.cell n3 hnv; have z4 := hSW.1.cell n5 hnv; have z5 := hSW.1.cell n6 hnv; have z6 := hSW.1.cell n7 hnv; have z8 := hSW.2.1; have z9 := hSW.2.2; go_simp; (try with_reducible rfl)
  try simp only [Act.put, bP, bQ, bT]
  refine rg_take 11 (some 44) (v := ?v26) rfl rfl (by kernel_rfl) (by kernel_rfl) (by kernel_rfl) (fun _ _ _ h => h) (by rfl) ?hy26 (by assumption) ?_
  case hy26 => intro W hSW; (try dsimp only at hSW); have q0 := Nat.lt_of_lt_of_le hG0 hSW.1.size; have q1 := Nat.lt_of_lt_of_le hl0 hSW.1.size; have q2 := Nat.lt_of_lt_of_le hl1 hSW.1.size; have z0 := hSW.1.cell f1 hnf; have z1 := hSW.1.cell f2 hnf; have z2 := hSW.1.cell n2 hnv; have z3 := hSW.1.cell n3 hnv; have z4 := hSW.1.cell n5 hnv; have z5 := hSW.1.cell n6 hnv; have z6 := hSW.1.cell n7 hnv; have z8 := hSW.2.1; have z9 := hSW.2.2; go_simp; (try with_reducible rfl)
  try simp only [Act.put, bP, bQ, bT]
  refine rg_take 12 (some 45) (v := ?v27) rfl rfl (by kernel_rfl) (by kernel_rfl) (by kernel_rfl) (fun _ _ _ h => h) (by rfl) ?hy27 (by assumption) ?_
  case hy27 => intro W hSW; (try dsimp only at hSW); have q0 := Nat.lt_of_lt_of_le hG0 hSW.1.size; have q1 := Nat.lt_of_lt_of_le hl0 hSW.1.size; have q2 := Nat.lt_of_lt_of_le hl1 hSW.1.size; have z0 := hSW.1.cell f1 hnf; have z1 := hSW.1.cell f2 hnf; have z2 := hSW.1.cell n2 hnv; have z3 := hSW.1.cell n3 hnv; have z4 := hSW.1.cell n5 hnv; have z5 := hSW.1.cell n6 hnv; have z6 := hSW.1.cell n7 hnv; have z8 := hSW.2.1; have z9 := hSW.2.2; go_simp; (try with_reducible rfl)
  try simp only [Act.put, bP, bQ, bT]
  refine rg_take 13 (some 46) (v := ?v28) rfl rfl (by kernel_rfl) (by kernel_rfl) (by kernel_rfl) (fun _ _ _ h => h) (by rfl) ?hy28 (by assumption) ?_
  case hy28 => intro W hSW; (try dsimp only at hSW); have q0 := Nat.lt_of_lt_of_le hG0 hSW.1.size; have q1 := Nat.lt_of_lt_of_le hl0 hSW.1.size; have q2 := Nat.lt_of_lt_of_le hl1 hSW.1.size; have z0 := hSW.1.cell f1 hnf; have z1 := hSW.1.cell f2 hnf; have z2 := hSW.1.cell n2 hnv; have z3 := hSW.1.cell n3 hnv; have z4 := hSW.1.cell n5 hnv; have z5 := hSW.1.cell n6 hnv; have z6 := hSW.1.cell n7 hnv; have z8 := hSW.2.1; have z9 := hSW.2.2; go_simp; (try with_reducible rfl)
  try simp only [Act.put, bP, bQ, bT]
  refine rg_take 14 (some 47) (v := ?v29) rfl rfl (by kernel_rfl) (by kernel_rfl) (by kernel_rfl) (fun _ _ _ h => h) (by rfl) ?hy29 (by assumption) ?_
  case hy29 => intro W hSW; (try dsimp only at hSW); have q0 := Nat.lt_of_lt_of_le hG0 hSW.1.size; have q1 := Nat.lt_of_lt_of_le hl0 hSW.1.size; have q2 := Nat.lt_of_lt_of_le hl1 hSW.1.size; have z0 := hSW.1.cell f1 hnf; have z1 := hSW.1.cell f2 hnf; have z2 := hSW.1.cell n2 hnv; have z3 := hSW.1.cell n3 hnv; have z4 := hSW.1.cell n5 hnv; have z5 := hSW.1.cell n6 hnv; have z6 := hSW.1.cell n7 hnv; have z8 := hSW.2.1; have z9 := hSW.2.2; go_simp; (try with_reducible rfl)
  try simp only [Act.put, bP, bQ, bT]
  refine rg_take 15 (some 48) (v := ?v30) rfl rfl (by kernel_rfl) (by kernel_rfl) (by kernel_rfl) (fun _ _ _ h => h) (by rfl) ?hy30 (by assumption) ?_
  case hy30 => intro W hSW; (try dsimp only at hSW); have q0 := Nat.lt_of_lt_of_le hG0 hSW.1.size; have q1 := Nat.lt_of_lt_of_le hl0 hSW.1.size; have q2 := Nat.lt_of_lt_of_le hl1 hSW.1.size; have z0 := hSW.1.cell f1 hnf; have z1 := hSW.1.cell f2 hnf; have z2 := hSW.1.cell n2 hnv; have z3 := hSW.1.cell n3 hnv; have z4 := hSW.1.cell n5 hnv; have z5 := hSW.1.cell n6 hnv; have z6 := hSW.1.cell n7 hnv; have z8 := hSW.2.1; have z9 := hSW.2.2; go_simp; (try with_reducible rfl)
  try simp only [Act.put, bP, bQ, bT]
  refine rg_take 16 (some 49) (v := ?v31) rfl rfl (by kernel_rfl) (by kernel_rfl) (by kernel_rfl) (fun _ _ _ h => h) (by rfl) ?hy31 (by assumption) ?_
  case hy31 => intro W hSW; (try dsimp only at hSW); have q0 := Nat.lt_of_lt_of_le hG0 hSW.1.size; have q1 := Nat.lt_of_lt_of_le hl0 hSW.1.size; have q2 := Nat.lt_of_lt_of_le hl1 hSW.1.size; have z0 := hSW.1.cell f1 hnf; have z1 := hSW.1.cell f2 hnf; have z2 := hSW.1.cell n2 hnv; have z3 := hSW.1.cell n3 hnv; have z4 := hSW.1.cell n5 hnv; have z5 := hSW.1.cell n6 hnv; have z6 := hSW.1.cell n7 hnv; have z8 := hSW.2.1; have z9 := hSW.2.2; go_simp; (try with_reducible rfl)
  try simp only [Act.put, bP, bQ, bT]
  refine rg_take 17 (some 50) (v := ?v32) rfl rfl (by kernel_rfl) (by kernel_rfl) (by kernel_rfl) (fun _ _ _ h => h) (by rfl) ?hy32 (by assumption) ?_
  case hy32 => intro W hSW; (try dsimp only at hSW); have q0 := Nat.lt_of_lt_of_le hG0 hSW.1.size; have q1 := Nat.lt_of_lt_of_le hl0 hSW.1.size; have q2 := Nat.lt_of_lt_of_le hl1 hSW.1.size; have z0 := hSW.1.cell f1 hnf; have z1 := hSW.1.cell f2 hnf; have z2 := hSW.1.cell n2 hnv; have z3 := hSW.1.cell n3 hnv; have z4 := hSW.1.cell n5 hnv; have z5 := hSW.1.cell n6 hnv; have z6 := hSW.1.cell n7 hnv; have z8 := hSW.2.1; have z9 := hSW.2.2; go_simp; (try with_reducible rfl)
  try simp only [Act.put, bP, bQ, bT]
  refine rg_take 18 (some 51) (v := ?v33) rfl rfl (by kernel_rfl) (by kernel_rfl) (by kernel_rfl) (fun _ _ _ h => h) (by rfl) ?hy33 (by assumption) ?_
  case hy33 => intro W hSW; (try dsimp only at hSW); have q0 := Nat.lt_of_lt_of_le hG0 hSW.1.size; have q1 := Nat.lt_of_lt_of_le hl0 hSW.1.size; have q2 := Nat.lt_of_lt_of_le hl1 hSW.1.size; have z0 := hSW.1.cell f1 hnf; have z1 := hSW.1.cell f2 hnf; have z2 := hSW.1.cell n2 hnv; have z3 := hSW.1.cell n3 hnv; have z4 := hSW.1.cell n5 hnv; have z5 := hSW.1.cell n6 hnv; have z6 := hSW.1.cell n7 hnv; have z8 := hSW.2.1; have z9 := hSW.2.2; go_simp; (try with_reducible rfl)
  try simp only [Act.put, bP, bQ, bT]
  refine rg_one 19 rfl (by kernel_rfl) (by rfl) (fun K hK => ?_)
  go_simp
  refine hK.out _ _ ⟨Bar.of_below hD.out, carry hD.out hG0 c6, carry hD.out hG0 c10⟩ (fun hH1 => ?_)
  clear hK K
  try simp only [Act.put, bP, bQ, bT]
  refine rg_take 20 (some 53) (v := ?v34) rfl rfl (by kernel_rfl) (by kernel_rfl) (by kernel_rfl) (fun _ _ _ h => h) (by rfl) ?hy34 (by assumption) ?_
  case hy34 => intro W hSW; (try dsimp only at hSW); have q0 := Nat.lt_of_lt_of_le hG0 hSW.1.size; have q1 := Nat.lt_of_lt_of_le hl0 hSW.1.size; have q2 := Nat.lt_of_lt_of_le hl1 hSW.1.size; have z0 := hSW.1.cell f1 hnf; have z1 := hSW.1.cell f2 hnf; have z2 := hSW.1.cell n2 hnv; have z3 := hSW.1.cell n3 hnv; have z4 := hSW.1.cell n5 hnv; have z5 := hSW.1.cell n6 hnv; have z6 := hSW.1.cell n7 hnv; have z8 := hSW.2.1; have z9 := hSW.2.2; go_simp; (try with_reducible rfl)
  try simp only [Act.put, bP, bQ, bT]
  refine rg_one 21 rfl (by kernel_rfl) (by rfl) (fun K hK => ?_)
  go_simp
  have hE : Below W0.heap.size W0 (W0.drew.alloc (.cells #[.int .i64 7, .int .i64 0, .int .i64 xnd, .pointer xen, .slice none 0 0, .pointer (some ⟨g2, 0, none⟩), .pointer none] 67)) := by (repeat' (first | (with_reducible first | exact bR _ _ | assumption | apply bS | apply bA | apply bD | apply bN | exact bL _) | (simp; done) | (simp; omega) | omega | exact bL _))
  refine hK.out _ _ ⟨Bar.of_below hE, carry hE hG0 c6, carry hE hG0 c10⟩ (fun hH2 => ?_)
  clear hK K
  try simp only [Act.put, bP, bQ, bT]
  refine rg_take 22 (some 55) (v := ?v35) rfl rfl (by kernel_rfl) (by kernel_rfl) (by kernel_rfl) (fun _ _ _ h => h) (by rfl) ?hy35 (by assumption) ?_
  case hy35 => intro W hSW; (try dsimp only at hSW); have q0 := Nat.lt_of_lt_of_le hG0 hSW.1.size; have q1 := Nat.lt_of_lt_of_le hl0 hSW.1.size; have q2 := Nat.lt_of_lt_of_le hl1 hSW.1.size; have z0 := hSW.1.cell f1 hnf; have z1 := hSW.1.cell f2 hnf; have z2 := hSW.1.cell n2 hnv; have z3 := hSW.1.cell n3 hnv; have z4 := hSW.1.cell n5 hnv; have z5 := hSW.1.cell n6 hnv; have z6 := hSW.1.cell n7 hnv; have z8 := hSW.2.1; have z9 := hSW.2.2; go_simp; (try with_reducible rfl)
  try simp only [Act.put, bP, bQ, bT]
  refine rg_one 23 rfl (by kernel_rfl) (by rfl) (fun K hK => ?_)
  go_simp
  refine (hgv.out (.op m u (.bnd xnd env k)) ⟨6, m, 0, none, some ⟨g, 0, none⟩, some ⟨W0.heap.size, 0, none⟩⟩ _ (belT hb0.out hE) (hres.out _ _ (belT hb0.out hE) (by simp) (TyAt.new _ _ _) (by simp [VCo, go_sem]))).mono ?_
  rintro e8 w8 ⟨hf, hb8, hT8⟩
  have he8 := hf.1
  subst he8
  have hf := Lib.hid hf
  refine hK.out _ _ ⟨(Bar.of_below hE).trans hb8 fun _ _ h => h, hT8.2.1, hT8.2.2.2.2.2.1⟩ (fun hH3 => ?_)
  clear hK K
  try simp only [Act.put, bP, bQ, bT]
  refine wpAnyH_done (by kernel_rfl) ?_ _
  go_wp2_with fail
  all_goals go_end0
  all_goals exact hf.out
 ·rw [he]
  obtain ⟨ct, hct⟩ : ∃ a, c.th = a := ⟨_, rfl⟩
  rw [hct] at hth hn5 hn6
  obtain ⟨z0, z1, z2, z3, z4, z5⟩ := ct
  dsimp only at hn5 hn6
  clear h hs hv hgv hgo hnG he henv
  go_enter Try.func49, Try.ntmps49
  go_upto_region 1 with fail
  obtain ⟨W0, hW0⟩ : ∃ W, (w.alloc (.cells #[.int .i64 xst, .int .i64 xnd, .pointer xen, .int .i64 y0, .int .i64 y1, .int .i64 y2, .pointer y3, .slice none 0 0, .pointer y4, .pointer y5] 91)).alloc (.cells #[.int .i64 nk, .int .i64 na, .int .i64 nb, .int .i64 nc, .int .i64 nn, .int .i64 nx, .int .i64 ny, .int .i64 nz, .int .i64 nw] 37) = W := ⟨_, rfl⟩
  rw [hW0]
  obtain ⟨hb0, hs0, ⟨f1, f2⟩, n2, n3, n4, n5, n6, n7, n8⟩ := bx_ft (x := ⟨xst, xnd, xen, ⟨y0, y1, y2, y3, y4, y5⟩⟩) (n := ⟨nk, na, nb, nc, nn, nx, ny, nz, nw⟩) hW0
  dsimp only at f1 f2 n2 n3 n4 n5 n6 n7 n8
  have hG0 : G < W0.heap.size := Nat.lt_of_lt_of_le hG hb0.size
  have hl0 : w.heap.size < W0.heap.size := by omega
  have hl1 : w.heap.size + 1 < W0.heap.size := by omega
  have hT0 := hth.below hG hb0
  obtain ⟨c5, c6, c7, c8, c9, c10, c11⟩ := hT0
  dsimp only at c5 c6 c7 c8 c9 c10 c11
  have hnf : ¬ Bq G w.heap.size := fun e => by have e : w.heap.size = G := e; omega
  have hnv : ¬ Bq G (w.heap.size + 1) := fun e => by have e : w.heap.size + 1 = G := e; omega
  have hb0 := Lib.hid hb0
  clear hW0 hs0
  go_wp2_with fail
  refine (hend.out _ (belT hb0.out (by (repeat' (first | (with_reducible first | exact bR _ _ | assumption | apply bS | apply bA | apply bD | apply bN | exact bL _) | (simp; done) | (simp; omega) | omega | exact bL _))))).mono ?_
  rintro e2 w2 ⟨hf, -, -⟩
  have he2 := hf.1
  subst he2
  have hf := Lib.hid hf
  go_wp2_with fail
  all_goals go_end0
  all_goals exact hf.out
end Go.Proofs.Ytnjalpcmjkahkaa
