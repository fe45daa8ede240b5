/- The reference's engine for targets: cases. -/
import Derived.Test.YtnjalpcmjkahkaaZt36
set_option maxRecDepth 100000
set_option maxHeartbeats 8000000
namespace Go.Proofs.Ytnjalpcmjkahkaa
open Go.RowKit
set_option linter.unusedVariables false
set_option linter.unusedSimpArgs false
theorem end_st2 {B G : Nat} {tv sv : Value} {c : Ec} {l : List Fx} {w : World} (h : ERc B G tv sv c l w) {ts : List Tg} (k n : Int) (W : World) (hb : Below w.heap.size w W) (hl : l.length ≤ 4096) :
  Calls Try.prog 43 #[.pointer (some ⟨G, 0, none⟩), .int .i64 k, .int .i64 n] W fun e w' => NxP c.w0 ts B G tv (.en k n) e w' ∧ Bar (Bq G) W w' ∧ ThG w' G c.th ∧
   ∀ (t : V7) (W2 : World), Below w'.heap.size w' W2 → Calls Try.prog 44 #[.pointer (some ⟨G, 0, none⟩), t.val] W2 fun e w3 => NxP c.w0 ts B G tv (.en k n) e w3 ∧ Bar (Bq G) W2 w3 ∧ ThG w3 G t :=
 (eend_any W G tv sv c k n (Lib.hid (h.ec.below hb))).mono fun e w' hp => ⟨⟨hp.1, mx_en (h.below hb) hl hp⟩, hp.2.2, hp.2.1.thG, fun t W2 hb2 =>
  (gives_any W2 G tv sv { c with dn := true, k := k, n := n } t (Lib.hid (hp.2.1.below hb2))).mono fun e2 w3 hq => ⟨⟨hq.1, mx_en2 (h.below hb) hl hp hb2 hq⟩, hq.2.2, hq.2.1.thG⟩⟩
theorem cases17_any (B G : Nat) (tv sv : Value) (c : Ec) (l : List Fx) (ts : List Tg) (w : World) (stk : List NF) (env v : NV) (x : Fx) (n : Tg) (h : Hid (ERc B G tv sv c l w)) (hs : Hid (StX ts w stk l)) (henv : Hid (VR w env (.inr x.en))) (hv : Hid (VR w v (.inl c.th))) (hl : l.length ≤ 4096) :
  Calls Try.prog 50 #[.pointer (some ⟨G, 0, none⟩), x.val, n.val7] w (NxP c.w0 ts B G tv (nCase n stk env v)) := by
 have hgo := Lib.hid fun (env : NV) (p : Option Addr) (n : Int) (W : World) (hb : Below w.heap.size w W) (he : VR W env (.inr p)) => goes_st h.out n W hb (hs.out.below hb) he
 have hgv := Lib.hid fun (v : NV) (t : V7) (W : World) (hb : Below w.heap.size w W) (hh : VR W v (.inl t)) => gives_st2 h.out t W hb (hs.out.below hb) hh
 have hend := Lib.hid fun (W : World) (hb : Below w.heap.size w W) => end_st h.out (ts := ts) 5 0 W hb hl
 have hG := h.out.ec.lt
 have hnG : ∀ g, TyAt w g 67 → ¬ Bq G g := fun g hT e => (h.out.vf g (.inl e)).1 hT
 have hth := h.out.ec.thG
 obtain ⟨xst, xnd, xen, ⟨y0, y1, y2, y3, y4, y5⟩⟩ := x
 obtain ⟨nk, na, nb, nc, nn, nx, ny, nz, nw⟩ := n
 unfold Fx.val Tg.val7
 dsimp only at henv ⊢
 rcases vr_comp hv.out with ⟨u, g, tu, rfl, hct, hgw, hgT, hgc, hru⟩ | ⟨m, u, k, g, tu, g2, tk, rfl, hct, ⟨hgw, hgT, hgc⟩, hru, ⟨hgw2, hgT2, hgc2⟩, hrk⟩ | ⟨⟨hn5, hn6⟩, _, he⟩
 ·have hgoal : nCase ⟨nk, na, nb, nc, nn, nx, ny, nz, nw⟩ stk env (.ret u) = .ev stk nb (.cons nx u env) := rfl
  rw [hgoal]
  rw [hct] at hth
  have hE10 : ∀ (W : World) (nd : Int) (p : Option Addr), EcC W G tv sv { c with ev := true, nd := nd, en := p } → W.cell? ⟨G, 10, none⟩ = some (.pointer (some ⟨g, 0, none⟩)) := fun W nd p h => by have := h.c10; dsimp only at this; rw [hct] at this; exact this
  have hE10 := Lib.hid hE10
  have hnb := hnG g hgT
  have hru := Lib.hid fun (W : World) hb => hru.below (W' := W) hb
  have henv := Lib.hid fun (W : World) hb => henv.out.below (W' := W) hb
  clear hgoal h hs hv hct hend hgv hnG
  go_enter Try.func50, Try.ntmps50
  go_upto_region 2 with fail
  obtain ⟨W0, hW0⟩ : ∃ W, (w.alloc (.cells #[.int .i64 xst, .int .i64 xnd, .pointer xen, .int .i64 y0, .int .i64 y1, .int .i64 y2, .pointer y3, .slice none 0 0, .pointer y4, .pointer y5] 91)).alloc (.cells #[.int .i64 nk, .int .i64 na, .int .i64 nb, .int .i64 nc, .int .i64 nn, .int .i64 nx, .int .i64 ny, .int .i64 nz, .int .i64 nw] 37) = W := ⟨_, rfl⟩
  rw [hW0]
  obtain ⟨hb0, hs0, ⟨f1, f2⟩, n2, n3, n4, n5, n6, n7, n8⟩ := bx_ft (x := ⟨xst, xnd, xen, ⟨y0, y1, y2, y3, y4, y5⟩⟩) (n := ⟨nk, na, nb, nc, nn, nx, ny, nz, nw⟩) hW0
  dsimp only at f1 f2 n2 n3 n4 n5 n6 n7 n8
  have hG0 : G < W0.heap.size := Nat.lt_of_lt_of_le hG hb0.size
  have hl0 : w.heap.size < W0.heap.size := by omega
  have hl1 : w.heap.size + 1 < W0.heap.size := by omega
  have hT0 := hth.below hG hb0
  obtain ⟨c5, c6, c7, c8, c9, c10, c11⟩ := hT0
  dsimp only at c5 c6 c7 c8 c9 c10 c11
  have hnf : ¬ Bq G w.heap.size := fun e => by have e : w.heap.size = G := e; omega
  have hnv : ¬ Bq G (w.heap.size + 1) := fun e => by have e : w.heap.size + 1 = G := e; omega
  have hb0 := Lib.hid hb0
  clear hW0 hs0
  obtain ⟨u0, u1, u2, u3, u4, u5, u6⟩ := hgc
  simp only [Nat.zero_add] at u1 u2 u3 u4 u5 u6
  have u0 : W0.cell? _ = _ := carry hb0.out hgw u0
  have u1 : W0.cell? _ = _ := carry hb0.out hgw u1
  have u2 : W0.cell? _ = _ := carry hb0.out hgw u2
  have u3 : W0.cell? _ = _ := carry hb0.out hgw u3
  have u4 : W0.cell? _ = _ := carry hb0.out hgw u4
  have u5 : W0.cell? _ = _ := carry hb0.out hgw u5
  have u6 : W0.cell? _ = _ := carry hb0.out hgw u6
  have hgw0 : g < W0.heap.size := Nat.lt_of_lt_of_le hgw hb0.out.size
  go_upto_region 3 with fail
  refine wp_region_held_drew (S := fun W => Bar (Bq G) W0 W ∧ W.cell? ⟨G, 10, none⟩ = some (.pointer (some ⟨g, 0, none⟩))) (by kernel_rfl) (⟨Bar.of_below ((Below.refl _ _).drew), carry ((Below.refl _ _).drew) hG0 c10⟩) (fun hHeld => ?_)
  refine rg_take 0 (some 17) (v := ?v1) rfl rfl (by kernel_rfl) (by kernel_rfl) (by kernel_rfl) (fun _ _ _ h => h) (by rfl) ?hy1 (by assumption) ?_
  case hy1 => intro W hSW; (try dsimp only at hSW); have q0 := Nat.lt_of_lt_of_le hG0 hSW.1.size; have q1 := Nat.lt_of_lt_of_le hl0 hSW.1.size; have q2 := Nat.lt_of_lt_of_le hl1 hSW.1.size; have z0 := hSW.1.cell f1 hnf; have z1 := hSW.1.cell f2 hnf; have z2 := hSW.1.cell n2 hnv; have z3 := hSW.1.cell n3 hnv; have z4 := hSW.1.cell n5 hnv; have z5 := hSW.1.cell n6 hnv; have z6 := hSW.1.cell n7 hnv; have y0 := hSW.1.cell u0 hnb; have y1 := hSW.1.cell u1 hnb; have y2 := hSW.1.cell u2 hnb; have y3 := hSW.1.cell u3 hnb; have y4 := hSW.1.cell u4 hnb; have y5 := hSW.1.cell u5 hnb; have y6 := hSW.1.cell u6 hnb; have q3 := Nat.lt_of_lt_of_le hgw0 hSW.1.size; have z8 := hSW.2; go_simp; (try with_reducible rfl)
  try simp only [Act.put, bP, bQ, bT]
  refine rg_take 1 (some 18) (v := ?v2) rfl rfl (by kernel_rfl) (by kernel_rfl) (by kernel_rfl) (fun _ _ _ h => h) (by rfl) ?hy2 (by assumption) ?_
  case hy2 => intro W hSW; (try dsimp only at hSW); have q0 := Nat.lt_of_lt_of_le hG0 hSW.1.size; have q1 := Nat.lt_of_lt_of_le hl0 hSW.1.size; have q2 := Nat.lt_of_lt_of_le hl1 hSW.1.size; have z0 := hSW.1.cell f1 hnf; have z1 := hSW.1.cell f2 hnf; have z2 := hSW.1.cell n2 hnv; have z3 := hSW.1.cell n3 hnv; have z4 := hSW.1.cell n5 hnv; have z5 := hSW.1.cell n6 hnv; have z6 := hSW.1.cell n7 hnv; have y0 := hSW.1.cell u0 hnb; have y1 := hSW.1.cell u1 hnb; have y2 := hSW.1.cell u2 hnb; have y3 := hSW.1.cell u3 hnb; have y4 := hSW.1.cell u4 hnb; have y5 := hSW.1.cell u5 hnb; have y6 := hSW.1.cell u6 hnb; have q3 := Nat.lt_of_lt_of_le hgw0 hSW.1.size; have z8 := hSW.2; go_simp; (try with_reducible rfl)
  try simp only [Act.put, bP, bQ, bT]
  refine rg_take 2 (some 19) (v := ?v3) rfl rfl (by kernel_rfl) (by kernel_rfl) (by kernel_rfl) (fun _ _ _ h => h) (by rfl) ?hy3 (by assumption) ?_
  case hy3 => intro W hSW; (try dsimp only at hSW); have q0 := Nat.lt_of_lt_of_le hG0 hSW.1.size; have q1 := Nat.lt_of_lt_of_le hl0 hSW.1.size; have q2 := Nat.lt_of_lt_of_le hl1 hSW.1.size; have z0 := hSW.1.cell f1 hnf; have z1 := hSW.1.cell f2 hnf; have z2 := hSW.1.cell n2 hnv; have z3 := hSW.1.cell n3 hnv; have z4 := hSW.1.cell n5 hnv; have z5 := hSW.1.cell n6 hnv; have z6 := hSW.1.cell n7 hnv; have y0 := hSW.1.cell u0 hnb; have y1 := hSW.1.cell u1 hnb; have y2 := hSW.1.cell u2 hnb; have y3 := hSW.1.cell u3 hnb; have y4 := hSW.1.cell u4 hnb; have y5 := hSW.1.cell u5 hnb; have y6 := hSW.1.cell u6 hnb; have q3 := Nat.lt_of_lt_of_le hgw0 hSW.1.size; have z8 := hSW.2; go_simp; (try with_reducible rfl)
  try simp only [Act.put, bP, bQ, bT]
  refine rg_take 3 (some 20) (v := ?v4) rfl rfl (by kernel_rfl) (by kernel_rfl) (by kernel_rfl) (fun _ _ _ h => h) (by rfl) ?hy4 (by assumption) ?_
  case hy4 => intro W hSW; (try dsimp only at hSW); have q0 := Nat.lt_of_lt_of_le hG0 hSW.1.size; have q1 := Nat.lt_of_lt_of_le hl0 hSW.1.size; have q2 := Nat.lt_of_lt_of_le hl1 hSW.1.size; have z0 := hSW.1.cell f1 hnf; have z1 := hSW.1.cell f2 hnf; have z2 := hSW.1.cell n2 hnv; have z3 := hSW.1.cell n3 hnv; have z4 := hSW.1.cell n5 hnv; have z5 := hSW.1.cell n6 hnv; have z6 := hSW.1.cell n7 hnv; have y0 := hSW.1.cell u0 hnb; have y1 := hSW.1.cell u1 hnb; have y2 := hSW.1.cell u2 hnb; have y3 := hSW.1.cell u3 hnb; have y4 := hSW.1.cell u4 hnb; have y5 := hSW.1.cell u5 hnb; have y6 := hSW.1.cell u6 hnb; have q3 := Nat.lt_of_lt_of_le hgw0 hSW.1.size; have z8 := hSW.2; go_simp; (try with_reducible rfl)
  try simp only [Act.put, bP, bQ, bT]
  refine rg_take 4 (some 21) (v := ?v5) rfl rfl (by kernel_rfl) (by kernel_rfl) (by kernel_rfl) (fun _ _ _ h => h) (by rfl) ?hy5 (by assumption) ?_
  case hy5 => intro W hSW; (try dsimp only at hSW); have q0 := Nat.lt_of_lt_of_le hG0 hSW.1.size; have q1 := Nat.lt_of_lt_of_le hl0 hSW.1.size; have q2 := Nat.lt_of_lt_of_le hl1 hSW.1.size; have z0 := hSW.1.cell f1 hnf; have z1 := hSW.1.cell f2 hnf; have z2 := hSW.1.cell n2 hnv; have z3 := hSW.1.cell n3 hnv; have z4 := hSW.1.cell n5 hnv; have z5 := hSW.1.cell n6 hnv; have z6 := hSW.1.cell n7 hnv; have y0 := hSW.1.cell u0 hnb; have y1 := hSW.1.cell u1 hnb; have y2 := hSW.1.cell u2 hnb; have y3 := hSW.1.cell u3 hnb; have y4 := hSW.1.cell u4 hnb; have y5 := hSW.1.cell u5 hnb; have y6 := hSW.1.cell u6 hnb; have q3 := Nat.lt_of_lt_of_le hgw0 hSW.1.size; have z8 := hSW.2; go_simp; (try with_reducible rfl)
  try simp only [Act.put, bP, bQ, bT]
  refine rg_take 5 (some 22) (v := ?v6) rfl rfl (by kernel_rfl) (by kernel_rfl) (by kernel_rfl) (fun _ _ _ h => h) (by rfl) ?hy6 (by assumption) ?_
  case hy6 => intro W hSW; (try dsimp only at hSW); have q0 := Nat.lt_of_lt_of_le hG0 hSW.1.size; have q1 := Nat.lt_of_lt_of_le hl0 hSW.1.size; have q2 := Nat.lt_of_lt_of_le hl1 hSW.1.size; have z0 := hSW.1.cell f1 hnf; have z1 := hSW.1.cell f2 hnf; have z2 := hSW.1.cell n2 hnv; have z3 := hSW.1.cell n3 hnv; have z4 := hSW.1.cell n5 hnv; have z5 := hSW.1.cell n6 hnv; have z6 := hSW.1.cell n7 hnv; have y0 := hSW.1.cell u0 hnb; have y1 := hSW.1.cell u1 hnb; have y2 := hSW.1.cell u2 hnb; have y3 := hSW.1.cell u3 hnb; have y4 := hSW.1.cell u4 hnb; have y5 := hSW.1.cell u5 hnb; have y6 := hSW.1.cell u6 hnb; have q3 := Nat.lt_of_lt_of_le hgw0 hSW.1.size; have z8 := hSW.2; go_simp; (try with_reducible rfl)
  try simp only [Act.put, bP, bQ, bT]
  refine rg_take 6 (some 23) (v := ?v7) rfl rfl (by kernel_rfl) (by kernel_rfl) (by kernel_rfl) (fun _ _ _ h => h) (by rfl) ?hy7 (by assumption) ?_
  case hy7 => intro W hSW; (try dsimp only at hSW); have q0 := Nat.lt_of_lt_of_le hG0 hSW.1.size; have q1 := Nat.lt_of_lt_of_le hl0 hSW.1.size; have q2 := Nat.lt_of_lt_of_le hl1 hSW.1.size; have z0 := hSW.1.cell f1 hnf; have z1 := hSW.1.cell f2 hnf; have z2 := hSW.1.cell n2 hnv; have z3 := hSW.1.cell n3 hnv; have z4 := hSW.1.cell n5 hnv; have z5 := hSW.1.cell n6 hnv; have z6 := hSW.1.cell n7 hnv; have y0 := hSW.1.cell u0 hnb; have y1 := hSW.1.cell u1 hnb; have y2 := hSW.1.cell u2 hnb; have y3 := hSW.1.cell u3 hnb; have y4 := hSW.1.cell u4 hnb; have y5 := hSW.1.cell u5 hnb; have y6 := hSW.1.cell u6 hnb; have q3 := Nat.lt_of_lt_of_le hgw0 hSW.1.size; have z8 := hSW.2; go_simp; (try with_reducible rfl)
  try simp only [Act.put, bP, bQ, bT]
  refine rg_take 7 (some 24) (v := ?v8) rfl rfl (by kernel_rfl) (by kernel_rfl) (by kernel_rfl) (fun _ _ _ h => h) (by rfl) ?hy8 (by assumption) ?_
  case hy8 => intro W hSW; (try dsimp only at hSW); have q0 := Nat.lt_of_lt_of_le hG0 hSW.1.size; have q1 := Nat.lt_of_lt_of_le hl0 hSW.1.size; have q2 := Nat.lt_of_lt_of_le hl1 hSW.1.size; have z0 := hSW.1.cell f1 hnf; have z1 := hSW.1.cell f2 hnf; have z2 := hSW.1.cell n2 hnv; have z3 := hSW.1.cell n3 hnv; have z4 := hSW.1.cell n5 hnv; have z5 := hSW.1.cell n6 hnv; have z6 := hSW.1.cell n7 hnv; have y0 := hSW.1.cell u0 hnb; have y1 := hSW.1.cell u1 hnb; have y2 := hSW.1.cell u2 hnb; have y3 := hSW.1.cell u3 hnb; have y4 := hSW.1.cell u4 hnb; have y5 := hSW.1.cell u5 hnb; have y6 := hSW.1.cell u6 hnb; have q3 := Nat.lt_of_lt_of_le hgw0 hSW.1.size; have z8 := hSW.2; go_simp; (try with_reducible rfl)
  try simp only [Act.put, bP, bQ, bT]
  refine rg_take 8 (some 25) (v := ?v9) rfl rfl (by kernel_rfl) (by kernel_rfl) (by kernel_rfl) (fun _ _ _ h => h) (by rfl) ?hy9 (by assumption) ?_
  case hy9 => intro W hSW; (try dsimp only at hSW); have q0 := Nat.lt_of_lt_of_le hG0 hSW.1.size; have q1 := Nat.lt_of_lt_of_le hl0 hSW.1.size; have q2 := Nat.lt_of_lt_of_le hl1 hSW.1.size; have z0 := hSW.1.cell f1 hnf; have z1 := hSW.1.cell f2 hnf; have z2 := hSW.1.cell n2 hnv; have z3 := hSW.1.cell n3 hnv; have z4 := hSW.1.cell n5 hnv; have z5 := hSW.1.cell n6 hnv; have z6 := hSW.1.cell n7 hnv; have y0 := hSW.1.cell u0 hnb; have y1 := hSW.1.cell u1 hnb; have y2 := hSW.1.cell u2 hnb; have y3 := hSW.1.cell u3 hnb; have y4 := hSW.1.cell u4 hnb; have y5 := hSW.1.cell u5 hnb; have y6 := hSW.1.cell u6 hnb; have q3 := Nat.lt_of_lt_of_le hgw0 hSW.1.size; have z8 := hSW.2; go_simp; (try with_reducible rfl)
  try simp only [Act.put, bP, bQ, bT]
  refine rg_take 9 (some 26) (v := ?v10) rfl rfl (by kernel_rfl) (by kernel_rfl) (by kernel_rfl) (fun _ _ _ h => h) (by rfl) ?hy10 (by assumption) ?_
  case hy10 => intro W hSW; (try dsimp only at hSW); have q0 := Nat.lt_of_lt_of_le hG0 hSW.1.size; have q1 := Nat.lt_of_lt_of_le hl0 hSW.1.size; have q2 := Nat.lt_of_lt_of_le hl1 hSW.1.size; have z0 := hSW.1.cell f1 hnf; have z1 := hSW.1.cell f2 hnf; have z2 := hSW.1.cell n2 hnv; have z3 := hSW.1.cell n3 hnv; have z4 := hSW.1.cell n5 hnv; have z5 := hSW.1.cell n6 hnv; have z6 := hSW.1.cell n7 hnv; have y0 := hSW.1.cell u0 hnb; have y1 := hSW.1.cell u1 hnb; have y2 := hSW.1.cell u2 hnb; have y3 := hSW.1.cell u3 hnb; have y4 := hSW.1.cell u4 hnb; have y5 := hSW.1.cell u5 hnb; have y6 := hSW.1.cell u6 hnb; have q3 := Nat.lt_of_lt_of_le hgw0 hSW.1.size; have z8 := hSW.2; go_simp; (try with_reducible rfl)
  try simp only [Act.put, bP, bQ, bT]
  refine rg_take 10 (some 27) (v := ?v11) rfl rfl (by kernel_rfl) (by kernel_rfl) (by kernel_rfl) (fun _ _ _ h => h) (by rfl) ?hy11 (by assumption) ?_
  case hy11 => intro W hSW; (try dsimp only at hSW); have q0 := Nat.lt_of_lt_of_le hG0 hSW.1.size; have q1 := Nat.lt_of_lt_of_le hl0 hSW.1.size; have q2 := Nat.lt_of_lt_of_le hl1 hSW.1.size; have z0 := hSW.1.cell f1 hnf; have z1 := hSW.1.cell f2 hnf; have z2 := hSW.1.cell n2 hnv; have z3 := hSW.1.cell n3 hnv; have z4 := hSW.1.cell n5 hnv; have z5 := hSW.1.cell n6 hnv; have z6 := hSW.1.cell n7 hnv; have y0 := hSW.1.cell u0 hnb; have y1 := hSW.1.cell u1 hnb; have y2 := hSW.1.cell u2 hnb; have y3 := hSW.1.cell u3 hnb; have y4 := hSW.1.cell u4 hnb; have y5 := hSW.1.cell u5 hnb; have y6 := hSW.1.cell u6 hnb; have q3 := Nat.lt_of_lt_of_le hgw0 hSW.1.size; have z8 := hSW.2; go_simp; (try with_reducible rfl)
  try simp only [Act.put, bP, bQ, bT]
  refine rg_take 11 (some 28) (v := ?v12) rfl rfl (by kernel_rfl) (by kernel_rfl) (by kernel_rfl) (fun _ _ _ h => h) (by rfl) ?hy12 (by assumption) ?_
  case hy12 => intro W hSW; (try dsimp only at hSW); have q0 := Nat.lt_of_lt_of_le hG0 hSW.1.size; have q1 := Nat.lt_of_lt_of_le hl0 hSW.1.size; have q2 := Nat.lt_of_lt_of_le hl1 hSW.1.size; have z0 := hSW.1.cell f1 hnf; have z1 := hSW.1.cell f2 hnf; have z2 := hSW.1.cell n2 hnv; have z3 := hSW.1.cell n3 hnv; have z4 := hSW.1.cell n5 hnv; have z5 := hSW.1.cell n6 hnv; have z6 := hSW.1.cell n7 hnv; have y0 := hSW.1.cell u0 hnb; have y1 := hSW.1.cell u1 hnb; have y2 := hSW.1.cell u2 hnb; have y3 := hSW.1.cell u3 hnb; have y4 := hSW.1.cell u4 hnb; have y5 := hSW.1.cell u5 hnb; have y6 := hSW.1.cell u6 hnb; have q3 := Nat.lt_of_lt_of_le hgw0 hSW.1.size; have z8 := hSW.2; go_simp; (try with_reducible rfl)
  try simp only [Act.put, bP, bQ, bT]
  refine rg_take 12 (some 29) (v := ?v13) rfl rfl (by kernel_rfl) (by kernel_rfl) (by kernel_rfl) (fun _ _ _ h => h) (by rfl) ?hy13 (by assumption) ?_
  case hy13 => intro W hSW; (try dsimp only at hSW); have q0 := Nat.lt_of_lt_of_le hG0 hSW.1.size; have q1 := Nat.lt_of_lt_of_le hl0 hSW.1.size; have q2 := Nat.lt_of_lt_of_le hl1 hSW.1.size; have z0 := hSW.1.cell f1 hnf; have z1 := hSW.1.cell f2 hnf; have z2 := hSW.1.cell n2 hnv; have z3 := hSW.1.cell n3 hnv; have z4 := hSW.1.cell n5 hnv; have z5 := hSW.1.cell n6 hnv; have z6 := hSW.1.cell n7 hnv; have y0 := hSW.1.cell u0 hnb; have y1 := hSW.1.cell u1 hnb; have y2 := hSW.1.cell u2 hnb; have y3 := hSW.1.cell u3 hnb; have y4 := hSW.1.cell u4 hnb; have y5 := hSW.1.cell u5 hnb; have y6 := hSW.1.cell u6 hnb; have q3 := Nat.lt_of_lt_of_le hgw0 hSW.1.size; have z8 := hSW.2; go_simp; (try with_reducible rfl)
  try simp only [Act.put, bP, bQ, bT]
  refine rg_take 13 (some 30) (v := ?v14) rfl rfl (by kernel_rfl) (by kernel_rfl) (by kernel_rfl) (fun _ _ _ h => h) (by rfl) ?hy14 (by assumption) ?_
  case hy14 => intro W hSW; (try dsimp only at hSW); have q0 := Nat.lt_of_lt_of_le hG0 hSW.1.size; have q1 := Nat.lt_of_lt_of_le hl0 hSW.1.size; have q2 := Nat.lt_of_lt_of_le hl1 hSW.1.size; have z0 := hSW.1.cell f1 hnf; have z1 := hSW.1.cell f2 hnf; have z2 := hSW.1.cell n2 hnv; have z3 := hSW.1.cell n3 hnv; have z4 := hSW.1.cell n5 hnv; have z5 := hSW.1.cell n6 hnv; have z6 := hSW.1.cell n7 hnv; have y0 := hSW.1.cell u0 hnb; have y1 := hSW.1.cell u1 hnb; have y2 := hSW.1.cell u2 hnb; have y3 := hSW.1.cell u3 hnb; have y4 := hSW.1.cell u4 hnb; have y5 := hSW.1.cell u5 hnb; have y6 := hSW.1.cell u6 hnb; have q3 := Nat.lt_of_lt_of_le hgw0 hSW.1.size; have z8 := hSW.2; go_simp; (try with_reducible rfl)
  try simp only [Act.put, bP, bQ, bT]
  refine rg_one 14 rfl (by kernel_rfl) (by rfl) (fun K hK => ?_)
  go_simp
  refine (named_any _ env u xen nx tu (Lib.hid (henv.out _ (belT hb0.out ((Below.refl _ _).drew)))) (Lib.hid (hru.out _ (belT hb0.out ((Below.refl _ _).drew))))).mono ?_
  rintro e9 w9 ⟨g9, rfl, hr9, hb9⟩
  have hc9 : Below W0.heap.size W0 w9 := belT ((Below.refl _ _).drew) hb9
  refine hK.out _ _ ⟨Bar.of_below hc9, carry hc9 hG0 c10⟩ (fun hH9 => ?_)
  clear hK K
  try simp only [Act.put, bP, bQ, bT]
  refine rg_one 15 rfl (by kernel_rfl) (by rfl) (fun K hK => ?_)
  go_simp
  refine (hgo.out (.cons nx u env) (some ⟨g9, 0, none⟩) nb w9 (belT hb0.out hc9) hr9).mono ?_
  rintro e8 w8 ⟨hf, hb8, hE8⟩
  have he8 := hf.1
  subst he8
  have hf := Lib.hid hf
  refine hK.out _ _ ⟨(Bar.of_below hc9).trans hb8 fun _ _ h => h, hE10.out _ _ _ hE8⟩ (fun hH8 => ?_)
  clear hK K
  try simp only [Act.put, bP, bQ, bT]
  refine wpAnyH_done (by kernel_rfl) ?_ _
  go_wp2_with fail
  all_goals go_end0
  all_goals exact hf.out
 ·rw [hct] at hth
  have hnb := hnG g hgT
  have hnb2 := hnG g2 hgT2
  by_cases hmn : m = nn
  ·have hgoal : nCase ⟨nk, na, nb, nc, nn, nx, ny, nz, nw⟩ stk env (.op m u k) = .ev stk nc (.cons nz k (.cons ny u env)) := if_pos hmn
   rw [hgoal]
   have hE10 : ∀ (W : World) (nd : Int) (p : Option Addr), EcC W G tv sv { c with ev := true, nd := nd, en := p } → W.cell? ⟨G, 10, none⟩ = some (.pointer (some ⟨g, 0, none⟩)) ∧ W.cell? ⟨G, 11, none⟩ = some (.pointer (some ⟨g2, 0, none⟩)) := fun W nd p h => by have h1 := h.c10; have h2 := h.c11; dsimp only at h1 h2; rw [hct] at h1 h2; exact ⟨h1, h2⟩
   have hE10 := Lib.hid hE10
   have hru := Lib.hid fun (W : World) hb => hru.below (W' := W) hb
   have hrk := Lib.hid fun (W : World) hb => hrk.below (W' := W) hb
   have henv := Lib.hid fun (W : World) hb => henv.out.below (W' := W) hb
   have hbe : ((m == nn) : Bool) = true := by rw [hmn]; simp
   clear hgoal h hs hv hct hend hgv hnG
   subst hmn
   go_enter Try.func50, Try.ntmps50
   go_upto_region 2 with fail
   obtain ⟨W0, hW0⟩ : ∃ W, (w.alloc (.cells #[.int .i64 xst, .int .i64 xnd, .pointer xen, .int .i64 y0, .int .i64 y1, .int .i64 y2, .pointer y3, .slice none 0 0, .pointer y4, .pointer y5] 91)).alloc (.cells #[.int .i64 nk, .int .i64 na, .int .i64 nb, .int .i64 nc, .int .i64 m, .int .i64 nx, .int .i64 ny, .int .i64 nz, .int .i64 nw] 37) = W := ⟨_, rfl⟩
   rw [hW0]
   obtain ⟨hb0, hs0, ⟨f1, f2⟩, n2, n3, n4, n5, n6, n7, n8⟩ := bx_ft (x := ⟨xst, xnd, xen, ⟨y0, y1, y2, y3, y4, y5⟩⟩) (n := ⟨nk, na, nb, nc, m, nx, ny, nz, nw⟩) hW0
   dsimp only at f1 f2 n2 n3 n4 n5 n6 n7 n8
   have hG0 : G < W0.heap.size := Nat.lt_of_lt_of_le hG hb0.size
   have hl0 : w.heap.size < W0.heap.size := by omega
   have hl1 : w.heap.size + 1 < W0.heap.size := by omega
   have hT0 := hth.below hG hb0
   obtain ⟨c5, c6, c7, c8, c9, c10, c11⟩ := hT0
   dsimp only at c5 c6 c7 c8 c9 c10 c11
   have hnf : ¬ Bq G w.heap.size := fun e => by have e : w.heap.size = G := e; omega
   have hnv : ¬ Bq G (w.heap.size + 1) := fun e => by have e : w.heap.size + 1 = G := e; omega
   have hb0 := Lib.hid hb0
   clear hW0 hs0
   obtain ⟨u0, u1, u2, u3, u4, u5, u6⟩ := hgc
   simp only [Nat.zero_add] at u1 u2 u3 u4 u5 u6
   have u0 : W0.cell? _ = _ := carry hb0.out hgw u0
   have u1 : W0.cell? _ = _ := carry hb0.out hgw u1
   have u2 : W0.cell? _ = _ := carry hb0.out hgw u2
   have u3 : W0.cell? _ = _ := carry hb0.out hgw u3
   have u4 : W0.cell? _ = _ := carry hb0.out hgw u4
   have u5 : W0.cell? _ = _ := carry hb0.out hgw u5
   have u6 : W0.cell? _ = _ := carry hb0.out hgw u6
   have hgw0 : g < W0.heap.size := Nat.lt_of_lt_of_le hgw hb0.out.size
   obtain ⟨v0, v1, v2, v3, v4, v5, v6⟩ := hgc2
   simp only [Nat.zero_add] at v1 v2 v3 v4 v5 v6
   have v0 : W0.cell? _ = _ := carry hb0.out hgw2 v0
   have v1 : W0.cell? _ = _ := carry hb0.out hgw2 v1
   have v2 : W0.cell? _ = _ := carry hb0.out hgw2 v2
   have v3 : W0.cell? _ = _ := carry hb0.out hgw2 v3
   have v4 : W0.cell? _ = _ := carry hb0.out hgw2 v4
   have v5 : W0.cell? _ = _ := carry hb0.out hgw2 v5
   have v6 : W0.cell? _ = _ := carry hb0.out hgw2 v6
   have hgw20 : g2 < W0.heap.size := Nat.lt_of_lt_of_le hgw2 hb0.out.size
   go_upto_region 4 with fail
   go_region
   go_upto_region 5 with fail
   refine wp_region_held_drew (S := fun W => Bar (Bq G) W0 W ∧ W.cell? ⟨G, 10, none⟩ = some (.pointer (some ⟨g, 0, none⟩)) ∧ W.cell? ⟨G, 11, none⟩ = some (.pointer (some ⟨g2, 0, none⟩))) (by kernel_rfl) (⟨Bar.of_below ((Below.refl _ _).drew.drew), carry ((Below.refl _ _).drew.drew) hG0 c10, carry ((Below.refl _ _).drew.drew) hG0 c11⟩) (fun hHeld => ?_)
   refine rg_take 0 (some 50) (v := ?v15) rfl rfl (by kernel_rfl) (by kernel_rfl) (by kernel_rfl) (fun _ _ _ h => h) (by rfl) ?hy15 (by assumption) ?_
   case hy15 => intro W hSW; (try dsimp only at hSW); have q0 := Nat.lt_of_lt_of_le hG0 hSW.1.size; have q1 := Nat.lt_of_lt_of_le hl0 hSW.1.size; have q2 := Nat.lt_of_lt_of_le hl1 hSW.1.size; have z0 := hSW.1.cell f1 hnf; have z1 := hSW.1.cell f2 hnf; have z2 := hSW.1.cell n2 hnv; have z3 := hSW.1.cell n3 hnv; have z4 := hSW.1.cell n5 hnv; have z5 := hSW.1.cell n6 hnv; have z6 := hSW.1.cell n7 hnv; have y0 := hSW.1.cell u0 hnb; have y1 := hSW.1.cell u1 hnb; have y2 := hSW.1.cell u2 hnb; have y3 := hSW.1.cell u3 hnb; have y4 := hSW.1.cell u4 hnb; have y5 := hSW.1.cell u5 hnb; have y6 := hSW.1.cell u6 hnb; have q3 := Nat.lt_of_lt_of_le hgw0 hSW.1.size; have x0 := hSW.1.cell v0 hnb2; have x1 := hSW.1.cell v1 hnb2; have x2 := hSW.1.cell v2 hnb2; have x3 := hSW.1.cell v3 hnb2; have x4 := hSW.1.cell v4 hnb2; have x5 := hSW.1.cell v5 hnb2; have x6 := hSW.1.cell v6 hnb2; have q4 := Nat.lt_of_lt_of_le hgw20 hSW.1.size; have z8 := hSW.2.1; have z9 := hSW.2.2; go_simp; (try with_reducible rfl)
   try simp only [Act.put, bP, bQ, bT]
   refine rg_take 1 (some 51) (v := ?v16) rfl rfl (by kernel_rfl) (by kernel_rfl) (by kernel_rfl) (fun _ _ _ h => h) (by rfl) ?hy16 (by assumption) ?_
   case hy16 => intro W hSW; (try dsimp only at hSW); have q0 := Nat.lt_of_lt_of_le hG0 hSW.1.size; have q1 := Nat.lt_of_lt_of_le hl0 hSW.1.size; have q2 := Nat.lt_of_lt_of_le hl1 hSW.1.size; have z0 := hSW.1.cell f1 hnf; have z1 := hSW.1.cell f2 hnf; have z2 := hSW.1.cell n2 hnv; have z3 := hSW.1.cell n3 hnv; have z4 := hSW.1.cell n5 hnv; have z5 := hSW.1.cell n6 hnv; have z6 := hSW.1.cell n7 hnv; have y0 := hSW.1.cell u0 hnb; have y1 := hSW.1.cell u1 hnb; have y2 := hSW.1.cell u2 hnb; have y3 := hSW.1.cell u3 hnb; have y4 := hSW.1.cell u4 hnb; have y5 := hSW.1.cell u5 hnb; have y6 := hSW.1.cell u6 hnb; have q3 := Nat.lt_of_lt_of_le hgw0 hSW.1.size; have x0 := hSW.1.cell v0 hnb2; have x1 := hSW.1.cell v1 hnb2; have x2 := hSW.1.cell v2 hnb2; have x3 := hSW.1.cell v3 hnb2; have x4 := hSW.1.cell v4 hnb2; have x5 := hSW.1.cell v5 hnb2; have x6 := hSW.1.cell v6 hnb2; have q4 := Nat.lt_of_lt_of_le hgw20 hSW.1.size; have z8 := hSW.2.1; have z9 := hSW.2.2; go_simp; (try with_reducible rfl)
   try simp only [Act.put, bP, bQ, bT]
   refine rg_take 2 (some 52) (v := ?v17) rfl rfl (by kernel_rfl) (by kernel_rfl) (by kernel_rfl) (fun _ _ _ h => h) (by rfl) ?hy17 (by assumption) ?_
   case hy17 => intro W hSW; (try dsimp only at hSW); have q0 := Nat.lt_of_lt_of_le hG0 hSW.1.size; have q1 := Nat.lt_of_lt_of_le hl0 hSW.1.size; have q2 := Nat.lt_of_lt_of_le hl1 hSW.1.size; have z0 := hSW.1.cell f1 hnf; have z1 := hSW.1.cell f2 hnf; have z2 := hSW.1.cell n2 hnv; have z3 := hSW.1.cell n3 hnv; have z4 := hSW.1.cell n5 hnv; have z5 := hSW.1.cell n6 hnv; have z6 := hSW.1.cell n7 hnv; have y0 := hSW.1.cell u0 hnb; have y1 := hSW.1.cell u1 hnb; have y2 := hSW.1.cell u2 hnb; have y3 := hSW.1.cell u3 hnb; have y4 := hSW.1.cell u4 hnb; have y5 := hSW.1.cell u5 hnb; have y6 := hSW.1.cell u6 hnb; have q3 := Nat.lt_of_lt_of_le hgw0 hSW.1.size; have x0 := hSW.1.cell v0 hnb2; have x1 := hSW.1.cell v1 hnb2; have x2 := hSW.1.cell v2 hnb2; have x3 := hSW.1.cell v3 hnb2; have x4 := hSW.1.cell v4 hnb2; have x5 := hSW.1.cell v5 hnb2; have x6 := hSW.1.cell v6 hnb2; have q4 := Nat.lt_of_lt_of_le hgw20 hSW.1.size; have z8 := hSW.2.1; have z9 := hSW.2.2; go_simp; (try with_reducible rfl)
   try simp only [Act.put, bP, bQ, bT]
   refine rg_take 3 (some 53) (v := ?v18) rfl rfl (by kernel_rfl) (by kernel_rfl) (by kernel_rfl) (fun _ _ _ h => h) (by rfl) ?hy18 (by assumption) ?_
   case hy18 => intro W hSW; (try dsimp only at hSW); have q0 := Nat.lt_of_lt_of_le hG0 hSW.1.size; have q1 := Nat.lt_of_lt_of_le hl0 hSW.1.size; have q2 := Nat.lt_of_lt_of_le hl1 hSW.1.size; have z0 := hSW.1.cell f1 hnf; have z1 := hSW.1.cell f2 hnf; have z2 := hSW.1.cell n2 hnv; have z3 := hSW.1.cell n3 hnv; have z4 := hSW.1.cell n5 hnv; have z5 := hSW.1.cell n6 hnv; have z6 := hSW.1.cell n7 hnv; have y0 := hSW.1.cell u0 hnb; have y1 := hSW.1.cell u1 hnb; have y2 := hSW.1.cell u2 hnb; have y3 := hSW.1.cell u3 hnb; have y4 := hSW.1.cell u4 hnb; have y5 := hSW.1.cell u5 hnb; have y6 := hSW.1.cell u6 hnb; have q3 := Nat.lt_of_lt_of_le hgw0 hSW.1.size; have x0 := hSW.1.cell v0 hnb2; have x1 := hSW.1.cell v1 hnb2; have x2 := hSW.1.cell v2 hnb2; have x3 := hSW.1.cell v3 hnb2; have x4 := hSW.1.cell v4 hnb2; have x5 := hSW.1.cell v5 hnb2; have x6 := hSW.1.cell v6 hnb2; have q4 := Nat.lt_of_lt_of_le hgw20 hSW.1.size; have z8 := hSW.2.1; have z9 := hSW.2.2; go_simp; (try with_reducible rfl)
   try simp only [Act.put, bP, bQ, bT]
   refine rg_take 4 (some 54) (v := ?v19) rfl rfl (by kernel_rfl) (by kernel_rfl) (by kernel_rfl) (fun _ _ _ h => h) (by rfl) ?hy19 (by assumption) ?_
   case hy19 => intro W hSW; (try dsimp only at hSW); have q0 := Nat.lt_of_lt_of_le hG0 hSW.1.size; have q1 := Nat.lt_of_lt_of_le hl0 hSW.1.size; have q2 := Nat.lt_of_lt_of_le hl1 hSW.1.size; have z0 := hSW.1.cell f1 hnf; have z1 := hSW.1.cell f2 hnf; have z2 := hSW.1.cell n2 hnv; have z3 := hSW.1.cell n3 hnv; have z4 := hSW.1.cell n5 hnv; have z5 := hSW.1.cell n6 hnv; have z6 := hSW.1.cell n7 hnv; have y0 := hSW.1.cell u0 hnb; have y1 := hSW.1.cell u1 hnb; have y2 := hSW.1.cell u2 hnb; have y3 := hSW.1.cell u3 hnb; have y4 := hSW.1.cell u4 hnb; have y5 := hSW.1.cell u5 hnb; have y6 := hSW.1.cell u6 hnb; have q3 := Nat.lt_of_lt_of_le hgw0 hSW.1.size; have x0 := hSW.1.cell v0 hnb2; have x1 := hSW.1.cell v1 hnb2; have x2 := hSW.1.cell v2 hnb2; have x3 := hSW.1.cell v3 hnb2; have x4 := hSW.1.cell v4 hnb2; have x5 := hSW.1.cell v5 hnb2; have x6 := hSW.1.cell v6 hnb2; have q4 := Nat.lt_of_lt_of_le hgw20 hSW.1.size; have z8 := hSW.2.1; have z9 := hSW.2.2; go_simp; (try with_reducible rfl)
   try simp only [Act.put, bP, bQ, bT]
   refine rg_take 5 (some 55) (v := ?v20) rfl rfl (by kernel_rfl) (by kernel_rfl) (by kernel_rfl) (fun _ _ _ h => h) (by rfl) ?hy20 (by assumption) ?_
   case hy20 => intro W hSW; (try dsimp only at hSW); have q0 := Nat.lt_of_lt_of_le hG0 hSW.1.size; have q1 := Nat.lt_of_lt_of_le hl0 hSW.1.size; have q2 := Nat.lt_of_lt_of_le hl1 hSW.1.size; have z0 := hSW.1.cell f1 hnf; have z1 := hSW.1.cell f2 hnf; have z2 := hSW.1.cell n2 hnv; have z3 := hSW.1.cell n3 hnv; have z4 := hSW.1.cell n5 hnv; have z5 := hSW.1.cell n6 hnv; have z6 := hSW.1.cell n7 hnv; have y0 := hSW.1.cell u0 hnb; have y1 := hSW.1.cell u1 hnb; have y2 := hSW.1.cell u2 hnb; have y3 := hSW.1.cell u3 hnb; have y4 := hSW.1.cell u4 hnb; have y5 := hSW.1.cell u5 hnb; have y6 := hSW.1.cell u6 hnb; have q3 := Nat.lt_of_lt_of_le hgw0 hSW.1.size; have x0 := hSW.1.cell v0 hnb2; have x1 := hSW.1.cell v1 hnb2; have x2 := hSW.1.cell v2 hnb2; have x3 := hSW.1.cell v3 hnb2; have x4 := hSW.1.cell v4 hnb2; have x5 := hSW.1.cell v5 hnb2; have x6 := hSW.1.cell v6 hnb2; have q4 := Nat.lt_of_lt_of_le hgw20 hSW.1.size; have z8 := hSW.2.1; have z9 := hSW.2.2; go_simp; (try with_reducible rfl)
   try simp only [Act.put, bP, bQ, bT]
   refine rg_take 6 (some 56) (v := ?v21) rfl rfl (by kernel_rfl) (by kernel_rfl) (by kernel_rfl) (fun _ _ _ h => h) (by rfl) ?hy21 (by assumption) ?_
   case hy21 => intro W hSW; (try dsimp only at hSW); have q0 := Nat.lt_of_lt_of_le hG0 hSW.1.size; have q1 := Nat.lt_of_lt_of_le hl0 hSW.1.size; have q2 := Nat.lt_of_lt_of_le hl1 hSW.1.size; have z0 := hSW.1.cell f1 hnf; have z1 := hSW.1.cell f2 hnf; have z2 := hSW.1.cell n2 hnv; have z3 := hSW.1.cell n3 hnv; have z4 := hSW.1.cell n5 hnv; have z5 := hSW.1.cell n6 hnv; have z6 := hSW.1.cell n7 hnv; have y0 := hSW.1.cell u0 hnb; have y1 := hSW.1.cell u1 hnb; have y2 := hSW.1.cell u2 hnb; have y3 := hSW.1.cell u3 hnb; have y4 := hSW.1.cell u4 hnb; have y5 := hSW.1.cell u5 hnb; have y6 := hSW.1.cell u6 hnb; have q3 := Nat.lt_of_lt_of_le hgw0 hSW.1.size; have x0 := hSW.1.cell v0 hnb2; have x1 := hSW.1.cell v1 hnb2; have x2 := hSW.1.cell v2 hnb2; have x3 := hSW.1.cell v3 hnb2; have x4 := hSW.1.cell v4 hnb2; have x5 := hSW.1.cell v5 hnb2; have x6 := hSW.1.cell v6 hnb2; have q4 := Nat.lt_of_lt_of_le hgw20 hSW.1.size; have z8 := hSW.2.1; have z9 := hSW.2.2; go_simp; (try with_reducible rfl)
   try simp only [Act.put, bP, bQ, bT]
   refine rg_take 7 (some 57) (v := ?v22) rfl rfl (by kernel_rfl) (by kernel_rfl) (by kernel_rfl) (fun _ _ _ h => h) (by rfl) ?hy22 (by assumption) ?_
   case hy22 => intro W hSW; (try dsimp only at hSW); have q0 := Nat.lt_of_lt_of_le hG0 hSW.1.size; have q1 := Nat.lt_of_lt_of_le hl0 hSW.1.size; have q2 := Nat.lt_of_lt_of_le hl1 hSW.1.size; have z0 := hSW.1.cell f1 hnf; have z1 := hSW.1.cell f2 hnf; have z2 := hSW.1.cell n2 hnv; have z3 := hSW.1.cell n3 hnv; have z4 := hSW.1.cell n5 hnv; have z5 := hSW.1.cell n6 hnv; have z6 := hSW.1.cell n7 hnv; have y0 := hSW.1.cell u0 hnb; have y1 := hSW.1.cell u1 hnb; have y2 := hSW.1.cell u2 hnb; have y3 := hSW.1.cell u3 hnb; have y4 := hSW.1.cell u4 hnb; have y5 := hSW.1.cell u5 hnb; have y6 := hSW.1.cell u6 hnb; have q3 := Nat.lt_of_lt_of_le hgw0 hSW.1.size; have x0 := hSW.1.cell v0 hnb2; have x1 := hSW.1.cell v1 hnb2; have x2 := hSW.1.cell v2 hnb2; have x3 := hSW.1.cell v3 hnb2; have x4 := hSW.1.cell v4 hnb2; have x5 := hSW.1.cell v5 hnb2; have x6 := hSW.1.cell v6 hnb2; have q4 := Nat.lt_of_lt_of_le hgw20 hSW.1.size; have z8 := hSW.2.1; have z9 := hSW.2.2; go_simp; (try with_reducible rfl)
   try simp only [Act.put, bP, bQ, bT]
   refine rg_take 8 (some 58) (v := ?v23) rfl rfl (by kernel_rfl) (by kernel_rfl) (by kernel_rfl) (fun _ _ _ h => h) (by rfl) ?hy23 (by assumption) ?_
   case hy23 => intro W hSW; (try dsimp only at hSW); have q0 := Nat.lt_of_lt_of_le hG0 hSW.1.size; have q1 := Nat.lt_of_lt_of_le hl0 hSW.1.size; have q2 := Nat.lt_of_lt_of_le hl1 hSW.1.size; have z0 := hSW.1.cell f1 hnf; have z1 := hSW.1.cell f2 hnf; have z2 := hSW.1.cell n2 hnv; have z3 := hSW.1.cell n3 hnv; have z4 := hSW.1.cell n5 hnv; have z5 := hSW.1.cell n6 hnv; have z6 := hSW.1.cell n7 hnv; have y0 := hSW.1.cell u0 hnb; have y1 := hSW.1.cell u1 hnb; have y2 := hSW.1.cell u2 hnb; have y3 := hSW.1.cell u3 hnb; have y4 := hSW.1.cell u4 hnb; have y5 := hSW.1.cell u5 hnb; have y6 := hSW.1.cell u6 hnb; have q3 := Nat.lt_of_lt_of_le hgw0 hSW.1.size; have x0 := hSW.1.cell v0 hnb2; have x1 := hSW.1.cell v1 hnb2; have x2 := hSW.1.cell v2 hnb2; have x3 := hSW.1.cell v3 hnb2; have x4 := hSW.1.cell v4 hnb2; have x5 := hSW.1.cell v5 hnb2; have x6 := hSW.1.cell v6 hnb2; have q4 := Nat.lt_of_lt_of_le hgw20 hSW.1.size; have z8 := hSW.2.1; have z9 := hSW.2.2; go_simp; (try with_reducible rfl)
   try simp only [Act.put, bP, bQ, bT]
   refine rg_take 9 (some 59) (v := ?v24) rfl rfl (by kernel_rfl) (by kernel_rfl) (by kernel_rfl) (fun _ _ _ h => h) (by rfl) ?hy24 (by assumption) ?_
   case hy24 => intro W hSW; (try dsimp only at hSW); have q0 := Nat.lt_of_lt_of_le hG0 hSW.1.size; have q1 := Nat.lt_of_lt_of_le hl0 hSW.1.size; have q2 := Nat.lt_of_lt_of_le hl1 hSW.1.size; have z0 := hSW.1.cell f1 hnf; have z1 := hSW.1.cell f2 hnf; have z2 := hSW.1.cell n2 hnv; have z3 := hSW.1.cell n3 hnv; have z4 := hSW.1.cell n5 hnv; have z5 := hSW.1.cell n6 hnv; have z6 := hSW.1.cell n7 hnv; have y0 := hSW.1.cell u0 hnb; have y1 := hSW.1.cell u1 hnb; have y2 := hSW.1.cell u2 hnb; have y3 := hSW.1.cell u3 hnb; have y4 := hSW.1.cell u4 hnb; have y5 := hSW.1.cell u5 hnb; have y6 := hSW.1.cell u6 hnb; have q3 := Nat.lt_of_lt_of_le hgw0 hSW.1.size; have x0 := hSW.1.cell v0 hnb2; have x1 := hSW.1.cell v1 hnb2; have x2 := hSW.1.cell v2 hnb2; have x3 := hSW.1.cell v3 hnb2; have x4 := hSW.1.cell v4 hnb2; have x5 := hSW.1.cell v5 hnb2; have x6 := hSW.1.cell v6 hnb2; have q4 := Nat.lt_of_lt_of_le hgw20 hSW.1.size; have z8 := hSW.2.1; have z9 := hSW.2.2; go_simp; (try with_reducible rfl)
   try simp only [Act.put, bP, bQ, bT]
   refine rg_take 10 (some 60) (v := ?v25) rfl rfl (by kernel_rfl) (by kernel_rfl) (by kernel_rfl) (fun _ _ _ h => h) (by rfl) ?hy25 (by assumption) ?_
   case hy25 => intro W hSW; (try dsimp only at hSW); have q0 := Nat.lt_of_lt_of_le hG0 hSW.1.size; have q1 := Nat.lt_of_lt_of_le hl0 hSW.1.size; have q2 := Nat.lt_of_lt_of_le hl1 hSW.1.size; have z0 := hSW.1.cell f1 hnf; have z1 := hSW.1.cell f2 hnf; have z2 := hSW.1.cell n2 hnv; have z3 := hSW.1.cell n3 hnv; have z4 := hSW.1.cell n5 hnv; have z5 := hSW.1.cell n6 hnv; have z6 := hSW.1.cell n7 hnv; have y0 := hSW.1.cell u0 hnb; have y1 := hSW.1.cell u1 hnb; have y2 := hSW.1.cell u2 hnb; have y3 := hSW.1.cell u3 hnb; have y4 := hSW.1.cell u4 hnb; have y5 := hSW.1.cell u5 hnb; have y6 := hSW.1.cell u6 hnb; have q3 := Nat.lt_of_lt_of_le hgw0 hSW.1.size; have x0 := hSW.1.cell v0 hnb2; have x1 := hSW.1.cell v1 hnb2; have x2 := hSW.1.cell v2 hnb2; have x3 := hSW.1.cell v3 hnb2; have x4 := hSW.1.cell v4 hnb2; have x5 := hSW.1.cell v5 hnb2; have x6 := hSW.1.cell v6 hnb2; have q4 := Nat.lt_of_lt_of_le hgw20 hSW.1.size; have z8 := hSW.2.1; have z9 := hSW.2.2; go_simp; (try with_reducible rfl)
   try simp only [Act.put, bP, bQ, bT]
   refine rg_take 11 (some 61) (v := ?v26) rfl rfl (by kernel_rfl) (by kernel_rfl) (by kernel_rfl) (fun _ _ _ h => h) (by rfl) ?hy26 (by assumption) ?_
   case hy26 => intro W hSW; (try dsimp only at hSW); have q0 := Nat.lt_of_lt_of_le hG0 hSW.1.size; have q1 := Nat.lt_of_lt_of_le hl0 hSW.1.size; have q2 := Nat.lt_of_lt_of_le hl1 hSW.1.size; have z0 := hSW.1.cell f1 hnf; have z1 := hSW.1.cell f2 hnf; have z2 := hSW.1.cell n2 hnv; have z3 := hSW.1.cell n3 hnv; have z4 := hSW.1.cell n5 hnv; have z5 := hSW.1.cell n6 hnv; have z6 := hSW.1.cell n7 hnv; have y0 := hSW.1.cell u0 hnb; have y1 := hSW.1.cell u1 hnb; have y2 := hSW.1.cell u2 hnb; have y3 := hSW.1.cell u3 hnb; have y4 := hSW.1.cell u4 hnb; have y5 := hSW.1.cell u5 hnb; have y6 := hSW.1.cell u6 hnb; have q3 := Nat.lt_of_lt_of_le hgw0 hSW.1.size; have x0 := hSW.1.cell v0 hnb2; have x1 := hSW.1.cell v1 hnb2; have x2 := hSW.1.cell v2 hnb2; have x3 := hSW.1.cell v3 hnb2; have x4 := hSW.1.cell v4 hnb2; have x5 := hSW.1.cell v5 hnb2; have x6 := hSW.1.cell v6 hnb2; have q4 := Nat.lt_of_lt_of_le hgw20 hSW.1.size; have z8 := hSW.2.1; have z9 := hSW.2.2; go_simp; (try with_reducible rfl)
   try simp only [Act.put, bP, bQ, bT]
   refine rg_take 12 (some 62) (v := ?v27) rfl rfl (by kernel_rfl) (by kernel_rfl) (by kernel_rfl) (fun _ _ _ h => h) (by rfl) ?hy27 (by assumption) ?_
   case hy27 => intro W hSW; (try dsimp only at hSW); have q0 := Nat.lt_of_lt_of_le hG0 hSW.1.size; have q1 := Nat.lt_of_lt_of_le hl0 hSW.1.size; have q2 := Nat.lt_of_lt_of_le hl1 hSW.1.size; have z0 := hSW.1.cell f1 hnf; have z1 := hSW.1.cell f2 hnf; have z2 := hSW.1.cell n2 hnv; have z3 := hSW.1.cell n3 hnv; have z4 := hSW.1.cell n5 hnv; have z5 := hSW.1.cell n6 hnv; have z6 := hSW.1.cell n7 hnv; have y0 := hSW.1.cell u0 hnb; have y1 := hSW.1.cell u1 hnb; have y2 := hSW.1.cell u2 hnb; have y3 := hSW.1.cell u3 hnb; have y4 := hSW.1.cell u4 hnb; have y5 := hSW.1.cell u5 hnb; have y6 := hSW.1.cell u6 hnb; have q3 := Nat.lt_of_lt_of_le hgw0 hSW.1.size; have x0 := hSW.1.cell v0 hnb2; have x1 := hSW.1.cell v1 hnb2; have x2 := hSW.1.cell v2 hnb2; have x3 := hSW.1.cell v3 hnb2; have x4 := hSW.1.cell v4 hnb2; have x5 := hSW.1.cell v5 hnb2; have x6 := hSW.1.cell v6 hnb2; have q4 := Nat.lt_of_lt_of_le hgw20 hSW.1.size; have z8 := hSW.2.1; have z9 := hSW.2.2; go_simp; (try with_reducible rfl)
   try simp only [Act.put, bP, bQ, bT]
   refine rg_take 13 (some 63) (v := ?v28) rfl rfl (by kernel_rfl) (by kernel_rfl) (by kernel_rfl) (fun _ _ _ h => h) (by rfl) ?hy28 (by assumption) ?_
   case hy28 => intro W hSW; (try dsimp only at hSW); have q0 := Nat.lt_of_lt_of_le hG0 hSW.1.size; have q1 := Nat.lt_of_lt_of_le hl0 hSW.1.size; have q2 := Nat.lt_of_lt_of_le hl1 hSW.1.size; have z0 := hSW.1.cell f1 hnf; have z1 := hSW.1.cell f2 hnf; have z2 := hSW.1.cell n2 hnv; have z3 := hSW.1.cell n3 hnv; have z4 := hSW.1.cell n5 hnv; have z5 := hSW.1.cell n6 hnv; have z6 := hSW.1.cell n7 hnv; have y0 := hSW.1.cell u0 hnb; have y1 := hSW.1.cell u1 hnb; have y2 := hSW.1.cell u2 hnb; have y3 := hSW.1.cell u3 hnb; have y4 := hSW.1.cell u4 hnb; have y5 := hSW.1.cell u5 hnb; have y6 := hSW.1.cell u6 hnb; have q3 := Nat.lt_of_lt_of_le hgw0 hSW.1.size; have x0 := hSW.1.cell v0 hnb2; have x1 := hSW.1.cell v1 hnb2; have x2 := hSW.1.cell v2 hnb2; have x3 := hSW.1.cell v3 hnb2; have x4 := hSW.1.cell v4 hnb2; have x5 := hSW.1.cell v5 hnb2; have x6 := hSW.1.cell v6 hnb2; have q4 := Nat.lt_of_lt_of_le hgw20 hSW.1.size; have z8 := hSW.2.1; have z9 := hSW.2.2; go_simp; (try with_reducible rfl)
   try simp only [Act.put, bP, bQ, bT]
   refine rg_take 15 (some 65) (v := ?v29) rfl rfl (by kernel_rfl) (by kernel_rfl) (by kernel_rfl) (fun _ _ _ h => h) (by rfl) ?hy29 (by assumption) ?_
   case hy29 => intro W hSW; (try dsimp only at hSW); have q0 := Nat.lt_of_lt_of_le hG0 hSW.1.size; have q1 := Nat.lt_of_lt_of_le hl0 hSW.1.size; have q2 := Nat.lt_of_lt_of_le hl1 hSW.1.size; have z0 := hSW.1.cell f1 hnf; have z1 := hSW.1.cell f2 hnf; have z2 := hSW.1.cell n2 hnv; have z3 := hSW.1.cell n3 hnv; have z4 := hSW.1.cell n5 hnv; have z5 := hSW.1.cell n6 hnv; have z6 := hSW.1.cell n7 hnv; have y0 := hSW.1.cell u0 hnb; have y1 := hSW.1.cell u1 hnb; have y2 := hSW.1.cell u2 hnb; have y3 := hSW.1.cell u3 hnb; have y4 := hSW.1.cell u4 hnb; have y5 := hSW.1.cell u5 hnb; have y6 := hSW.1.cell u6 hnb; have q3 := Nat.lt_of_lt_of_le hgw0 hSW.1.size; have x0 := hSW.1.cell v0 hnb2; have x1 := hSW.1.cell v1 hnb2; have x2 := hSW.1.cell v2 hnb2; have x3 := hSW.1.cell v3 hnb2; have x4 := hSW.1.cell v4 hnb2; have x5 := hSW.1.cell v5 hnb2; have x6 := hSW.1.cell v6 hnb2; have q4 := Nat.lt_of_lt_of_le hgw20 hSW.1.size; have z8 := hSW.2.1; have z9 := hSW.2.2; go_simp; (try with_reducible rfl)
   try simp only [Act.put, bP, bQ, bT]
   refine rg_take 16 (some 66) (v := ?v30) rfl rfl (by kernel_rfl) (by kernel_rfl) (by kernel_rfl) (fun _ _ _ h => h) (by rfl) ?hy30 (by assumption) ?_
   case hy30 => intro W hSW; (try dsimp only at hSW); have q0 := Nat.lt_of_lt_of_le hG0 hSW.1.size; have q1 := Nat.lt_of_lt_of_le hl0 hSW.1.size; have q2 := Nat.lt_of_lt_of_le hl1 hSW.1.size; have z0 := hSW.1.cell f1 hnf; have z1 := hSW.1.cell f2 hnf; have z2 := hSW.1.cell n2 hnv; have z3 := hSW.1.cell n3 hnv; have z4 := hSW.1.cell n5 hnv; have z5 := hSW.1.cell n6 hnv; have z6 := hSW.1.cell n7 hnv; have y0 := hSW.1.cell u0 hnb; have y1 := hSW.1.cell u1 hnb; have y2 := hSW.1.cell u2 hnb; have y3 := hSW.1.cell u3 hnb; have y4 := hSW.1.cell u4 hnb; have y5 := hSW.1.cell u5 hnb; have y6 := hSW.1.cell u6 hnb; have q3 := Nat.lt_of_lt_of_le hgw0 hSW.1.size; have x0 := hSW.1.cell v0 hnb2; have x1 := hSW.1.cell v1 hnb2; have x2 := hSW.1.cell v2 hnb2; have x3 := hSW.1.cell v3 hnb2; have x4 := hSW.1.cell v4 hnb2; have x5 := hSW.1.cell v5 hnb2; have x6 := hSW.1.cell v6 hnb2; have q4 := Nat.lt_of_lt_of_le hgw20 hSW.1.size; have z8 := hSW.2.1; have z9 := hSW.2.2; go_simp; (try with_reducible rfl)
   try simp only [Act.put, bP, bQ, bT]
   refine rg_take 17 (some 67) (v := ?v31) rfl rfl (by kernel_rfl) (by kernel_rfl) (by kernel_rfl) (fun _ _ _ h => h) (by rfl) ?hy31 (by assumption) ?_
   case hy31 => intro W hSW; (try dsimp only at hSW); have q0 := Nat.lt_of_lt_of_le hG0 hSW.1.size; have q1 := Nat.lt_of_lt_of_le hl0 hSW.1.size; have q2 := Nat.lt_of_lt_of_le hl1 hSW.1.size; have z0 := hSW.1.cell f1 hnf; have z1 := hSW.1.cell f2 hnf; have z2 := hSW.1.cell n2 hnv; have z3 := hSW.1.cell n3 hnv; have z4 := hSW.1.cell n5 hnv; have z5 := hSW.1.cell n6 hnv; have z6 := hSW.1.cell n7 hnv; have y0 := hSW.1.cell u0 hnb; have y1 := hSW.1.cell u1 hnb; have y2 := hSW.1.cell u2 hnb; have y3 := hSW.1.cell u3 hnb; have y4 := hSW.1.cell u4 hnb; have y5 := hSW.1.cell u5 hnb; have y6 := hSW.1.cell u6 hnb; have q3 := Nat.lt_of_lt_of_le hgw0 hSW.1.size; have x0 := hSW.1.cell v0 hnb2; have x1 := hSW.1.cell v1 hnb2; have x2 := hSW.1.cell v2 hnb2; have x3 := hSW.1.cell v3 hnb2; have x4 := hSW.1.cell v4 hnb2; have x5 := hSW.1.cell v5 hnb2; have x6 := hSW.1.cell v6 hnb2; have q4 := Nat.lt_of_lt_of_le hgw20 hSW.1.size; have z8 := hSW.2.1; have z9 := hSW.2.2; go_simp; (try with_reducible rfl)
   try simp only [Act.put, bP, bQ, bT]
   refine rg_take 18 (some 68) (v := ?v32) rfl rfl (by kernel_rfl) (by kernel_rfl) (by kernel_rfl) (fun _ _ _ h => h) (by rfl) ?hy32 (by assumption) ?_
   case hy32 => intro W hSW; (try dsimp only at hSW); have q0 := Nat.lt_of_lt_of_le hG0 hSW.1.size; have q1 := Nat.lt_of_lt_of_le hl0 hSW.1.size; have q2 := Nat.lt_of_lt_of_le hl1 hSW.1.size; have z0 := hSW.1.cell f1 hnf; have z1 := hSW.1.cell f2 hnf; have z2 := hSW.1.cell n2 hnv; have z3 := hSW.1.cell n3 hnv; have z4 := hSW.1.cell n5 hnv; have z5 := hSW.1.cell n6 hnv; have z6 := hSW.1.cell n7 hnv; have y0 := hSW.1.cell u0 hnb; have y1 := hSW.1.cell u1 hnb; have y2 := hSW.1.cell u2 hnb; have y3 := hSW.1.cell u3 hnb; have y4 := hSW.1.cell u4 hnb; have y5 := hSW.1.cell u5 hnb; have y6 := hSW.1.cell u6 hnb; have q3 := Nat.lt_of_lt_of_le hgw0 hSW.1.size; have x0 := hSW.1.cell v0 hnb2; have x1 := hSW.1.cell v1 hnb2; have x2 := hSW.1.cell v2 hnb2; have x3 := hSW.1.cell v3 hnb2; have x4 := hSW.1.cell v4 hnb2; have x5 := hSW.1.cell v5 hnb2; have x6 := hSW.1.cell v6 hnb2; have q4 := Nat.lt_of_lt_of_le hgw20 hSW.1.size; have z8 := hSW.2.1; have z9 := hSW.2.2; go_simp; (try with_reducible rfl)
   try simp only [Act.put, bP, bQ, bT]
   refine rg_take 19 (some 69) (v := ?v33) rfl rfl (by kernel_rfl) (by kernel_rfl) (by kernel_rfl) (fun _ _ _ h => h) (by rfl) ?hy33 (by assumption) ?_
   case hy33 => intro W hSW; (try dsimp only at hSW); have q0 := Nat.lt_of_lt_of_le hG0 hSW.1.size; have q1 := Nat.lt_of_lt_of_le hl0 hSW.1.size; have q2 := Nat.lt_of_lt_of_le hl1 hSW.1.size; have z0 := hSW.1.cell f1 hnf; have z1 := hSW.1.cell f2 hnf; have z2 := hSW.1.cell n2 hnv; have z3 := hSW.1.cell n3 hnv; have z4 := hSW.1.cell n5 hnv; have z5 := hSW.1.cell n6 hnv; have z6 := hSW.1.cell n7 hnv; have y0 := hSW.1.cell u0 hnb; have y1 := hSW.1.cell u1 hnb; have y2 := hSW.1.cell u2 hnb; have y3 := hSW.1.cell u3 hnb; have y4 := hSW.1.cell u4 hnb; have y5 := hSW.1.cell u5 hnb; have y6 := hSW.1.cell u6 hnb; have q3 := Nat.lt_of_lt_of_le hgw0 hSW.1.size; have x0 := hSW.1.cell v0 hnb2; have x1 := hSW.1.cell v1 hnb2; have x2 := hSW.1.cell v2 hnb2; have x3 := hSW.1.cell v3 hnb2; have x4 := hSW.1.cell v4 hnb2; have x5 := hSW.1.cell v5 hnb2; have x6 := hSW.1.cell v6 hnb2; have q4 := Nat.lt_of_lt_of_le hgw20 hSW.1.size; have z8 := hSW.2.1; have z9 := hSW.2.2; go_simp; (try with_reducible rfl)
   try simp only [Act.put, bP, bQ, bT]
   refine rg_take 20 (some 70) (v := ?v34) rfl rfl (by kernel_rfl) (by kernel_rfl) (by kernel_rfl) (fun _ _ _ h => h) (by rfl) ?hy34 (by assumption) ?_
   case hy34 => intro W hSW; (try dsimp only at hSW); have q0 := Nat.lt_of_lt_of_le hG0 hSW.1.size; have q1 := Nat.lt_of_lt_of_le hl0 hSW.1.size; have q2 := Nat.lt_of_lt_of_le hl1 hSW.1.size; have z0 := hSW.1.cell f1 hnf; have z1 := hSW.1.cell f2 hnf; have z2 := hSW.1.cell n2 hnv; have z3 := hSW.1.cell n3 hnv; have z4 := hSW.1.cell n5 hnv; have z5 := hSW.1.cell n6 hnv; have z6 := hSW.1.cell n7 hnv; have y0 := hSW.1.cell u0 hnb; have y1 := hSW.1.cell u1 hnb; have y2 := hSW.1.cell u2 hnb; have y3 := hSW.1.cell u3 hnb; have y4 := hSW.1.cell u4 hnb; have y5 := hSW.1.cell u5 hnb; have y6 := hSW.1.cell u6 hnb; have q3 := Nat.lt_of_lt_of_le hgw0 hSW.1.size; have x0 := hSW.1.cell v0 hnb2; have x1 := hSW.1.cell v1 hnb2; have x2 := hSW.1.cell v2 hnb2; have x3 := hSW.1.cell v3 hnb2; have x4 := hSW.1.cell v4 hnb2; have x5 := hSW.1.cell v5 hnb2; have x6 := hSW.1.cell v6 hnb2; have q4 := Nat.lt_of_lt_of_le hgw20 hSW.1.size; have z8 := hSW.2.1; have z9 := hSW.2.2; go_simp; (try with_reducible rfl)
   try simp only [Act.put, bP, bQ, bT]
   refine rg_take 21 (some 71) (v := ?v35) rfl rfl (by kernel_rfl) (by kernel_rfl) (by kernel_rfl) (fun _ _ _ h => h) (by rfl) ?hy35 (by assumption) ?_
   case hy35 => intro W hSW; (try dsimp only at hSW); have q0 := Nat.lt_of_lt_of_le hG0 hSW.1.size; have q1 := Nat.lt_of_lt_of_le hl0 hSW.1.size; have q2 := Nat.lt_of_lt_of_le hl1 hSW.1.size; have z0 := hSW.1.cell f1 hnf; have z1 := hSW.1.cell f2 hnf; have z2 := hSW.1.cell n2 hnv; have z3 := hSW.1.cell n3 hnv; have z4 := hSW.1.cell n5 hnv; have z5 := hSW.1.cell n6 hnv; have z6 := hSW.1.cell n7 hnv; have y0 := hSW.1.cell u0 hnb; have y1 := hSW.1.cell u1 hnb; have y2 := hSW.1.cell u2 hnb; have y3 := hSW.1.cell u3 hnb; have y4 := hSW.1.cell u4 hnb; have y5 := hSW.1.cell u5 hnb; have y6 := hSW.1.cell u6 hnb; have q3 := Nat.lt_of_lt_of_le hgw0 hSW.1.size; have x0 := hSW.1.cell v0 hnb2; have x1 := hSW.1.cell v1 hnb2; have x2 := hSW.1.cell v2 hnb2; have x3 := hSW.1.cell v3 hnb2; have x4 := hSW.1.cell v4 hnb2; have x5 := hSW.1.cell v5 hnb2; have x6 := hSW.1.cell v6 hnb2; have q4 := Nat.lt_of_lt_of_le hgw20 hSW.1.size; have z8 := hSW.2.1; have z9 := hSW.2.2; go_simp; (try with_reducible rfl)
   try simp only [Act.put, bP, bQ, bT]
   refine rg_take 22 (some 72) (v := ?v36) rfl rfl (by kernel_rfl) (by kernel_rfl) (by kernel_rfl) (fun _ _ _ h => h) (by rfl) ?hy36 (by assumption) ?_
   case hy36 => intro W hSW; (try dsimp only at hSW); have q0 := Nat.lt_of_lt_of_le hG0 hSW.1.size; have q1 := Nat.lt_of_lt_of_le hl0 hSW.1.size; have q2 := Nat.lt_of_lt_of_le hl1 hSW.1.size; have z0 := hSW.1.cell f1 hnf; have z1 := hSW.1.cell f2 hnf; have z2 := hSW.1.cell n2 hnv; have z3 := hSW.1.cell n3 hnv; have z4 := hSW.1.cell n5 hnv; have z5 := hSW.1.cell n6 hnv; have z6 := hSW.1.cell n7 hnv; have y0 := hSW.1.cell u0 hnb; have y1 := hSW.1.cell u1 hnb; have y2 := hSW.1.cell u2 hnb; have y3 := hSW.1.cell u3 hnb; have y4 := hSW.1.cell u4 hnb; have y5 := hSW.1.cell u5 hnb; have y6 := hSW.1.cell u6 hnb; have q3 := Nat.lt_of_lt_of_le hgw0 hSW.1.size; have x0 := hSW.1.cell v0 hnb2; have x1 := hSW.1.cell v1 hnb2; have x2 := hSW.1.cell v2 hnb2; have x3 := hSW.1.cell v3 hnb2; have x4 := hSW.1.cell v4 hnb2; have x5 := hSW.1.cell v5 hnb2; have x6 := hSW.1.cell v6 hnb2; have q4 := Nat.lt_of_lt_of_le hgw20 hSW.1.size; have z8 := hSW.2.1; have z9 := hSW.2.2; go_simp; (try with_reducible rfl)
   try simp only [Act.put, bP, bQ, bT]
   refine rg_take 23 (some 73) (v := ?v37) rfl rfl (by kernel_rfl) (by kernel_rfl) (by kernel_rfl) (fun _ _ _ h => h) (by rfl) ?hy37 (by assumption) ?_
   case hy37 => intro W hSW; (try dsimp only at hSW); have q0 := Nat.lt_of_lt_of_le hG0 hSW.1.size; have q1 := Nat.lt_of_lt_of_le hl0 hSW.1.size; have q2 := Nat.lt_of_lt_of_le hl1 hSW.1.size; have z0 := hSW.1.cell f1 hnf; have z1 := hSW.1.cell f2 hnf; have z2 := hSW.1.cell n2 hnv; have z3 := hSW.1.cell n3 hnv; have z4 := hSW.1.cell n5 hnv; have z5 := hSW.1.cell n6 hnv; have z6 := hSW.1.cell n7 hnv; have y0 := hSW.1.cell u0 hnb; have y1 := hSW.1.cell u1 hnb; have y2 := hSW.1.cell u2 hnb; have y3 := hSW.1.cell u3 hnb; have y4 := hSW.1.cell u4 hnb; have y5 := hSW.1.cell u5 hnb; have y6 := hSW.1.cell u6 hnb; have q3 := Nat.lt_of_lt_of_le hgw0 hSW.1.size; have x0 := hSW.1.cell v0 hnb2; have x1 := hSW.1.cell v1 hnb2; have x2 := hSW.1.cell v2 hnb2; have x3 := hSW.1.cell v3 hnb2; have x4 := hSW.1.cell v4 hnb2; have x5 := hSW.1.cell v5 hnb2; have x6 := hSW.1.cell v6 hnb2; have q4 := Nat.lt_of_lt_of_le hgw20 hSW.1.size; have z8 := hSW.2.1; have z9 := hSW.2.2; go_simp; (try with_reducible rfl)
   try simp only [Act.put, bP, bQ, bT]
   refine rg_one 14 rfl (by kernel_rfl) (by rfl) (fun K hK => ?_)
   go_simp
   refine (named_any _ env u xen ny tu (Lib.hid (henv.out _ (belT hb0.out ((Below.refl _ _).drew.drew)))) (Lib.hid (hru.out _ (belT hb0.out ((Below.refl _ _).drew.drew))))).mono ?_
   rintro e9 w9 ⟨g9, rfl, hr9, hb9⟩
   have hc9 : Below W0.heap.size W0 w9 := belT ((Below.refl _ _).drew.drew) hb9
   refine hK.out _ _ ⟨Bar.of_below hc9, carry hc9 hG0 c10, carry hc9 hG0 c11⟩ (fun hH9 => ?_)
   clear hK K
   try simp only [Act.put, bP, bQ, bT]
   refine rg_one 24 rfl (by kernel_rfl) (by rfl) (fun K hK => ?_)
   go_simp
   refine (named_any _ (.cons ny u env) k (some ⟨g9, 0, none⟩) nz tk (Lib.hid hr9) (Lib.hid (hrk.out _ (belT hb0.out hc9)))).mono ?_
   rintro e7 w7 ⟨g7, rfl, hr7, hb7⟩
   have hc7 : Below W0.heap.size W0 w7 := belT (hc9) hb7
   refine hK.out _ _ ⟨Bar.of_below hc7, carry hc7 hG0 c10, carry hc7 hG0 c11⟩ (fun hH7 => ?_)
   clear hK K
   try simp only [Act.put, bP, bQ, bT]
   refine rg_one 25 rfl (by kernel_rfl) (by rfl) (fun K hK => ?_)
   go_simp
   refine (hgo.out (.cons nz k (.cons ny u env)) (some ⟨g7, 0, none⟩) nc w7 (belT hb0.out hc7) hr7).mono ?_
   rintro e8 w8 ⟨hf, hb8, hE8⟩
   have he8 := hf.1
   subst he8
   have hf := Lib.hid hf
   refine hK.out _ _ ⟨(Bar.of_below hc7).trans hb8 fun _ _ h => h, (hE10.out _ _ _ hE8).1, (hE10.out _ _ _ hE8).2⟩ (fun hH8 => ?_)
   clear hK K
   try simp only [Act.put, bP, bQ, bT]
   refine wpAnyH_done (by kernel_rfl) ?_ _
   go_wp2_with fail
   all_goals go_end0
   all_goals exact hf.out
  ·have hbe : ((m == nn) : Bool) = false := by simpa using hmn
   have hno : env.find nw = none → nCase ⟨nk, na, nb, nc, nn, nx, ny, nz, nw⟩ stk env (.op m u k) = .en 5 0 := fun e => (if_neg hmn).trans (by show (match env.find nw with | none => NM.en 5 0 | some who => _) = _; rw [e])
   have hat : ∀ who, env.find nw = some who → nCase ⟨nk, na, nb, nc, nn, nx, ny, nz, nw⟩ stk env (.op m u k) = .gv stk (.op m u (.fwd k who)) := fun who e => (if_neg hmn).trans (by show (match env.find nw with | none => NM.en 5 0 | some who => _) = _; rw [e])
   obtain ⟨R, hR⟩ : ∃ R, nCase ⟨nk, na, nb, nc, nn, nx, ny, nz, nw⟩ stk env (.op m u k) = R := ⟨_, rfl⟩
   rw [hR] at hno hat ⊢
   have hno := Lib.hid hno; have hat := Lib.hid hat
   have hfind := Lib.hid fun (W : World) (hb : Below w.heap.size w W) => find17_any W env xen nw (Lib.hid (henv.out.below hb))
   have hend := Lib.hid fun (W : World) (hb : Below w.heap.size w W) => end_st2 h.out (ts := ts) 5 0 W hb hl
   have hres : ∀ (W : World) (b d : Nat) (who : NV) (tw : V7), Below w.heap.size w W → (d < W.heap.size ∧ TyAt W d 67 ∧ VCo W d 0 tw) → VR W who (.inl tw) → (b < W.heap.size ∧ TyAt W b 67 ∧ VCo W b 0 ⟨8, 0, 0, none, some ⟨d, 0, none⟩, some ⟨g2, 0, none⟩⟩) →
     VR W (.op m u (.fwd k who)) (.inl ⟨6, m, 0, none, some ⟨g, 0, none⟩, some ⟨b, 0, none⟩⟩) := fun W b d who tw hb h1 h2 h3 =>
    ⟨some ⟨g, 0, none⟩, tu, some ⟨b, 0, none⟩, ⟨8, 0, 0, none, some ⟨d, 0, none⟩, some ⟨g2, 0, none⟩⟩, rfl, VBx.below ⟨g, rfl, hgw, hgT, hgc⟩ hb, hru.below hb, ⟨b, rfl, h3⟩, ⟨some ⟨d, 0, none⟩, tw, some ⟨g2, 0, none⟩, tk, rfl, ⟨d, rfl, h1⟩, h2, VBx.below ⟨g2, rfl, hgw2, hgT2, hgc2⟩ hb, hrk.below hb⟩⟩
   have hres := Lib.hid hres
   rw [hct] at hend
   clear h hs hv hgo hnG hgc hgc2 hgT hgT2 hru hrk henv hR hct hnb hnb2
   go_enter Try.func50, Try.ntmps50
   go_upto_region 2 with fail
   obtain ⟨W0, hW0⟩ : ∃ W, (w.alloc (.cells #[.int .i64 xst, .int .i64 xnd, .pointer xen, .int .i64 y0, .int .i64 y1, .int .i64 y2, .pointer y3, .slice none 0 0, .pointer y4, .pointer y5] 91)).alloc (.cells #[.int .i64 nk, .int .i64 na, .int .i64 nb, .int .i64 nc, .int .i64 nn, .int .i64 nx, .int .i64 ny, .int .i64 nz, .int .i64 nw] 37) = W := ⟨_, rfl⟩
   rw [hW0]
   obtain ⟨hb0, hs0, ⟨f1, f2⟩, n2, n3, n4, n5, n6, n7, n8⟩ := bx_ft (x := ⟨xst, xnd, xen, ⟨y0, y1, y2, y3, y4, y5⟩⟩) (n := ⟨nk, na, nb, nc, nn, nx, ny, nz, nw⟩) hW0
   dsimp only at f1 f2 n2 n3 n4 n5 n6 n7 n8
   have hG0 : G < W0.heap.size := Nat.lt_of_lt_of_le hG hb0.size
   have hl0 : w.heap.size < W0.heap.size := by omega
   have hl1 : w.heap.size + 1 < W0.heap.size := by omega
   have hT0 := hth.below hG hb0
   obtain ⟨c5, c6, c7, c8, c9, c10, c11⟩ := hT0
   dsimp only at c5 c6 c7 c8 c9 c10 c11
   have hnf : ¬ Bq G w.heap.size := fun e => by have e : w.heap.size = G := e; omega
   have hnv : ¬ Bq G (w.heap.size + 1) := fun e => by have e : w.heap.size + 1 = G := e; omega
   have hb0 := Lib.hid hb0
   clear hW0 hs0
   go_upto_region 4 with fail
   go_region
   go_upto_region 7 with fail
   go_wp2_with fail
   refine (hfind.out _ (belT hb0.out (by (repeat' (first | (with_reducible first | exact bR _ _ | assumption | apply bS | apply bA | apply bD | apply bN | exact bL _) | (simp; done) | (simp; omega) | omega | exact bL _))))).mono ?_
   rintro e1 w1 ⟨t, ok, rfl, hb1, hX⟩
   obtain ⟨tk', tn, td, te, ta, tb⟩ := t
   have hB1 : Below W0.heap.size W0 w1 := belT (by (repeat' (first | (with_reducible first | exact bR _ _ | assumption | apply bS | apply bA | apply bD | apply bN | exact bL _) | (simp; done) | (simp; omega) | omega | exact bL _))) hb1
   rcases hX with ⟨hX, rfl⟩ | ⟨who, hX, rfl, hvv⟩
   ·obtain rfl := hno.out hX
    clear hX hfind hgv hres hno hat
    go_wp2_with fail
    refine (hend.out _ (belT hb0.out (belT hB1 (by (repeat' (first | (with_reducible first | exact bR _ _ | assumption | apply bS | apply bA | apply bD | apply bN | exact bL _) | (simp; done) | (simp; omega) | omega | exact bL _)))))).mono ?_
    rintro e2 W9 ⟨hf0, hb2, ⟨-, k6, -, -, -, k10, k11⟩, hg2⟩
    have he2 := hf0.1
    subst he2
    dsimp only at k6 k10 k11
    have hG9 : G < W9.heap.size := Nat.lt_of_lt_of_le hG0 (Nat.le_trans hB1.size (Nat.le_trans (by simp) hb2.size))
    have hg2 := Lib.hid hg2
    obtain ⟨b9, hb9⟩ : ∃ b, w1.heap.size = b := ⟨_, rfl⟩
    rw [hb9]
    clear hb2 hB1 hb1 hf0 hend
    go_upto_region 10 with fail
    have hD : Below W9.heap.size W9 W9.drew := (Below.refl _ _).drew
    have hG1 := Nat.lt_of_lt_of_le hG9 hD.size
    have d11 : W9.drew.cell? _ = _ := carry hD hG9 k11
    have hD := Lib.hid hD
    refine wp_region_held_drew (S := fun V => Bar (Bq G) W9 V ∧ V.cell? ⟨G, 6, none⟩ = some (.int .i64 m) ∧ V.cell? ⟨G, 10, none⟩ = some (.pointer (some ⟨g, 0, none⟩))) (by kernel_rfl) (⟨Bar.of_below hD.out, carry hD.out hG9 k6, carry hD.out hG9 k10⟩) (fun hHeld => ?_)
    refine rg_take 0 (some 95) (v := ?v38) rfl rfl (by kernel_rfl) (by kernel_rfl) (by kernel_rfl) (fun _ _ _ h => h) (by rfl) ?hy38 (by assumption) ?_
    case hy38 => intro W hSW; (try dsimp only at hSW); have z8 := hSW.2.1; have z9 := hSW.2.2; have q0 := Nat.lt_of_lt_of_le hG9 hSW.1.size; go_simp; (try with_reducible rfl)
    try simp only [Act.put, bP, bQ, bT]
    refine rg_take 1 (some 96) (v := ?v39) rfl rfl (by kernel_rfl) (by kernel_rfl) (by kernel_rfl) (fun _ _ _ h => h) (by rfl) ?hy39 (by assumption) ?_
    case hy39 => intro W hSW; (try dsimp only at hSW); have z8 := hSW.2.1; have z9 := hSW.2.2; have q0 := Nat.lt_of_lt_of_le hG9 hSW.1.size; go_simp; (try with_reducible rfl)
    try simp only [Act.put, bP, bQ, bT]
    refine rg_take 2 (some 97) (v := ?v40) rfl rfl (by kernel_rfl) (by kernel_rfl) (by kernel_rfl) (fun _ _ _ h => h) (by rfl) ?hy40 (by assumption) ?_
    case hy40 => intro W hSW; (try dsimp only at hSW); have z8 := hSW.2.1; have z9 := hSW.2.2; have q0 := Nat.lt_of_lt_of_le hG9 hSW.1.size; go_simp; (try with_reducible rfl)
    try simp only [Act.put, bP, bQ, bT]
    refine rg_take 3 (some 98) (v := ?v41) rfl rfl (by kernel_rfl) (by kernel_rfl) (by kernel_rfl) (fun _ _ _ h => h) (by rfl) ?hy41 (by assumption) ?_
    case hy41 => intro W hSW; (try dsimp only at hSW); have z8 := hSW.2.1; have z9 := hSW.2.2; have q0 := Nat.lt_of_lt_of_le hG9 hSW.1.size; go_simp; (try with_reducible rfl)
    try simp only [Act.put, bP, bQ, bT]
    refine rg_take 4 (some 99) (v := ?v42) rfl rfl (by kernel_rfl) (by kernel_rfl) (by kernel_rfl) (fun _ _ _ h => h) (by rfl) ?hy42 (by assumption) ?_
    case hy42 => intro W hSW; (try dsimp only at hSW); have z8 := hSW.2.1; have z9 := hSW.2.2; have q0 := Nat.lt_of_lt_of_le hG9 hSW.1.size; go_simp; (try with_reducible rfl)
    try simp only [Act.put, bP, bQ, bT]
    refine rg_take 5 (some 100) (v := ?v43) rfl rfl (by kernel_rfl) (by kernel_rfl) (by kernel_rfl) (fun _ _ _ h => h) (by rfl) ?hy43 (by assumption) ?_
    case hy43 => intro W hSW; (try dsimp only at hSW); have z8 := hSW.2.1; have z9 := hSW.2.2; have q0 := Nat.lt_of_lt_of_le hG9 hSW.1.size; go_simp; (try with_reducible rfl)
    try simp only [Act.put, bP, bQ, bT]
    refine rg_take 6 (some 101) (v := ?v44) rfl rfl (by kernel_rfl) (by kernel_rfl) (by kernel_rfl) (fun _ _ _ h => h) (by rfl) ?hy44 (by assumption) ?_
    case hy44 => intro W hSW; (try dsimp only at hSW); have z8 := hSW.2.1; have z9 := hSW.2.2; have q0 := Nat.lt_of_lt_of_le hG9 hSW.1.size; go_simp; (try with_reducible rfl)
    try simp only [Act.put, bP, bQ, bT]
    refine rg_take 7 (some 102) (v := ?v45) rfl rfl (by kernel_rfl) (by kernel_rfl) (by kernel_rfl) (fun _ _ _ h => h) (by rfl) ?hy45 (by assumption) ?_
    case hy45 => intro W hSW; (try dsimp only at hSW); have z8 := hSW.2.1; have z9 := hSW.2.2; have q0 := Nat.lt_of_lt_of_le hG9 hSW.1.size; go_simp; (try with_reducible rfl)
    try simp only [Act.put, bP, bQ, bT]
    refine rg_take 8 (some 103) (v := ?v46) rfl rfl (by kernel_rfl) (by kernel_rfl) (by kernel_rfl) (fun _ _ _ h => h) (by rfl) ?hy46 (by assumption) ?_
    case hy46 => intro W hSW; (try dsimp only at hSW); have z8 := hSW.2.1; have z9 := hSW.2.2; have q0 := Nat.lt_of_lt_of_le hG9 hSW.1.size; go_simp; (try with_reducible rfl)
    try simp only [Act.put, bP, bQ, bT]
    refine rg_take 9 (some 104) (v := ?v47) rfl rfl (by kernel_rfl) (by kernel_rfl) (by kernel_rfl) (fun _ _ _ h => h) (by rfl) ?hy47 (by assumption) ?_
    case hy47 => intro W hSW; (try dsimp only at hSW); have z8 := hSW.2.1; have z9 := hSW.2.2; have q0 := Nat.lt_of_lt_of_le hG9 hSW.1.size; go_simp; (try with_reducible rfl)
    try simp only [Act.put, bP, bQ, bT]
    refine rg_take 10 (some 105) (v := ?v48) rfl rfl (by kernel_rfl) (by kernel_rfl) (by kernel_rfl) (fun _ _ _ h => h) (by rfl) ?hy48 (by assumption) ?_
    case hy48 => intro W hSW; (try dsimp only at hSW); have z8 := hSW.2.1; have z9 := hSW.2.2; have q0 := Nat.lt_of_lt_of_le hG9 hSW.1.size; go_simp; (try with_reducible rfl)
    try simp only [Act.put, bP, bQ, bT]
    refine rg_take 11 (some 106) (v := ?v49) rfl rfl (by kernel_rfl) (by kernel_rfl) (by kernel_rfl) (fun _ _ _ h => h) (by rfl) ?hy49 (by assumption) ?_
    case hy49 => intro W hSW; (try dsimp only at hSW); have z8 := hSW.2.1; have z9 := hSW.2.2; have q0 := Nat.lt_of_lt_of_le hG9 hSW.1.size; go_simp; (try with_reducible rfl)
    try simp only [Act.put, bP, bQ, bT]
    refine rg_take 12 (some 107) (v := ?v50) rfl rfl (by kernel_rfl) (by kernel_rfl) (by kernel_rfl) (fun _ _ _ h => h) (by rfl) ?hy50 (by assumption) ?_
    case hy50 => intro W hSW; (try dsimp only at hSW); have z8 := hSW.2.1; have z9 := hSW.2.2; have q0 := Nat.lt_of_lt_of_le hG9 hSW.1.size; go_simp; (try with_reducible rfl)
    try simp only [Act.put, bP, bQ, bT]
    refine rg_take 13 (some 108) (v := ?v51) rfl rfl (by kernel_rfl) (by kernel_rfl) (by kernel_rfl) (fun _ _ _ h => h) (by rfl) ?hy51 (by assumption) ?_
    case hy51 => intro W hSW; (try dsimp only at hSW); have z8 := hSW.2.1; have z9 := hSW.2.2; have q0 := Nat.lt_of_lt_of_le hG9 hSW.1.size; go_simp; (try with_reducible rfl)
    try simp only [Act.put, bP, bQ, bT]
    refine rg_take 14 (some 109) (v := ?v52) rfl rfl (by kernel_rfl) (by kernel_rfl) (by kernel_rfl) (fun _ _ _ h => h) (by rfl) ?hy52 (by assumption) ?_
    case hy52 => intro W hSW; (try dsimp only at hSW); have z8 := hSW.2.1; have z9 := hSW.2.2; have q0 := Nat.lt_of_lt_of_le hG9 hSW.1.size; go_simp; (try with_reducible rfl)
    try simp only [Act.put, bP, bQ, bT]
    refine rg_one 15 rfl (by kernel_rfl) (by rfl) (fun K hK => ?_)
    go_simp
    refine hK.out _ _ ⟨Bar.of_below hD.out, carry hD.out hG9 k6, carry hD.out hG9 k10⟩ (fun hH1 => ?_)
    clear hK K
    try simp only [Act.put, bP, bQ, bT]
    refine rg_take 16 (some 111) (v := ?v53) rfl rfl (by kernel_rfl) (by kernel_rfl) (by kernel_rfl) (fun _ _ _ h => h) (by rfl) ?hy53 (by assumption) ?_
    case hy53 => intro W hSW; (try dsimp only at hSW); have z8 := hSW.2.1; have z9 := hSW.2.2; have q0 := Nat.lt_of_lt_of_le hG9 hSW.1.size; go_simp; (try with_reducible rfl)
    try simp only [Act.put, bP, bQ, bT]
    refine rg_one 17 rfl (by kernel_rfl) (by rfl) (fun K hK => ?_)
    go_simp
    have hE : Below W9.heap.size W9 (W9.drew.alloc (.cells #[.int .i64 8, .int .i64 0, .int .i64 0, .pointer none, .slice none 0 0, .pointer (some ⟨b9, 0, none⟩), .pointer (some ⟨g2, 0, none⟩)] 67)) := by (repeat' (first | (with_reducible first | exact bR _ _ | assumption | apply bS | apply bA | apply bD | apply bN | exact bL _) | (simp; done) | (simp; omega) | omega | exact bL _))
    refine hK.out _ _ ⟨Bar.of_below hE, carry hE hG9 k6, carry hE hG9 k10⟩ (fun hH2 => ?_)
    clear hK K
    try simp only [Act.put, bP, bQ, bT]
    refine rg_take 18 (some 113) (v := ?v54) rfl rfl (by kernel_rfl) (by kernel_rfl) (by kernel_rfl) (fun _ _ _ h => h) (by rfl) ?hy54 (by assumption) ?_
    case hy54 => intro W hSW; (try dsimp only at hSW); have z8 := hSW.2.1; have z9 := hSW.2.2; have q0 := Nat.lt_of_lt_of_le hG9 hSW.1.size; go_simp; (try with_reducible rfl)
    try simp only [Act.put, bP, bQ, bT]
    refine rg_one 19 rfl (by kernel_rfl) (by rfl) (fun K hK => ?_)
    go_simp
    refine (hg2.out ⟨6, m, 0, none, some ⟨g, 0, none⟩, some ⟨W9.heap.size, 0, none⟩⟩ _ hE).mono ?_
    rintro e8 w8 ⟨hf, hb8, hT8⟩
    have he8 := hf.1
    subst he8
    have hf := Lib.hid hf
    refine hK.out _ _ ⟨(Bar.of_below hE).trans hb8 fun _ _ h => h, hT8.2.1, hT8.2.2.2.2.2.1⟩ (fun hH3 => ?_)
    clear hK K
    try simp only [Act.put, bP, bQ, bT]
    refine wpAnyH_done (by kernel_rfl) ?_ _
    go_wp2_with fail
    all_goals go_end0
    all_goals exact hf.out
   ·obtain rfl := hat.out who hX
    clear hX hfind hend hno hat
    obtain ⟨W9, hW9⟩ : ∃ W, w1.alloc (.cells #[.int .i64 tk', .int .i64 tn, .int .i64 td, .pointer te, .slice none 0 0, .pointer ta, .pointer tb] 67) = W := ⟨_, rfl⟩
    obtain ⟨b9, hb9⟩ : ∃ b, w1.heap.size = b := ⟨_, rfl⟩
    have hB9 : Below W0.heap.size W0 W9 := by rw [← hW9]; exact belT hB1 (below_alc _ _)
    have h9 : b9 < W9.heap.size ∧ TyAt W9 b9 67 ∧ VCo W9 b9 0 ⟨tk', tn, td, te, ta, tb⟩ := by rw [← hW9, ← hb9]; exact ⟨by simp, TyAt.new _ _ _, by simp [VCo, go_sem]⟩
    have hvw : VR W9 who (.inl ⟨tk', tn, td, te, ta, tb⟩) := by rw [← hW9]; exact (hvv.below hb1).below (below_alc _ _)
    have k6 : W9.cell? _ = _ := carry hB9 hG0 c6
    have k10 : W9.cell? _ = _ := carry hB9 hG0 c10
    have k11 : W9.cell? _ = _ := carry hB9 hG0 c11
    have hG9 : G < W9.heap.size := Nat.lt_of_lt_of_le hG0 hB9.size
    have hB9 := Lib.hid (belT hb0.out hB9)
    have h9 := Lib.hid h9; have hvw := Lib.hid hvw
    have hW9 := Lib.hid hW9
    clear hB1 hb1 hvv
    go_upto_region 8 with fail
    try rw [hW9.out]
    try rw [hb9]
    clear hW9
    go_upto_region 10 with fail
    have hD : Below W9.heap.size W9 W9.drew := (Below.refl _ _).drew
    have hG1 := Nat.lt_of_lt_of_le hG9 hD.size
    have d11 : W9.drew.cell? _ = _ := carry hD hG9 k11
    have hD := Lib.hid hD
    refine wp_region_held_drew (S := fun V => Bar (Bq G) W9 V ∧ V.cell? ⟨G, 6, none⟩ = some (.int .i64 m) ∧ V.cell? ⟨G, 10, none⟩ = some (.pointer (some ⟨g, 0, none⟩))) (by kernel_rfl) (⟨Bar.of_below hD.out, carry hD.out hG9 k6, carry hD.out hG9 k10⟩) (fun hHeld => ?_)
    refine rg_take 0 (some 95) (v := ?v55) rfl rfl (by kernel_rfl) (by kernel_rfl) (by kernel_rfl) (fun _ _ _ h => h) (by rfl) ?hy55 (by assumption) ?_
    case hy55 => intro W hSW; (try dsimp only at hSW); have z8 := hSW.2.1; have z9 := hSW.2.2; have q0 := Nat.lt_of_lt_of_le hG9 hSW.1.size; go_simp; (try with_reducible rfl)
    try simp only [Act.put, bP, bQ, bT]
    refine rg_take 1 (some 96) (v := ?v56) rfl rfl (by kernel_rfl) (by kernel_rfl) (by kernel_rfl) (fun _ _ _ h => h) (by rfl) ?hy56 (by assumption) ?_
    case hy56 => intro W hSW; (try dsimp only at hSW); have z8 := hSW.2.1; have z9 := hSW.2.2; have q0 := Nat.lt_of_lt_of_le hG9 hSW.1.size; go_simp; (try with_reducible rfl)
    try simp only [Act.put, bP, bQ, bT]
    refine rg_take 2 (some 97) (v := ?v57) rfl rfl (by kernel_rfl) (by kernel_rfl) (by kernel_rfl) (fun _ _ _ h => h) (by rfl) ?hy57 (by assumption) ?_
    case hy57 => intro W hSW; (try dsimp only at hSW); have z8 := hSW.2.1; have z9 := hSW.2.2; have q0 := Nat.lt_of_lt_of_le hG9 hSW.1.size; go_simp; (try with_reducible rfl)
    try simp only [Act.put, bP, bQ, bT]
    refine rg_take 3 (some 98) (v := ?v58) rfl rfl (by kernel_rfl) (by kernel_rfl) (by kernel_rfl) (fun _ _ _ h => h) (by rfl) ?hy58 (by assumption) ?_
    case hy58 => intro W hSW; (try dsimp only at hSW); have z8 := hSW.2.1; have z9 := hSW.2.2; have q0 := Nat.lt_of_lt_of_le hG9 hSW.1.size; go_simp; (try with_reducible rfl)
    try simp only [Act.put, bP, bQ, bT]
    refine rg_take 4 (some 99) (v := ?v59) rfl rfl (by kernel_rfl) (by kernel_rfl) (by kernel_rfl) (fun _ _ _ h => h) (by rfl) ?hy59 (by assumption) ?_
    case hy59 => intro W hSW; (try dsimp only at hSW); have z8 := hSW.2.1; have z9 := hSW.2.2; have q0 := Nat.lt_of_lt_of_le hG9 hSW.1.size; go_simp; (try with_reducible rfl)
    try simp only [Act.put, bP, bQ, bT]
    refine rg_take 5 (some 100) (v := ?v60) rfl rfl (by kernel_rfl) (by kernel_rfl) (by kernel_rfl) (fun _ _ _ h => h) (by rfl) ?hy60 (by assumption) ?_
    case hy60 => intro W hSW; (try dsimp only at hSW); have z8 := hSW.2.1; have z9 := hSW.2.2; have q0 := Nat.lt_of_lt_of_le hG9 hSW.1.size; go_simp; (try with_reducible rfl)
    try simp only [Act.put, bP, bQ, bT]
    refine rg_take 6 (some 101) (v := ?v61) rfl rfl (by kernel_rfl) (by kernel_rfl) (by kernel_rfl) (fun _ _ _ h => h) (by rfl) ?hy61 (by assumption) ?_
    case hy61 => intro W hSW; (try dsimp only at hSW); have z8 := hSW.2.1; have z9 := hSW.2.2; have q0 := Nat.lt_of_lt_of_le hG9 hSW.1.size; go_simp; (try with_reducible rfl)
    try simp only [Act.put, bP, bQ, bT]
    refine rg_take 7 (some 102) (v := ?v62) rfl rfl (by kernel_rfl) (by kernel_rfl) (by kernel_rfl) (fun _ _ _ h => h) (by rfl) ?hy62 (by assumption) ?_
    case hy62 => intro W hSW; (try dsimp only at hSW); have z8 := hSW.2.1; have z9 := hSW.2.2; have q0 := Nat.lt_of_lt_of_le hG9 hSW.1.size; go_simp; (try with_reducible rfl)
    try simp only [Act.put, bP, bQ, bT]
    refine rg_take 8 (some 103) (v := ?v63) rfl rfl (by kernel_rfl) (by kernel_rfl) (by kernel_rfl) (fun _ _ _ h => h) (by rfl) ?hy63 (by assumption) ?_
    case hy63 => intro W hSW; (try dsimp only at hSW); have z8 := hSW.2.1; have z9 := hSW.2.2; have q0 := Nat.lt_of_lt_of_le hG9 hSW.1.size; go_simp; (try with_reducible rfl)
    try simp only [Act.put, bP, bQ, bT]
    refine rg_take 9 (some 104) (v := ?v64) rfl rfl (by kernel_rfl) (by kernel_rfl) (by kernel_rfl) (fun _ _ _ h => h) (by rfl) ?hy64 (by assumption) ?_
    case hy64 => intro W hSW; (try dsimp only at hSW); have z8 := hSW.2.1; have z9 := hSW.2.2; have q0 := Nat.lt_of_lt_of_le hG9 hSW.1.size; go_simp; (try with_reducible rfl)
    try simp only [Act.put, bP, bQ, bT]
    refine rg_take 10 (some 105) (v := ?v65) rfl rfl (by kernel_rfl) (by kernel_rfl) (by kernel_rfl) (fun _ _ _ h => h) (by rfl) ?hy65 (by assumption) ?_
    case hy65 => intro W hSW; (try dsimp only at hSW); have z8 := hSW.2.1; have z9 := hSW.2.2; have q0 := Nat.lt_of_lt_of_le hG9 hSW.1.size; go_simp; (try with_reducible rfl)
    try simp only [Act.put, bP, bQ, bT]
    refine rg_take 11 (some 106) (v := ?v66) rfl rfl (by kernel_rfl) (by kernel_rfl) (by kernel_rfl) (fun _ _ _ h => h) (by rfl) ?hy66 (by assumption) ?_
    case hy66 => intro W hSW; (try dsimp only at hSW); have z8 := hSW.2.1; have z9 := hSW.2.2; have q0 := Nat.lt_of_lt_of_le hG9 hSW.1.size; go_simp; (try with_reducible rfl)
    try simp only [Act.put, bP, bQ, bT]
    refine rg_take 12 (some 107) (v := ?v67) rfl rfl (by kernel_rfl) (by kernel_rfl) (by kernel_rfl) (fun _ _ _ h => h) (by rfl) ?hy67 (by assumption) ?_
    case hy67 => intro W hSW; (try dsimp only at hSW); have z8 := hSW.2.1; have z9 := hSW.2.2; have q0 := Nat.lt_of_lt_of_le hG9 hSW.1.size; go_simp; (try with_reducible rfl)
    try simp only [Act.put, bP, bQ, bT]
    refine rg_take 13 (some 108) (v := ?v68) rfl rfl (by kernel_rfl) (by kernel_rfl) (by kernel_rfl) (fun _ _ _ h => h) (by rfl) ?hy68 (by assumption) ?_
    case hy68 => intro W hSW; (try dsimp only at hSW); have z8 := hSW.2.1; have z9 := hSW.2.2; have q0 := Nat.lt_of_lt_of_le hG9 hSW.1.size; go_simp; (try with_reducible rfl)
    try simp only [Act.put, bP, bQ, bT]
    refine rg_take 14 (some 109) (v := ?v69) rfl rfl (by kernel_rfl) (by kernel_rfl) (by kernel_rfl) (fun _ _ _ h => h) (by rfl) ?hy69 (by assumption) ?_
    case hy69 => intro W hSW; (try dsimp only at hSW); have z8 := hSW.2.1; have z9 := hSW.2.2; have q0 := Nat.lt_of_lt_of_le hG9 hSW.1.size; go_simp; (try with_reducible rfl)
    try simp only [Act.put, bP, bQ, bT]
    refine rg_one 15 rfl (by kernel_rfl) (by rfl) (fun K hK => ?_)
    go_simp
    refine hK.out _ _ ⟨Bar.of_below hD.out, carry hD.out hG9 k6, carry hD.out hG9 k10⟩ (fun hH1 => ?_)
    clear hK K
    try simp only [Act.put, bP, bQ, bT]
    refine rg_take 16 (some 111) (v := ?v70) rfl rfl (by kernel_rfl) (by kernel_rfl) (by kernel_rfl) (fun _ _ _ h => h) (by rfl) ?hy70 (by assumption) ?_
    case hy70 => intro W hSW; (try dsimp only at hSW); have z8 := hSW.2.1; have z9 := hSW.2.2; have q0 := Nat.lt_of_lt_of_le hG9 hSW.1.size; go_simp; (try with_reducible rfl)
    try simp only [Act.put, bP, bQ, bT]
    refine rg_one 17 rfl (by kernel_rfl) (by rfl) (fun K hK => ?_)
    go_simp
    have hE : Below W9.heap.size W9 (W9.drew.alloc (.cells #[.int .i64 8, .int .i64 0, .int .i64 0, .pointer none, .slice none 0 0, .pointer (some ⟨b9, 0, none⟩), .pointer (some ⟨g2, 0, none⟩)] 67)) := by (repeat' (first | (with_reducible first | exact bR _ _ | assumption | apply bS | apply bA | apply bD | apply bN | exact bL _) | (simp; done) | (simp; omega) | omega | exact bL _))
    refine hK.out _ _ ⟨Bar.of_below hE, carry hE hG9 k6, carry hE hG9 k10⟩ (fun hH2 => ?_)
    clear hK K
    try simp only [Act.put, bP, bQ, bT]
    refine rg_take 18 (some 113) (v := ?v71) rfl rfl (by kernel_rfl) (by kernel_rfl) (by kernel_rfl) (fun _ _ _ h => h) (by rfl) ?hy71 (by assumption) ?_
    case hy71 => intro W hSW; (try dsimp only at hSW); have z8 := hSW.2.1; have z9 := hSW.2.2; have q0 := Nat.lt_of_lt_of_le hG9 hSW.1.size; go_simp; (try with_reducible rfl)
    try simp only [Act.put, bP, bQ, bT]
    refine rg_one 19 rfl (by kernel_rfl) (by rfl) (fun K hK => ?_)
    go_simp
    refine (hgv.out (.op m u (.fwd k who)) ⟨6, m, 0, none, some ⟨g, 0, none⟩, some ⟨W9.heap.size, 0, none⟩⟩ _ (belT hB9.out hE) (hres.out _ _ b9 who _ (belT hB9.out hE) ⟨Nat.lt_of_lt_of_le h9.out.1 hE.size, h9.out.2.1.bar (S := fun _ => False) (Bar.of_below hE) id, h9.out.2.2.bar (S := fun _ => False) (Bar.of_below hE) id⟩ (hvw.out.below hE) ⟨by simp, TyAt.new _ _ _, by simp [VCo, go_sem]⟩)).mono ?_
    rintro e8 w8 ⟨hf, hb8, hT8⟩
    have he8 := hf.1
    subst he8
    have hf := Lib.hid hf
    refine hK.out _ _ ⟨(Bar.of_below hE).trans hb8 fun _ _ h => h, hT8.2.1, hT8.2.2.2.2.2.1⟩ (fun hH3 => ?_)
    clear hK K
    try simp only [Act.put, bP, bQ, bT]
    refine wpAnyH_done (by kernel_rfl) ?_ _
    go_wp2_with fail
    all_goals go_end0
    all_goals exact hf.out
 ·rw [he]
  obtain ⟨ct, hct⟩ : ∃ a, c.th = a := ⟨_, rfl⟩
  rw [hct] at hth hn5 hn6
  obtain ⟨z0, z1, z2, z3, z4, z5⟩ := ct
  dsimp only at hn5 hn6
  have hq5 : ((z0 == 5) : Bool) = false := by simpa using hn5
  have hq6 : ((z0 == 6) : Bool) = false := by simpa using hn6
  clear h hs hv hgv hgo hnG he henv
  go_enter Try.func50, Try.ntmps50
  go_upto_region 2 with fail
  obtain ⟨W0, hW0⟩ : ∃ W, (w.alloc (.cells #[.int .i64 xst, .int .i64 xnd, .pointer xen, .int .i64 y0, .int .i64 y1, .int .i64 y2, .pointer y3, .slice none 0 0, .pointer y4, .pointer y5] 91)).alloc (.cells #[.int .i64 nk, .int .i64 na, .int .i64 nb, .int .i64 nc, .int .i64 nn, .int .i64 nx, .int .i64 ny, .int .i64 nz, .int .i64 nw] 37) = W := ⟨_, rfl⟩
  rw [hW0]
  obtain ⟨hb0, hs0, ⟨f1, f2⟩, n2, n3, n4, n5, n6, n7, n8⟩ := bx_ft (x := ⟨xst, xnd, xen, ⟨y0, y1, y2, y3, y4, y5⟩⟩) (n := ⟨nk, na, nb, nc, nn, nx, ny, nz, nw⟩) hW0
  dsimp only at f1 f2 n2 n3 n4 n5 n6 n7 n8
  have hG0 : G < W0.heap.size := Nat.lt_of_lt_of_le hG hb0.size
  have hl0 : w.heap.size < W0.heap.size := by omega
  have hl1 : w.heap.size + 1 < W0.heap.size := by omega
  have hT0 := hth.below hG hb0
  obtain ⟨c5, c6, c7, c8, c9, c10, c11⟩ := hT0
  dsimp only at c5 c6 c7 c8 c9 c10 c11
  have hnf : ¬ Bq G w.heap.size := fun e => by have e : w.heap.size = G := e; omega
  have hnv : ¬ Bq G (w.heap.size + 1) := fun e => by have e : w.heap.size + 1 = G := e; omega
  have hb0 := Lib.hid hb0
  clear hW0 hs0
  go_upto_region 4 with fail
  go_region
  go_wp2_with fail
  refine (hend.out _ (belT hb0.out (by (repeat' (first | (with_reducible first | exact bR _ _ | assumption | apply bS | apply bA | apply bD | apply bN | exact bL _) | (simp; done) | (simp; omega) | omega | exact bL _))))).mono ?_
  rintro e2 w2 ⟨hf, -, -⟩
  have he2 := hf.1
  subst he2
  have hf := Lib.hid hf
  go_wp2_with fail
  all_goals go_end0
  all_goals exact hf.out
end Go.Proofs.Ytnjalpcmjkahkaa
