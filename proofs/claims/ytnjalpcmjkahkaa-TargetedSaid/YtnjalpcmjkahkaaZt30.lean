/- The machine of layer 21: a value that is bound on. -/
import Derived.Test.YtnjalpcmjkahkaaZt11
import Derived.Test.YtnjalpcmjkahkaaZt29
set_option maxRecDepth 100000
set_option maxHeartbeats 8000000
namespace Go.Proofs.Ytnjalpcmjkahkaa
open Go.RowKit
set_option linter.unusedVariables false
set_option linter.unusedSimpArgs false
theorem Wk.mr_T {B G : Nat} {T off cp n : Nat} {fv sv : Value} {c : Mc} {l : List Fr} {ts : List Tg} {stk : List RF} {f : RF} {x : Fr} {v : RV} {t : Th} {w : World} (h : Wk B G (.slice (some ⟨T, off, none⟩) n cp) fv sv c l ts stk f x v t w) : ¬ Bq G T := by
 obtain ⟨T', off', c', e, _, hG, _⟩ := h.tv
 injection e with e1 _ _
 injection e1 with e1
 injection e1 with e1 _ _
 subst e1
 exact hG
theorem op_thr {A : Nat → Prop} {w W : World} {n : Int} {u k g : RV} {d e p : Option Addr} {tu te tk : Th} (hbu : BxC A w d tu) (hru : RR A w u (.inl tu)) (hbe : BxC A w e te) (hrg : RR A w g (.inl te)) (hb : Below w.heap.size w W) (hk : RR A W k (.inl tk)) (hx : BxC A W p tk) :
  RR A W (.op n u k) (.inl ⟨6, n, none, d, p⟩) :=
 ⟨d, tu, p, tk, rfl, hbu.bar (Bar.of_below (S := fun _ => False) hb) (fun _ h => h.elim), hru.below hb, hx, hk⟩
theorem bind_any (B G : Nat) (tv fv sv : Value) (c : Mc) (l : List Fr) (ts : List Tg) (w : World) (stk : List RF) (f : RF) (x : Fr) (v : RV) (t : Th) (h : Hid (Wk B G tv fv sv c l ts stk f x v t w)) (hel : f.env.list.length ≤ 1000000000) :
  Calls Try.prog 83 #[.pointer (some ⟨G, 0, none⟩), x.val, t.val] w (NsP c.w0 B G tv fv (rBind (ndT ts f.node) stk f.node f.env v)) := by
 have hrt := rr_ret h.out.vl
 have hst := Lib.hid h.out.stuck
 have hen := Lib.hid fun env p n W hb he => h.out.enter (env := env) (p := p) n W hb he
 have hgv := Lib.hid fun u y W hb he => h.out.give (u := u) y W hb he
 have hwi := Lib.hid fun env u p tu hl W hb he hu => h.out.withv (env := env) (u := u) (p := p) (tu := tu) hl W hb he hu
 have henv := Lib.hid fun W hb => (h.out.below (w' := W) hb).fr.2.2.1
 have hbx := Lib.hid fun (W : World) (b o : Nat) (t : Th) h1 h2 h3 => h.out.mr.bx (w' := W) (b := b) (o := o) (t := t) h1 h2 h3
 obtain ⟨T, off, cp, i, rfl, hTw, hG, c3, hi, hfi, hxi, hT, hfz⟩ := h.out.open
 have hnT : ¬ Bq G T := h.out.mr_T
 obtain ⟨n, hn⟩ : ∃ n, ndT ts f.node = n := ⟨_, rfl⟩
 rw [hn] at hT ⊢
 obtain ⟨xst, xnd, xen, ⟨y0, y1, y2, y3, y4⟩⟩ := x
 obtain ⟨xk, xa, xb, xc, xn, xx, xy, xz, xw⟩ := n
 obtain ⟨t0, t1, t2, t3, t4, t5, t6, t7, t8⟩ := hT
 dsimp only at hxi hen henv t0 t1 t2 t3 t4 t5 t6 t7 t8
 subst hxi
 unfold Fr.val Th.val
 dsimp only
 rcases hrt with ⟨u, d, tu, rfl, rfl, ⟨g, oo, rfl, hgw, hgn, hth⟩, hru⟩ | ⟨n, u, g, d, e, tu, te, rfl, rfl, hbu, hru, hbe, hrg⟩ | ⟨⟨hn5, hn6⟩, he, _⟩
 ·rw [show rBind ⟨xk, xa, xb, xc, xn, xx, xy, xz, xw⟩ stk f.node f.env (.ret u) = .ev stk xb (.cons u f.env) from rfl]
  have hru := Lib.hid fun W hb => hru.below (W' := W) hb
  clear h
  go_enter Try.func83, Try.ntmps83
  go_wp2_with fail
  obtain ⟨W0, hW0⟩ : ∃ W, (w.alloc (.cells #[.int .i64 xst, .int .i64 i, .pointer xen, .int .i64 y0, .int .i64 y1, .pointer y2, .pointer y3, .pointer y4] 129)).alloc (.cells #[.int .i64 5, .int .i64 0, .pointer none, .pointer (some ⟨g, oo, none⟩), .pointer none] 56) = W := ⟨_, rfl⟩
  rw [hW0]
  obtain ⟨hb0, hs0, ⟨f0, f1, f2, f3, f4, f5, f6, f7⟩, ⟨v0, v1, v2, v3, v4⟩⟩ := bx_fv hW0
  have c3 : W0.cell? _ = _ := carry hb0 hG c3
  have t0 : W0.cell? _ = _ := carry hb0 hTw t0
  have t1 : W0.cell? _ = _ := carry hb0 hTw t1
  have t2 : W0.cell? _ = _ := carry hb0 hTw t2
  have t3 : W0.cell? _ = _ := carry hb0 hTw t3
  have t4 : W0.cell? _ = _ := carry hb0 hTw t4
  have t5 : W0.cell? _ = _ := carry hb0 hTw t5
  have t6 : W0.cell? _ = _ := carry hb0 hTw t6
  have t7 : W0.cell? _ = _ := carry hb0 hTw t7
  have t8 : W0.cell? _ = _ := carry hb0 hTw t8
  have hG0 : G < W0.heap.size := Nat.lt_of_lt_of_le hG hb0.size
  have hT0 : T < W0.heap.size := Nat.lt_of_lt_of_le hTw hb0.size
  have hl0 : w.heap.size < W0.heap.size := by omega
  have hl1 : w.heap.size + 1 < W0.heap.size := by omega
  have hb0 := Lib.hid hb0
  clear hW0 hs0
  have hnf : ¬ Bq G w.heap.size := fun e => by have e : w.heap.size = G := e; omega
  have hnv : ¬ Bq G (w.heap.size + 1) := fun e => by have e : w.heap.size + 1 = G := e; omega
  have hi0 : (0 : Int) ≤ (i : Int) := by omega
  have hi1 : (i : Int) < (ts.length : Int) := by omega
  obtain ⟨u0, u1, u2, u3, u4⟩ := hth
  have u0 : W0.cell? _ = _ := carry hb0.out hgw u0
  have u1 : W0.cell? _ = _ := carry hb0.out hgw u1
  have u2 : W0.cell? _ = _ := carry hb0.out hgw u2
  have u3 : W0.cell? _ = _ := carry hb0.out hgw u3
  have u4 : W0.cell? _ = _ := carry hb0.out hgw u4
  have hnb : ¬ Bq G g := fun e => hgn (.inl e)
  have hgw0 : g < W0.heap.size := Nat.lt_of_lt_of_le hgw hb0.out.size
  clear t0 t1 t3 t4 t5 t6 t7 t8 f0 f3 f4 f5 f6 f7 v0 v1 v2 v4
  refine wp_region_held_drew (S := fun W => Bar (Bq G) W0 W ∧ W.cell? ⟨G, 3, none⟩ = some (.slice (some ⟨T, off, none⟩) ts.length cp)) (by kernel_rfl) (⟨Bar.of_below ((Below.refl _ _).drew), carry ((Below.refl _ _).drew) hG0 c3⟩) (fun hHeld => ?_)
  refine rg_take 0 (some 14) (v := ?v1) rfl rfl (by kernel_rfl) (by kernel_rfl) (by kernel_rfl) (fun _ _ _ h => h) (by rfl) ?hy1 (by assumption) ?_
  case hy1 => intro W hSW; (try dsimp only at hSW); have z0 := hSW.2; have q0 := Nat.lt_of_lt_of_le hG0 hSW.1.size; have q1 := Nat.lt_of_lt_of_le hl0 hSW.1.size; have q2 := Nat.lt_of_lt_of_le hl1 hSW.1.size; have q3 := Nat.lt_of_lt_of_le hT0 hSW.1.size; have z1 := hSW.1.cell f1 hnf; have z2 := hSW.1.cell f2 hnf; have z3 := hSW.1.cell t2 hnT; have z4 := hSW.1.cell v3 hnv; have z5 := hSW.1.cell u0 hnb; have z6 := hSW.1.cell u1 hnb; have z7 := hSW.1.cell u2 hnb; have z8 := hSW.1.cell u3 hnb; have z9 := hSW.1.cell u4 hnb; have q4 := Nat.lt_of_lt_of_le hgw0 hSW.1.size; go_simp; (try with_reducible rfl)
  try simp only [Act.put, bP, bQ, bT]
  refine rg_take 1 (some 15) (v := ?v2) rfl rfl (by kernel_rfl) (by kernel_rfl) (by kernel_rfl) (fun _ _ _ h => h) (by rfl) ?hy2 (by assumption) ?_
  case hy2 => intro W hSW; (try dsimp only at hSW); have z0 := hSW.2; have q0 := Nat.lt_of_lt_of_le hG0 hSW.1.size; have q1 := Nat.lt_of_lt_of_le hl0 hSW.1.size; have q2 := Nat.lt_of_lt_of_le hl1 hSW.1.size; have q3 := Nat.lt_of_lt_of_le hT0 hSW.1.size; have z1 := hSW.1.cell f1 hnf; have z2 := hSW.1.cell f2 hnf; have z3 := hSW.1.cell t2 hnT; have z4 := hSW.1.cell v3 hnv; have z5 := hSW.1.cell u0 hnb; have z6 := hSW.1.cell u1 hnb; have z7 := hSW.1.cell u2 hnb; have z8 := hSW.1.cell u3 hnb; have z9 := hSW.1.cell u4 hnb; have q4 := Nat.lt_of_lt_of_le hgw0 hSW.1.size; go_simp; (try with_reducible rfl)
  try simp only [Act.put, bP, bQ, bT]
  refine rg_take 2 (some 16) (v := ?v3) rfl rfl (by kernel_rfl) (by kernel_rfl) (by kernel_rfl) (fun _ _ _ h => h) (by rfl) ?hy3 (by assumption) ?_
  case hy3 => intro W hSW; (try dsimp only at hSW); have z0 := hSW.2; have q0 := Nat.lt_of_lt_of_le hG0 hSW.1.size; have q1 := Nat.lt_of_lt_of_le hl0 hSW.1.size; have q2 := Nat.lt_of_lt_of_le hl1 hSW.1.size; have q3 := Nat.lt_of_lt_of_le hT0 hSW.1.size; have z1 := hSW.1.cell f1 hnf; have z2 := hSW.1.cell f2 hnf; have z3 := hSW.1.cell t2 hnT; have z4 := hSW.1.cell v3 hnv; have z5 := hSW.1.cell u0 hnb; have z6 := hSW.1.cell u1 hnb; have z7 := hSW.1.cell u2 hnb; have z8 := hSW.1.cell u3 hnb; have z9 := hSW.1.cell u4 hnb; have q4 := Nat.lt_of_lt_of_le hgw0 hSW.1.size; go_simp; (try with_reducible rfl)
  try simp only [Act.put, bP, bQ, bT]
  refine rg_take 3 (some 17) (v := ?v4) rfl rfl (by kernel_rfl) (by kernel_rfl) (by kernel_rfl) (fun _ _ _ h => h) (by rfl) ?hy4 (by assumption) ?_
  case hy4 => intro W hSW; (try dsimp only at hSW); have z0 := hSW.2; have q0 := Nat.lt_of_lt_of_le hG0 hSW.1.size; have q1 := Nat.lt_of_lt_of_le hl0 hSW.1.size; have q2 := Nat.lt_of_lt_of_le hl1 hSW.1.size; have q3 := Nat.lt_of_lt_of_le hT0 hSW.1.size; have z1 := hSW.1.cell f1 hnf; have z2 := hSW.1.cell f2 hnf; have z3 := hSW.1.cell t2 hnT; have z4 := hSW.1.cell v3 hnv; have z5 := hSW.1.cell u0 hnb; have z6 := hSW.1.cell u1 hnb; have z7 := hSW.1.cell u2 hnb; have z8 := hSW.1.cell u3 hnb; have z9 := hSW.1.cell u4 hnb; have q4 := Nat.lt_of_lt_of_le hgw0 hSW.1.size; go_simp; (try with_reducible rfl)
  try simp only [Act.put, bP, bQ, bT]
  refine rg_take 4 (some 18) (v := ?v5) rfl rfl (by kernel_rfl) (by kernel_rfl) (by kernel_rfl) (fun _ _ _ h => h) (by rfl) ?hy5 (by assumption) ?_
  case hy5 => intro W hSW; (try dsimp only at hSW); have z0 := hSW.2; have q0 := Nat.lt_of_lt_of_le hG0 hSW.1.size; have q1 := Nat.lt_of_lt_of_le hl0 hSW.1.size; have q2 := Nat.lt_of_lt_of_le hl1 hSW.1.size; have q3 := Nat.lt_of_lt_of_le hT0 hSW.1.size; have z1 := hSW.1.cell f1 hnf; have z2 := hSW.1.cell f2 hnf; have z3 := hSW.1.cell t2 hnT; have z4 := hSW.1.cell v3 hnv; have z5 := hSW.1.cell u0 hnb; have z6 := hSW.1.cell u1 hnb; have z7 := hSW.1.cell u2 hnb; have z8 := hSW.1.cell u3 hnb; have z9 := hSW.1.cell u4 hnb; have q4 := Nat.lt_of_lt_of_le hgw0 hSW.1.size; go_simp; (try with_reducible rfl)
  try simp only [Act.put, bP, bQ, bT]
  refine rg_take 5 (some 19) (v := ?v6) rfl rfl (by kernel_rfl) (by kernel_rfl) (by kernel_rfl) (fun _ _ _ h => h) (by rfl) ?hy6 (by assumption) ?_
  case hy6 => intro W hSW; (try dsimp only at hSW); have z0 := hSW.2; have q0 := Nat.lt_of_lt_of_le hG0 hSW.1.size; have q1 := Nat.lt_of_lt_of_le hl0 hSW.1.size; have q2 := Nat.lt_of_lt_of_le hl1 hSW.1.size; have q3 := Nat.lt_of_lt_of_le hT0 hSW.1.size; have z1 := hSW.1.cell f1 hnf; have z2 := hSW.1.cell f2 hnf; have z3 := hSW.1.cell t2 hnT; have z4 := hSW.1.cell v3 hnv; have z5 := hSW.1.cell u0 hnb; have z6 := hSW.1.cell u1 hnb; have z7 := hSW.1.cell u2 hnb; have z8 := hSW.1.cell u3 hnb; have z9 := hSW.1.cell u4 hnb; have q4 := Nat.lt_of_lt_of_le hgw0 hSW.1.size; go_simp; (try with_reducible rfl)
  try simp only [Act.put, bP, bQ, bT]
  refine rg_take 6 (some 20) (v := ?v7) rfl rfl (by kernel_rfl) (by kernel_rfl) (by kernel_rfl) (fun _ _ _ h => h) (by rfl) ?hy7 (by assumption) ?_
  case hy7 => intro W hSW; (try dsimp only at hSW); have z0 := hSW.2; have q0 := Nat.lt_of_lt_of_le hG0 hSW.1.size; have q1 := Nat.lt_of_lt_of_le hl0 hSW.1.size; have q2 := Nat.lt_of_lt_of_le hl1 hSW.1.size; have q3 := Nat.lt_of_lt_of_le hT0 hSW.1.size; have z1 := hSW.1.cell f1 hnf; have z2 := hSW.1.cell f2 hnf; have z3 := hSW.1.cell t2 hnT; have z4 := hSW.1.cell v3 hnv; have z5 := hSW.1.cell u0 hnb; have z6 := hSW.1.cell u1 hnb; have z7 := hSW.1.cell u2 hnb; have z8 := hSW.1.cell u3 hnb; have z9 := hSW.1.cell u4 hnb; have q4 := Nat.lt_of_lt_of_le hgw0 hSW.1.size; go_simp; (try with_reducible rfl)
  try simp only [Act.put, bP, bQ, bT]
  refine rg_take 7 (some 21) (v := ?v8) rfl rfl (by kernel_rfl) (by kernel_rfl) (by kernel_rfl) (fun _ _ _ h => h) (by rfl) ?hy8 (by assumption) ?_
  case hy8 => intro W hSW; (try dsimp only at hSW); have z0 := hSW.2; have q0 := Nat.lt_of_lt_of_le hG0 hSW.1.size; have q1 := Nat.lt_of_lt_of_le hl0 hSW.1.size; have q2 := Nat.lt_of_lt_of_le hl1 hSW.1.size; have q3 := Nat.lt_of_lt_of_le hT0 hSW.1.size; have z1 := hSW.1.cell f1 hnf; have z2 := hSW.1.cell f2 hnf; have z3 := hSW.1.cell t2 hnT; have z4 := hSW.1.cell v3 hnv; have z5 := hSW.1.cell u0 hnb; have z6 := hSW.1.cell u1 hnb; have z7 := hSW.1.cell u2 hnb; have z8 := hSW.1.cell u3 hnb; have z9 := hSW.1.cell u4 hnb; have q4 := Nat.lt_of_lt_of_le hgw0 hSW.1.size; go_simp; (try with_reducible rfl)
  try simp only [Act.put, bP, bQ, bT]
  refine rg_take 8 (some 22) (v := ?v9) rfl rfl (by kernel_rfl) (by kernel_rfl) (by kernel_rfl) (fun _ _ _ h => h) (by rfl) ?hy9 (by assumption) ?_
  case hy9 => intro W hSW; (try dsimp only at hSW); have z0 := hSW.2; have q0 := Nat.lt_of_lt_of_le hG0 hSW.1.size; have q1 := Nat.lt_of_lt_of_le hl0 hSW.1.size; have q2 := Nat.lt_of_lt_of_le hl1 hSW.1.size; have q3 := Nat.lt_of_lt_of_le hT0 hSW.1.size; have z1 := hSW.1.cell f1 hnf; have z2 := hSW.1.cell f2 hnf; have z3 := hSW.1.cell t2 hnT; have z4 := hSW.1.cell v3 hnv; have z5 := hSW.1.cell u0 hnb; have z6 := hSW.1.cell u1 hnb; have z7 := hSW.1.cell u2 hnb; have z8 := hSW.1.cell u3 hnb; have z9 := hSW.1.cell u4 hnb; have q4 := Nat.lt_of_lt_of_le hgw0 hSW.1.size; go_simp; (try with_reducible rfl)
  try simp only [Act.put, bP, bQ, bT]
  refine rg_take 9 (some 23) (v := ?v10) rfl rfl (by kernel_rfl) (by kernel_rfl) (by kernel_rfl) (fun _ _ _ h => h) (by rfl) ?hy10 (by assumption) ?_
  case hy10 => intro W hSW; (try dsimp only at hSW); have z0 := hSW.2; have q0 := Nat.lt_of_lt_of_le hG0 hSW.1.size; have q1 := Nat.lt_of_lt_of_le hl0 hSW.1.size; have q2 := Nat.lt_of_lt_of_le hl1 hSW.1.size; have q3 := Nat.lt_of_lt_of_le hT0 hSW.1.size; have z1 := hSW.1.cell f1 hnf; have z2 := hSW.1.cell f2 hnf; have z3 := hSW.1.cell t2 hnT; have z4 := hSW.1.cell v3 hnv; have z5 := hSW.1.cell u0 hnb; have z6 := hSW.1.cell u1 hnb; have z7 := hSW.1.cell u2 hnb; have z8 := hSW.1.cell u3 hnb; have z9 := hSW.1.cell u4 hnb; have q4 := Nat.lt_of_lt_of_le hgw0 hSW.1.size; go_simp; (try with_reducible rfl)
  try simp only [Act.put, bP, bQ, bT]
  refine rg_take 10 (some 24) (v := ?v11) rfl rfl (by kernel_rfl) (by kernel_rfl) (by kernel_rfl) (fun _ _ _ h => h) (by rfl) ?hy11 (by assumption) ?_
  case hy11 => intro W hSW; (try dsimp only at hSW); have z0 := hSW.2; have q0 := Nat.lt_of_lt_of_le hG0 hSW.1.size; have q1 := Nat.lt_of_lt_of_le hl0 hSW.1.size; have q2 := Nat.lt_of_lt_of_le hl1 hSW.1.size; have q3 := Nat.lt_of_lt_of_le hT0 hSW.1.size; have z1 := hSW.1.cell f1 hnf; have z2 := hSW.1.cell f2 hnf; have z3 := hSW.1.cell t2 hnT; have z4 := hSW.1.cell v3 hnv; have z5 := hSW.1.cell u0 hnb; have z6 := hSW.1.cell u1 hnb; have z7 := hSW.1.cell u2 hnb; have z8 := hSW.1.cell u3 hnb; have z9 := hSW.1.cell u4 hnb; have q4 := Nat.lt_of_lt_of_le hgw0 hSW.1.size; go_simp; (try with_reducible rfl)
  try simp only [Act.put, bP, bQ, bT]
  refine rg_take 11 (some 25) (v := ?v12) rfl rfl (by kernel_rfl) (by kernel_rfl) (by kernel_rfl) (fun _ _ _ h => h) (by rfl) ?hy12 (by assumption) ?_
  case hy12 => intro W hSW; (try dsimp only at hSW); have z0 := hSW.2; have q0 := Nat.lt_of_lt_of_le hG0 hSW.1.size; have q1 := Nat.lt_of_lt_of_le hl0 hSW.1.size; have q2 := Nat.lt_of_lt_of_le hl1 hSW.1.size; have q3 := Nat.lt_of_lt_of_le hT0 hSW.1.size; have z1 := hSW.1.cell f1 hnf; have z2 := hSW.1.cell f2 hnf; have z3 := hSW.1.cell t2 hnT; have z4 := hSW.1.cell v3 hnv; have z5 := hSW.1.cell u0 hnb; have z6 := hSW.1.cell u1 hnb; have z7 := hSW.1.cell u2 hnb; have z8 := hSW.1.cell u3 hnb; have z9 := hSW.1.cell u4 hnb; have q4 := Nat.lt_of_lt_of_le hgw0 hSW.1.size; go_simp; (try with_reducible rfl)
  try simp only [Act.put, bP, bQ, bT]
  refine rg_take 12 (some 26) (v := ?v13) rfl rfl (by kernel_rfl) (by kernel_rfl) (by kernel_rfl) (fun _ _ _ h => h) (by rfl) ?hy13 (by assumption) ?_
  case hy13 => intro W hSW; (try dsimp only at hSW); have z0 := hSW.2; have q0 := Nat.lt_of_lt_of_le hG0 hSW.1.size; have q1 := Nat.lt_of_lt_of_le hl0 hSW.1.size; have q2 := Nat.lt_of_lt_of_le hl1 hSW.1.size; have q3 := Nat.lt_of_lt_of_le hT0 hSW.1.size; have z1 := hSW.1.cell f1 hnf; have z2 := hSW.1.cell f2 hnf; have z3 := hSW.1.cell t2 hnT; have z4 := hSW.1.cell v3 hnv; have z5 := hSW.1.cell u0 hnb; have z6 := hSW.1.cell u1 hnb; have z7 := hSW.1.cell u2 hnb; have z8 := hSW.1.cell u3 hnb; have z9 := hSW.1.cell u4 hnb; have q4 := Nat.lt_of_lt_of_le hgw0 hSW.1.size; go_simp; (try with_reducible rfl)
  try simp only [Act.put, bP, bQ, bT]
  refine rg_take 13 (some 27) (v := ?v14) rfl rfl (by kernel_rfl) (by kernel_rfl) (by kernel_rfl) (fun _ _ _ h => h) (by rfl) ?hy14 (by assumption) ?_
  case hy14 => intro W hSW; (try dsimp only at hSW); have z0 := hSW.2; have q0 := Nat.lt_of_lt_of_le hG0 hSW.1.size; have q1 := Nat.lt_of_lt_of_le hl0 hSW.1.size; have q2 := Nat.lt_of_lt_of_le hl1 hSW.1.size; have q3 := Nat.lt_of_lt_of_le hT0 hSW.1.size; have z1 := hSW.1.cell f1 hnf; have z2 := hSW.1.cell f2 hnf; have z3 := hSW.1.cell t2 hnT; have z4 := hSW.1.cell v3 hnv; have z5 := hSW.1.cell u0 hnb; have z6 := hSW.1.cell u1 hnb; have z7 := hSW.1.cell u2 hnb; have z8 := hSW.1.cell u3 hnb; have z9 := hSW.1.cell u4 hnb; have q4 := Nat.lt_of_lt_of_le hgw0 hSW.1.size; go_simp; (try with_reducible rfl)
  try simp only [Act.put, bP, bQ, bT]
  refine rg_take 14 (some 28) (v := ?v15) rfl rfl (by kernel_rfl) (by kernel_rfl) (by kernel_rfl) (fun _ _ _ h => h) (by rfl) ?hy15 (by assumption) ?_
  case hy15 => intro W hSW; (try dsimp only at hSW); have z0 := hSW.2; have q0 := Nat.lt_of_lt_of_le hG0 hSW.1.size; have q1 := Nat.lt_of_lt_of_le hl0 hSW.1.size; have q2 := Nat.lt_of_lt_of_le hl1 hSW.1.size; have q3 := Nat.lt_of_lt_of_le hT0 hSW.1.size; have z1 := hSW.1.cell f1 hnf; have z2 := hSW.1.cell f2 hnf; have z3 := hSW.1.cell t2 hnT; have z4 := hSW.1.cell v3 hnv; have z5 := hSW.1.cell u0 hnb; have z6 := hSW.1.cell u1 hnb; have z7 := hSW.1.cell u2 hnb; have z8 := hSW.1.cell u3 hnb; have z9 := hSW.1.cell u4 hnb; have q4 := Nat.lt_of_lt_of_le hgw0 hSW.1.size; go_simp; (try with_reducible rfl)
  try simp only [Act.put, bP, bQ, bT]
  refine rg_take 15 (some 29) (v := ?v16) rfl rfl (by kernel_rfl) (by kernel_rfl) (by kernel_rfl) (fun _ _ _ h => h) (by rfl) ?hy16 (by assumption) ?_
  case hy16 => intro W hSW; (try dsimp only at hSW); have z0 := hSW.2; have q0 := Nat.lt_of_lt_of_le hG0 hSW.1.size; have q1 := Nat.lt_of_lt_of_le hl0 hSW.1.size; have q2 := Nat.lt_of_lt_of_le hl1 hSW.1.size; have q3 := Nat.lt_of_lt_of_le hT0 hSW.1.size; have z1 := hSW.1.cell f1 hnf; have z2 := hSW.1.cell f2 hnf; have z3 := hSW.1.cell t2 hnT; have z4 := hSW.1.cell v3 hnv; have z5 := hSW.1.cell u0 hnb; have z6 := hSW.1.cell u1 hnb; have z7 := hSW.1.cell u2 hnb; have z8 := hSW.1.cell u3 hnb; have z9 := hSW.1.cell u4 hnb; have q4 := Nat.lt_of_lt_of_le hgw0 hSW.1.size; go_simp; (try with_reducible rfl)
  try simp only [Act.put, bP, bQ, bT]
  refine rg_one 16 rfl (by kernel_rfl) (by rfl) (fun K hK => ?_)
  go_simp
  refine (hwi.out f.env u xen tu hel _ (belT hb0.out ((Below.refl _ _).drew)) (henv.out _ (belT hb0.out ((Below.refl _ _).drew))) (hru.out _ (belT hb0.out ((Below.refl _ _).drew)))).mono ?_
  rintro e9 w9 ⟨p9, rfl, he9, hb9⟩
  have hc9 : Below W0.heap.size W0 w9 := belT ((Below.refl _ _).drew) hb9
  refine hK.out _ _ ⟨Bar.of_below hc9, carry hc9 hG0 c3⟩ (fun hH9 => ?_)
  clear hK K
  try simp only [Act.put, bP, bQ, bT]
  refine rg_one 17 rfl (by kernel_rfl) (by rfl) (fun K hK => ?_)
  go_simp
  refine (hen.out _ p9 xb w9 (belT hb0.out hc9) he9).mono ?_
  rintro e8 w8 ⟨rfl, hf, hb8, c38⟩
  refine hK.out _ _ ⟨(Bar.of_below hc9).trans hb8 fun _ _ h => h, c38⟩ (fun hH8 => ?_)
  clear hK K
  try simp only [Act.put, bP, bQ, bT]
  refine wpAnyH_done (by kernel_rfl) ?_ _
  go_wp2_with fail
  all_goals go_end0
  all_goals exact ⟨rfl, hf⟩
 ·rw [show rBind ⟨xk, xa, xb, xc, xn, xx, xy, xz, xw⟩ stk f.node f.env (.op n u g) = .gv stk (.op n u (.bnd f.node f.env g)) from rfl]
  have hres := Lib.hid fun (W : World) (b : Nat) (hb : Below w.heap.size w W) (h1 : w.heap.size ≤ b) (h2 : b < W.heap.size) (h3 : ThO W b 0 ⟨3, i, xen, e, none⟩) => op_thr hbu hru hbe hrg hb (by rw [hfi]; obtain ⟨l, q1, q2⟩ := henv.out W hb; exact ⟨xen, l, e, te, rfl, q1, q2, hbe.bar (Bar.of_below (S := fun _ => False) hb) (fun _ h => h.elim), hrg.below hb⟩ : RR (Bp G sv) W (.bnd f.node f.env g) (.inl ⟨3, i, xen, e, none⟩)) (hbx.out W b 0 _ h1 h2 h3) (n := n)
  clear h hbu hru hbe hrg t0 t1 t2 t3 t4 t5 t6 t7 t8 c3
  go_enter Try.func83, Try.ntmps83
  go_wp2_with fail
  refine (through_any _ ⟨6, n, none, d, e⟩ ⟨3, i, xen, e, none⟩).mono ?_
  rintro e1 w1 ⟨b, rfl, hb, hbl, hth, hbw⟩
  have hB : Below w.heap.size w w1 := belT (show Below w.heap.size w _ from by (repeat' (first | (with_reducible first | exact bR _ _ | assumption | apply bS | apply bA | apply bD | apply bN | exact bL _) | (simp; done) | (simp; omega) | omega | exact bL _))) hbw
  have hr := Lib.hid (hres.out w1 b hB (by simp at hb; omega) hbl hth)
  have hB := Lib.hid hB
  clear hres hb hbl hth hbw
  go_wp2_with fail
  refine (hgv.out _ ⟨6, n, none, d, some ⟨b, 0, none⟩⟩ _ hB.out hr.out).mono ?_
  rintro e2 w2 ⟨rfl, hf, _, _⟩
  go_wp2_with fail
  all_goals go_end0
  all_goals exact ⟨rfl, hf⟩
 ·rw [he]
  obtain ⟨z0, z1, z2, z3, z4⟩ := t
  dsimp only at hn5 hn6 ⊢
  clear h t0 t1 t2 t3 t4 t5 t6 t7 t8 c3 hgv hen hwi henv hbx
  go_enter Try.func83, Try.ntmps83
  go_wp2_with fail
  refine (hst.out _ (by (repeat' (first | (with_reducible first | exact bR _ _ | assumption | apply bS | apply bA | apply bD | apply bN | exact bL _) | (simp; done) | (simp; omega) | omega | exact bL _)))).mono ?_
  rintro e2 w2 ⟨rfl, hf⟩
  go_wp2_with fail
  all_goals go_end0
  all_goals exact ⟨rfl, hf⟩
end Go.Proofs.Ytnjalpcmjkahkaa
