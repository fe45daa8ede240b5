/- The reference's engine for targets: a node is begun. -/
import Derived.Test.YtnjalpcmjkahkaaZt29
import Derived.Test.YtnjalpcmjkahkaaZt34
set_option maxRecDepth 100000
set_option maxHeartbeats 8000000
namespace Go.Proofs.Ytnjalpcmjkahkaa
open Go.RowKit
set_option linter.unusedVariables false
set_option linter.unusedSimpArgs false
theorem begin_lit (B G : Nat) (tv sv : Value) (c : Ec) (l : List Fx) (ts : List Tg) (w : World) (stk : List NF) (i : Nat) (env : NV)
  (h : Hid (ERc B G tv sv c l w)) (hv : Hid (MXv ts c l w (.ev stk i env))) (ht : Hid (TvR B G w tv ts)) (hi : i < ts.length) (hk : (ts.getD i tg0).k = 1 ∨ (ts.getD i tg0).k = 2 ∨ (ts.getD i tg0).k = 3 ∨ (ts.getD i tg0).k = 4) :
  Calls Try.prog 34 #[.pointer (some ⟨G, 0, none⟩)] w (NxP c.w0 ts B G tv (nNode (ts.getD i tg0) stk i env)) := by
 have hgive := Lib.hid fun (W : World) (t : V7) (hh : Hid (EcC W G tv sv c)) => gives_any W G tv sv c t hh
 obtain ⟨T, off, cp, rfl, hTB, hTG, hTw, hT⟩ := ht.out
 obtain ⟨he, hhv, hnd, hst, hR⟩ := hv.out
 have hG := h.out.ec.lt
 have c0 := h.out.ec.c0; have c3 := h.out.ec.c3; have c4 := h.out.ec.c4; have hfz := h.out.ec.fz
 rw [hnd] at c3
 obtain ⟨x, hx⟩ : ∃ x, ts.getD i tg0 = x := ⟨_, rfl⟩
 have hx0 := hT i hi
 rw [hx] at hx0 hk ⊢
 obtain ⟨xk, xa, xb, xc, xn, xx, xy, xz, xw⟩ := x
 obtain ⟨t0, t1, t2, t3, t4, t5, t6, t7, t8⟩ := hx0
 dsimp only at hk t0 t1 t2 t3 t4 t5 t6 t7 t8
 clear hT hR hst he hhv hx
 go_enter Try.func34, Try.ntmps34
 go_wp2_with fail
 go_region
 rcases hk with rfl | rfl | rfl | rfl
 ·go_wp2_with fail
  obtain ⟨W1, hW1, hb1⟩ : ∃ W1, W1 = (w.alloc (.cells #[.int .i64 1, .int .i64 xa, .int .i64 xb, .int .i64 xc, .int .i64 xn, .int .i64 xx, .int .i64 xy, .int .i64 xz, .int .i64 xw] 37)).drew ∧ Below w.heap.size w W1 := ⟨_, rfl, by (repeat' (first | (with_reducible first | exact bR _ _ | assumption | apply bS | apply bA | apply bD | apply bN | exact bL _) | (simp; done) | (simp; omega) | omega | exact bL _))⟩
  rw [← hW1]
  have h1 := h.out.below hb1
  have hs1 := hv.out.2.2.2.1.below hb1
  refine (hgive.out _ ⟨0, xn, 0, none, none, none⟩ (Lib.hid h1.ec)).mono ?_
  rintro e1 w1 hp
  have he1 := hp.1
  subst he1
  have hfin := Lib.hid (mx_gv (v := .num xn) h1 hs1 rfl hp)
  clear h1 hs1 hp hb1 hW1 hgive hfz c0 c3 c4 t0 t1 t2 t3 t4 t5 t6 t7 t8
  go_wp2_with fail
  all_goals go_end0
  all_goals exact ⟨rfl, hfin.out⟩
 ·go_wp2_with fail
  obtain ⟨W1, hW1, hb1⟩ : ∃ W1, W1 = (w.alloc (.cells #[.int .i64 2, .int .i64 xa, .int .i64 xb, .int .i64 xc, .int .i64 xn, .int .i64 xx, .int .i64 xy, .int .i64 xz, .int .i64 xw] 37)).drew ∧ Below w.heap.size w W1 := ⟨_, rfl, by (repeat' (first | (with_reducible first | exact bR _ _ | assumption | apply bS | apply bA | apply bD | apply bN | exact bL _) | (simp; done) | (simp; omega) | omega | exact bL _))⟩
  rw [← hW1]
  have h1 := h.out.below hb1
  have hs1 := hv.out.2.2.2.1.below hb1
  refine (hgive.out _ ⟨1, xn, 0, none, none, none⟩ (Lib.hid h1.ec)).mono ?_
  rintro e1 w1 hp
  have he1 := hp.1
  subst he1
  have hfin := Lib.hid (mx_gv (v := .tru xn) h1 hs1 rfl hp)
  clear h1 hs1 hp hb1 hW1 hgive hfz c0 c3 c4 t0 t1 t2 t3 t4 t5 t6 t7 t8
  go_wp2_with fail
  all_goals go_end0
  all_goals exact ⟨rfl, hfin.out⟩
 ·go_wp2_with fail
  obtain ⟨W1, hW1, hb1⟩ : ∃ W1, W1 = (w.alloc (.cells #[.int .i64 3, .int .i64 xa, .int .i64 xb, .int .i64 xc, .int .i64 xn, .int .i64 xx, .int .i64 xy, .int .i64 xz, .int .i64 xw] 37)).drew ∧ Below w.heap.size w W1 := ⟨_, rfl, by (repeat' (first | (with_reducible first | exact bR _ _ | assumption | apply bS | apply bA | apply bD | apply bN | exact bL _) | (simp; done) | (simp; omega) | omega | exact bL _))⟩
  rw [← hW1]
  have h1 := h.out.below hb1
  have hs1 := hv.out.2.2.2.1.below hb1
  have hr1 := hv.out.2.2.2.2.below hb1
  refine (hgive.out _ ⟨2, 0, i, c.en, none, none⟩ (Lib.hid h1.ec)).mono ?_
  rintro e1 w1 hp
  have he1 := hp.1
  subst he1
  have hfin := Lib.hid (mx_gv (v := .fn i env) h1 hs1 ⟨_, rfl, hr1⟩ hp)
  clear h1 hs1 hr1 hp hb1 hW1 hgive hfz c0 c3 c4 t0 t1 t2 t3 t4 t5 t6 t7 t8
  go_wp2_with fail
  all_goals go_end0
  all_goals exact ⟨rfl, hfin.out⟩
 ·go_wp2_with fail
  obtain ⟨W1, hW1, hb1⟩ : ∃ W1, W1 = (w.alloc (.cells #[.int .i64 4, .int .i64 xa, .int .i64 xb, .int .i64 xc, .int .i64 xn, .int .i64 xx, .int .i64 xy, .int .i64 xz, .int .i64 xw] 37)).drew ∧ Below w.heap.size w W1 := ⟨_, rfl, by (repeat' (first | (with_reducible first | exact bR _ _ | assumption | apply bS | apply bA | apply bD | apply bN | exact bL _) | (simp; done) | (simp; omega) | omega | exact bL _))⟩
  rw [← hW1]
  have h1 := h.out.below hb1
  have hs1 := hv.out.2.2.2.1.below hb1
  have hr1 := hv.out.2.2.2.2.below hb1
  refine (hgive.out _ ⟨2, 0, i, c.en, none, none⟩ (Lib.hid h1.ec)).mono ?_
  rintro e1 w1 hp
  have he1 := hp.1
  subst he1
  have hfin := Lib.hid (mx_gv (v := .fn i env) h1 hs1 ⟨_, rfl, hr1⟩ hp)
  clear h1 hs1 hr1 hp hb1 hW1 hgive hfz c0 c3 c4 t0 t1 t2 t3 t4 t5 t6 t7 t8
  go_wp2_with fail
  all_goals go_end0
  all_goals exact ⟨rfl, hfin.out⟩
theorem begin_name (B G : Nat) (tv sv : Value) (c : Ec) (l : List Fx) (ts : List Tg) (w : World) (stk : List NF) (i : Nat) (env : NV)
  (h : Hid (ERc B G tv sv c l w)) (hv : Hid (MXv ts c l w (.ev stk i env))) (ht : Hid (TvR B G w tv ts)) (hi : i < ts.length) (hk : (ts.getD i tg0).k = 0) (hl : l.length ≤ 4096) :
  Calls Try.prog 34 #[.pointer (some ⟨G, 0, none⟩)] w (NxP c.w0 ts B G tv (nNode (ts.getD i tg0) stk i env)) := by
 have hgive := Lib.hid fun (v : NV) (t : V7) (W : World) (hb : Below w.heap.size w W) (hh : VR W v (.inl t)) => gives_st h.out t W hb (hv.out.2.2.2.1.below hb) hh
 have hend := Lib.hid fun (W : World) (hb : Below w.heap.size w W) => end_st h.out (ts := ts) 5 0 W hb hl
 have hfind := Lib.hid fun (y : Int) (W : World) (hb : Below w.heap.size w W) => find17_any W env c.en y (Lib.hid (hv.out.2.2.2.2.below hb))
 obtain ⟨T, off, cp, rfl, hTB, hTG, hTw, hT⟩ := ht.out
 have hG := h.out.ec.lt
 have c0 := h.out.ec.c0; have c3 := h.out.ec.c3; have c4 := h.out.ec.c4; have hfz := h.out.ec.fz
 rw [hv.out.2.2.1] at c3
 obtain ⟨x, hx⟩ : ∃ x, ts.getD i tg0 = x := ⟨_, rfl⟩
 have hx0 := hT i hi
 rw [hx] at hx0 hk ⊢
 obtain ⟨xk, xa, xb, xc, xn, xx, xy, xz, xw⟩ := x
 obtain ⟨t0, t1, t2, t3, t4, t5, t6, t7, t8⟩ := hx0
 dsimp only at hk t0 t1 t2 t3 t4 t5 t6 t7 t8
 subst hk
 have hno : env.find xn = none → nNode ⟨0, xa, xb, xc, xn, xx, xy, xz, xw⟩ stk i env = .en 5 0 := fun e => by unfold nNode; rw [if_pos rfl, e]
 have hat : ∀ v, env.find xn = some v → nNode ⟨0, xa, xb, xc, xn, xx, xy, xz, xw⟩ stk i env = .gv stk v := fun v e => by unfold nNode; rw [if_pos rfl, e]
 have hno := Lib.hid hno; have hat := Lib.hid hat
 clear hT hx
 go_enter Try.func34, Try.ntmps34
 go_wp2_with fail
 go_region
 go_wp2_with fail
 refine (hfind.out xn _ (by (repeat' (first | (with_reducible first | exact bR _ _ | assumption | apply bS | apply bA | apply bD | apply bN | exact bL _) | (simp; done) | (simp; omega) | omega | exact bL _)))).mono ?_
 rintro e1 w1 ⟨t, ok, rfl, hb1, hX⟩
 have hB1 : Below w.heap.size w w1 := belT (by (repeat' (first | (with_reducible first | exact bR _ _ | assumption | apply bS | apply bA | apply bD | apply bN | exact bL _) | (simp; done) | (simp; omega) | omega | exact bL _))) hb1
 obtain ⟨tk, tn, td, te, ta, tb⟩ := t
 rcases hX with ⟨hX, rfl⟩ | ⟨v, hX, rfl, hvv⟩
 ·have hE := Lib.hid (hno.out hX)
  clear hb1 hX hfind hgive hno hat c0 c3 c4 t0 t1 t2 t3 t4 t5 t6 t7 t8
  go_wp2_with fail
  refine (hend.out _ (belT hB1 (by (repeat' (first | (with_reducible first | exact bR _ _ | assumption | apply bS | apply bA | apply bD | apply bN | exact bL _) | (simp; done) | (simp; omega) | omega | exact bL _))))).mono ?_
  rintro e2 w2 ⟨hp, hb2, hg2⟩
  have he2 := hp.1
  subst he2
  have hnb : ¬ Bq G w1.heap.size := fun e => by have e : w1.heap.size = G := e; have := hB1.size; omega
  have x0 : w2.cell? ⟨w1.heap.size, 0, none⟩ = some (.int .i64 tk) := hb2.cell (by simp [go_sem]) hnb
  have x1 : w2.cell? ⟨w1.heap.size, 1, none⟩ = some (.int .i64 tn) := hb2.cell (by simp [go_sem]) hnb
  have x2 : w2.cell? ⟨w1.heap.size, 2, none⟩ = some (.int .i64 td) := hb2.cell (by simp [go_sem]) hnb
  have x3 : w2.cell? ⟨w1.heap.size, 3, none⟩ = some (.pointer te) := hb2.cell (by simp [go_sem]) hnb
  have x4 : w2.cell? ⟨w1.heap.size, 4, none⟩ = some (.slice none 0 0) := hb2.cell (by simp [go_sem]) hnb
  have x5 : w2.cell? ⟨w1.heap.size, 5, none⟩ = some (.pointer ta) := hb2.cell (by simp [go_sem]) hnb
  have x6 : w2.cell? ⟨w1.heap.size, 6, none⟩ = some (.pointer tb) := hb2.cell (by simp [go_sem]) hnb
  have hg2 := Lib.hid hg2
  clear hb2 hB1 hp hend
  go_wp2_with fail
  refine (hg2.out ⟨tk, tn, td, te, ta, tb⟩ _ (by (repeat' (first | (with_reducible first | exact bR _ _ | assumption | apply bS | apply bA | apply bD | apply bN | exact bL _) | (simp; done) | (simp; omega) | omega | exact bL _)))).mono ?_
  rintro e3 w3 hf
  have he3 := hf.1
  subst he3
  have hf := Lib.hid (show NxP c.w0 ts B G (.slice (some ⟨T, off, none⟩) ts.length cp) (nNode _ stk i env) _ w3 from by rw [hE.out]; exact hf)
  clear hg2
  go_wp2_with fail
  all_goals go_end0
  all_goals exact hf.out
 ·have hE := Lib.hid (hat.out v hX)
  have hvv := hvv.below hb1
  clear hb1 hX hfind hend hno hat c0 c3 c4 t0 t1 t2 t3 t4 t5 t6 t7 t8
  go_wp2_with fail
  have hB2 := belT hB1 (below_alc w1 (.cells #[.int .i64 tk, .int .i64 tn, .int .i64 td, .pointer te, .slice none 0 0, .pointer ta, .pointer tb] 67))
  refine (hgive.out v ⟨tk, tn, td, te, ta, tb⟩ _ (belT hB1 (by (repeat' (first | (with_reducible first | exact bR _ _ | assumption | apply bS | apply bA | apply bD | apply bN | exact bL _) | (simp; done) | (simp; omega) | omega | exact bL _)))) (hvv.below (by (repeat' (first | (with_reducible first | exact bR _ _ | assumption | apply bS | apply bA | apply bD | apply bN | exact bL _) | (simp; done) | (simp; omega) | omega | exact bL _))))).mono ?_
  rintro e3 w3 ⟨hf, -⟩
  have he3 := hf.1
  subst he3
  have hf := Lib.hid (show NxP c.w0 ts B G (.slice (some ⟨T, off, none⟩) ts.length cp) (nNode _ stk i env) _ w3 from by rw [hE.out]; exact hf)
  clear hgive hvv
  go_wp2_with fail
  all_goals go_end0
  all_goals exact hf.out
theorem begin_go (B G : Nat) (tv sv : Value) (c : Ec) (l : List Fx) (ts : List Tg) (w : World) (stk : List NF) (i : Nat) (env : NV)
  (h : Hid (ERc B G tv sv c l w)) (hv : Hid (MXv ts c l w (.ev stk i env))) (ht : Hid (TvR B G w tv ts)) (hi : i < ts.length) (hk : 5 ≤ (ts.getD i tg0).k ∧ (ts.getD i tg0).k ≤ 12) (hl : l.length ≤ 4096) :
  Calls Try.prog 34 #[.pointer (some ⟨G, 0, none⟩)] w (NxP c.w0 ts B G tv (nNode (ts.getD i tg0) stk i env)) := by
 have hpush := Lib.hid fun (f : Fx) (W : World) (hb : Below w.heap.size w W) => push_st h.out (ts := ts) f W hb (by omega)
 have hnb := Lib.hid (h.out.nbox (g := w.heap.size) (Nat.le_refl _))
 obtain ⟨T, off, cp, rfl, hTB, hTG, hTw, hT⟩ := ht.out
 have hG := h.out.ec.lt
 have c0 := h.out.ec.c0; have c3 := h.out.ec.c3; have c4 := h.out.ec.c4; have hfz := h.out.ec.fz
 rw [hv.out.2.2.1] at c3
 obtain ⟨x, hx⟩ : ∃ x, ts.getD i tg0 = x := ⟨_, rfl⟩
 have hx0 := hT i hi
 have hnd : ndT ts (i : Int) = x := hx
 rw [hx] at hx0 hk ⊢
 have hfx := Lib.hid (show FX ts w ⟨0, i, env, .num 0⟩ ⟨fkn x.k, i, c.en, v70⟩ from ⟨⟨by show (0 : Int) ≤ i; omega, by show (i : Int) < _; omega⟩, .inl ⟨rfl, rfl, by rw [hnd]; exact hk, by rw [hnd], hv.out.2.2.2.2⟩⟩)
 have hnn : nNode x stk i env = .ev (⟨0, i, env, .num 0⟩ :: stk) x.a env := by unfold nNode; rw [if_neg (by omega), if_neg (by omega), if_neg (by omega), if_neg (by omega)]
 rw [hnn]
 obtain ⟨xk, xa, xb, xc, xn, xx, xy, xz, xw⟩ := x
 obtain ⟨t0, t1, t2, t3, t4, t5, t6, t7, t8⟩ := hx0
 dsimp only at hk t0 t1 t2 t3 t4 t5 t6 t7 t8 hfx ⊢
 clear hT hx hnd hnn
 have hk8 : xk = 5 ∨ xk = 6 ∨ xk = 7 ∨ xk = 8 ∨ xk = 9 ∨ xk = 10 ∨ xk = 11 ∨ xk = 12 := by omega
 clear hk
 go_enter Try.func34, Try.ntmps34
 go_wp2_with fail
 go_region
 rcases hk8 with rfl | rfl | rfl | rfl | rfl | rfl | rfl | rfl
 all_goals
  go_wp2_with fail
  refine (hpush.out ⟨_, i, c.en, v70⟩ _ (by (repeat' (first | (with_reducible first | exact bR _ _ | assumption | apply bS | apply bA | apply bD | apply bN | exact bL _) | (simp; done) | (simp; omega) | omega | exact bL _)))).mono ?_
  rintro e1 w1 ⟨rfl, sv1, h1, hb1, hs1, hv1⟩
  have x1 : w1.cell? ⟨w.heap.size, 1, none⟩ = some (.int .i64 xa) := hb1.cell (by simp [go_sem]) hnb.out
  have hbw : w.heap.size < w1.heap.size := Nat.lt_of_lt_of_le (by simp) hb1.size
  have hs2 := Lib.hid (hs1 hv.out.2.2.2.1 hfx.out)
  have hv2 := Lib.hid (hv1 hv.out.2.2.2.2)
  have h1 := Lib.hid h1
  clear hb1 hs1 hv1 hpush c0 c3 c4 t0 t1 t2 t3 t4 t5 t6 t7 t8
  go_wp2_with fail
  refine (goes_st h1.out xa _ (by (repeat' (first | (with_reducible first | exact bR _ _ | assumption | apply bS | apply bA | apply bD | apply bN | exact bL _) | (simp; done) | (simp; omega) | omega | exact bL _))) (hs2.out.below (by (repeat' (first | (with_reducible first | exact bR _ _ | assumption | apply bS | apply bA | apply bD | apply bN | exact bL _) | (simp; done) | (simp; omega) | omega | exact bL _)))) (hv2.out.below (by (repeat' (first | (with_reducible first | exact bR _ _ | assumption | apply bS | apply bA | apply bD | apply bN | exact bL _) | (simp; done) | (simp; omega) | omega | exact bL _))))).mono ?_
  rintro e2 w2 ⟨hf, -⟩
  have he2 := hf.1
  subst he2
  have hf := Lib.hid hf
  clear h1 hs2 hv2
  go_wp2_with fail
  all_goals go_end0
  all_goals exact hf.out
theorem begin_any (B G : Nat) (tv sv : Value) (c : Ec) (l : List Fx) (ts : List Tg) (w : World) (stk : List NF) (n : Int) (env : NV)
  (h : Hid (ERc B G tv sv c l w)) (hv : Hid (MXv ts c l w (.ev stk n env))) (ht : Hid (TvR B G w tv ts)) (hn : 0 ≤ n ∧ n < ts.length) (hkk : KK ts) (hl : l.length ≤ 4096) :
  Calls Try.prog 34 #[.pointer (some ⟨G, 0, none⟩)] w (NxP c.w0 ts B G tv (nNode (ndT ts n) stk n env)) := by
 obtain ⟨i, rfl⟩ : ∃ i : Nat, n = i := ⟨n.toNat, by omega⟩
 have hi : i < ts.length := by omega
 have hk := hkk (i : Int)
 have e : ndT ts (i : Int) = ts.getD i tg0 := rfl
 rw [e] at hk ⊢
 by_cases h0 : (ts.getD i tg0).k = 0
 ·exact begin_name B G tv sv c l ts w stk i env h hv ht hi h0 hl
 by_cases h5 : 5 ≤ (ts.getD i tg0).k
 ·exact begin_go B G tv sv c l ts w stk i env h hv ht hi ⟨h5, hk.2⟩ hl
 ·exact begin_lit B G tv sv c l ts w stk i env h hv ht hi (by omega)
open Go.RowKit
theorem nodeStep_any (B G : Nat) (tv fv sv : Value) (c : Mc) (l : List Fr) (ts : List Tg) (fur : List Int) (w : World) (stk : List RF) (i : Nat) (env : RV)
  (h : Hid (MRc B G tv fv sv c l w)) (hv : Hid (MRv G sv c l w (.ev stk i env))) (ht : Hid (TvR B G w tv ts)) (hF : Hid (FvR B G w fv fur)) (hi : i < ts.length) (hfl : fur.length = ts.length)
  (hfb : -1 ≤ fur.getD i 0 ∧ fur.getD i 0 ≤ 1000000000) (hel : env.list.length ≤ 1000000000) (hsl : stk.length ≤ 4096) :
  Calls Try.prog 73 #[.pointer (some ⟨G, 0, none⟩)] w (NsP c.w0 B G tv fv (rNode (ts.getD i tg0) (fur.getD i 0) stk i env)) := by
 by_cases h0 : (ts.getD i tg0).k = 0
 ·exact nodeStep_var B G tv fv sv c l ts fur w stk i env h hv ht hF hi hfl hfb hel h0
 by_cases h1 : (ts.getD i tg0).k = 1 ∨ (ts.getD i tg0).k = 2 ∨ (ts.getD i tg0).k = 3 ∨ (ts.getD i tg0).k = 4
 ·exact nodeStep_lit B G tv fv sv c l ts fur w stk i env h hv ht hi h1
 ·exact nodeStep_go B G tv fv sv c l ts fur w stk i env h hv ht hi hsl ⟨h0, by omega, by omega, by omega, by omega⟩
theorem FvR.bar {B G : Nat} {w w' : World} {fv : Value} {fur : List Int} (h : FvR B G w fv fur) (hb : Bar (Bq G) w w') : FvR B G w' fv fur := by
 obtain ⟨F, c, h1, h2, h3, h4, h5⟩ := h
 exact ⟨F, c, h1, h2, h3, Nat.lt_of_lt_of_le h4 hb.size, fun i hi => hb.cell (h5 i hi) (fun e => h3 e)⟩
theorem rBack_0 {ts : List Tg} {fur : List Int} {f : RF} {v : RV} {stk : List RF} (h : f.st = 0) : rBack ts fur f v stk = rFirst (ndT ts f.node) (fur.getD f.node.toNat 0) f v stk := by unfold rBack; rw [if_pos h]
theorem rBack_1 {ts : List Tg} {fur : List Int} {f : RF} {v : RV} {stk : List RF} (h : f.st = 1) : rBack ts fur f v stk = rSecond (ndT ts f.node) f v stk := by unfold rBack; rw [if_neg (by omega), if_pos h]
theorem rBack_2 {ts : List Tg} {fur : List Int} {f : RF} {v : RV} {stk : List RF} (h : f.st = 2) : rBack ts fur f v stk = rApply ts f.val v stk := by unfold rBack; rw [if_neg (by omega), if_neg (by omega), if_pos h]
theorem rBack_no {ts : List Tg} {fur : List Int} {f : RF} {v : RV} {stk : List RF} (h : ¬ f.st = 0 ∧ ¬ f.st = 1 ∧ ¬ f.st = 2) : rBack ts fur f v stk = .gv stk v := by unfold rBack; rw [if_neg h.1, if_neg h.2.1, if_neg h.2.2]
theorem Wk.ak {B G : Nat} {tv fv sv : Value} {c : Mc} {l : List Fr} {ts : List Tg} {stk : List RF} {f : RF} {x : Fr} {v : RV} {t : Th} {w : World} (h : Wk B G tv fv sv c l ts stk f x v t w) : Ak B G tv fv sv c l ts stk f.val v x.th t w := ⟨h.mr, h.no, h.st, h.fr.2.2.2, h.vl, h.tv⟩
theorem step_ev (B G : Nat) (tv fv sv : Value) (c : Mc) (l : List Fr) (ts : List Tg) (fur : List Int) (w : World) (stk : List RF) (n : Int) (env : RV)
  (h : Hid (MRc B G tv fv sv c l w)) (hv : Hid (MRv G sv c l w (.ev stk n env))) (ht : Hid (TvR B G w tv ts)) (hF : Hid (FvR B G w fv fur)) (hn : 0 ≤ n ∧ n < ts.length) (hfl : fur.length = ts.length)
  (hfb : ∀ i, -1 ≤ fur.getD i 0 ∧ fur.getD i 0 ≤ 1000000000) (hel : env.list.length ≤ 1000000000) (hsl : stk.length ≤ 4096) :
  Calls Try.prog 70 #[.pointer (some ⟨G, 0, none⟩)] w (NsP c.w0 B G tv fv (rStep ts fur (.ev stk n env))) := by
 obtain ⟨i, rfl⟩ : ∃ i : Nat, n = i := ⟨n.toNat, by omega⟩
 have hns := Lib.hid fun (W : World) (hb : Below w.heap.size w W) => nodeStep_any B G tv fv sv c l ts fur W stk i env (Lib.hid (h.out.below hb)) (Lib.hid (hv.out.below hb)) (Lib.hid (ht.out.below hb)) (Lib.hid (hF.out.below hb)) (by omega) hfl (hfb i) hel hsl
 have e : rStep ts fur (.ev stk (i : Int) env) = rNode (ts.getD i tg0) (fur.getD i 0) stk i env := rfl
 rw [e]
 obtain ⟨R, hR⟩ : ∃ R, rNode (ts.getD i tg0) (fur.getD i 0) stk i env = R := ⟨_, rfl⟩
 rw [hR] at hns ⊢
 have hG := h.out.mc.lt
 have c6 := h.out.mc.c6
 rw [hv.out.2.1] at c6
 clear h hv ht hF hR e
 go_enter Try.func70, Try.ntmps70
 go_wp2_with fail
 refine (hns.out _ (by (repeat' (first | (with_reducible first | exact bR _ _ | assumption | apply bS | apply bA | apply bD | apply bN | exact bL _) | (simp; done) | (simp; omega) | omega | exact bL _)))).mono ?_
 rintro e w1 ⟨rfl, h1⟩
 go_wp2_with fail
 go_end0
 exact ⟨rfl, h1⟩
theorem pop_rep {B G : Nat} {tv fv sv sv' : Value} {c : Mc} {l : List Fr} {x : Fr} {w : World} {stk : List RF} {f : RF} {v : RV} {ts : List Tg} {g cp : Nat} (h : MRc B G tv fv sv c (l ++ [x]) w) (he : c.ended = false) (hs : StR (Bp G sv) w stk l) (hf : FrR (Bp G sv) w f x) (hv : RR (Bp G sv) w v (.inl c.th)) (ht : TvR B G w tv ts) (hn : 0 ≤ f.node ∧ f.node < ts.length)
  (hsv : sv = .slice (some ⟨g, 0, none⟩) (l.length + 1) cp) (hsv' : sv' = .slice (some ⟨g, 0, none⟩) l.length cp) (ho : OwnF B w sv' l) {W : World} (hb : Below w.heap.size w W) :
  Wk B G tv fv sv' c l ts stk f x v c.th (W.setCell ⟨G, 5, none⟩ sv') ∧ Bar (Bq G) W (W.setCell ⟨G, 5, none⟩ sv') := by
 have hB : Bar (Bq G) W (W.setCell ⟨G, 5, none⟩ sv') := Bar.set (S := Bq G) ⟨G, 5, none⟩ _ rfl
 have hob : ∀ k, sv'.ownBlock = some k → sv.ownBlock = some k ∨ W.heap.size ≤ k := fun k hk => by
  subst hsv hsv'; exact .inl hk
 have h1 := h.below hb
 have hE := h1.enF
 have hne : ∀ k, sv'.ownBlock = some k → ¬ Bq G k := fun k hk e => by
  have := (own_lt ho k hk).1
  have e : k = G := e
  have := h.gB; omega
 refine ⟨⟨⟨h1.mc.setS sv', Bar.own hB (ho.below hb) hne, h1.gB, by have := h1.bl; simp; omega, fun k hk => (hob k hk).elim (h1.kS k) fun hle hkp => by have := h1.mc.kl k hkp; omega⟩, he, (hs.below hb).step (bq_bp hB) hE hob, (hf.below hb).step (bq_bp hB) hE hob, (hv.below hb).step (bq_bp hB) hE hob, (ht.below hb).bar h1.own (bq_bp hB), hn⟩, hB⟩
theorem step_gv (B G : Nat) (tv fv sv : Value) (c : Mc) (l : List Fr) (ts : List Tg) (fur : List Int) (w : World) (stk : List RF) (f : RF) (v : RV)
  (h : Hid (MRc B G tv fv sv c l w)) (hv : Hid (MRv G sv c l w (.gv (f :: stk) v))) (ht : Hid (TvR B G w tv ts)) (hF : Hid (FvR B G w fv fur)) (hfl : fur.length = ts.length)
  (hfb : ∀ i, -1 ≤ fur.getD i 0 ∧ fur.getD i 0 ≤ 1000000000) (hsl : stk.length ≤ 4096) {K : Nat} (hK : K ≤ 900000000) (hfit : RM.fit ts K (.gv (f :: stk) v)) (hkid : KidIn ts) :
  Calls Try.prog 70 #[.pointer (some ⟨G, 0, none⟩)] w (NsP c.w0 B G tv fv (rStep ts fur (.gv (f :: stk) v))) := by
 obtain ⟨he, hhv, ⟨l', x, rfl, hfr, hst⟩, hvl⟩ := hv.out
 obtain ⟨g, cp, hsv, hcp, hgB, hgw, ⟨x0, x1, x2, x3, x4, x5, x6, x7⟩, hown⟩ := OwnF.pop h.out.own
 obtain ⟨hvf, hsf⟩ := hfit
 have hff := hsf f (.head _)
 have hG := h.out.mc.lt
 have hGB := h.out.gB
 have c5 := h.out.mc.c5
 have c6 := h.out.mc.c6
 have hfz := h.out.mc.fz
 rw [hhv] at c6
 have hpop := Lib.hid fun (W : World) (hb : Below w.heap.size w W) => pop_rep h.out he hst hfr hvl ht.out hff.node hsv rfl hown hb
 have hFb := Lib.hid fun (W : World) (hb : Below w.heap.size w W) => hF.out.below hb
 have hlen := hst.len
 obtain ⟨p, hp⟩ : ∃ p, l'.length = p := ⟨_, rfl⟩
 have hpl : p ≤ 4096 := by omega
 have hw : IntKind.i64.wrap (p : Int) = p := IntWalk.i64_in _ (by omega)
 have hp0 : (0 : Int) ≤ (p : Int) := by omega
 have hp1 : (p : Int) < (p : Int) + 1 := by omega
 rw [hp] at hsv x0 x1 x2 x3 x4 x5 x6 x7 hpop hcp
 simp only [Nat.zero_add] at x0 x1 x2 x3 x4 x5 x6 x7
 rw [hsv] at c5
 have e : rStep ts fur (.gv (f :: stk) v) = rBack ts fur f v stk := rfl
 rw [e]
 obtain ⟨R, hR0⟩ : ∃ R, rBack ts fur f v stk = R := ⟨_, rfl⟩
 rw [hR0]
 have hR := Lib.hid hR0
 clear hR0
 obtain ⟨st, nd, en, th⟩ := x
 obtain ⟨th0', th1, th2, th3, th4⟩ := th
 dsimp only at x0 x1 x2 x3 x4 x5 x6 x7
 go_enter Try.func70, Try.ntmps70
 go_wp2_with fail
 clear h hv ht hF e hfr hst hvl hown hp hsv hlen
 go_region
 obtain ⟨W1, hW1, hb1⟩ : ∃ W, W = (w.alloc (.cells #[.int .i64 st, .int .i64 nd, .pointer en, .int .i64 th0', .int .i64 th1, .pointer th2, .pointer th3, .pointer th4] 129)).drew ∧ Below w.heap.size w W := ⟨_, rfl, by (repeat' (first | (with_reducible first | exact bR _ _ | assumption | apply bS | apply bA | apply bD | apply bN | exact bL _) | (simp; done) | (simp; omega) | omega | exact bL _))⟩
 rw [← hW1]
 have b0 : W1.cell? ⟨w.heap.size, 0, none⟩ = some (.int .i64 st) := by rw [hW1]; simp [go_sem]
 have b1 : W1.cell? ⟨w.heap.size, 1, none⟩ = some (.int .i64 nd) := by rw [hW1]; simp [go_sem]
 have b2 : W1.cell? ⟨w.heap.size, 2, none⟩ = some (.pointer en) := by rw [hW1]; simp [go_sem]
 have b3 : W1.cell? ⟨w.heap.size, 3, none⟩ = some (.int .i64 th0') := by rw [hW1]; simp [go_sem]
 have b4 : W1.cell? ⟨w.heap.size, 4, none⟩ = some (.int .i64 th1) := by rw [hW1]; simp [go_sem]
 have b5 : W1.cell? ⟨w.heap.size, 5, none⟩ = some (.pointer th2) := by rw [hW1]; simp [go_sem]
 have b6 : W1.cell? ⟨w.heap.size, 6, none⟩ = some (.pointer th3) := by rw [hW1]; simp [go_sem]
 have b7 : W1.cell? ⟨w.heap.size, 7, none⟩ = some (.pointer th4) := by rw [hW1]; simp [go_sem]
 have hlB : w.heap.size < W1.heap.size := by rw [hW1]; simp
 have hG1 : G < W1.heap.size := Nat.lt_of_lt_of_le hG hb1.size
 have c5 : W1.cell? _ = _ := carry hb1 hG c5
 have hfz : W1.frozen? ⟨G, 5, none⟩ = false := (hb1.frozen (p := ⟨G, 5, none⟩) hG).trans (hfz 5)
 have hcp : p ≤ cp := by omega
 have hpop := Lib.hid (hpop.out W1 hb1)
 have hFb := Lib.hid (hFb.out W1 hb1)
 clear hW1 x0 x1 x2 x3 x4 x5 x6 x7
 have hb1 := Lib.hid hb1
 go_wp2_with fail
 go_region
 obtain ⟨W2, hW2⟩ : ∃ W, (W1.setCell ⟨G, 5, none⟩ (.slice (some ⟨g, 0, none⟩) p cp)).drew = W := ⟨_, rfl⟩
 rw [hW2]
 obtain ⟨hwk, hbar⟩ := hpop.out
 have hbd : Below (W1.setCell ⟨G, 5, none⟩ (.slice (some ⟨g, 0, none⟩) p cp)).heap.size (W1.setCell ⟨G, 5, none⟩ (.slice (some ⟨g, 0, none⟩) p cp)) W2 := by rw [← hW2]; exact (Below.refl _ _).drew
 have hwk := Lib.hid (hwk.below hbd)
 have hF2 := Lib.hid ((hFb.out.bar hbar).below hbd)
 have hb2 : Bar (Bq G) W1 W2 := hbar.next hbd
 have hnf : ¬ Bq G w.heap.size := fun e => by have e : w.heap.size = G := e; omega
 have b0 : W2.cell? _ = _ := hb2.cell b0 hnf
 have b1 : W2.cell? _ = _ := hb2.cell b1 hnf
 have b2 : W2.cell? _ = _ := hb2.cell b2 hnf
 have b3 : W2.cell? _ = _ := hb2.cell b3 hnf
 have b4 : W2.cell? _ = _ := hb2.cell b4 hnf
 have b5 : W2.cell? _ = _ := hb2.cell b5 hnf
 have b6 : W2.cell? _ = _ := hb2.cell b6 hnf
 have b7 : W2.cell? _ = _ := hb2.cell b7 hnf
 have hl2 : w.heap.size < W2.heap.size := Nat.lt_of_lt_of_le hlB hb2.size
 have hG2 : G < W2.heap.size := Nat.lt_of_lt_of_le hG1 hb2.size
 have c7 := hwk.out.mr.mc.c7; have c8 := hwk.out.mr.mc.c8; have c9 := hwk.out.mr.mc.c9; have c10 := hwk.out.mr.mc.c10; have c11 := hwk.out.mr.mc.c11
 have hst0 := Lib.hid (show st = f.st from hwk.out.fr.1)
 clear hW2 hbd hbar hb2 hpop hFb c5 c6 hfz hw hp0 hp1 hcp hpl hlB hG1 hb1
 by_cases hs0 : f.st = 0
 ·have hcl := Lib.hid fun (W : World) (hb : Below W2.heap.size W2 W) => first_any B G tv fv _ c l' ts fur W stk f _ v c.th (Lib.hid (hwk.out.below hb)) (Lib.hid (hF2.out.below hb)) hfl (hfb _) hsl (Nat.le_trans hff.len hK) ⟨hhv, rfl⟩
  rw [(rBack_0 hs0).symm.trans hR.out] at hcl
  obtain rfl := hst0.out.trans hs0
  clear hwk hF2 hR hst0 hs0 hfl hfb hff hsf hvf
  unfold Fr.val Th.val at hcl
  dsimp only at hcl
  go_wp2_with fail
  go_region_with (refine (hcl.out _ (by (repeat' (first | (with_reducible first | exact bR _ _ | assumption | apply bS | apply bA | apply bD | apply bN | exact bL _) | (simp; done) | (simp; omega) | omega | exact bL _)))).mono ?_; rintro e9 w9 ⟨rfl, h9⟩)
  all_goals
   go_wp2_with fail
   all_goals go_end0
   all_goals exact ⟨rfl, h9⟩
 by_cases hs0 : f.st = 1
 ·have hcl := Lib.hid fun (W : World) (hb : Below W2.heap.size W2 W) => second_any B G tv fv _ c l' ts W stk f _ v c.th (Lib.hid (hwk.out.below hb)) (L := ts.length) (K := K) (fun h10 => (hff.two hs0).elim (fun h8 => (hkid.at_ hff.node).1 h8) (fun h => absurd h h10)) hff.val hvf
  rw [(rBack_1 hs0).symm.trans hR.out] at hcl
  obtain rfl := hst0.out.trans hs0
  clear hwk hF2 hR hst0 hs0 hfl hfb hff hsf hvf
  unfold Fr.val Th.val at hcl
  dsimp only at hcl
  go_wp2_with fail
  go_region_with (refine (hcl.out _ (by (repeat' (first | (with_reducible first | exact bR _ _ | assumption | apply bS | apply bA | apply bD | apply bN | exact bL _) | (simp; done) | (simp; omega) | omega | exact bL _)))).mono ?_; rintro e9 w9 ⟨rfl, h9⟩)
  all_goals
   go_wp2_with fail
   all_goals go_end0
   all_goals exact ⟨rfl, h9⟩
 by_cases hs0 : f.st = 2
 ·have hcl := Lib.hid fun (W : World) (hb : Below W2.heap.size W2 W) => applyF_any B G tv fv _ c l' ts W stk f.val v _ c.th (Lib.hid (hwk.out.below hb).ak) (K := K) hsl hff.val hK
  rw [(rBack_2 hs0).symm.trans hR.out] at hcl
  obtain rfl := hst0.out.trans hs0
  clear hwk hF2 hR hst0 hs0 hfl hfb hff hsf hvf
  unfold Th.val at hcl
  dsimp only at hcl
  go_wp2_with fail
  go_region_with (refine (hcl.out _ (by (repeat' (first | (with_reducible first | exact bR _ _ | assumption | apply bS | apply bA | apply bD | apply bN | exact bL _) | (simp; done) | (simp; omega) | omega | exact bL _)))).mono ?_; rintro e9 w9 ⟨rfl, h9⟩)
  all_goals
   go_wp2_with fail
   all_goals go_end0
   all_goals exact ⟨rfl, h9⟩
 obtain rfl := hR.out.symm.trans (rBack_no ⟨by assumption, by assumption, by assumption⟩)
 have q0 : st ≠ 0 := by rw [hst0.out]; assumption
 have q1 : st ≠ 1 := by rw [hst0.out]; assumption
 have q2 : st ≠ 2 := by rw [hst0.out]; assumption
 go_wp2_with fail
 all_goals go_end0
 all_goals exact ⟨rfl, _, c, l', rfl, hwk.out.mr, hwk.out.no, hhv, hwk.out.st, hwk.out.vl⟩
end Go.Proofs.Ytnjalpcmjkahkaa
