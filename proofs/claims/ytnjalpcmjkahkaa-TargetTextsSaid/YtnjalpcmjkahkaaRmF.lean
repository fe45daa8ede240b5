/- The machine of layer 21: a step at a node. -/
import Derived.Test.YtnjalpcmjkahkaaRmE
namespace Go.Proofs.Ytnjalpcmjkahkaa
open Go.RowKit
set_option linter.unusedVariables false
set_option linter.unusedSimpArgs false

theorem FrR.below {A : Nat → Prop} {W W' : World} {f : RF} {x : Fr} (h : FrR A W f x) (hb : Below W.heap.size W W') : FrR A W' f x := by
  obtain ⟨h1, h2, ⟨l, h3, h4⟩, h5⟩ := h
  exact ⟨h1, h2, ⟨l, h3.below hb, h4.below hb⟩, h5.below hb⟩
theorem StR.below {A : Nat → Prop} {W W' : World} (hb : Below W.heap.size W W') : ∀ {s : List RF} {l : List Fr}, StR A W s l → StR A W' s l
  | [], _, h => h
  | f :: s, _, ⟨l', x, h, hf, hr⟩ => ⟨l', x, h, hf.below hb, StR.below hb hr⟩
theorem MRv.below {G : Nat} {sv : Value} {c : Mc} {l : List Fr} {w w' : World} {m : RM} (h : MRv G sv c l w m) (hb : Below w.heap.size w w') : MRv G sv c l w' m := by
  cases m with
  | ev stk node env => obtain ⟨h1, h2, h3, h4, e, h5, h6⟩ := h; exact ⟨h1, h2, h3, h4.below hb, e, h5.below hb, h6.below hb⟩
  | gv stk v => obtain ⟨h1, h2, h3, h4⟩ := h; exact ⟨h1, h2, h3.below hb, h4.below hb⟩
  | en k n => exact h

def NsP (w0 : Gh) (B G : Nat) (tv fv : Value) (m : RM) (e : Ending) (w' : World) : Prop := e = .returned (.tuple #[]) ∧ MR w0 B G tv fv m w'
set_option maxRecDepth 100000 in
set_option maxHeartbeats 1600000 in
theorem nodeStep_lit (B G : Nat) (tv fv sv : Value) (c : Mc) (l : List Fr) (ts : List Tg) (fur : List Int) (w : World) (stk : List RF) (i : Nat) (env : RV)
    (h : Hid (MRc B G tv fv sv c l w)) (hv : Hid (MRv G sv c l w (.ev stk i env))) (ht : Hid (TvR B G w tv ts)) (hi : i < ts.length) (hk : (ts.getD i tg0).k = 1 ∨ (ts.getD i tg0).k = 2 ∨ (ts.getD i tg0).k = 3 ∨ (ts.getD i tg0).k = 4) :
    Calls Try.prog 73 #[.pointer (some ⟨G, 0, none⟩)] w (NsP c.w0 B G tv fv (rNode (ts.getD i tg0) (fur.getD i 0) stk i env)) := by
  have hgive := Lib.hid fun (W : World) (t : Th) (hh : Hid (McC W G tv fv sv c)) => give_any W G tv fv sv c t hh
  obtain ⟨T, off, cp, rfl, hTB, hTG, hTw, hT⟩ := ht.out
  obtain ⟨he, hhv, hnd, hst, e, hE, hR⟩ := hv.out
  have hG := h.out.mc.lt
  have c3 := h.out.mc.c3; have c12 := h.out.mc.c12; have c13 := h.out.mc.c13; have hfz := h.out.mc.fz
  rw [hnd] at c12
  obtain ⟨x, hx⟩ : ∃ x, ts.getD i tg0 = x := ⟨_, rfl⟩
  have hx0 := hT i hi
  rw [hx] at hx0 hk ⊢
  obtain ⟨xk, xa, xb, xc, xn, xx, xy, xz, xw⟩ := x
  obtain ⟨t0, t1, t2, t3, t4, t5, t6, t7, t8⟩ := hx0
  dsimp only at hk t0 t1 t2 t3 t4 t5 t6 t7 t8
  clear hT hE hR hst he hhv hx
  go_enter Try.func73, Try.ntmps73
  go_wp2_with fail
  go_region
  rcases hk with rfl | rfl | rfl | rfl
  · go_wp2_with fail
    obtain ⟨W1, hW1, hb1⟩ : ∃ W1, W1 = (w.alloc (.cells #[.int .i64 1, .int .i64 xa, .int .i64 xb, .int .i64 xc, .int .i64 xn, .int .i64 xx, .int .i64 xy, .int .i64 xz, .int .i64 xw] 37)).drew ∧ Below w.heap.size w W1 := ⟨_, rfl, by (repeat' (first | with_reducible exact Below.refl _ _ | with_reducible assumption | with_reducible apply Below.setCell | with_reducible apply Below.alloc | with_reducible apply Below.drew | with_reducible apply below_drewN | with_reducible exact Nat.le_refl _ | (simp; done) | (simp; omega) | omega | exact Nat.le_refl _))⟩
    rw [← hW1]
    have h1 := h.out.below hb1
    have hv1 := hv.out.below hb1
    refine (hgive.out _ ⟨0, xn, none, none, none⟩ (Lib.hid h1.mc)).mono ?_
    rintro e1 w1 ⟨rfl, h2, h3⟩
    have hfin := Lib.hid (mr_gv (v := .num xn) h1 hv1.1 hv1.2.2.2.1 rfl h2 h3)
    clear h1 hv1 h2 h3 hb1 hW1 hgive hfz c3 c12 c13 t0 t1 t2 t3 t4 t5 t6 t7 t8
    go_wp2_with fail
    all_goals go_end0
    all_goals exact ⟨rfl, hfin.out⟩
  · go_wp2_with fail
    obtain ⟨W1, hW1, hb1⟩ : ∃ W1, W1 = (w.alloc (.cells #[.int .i64 2, .int .i64 xa, .int .i64 xb, .int .i64 xc, .int .i64 xn, .int .i64 xx, .int .i64 xy, .int .i64 xz, .int .i64 xw] 37)).drew ∧ Below w.heap.size w W1 := ⟨_, rfl, by (repeat' (first | with_reducible exact Below.refl _ _ | with_reducible assumption | with_reducible apply Below.setCell | with_reducible apply Below.alloc | with_reducible apply Below.drew | with_reducible apply below_drewN | with_reducible exact Nat.le_refl _ | (simp; done) | (simp; omega) | omega | exact Nat.le_refl _))⟩
    rw [← hW1]
    have h1 := h.out.below hb1
    have hv1 := hv.out.below hb1
    refine (hgive.out _ ⟨1, xn, none, none, none⟩ (Lib.hid h1.mc)).mono ?_
    rintro e1 w1 ⟨rfl, h2, h3⟩
    have hfin := Lib.hid (mr_gv (v := .tru xn) h1 hv1.1 hv1.2.2.2.1 rfl h2 h3)
    clear h1 hv1 h2 h3 hb1 hW1 hgive hfz c3 c12 c13 t0 t1 t2 t3 t4 t5 t6 t7 t8
    go_wp2_with fail
    all_goals go_end0
    all_goals exact ⟨rfl, hfin.out⟩
  · go_wp2_with fail
    obtain ⟨W1, hW1, hb1⟩ : ∃ W1, W1 = (w.alloc (.cells #[.int .i64 3, .int .i64 xa, .int .i64 xb, .int .i64 xc, .int .i64 xn, .int .i64 xx, .int .i64 xy, .int .i64 xz, .int .i64 xw] 37)).drew.drew ∧ Below w.heap.size w W1 := ⟨_, rfl, by (repeat' (first | with_reducible exact Below.refl _ _ | with_reducible assumption | with_reducible apply Below.setCell | with_reducible apply Below.alloc | with_reducible apply Below.drew | with_reducible apply below_drewN | with_reducible exact Nat.le_refl _ | (simp; done) | (simp; omega) | omega | exact Nat.le_refl _))⟩
    have h1 := h.out.below hb1
    have hv1 := hv.out.below hb1
    have hmc := Lib.hid h1.mc
    have hv2 := Lib.hid hv1; have h1 := Lib.hid h1
    have hst := Lib.hid hv1.2.2.2.1
    obtain ⟨e, hE, hR⟩ := hv1.2.2.2.2
    have hfn := Lib.hid (show RR (Bp G sv) W1 (.fn i env) (.inl ⟨2, i, c.en, none, none⟩) from ⟨_, e, rfl, hE, hR⟩)
    have hen := Lib.hid hv1.1
    clear hv1 hE hR
    rw [hW1] at hmc
    clear hfz t0 t1 t2 t3 t4 t5 t6 t7 t8
    go_region_with (refine (hgive.out _ ⟨2, i, c.en, none, none⟩ hmc).mono ?_; rintro e1 w1 ⟨rfl, h2, h3⟩)
    all_goals
      have hfin := Lib.hid (mr_gv (v := .fn i env) h1.out hen.out hst.out hfn.out h2 (by rw [hW1]; exact h3))
      clear h1 h2 h3 hb1 hW1 hgive c3 c12 c13 hst hfn hmc
      go_wp2_with fail
      all_goals go_end0
      all_goals exact ⟨rfl, hfin.out⟩
  · go_wp2_with fail
    obtain ⟨W1, hW1, hb1⟩ : ∃ W1, W1 = (w.alloc (.cells #[.int .i64 4, .int .i64 xa, .int .i64 xb, .int .i64 xc, .int .i64 xn, .int .i64 xx, .int .i64 xy, .int .i64 xz, .int .i64 xw] 37)).drew.drew ∧ Below w.heap.size w W1 := ⟨_, rfl, by (repeat' (first | with_reducible exact Below.refl _ _ | with_reducible assumption | with_reducible apply Below.setCell | with_reducible apply Below.alloc | with_reducible apply Below.drew | with_reducible apply below_drewN | with_reducible exact Nat.le_refl _ | (simp; done) | (simp; omega) | omega | exact Nat.le_refl _))⟩
    have h1 := h.out.below hb1
    have hv1 := hv.out.below hb1
    have hmc := Lib.hid h1.mc
    have hv2 := Lib.hid hv1; have h1 := Lib.hid h1
    have hst := Lib.hid hv1.2.2.2.1
    obtain ⟨e, hE, hR⟩ := hv1.2.2.2.2
    have hfn := Lib.hid (show RR (Bp G sv) W1 (.fn i env) (.inl ⟨2, i, c.en, none, none⟩) from ⟨_, e, rfl, hE, hR⟩)
    have hen := Lib.hid hv1.1
    clear hv1 hE hR
    rw [hW1] at hmc
    clear hfz t0 t1 t2 t3 t4 t5 t6 t7 t8
    go_region_with (refine (hgive.out _ ⟨2, i, c.en, none, none⟩ hmc).mono ?_; rintro e1 w1 ⟨rfl, h2, h3⟩)
    all_goals
      have hfin := Lib.hid (mr_gv (v := .fn i env) h1.out hen.out hst.out hfn.out h2 (by rw [hW1]; exact h3))
      clear h1 h2 h3 hb1 hW1 hgive c3 c12 c13 hst hfn hmc
      go_wp2_with fail
      all_goals go_end0
      all_goals exact ⟨rfl, hfin.out⟩
end Go.Proofs.Ytnjalpcmjkahkaa
