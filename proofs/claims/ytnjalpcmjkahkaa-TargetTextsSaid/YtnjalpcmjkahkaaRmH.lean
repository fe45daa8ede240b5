/- The machine of layer 21: a step at a node whose A comes first. -/
import Derived.Test.YtnjalpcmjkahkaaRmG
namespace Go.Proofs.Ytnjalpcmjkahkaa
open Go.RowKit
set_option linter.unusedVariables false
set_option linter.unusedSimpArgs false

/-- a box that is new is none of what a push turns. -/
theorem MRc.new {B G : Nat} {tv fv sv : Value} {c : Mc} {l : List Fr} {w : World} (h : MRc B G tv fv sv c l w) : ¬ Bp G sv w.heap.size := fun hs => by
  rcases hs with hs | hs
  · have := h.mc.lt; omega
  · have := (own_lt h.own _ hs).2; omega
set_option maxRecDepth 100000 in
set_option maxHeartbeats 1600000 in
theorem nodeStep_go (B G : Nat) (tv fv sv : Value) (c : Mc) (l : List Fr) (ts : List Tg) (fur : List Int) (w : World) (stk : List RF) (i : Nat) (env : RV)
    (h : Hid (MRc B G tv fv sv c l w)) (hv : Hid (MRv G sv c l w (.ev stk i env))) (ht : Hid (TvR B G w tv ts)) (hi : i < ts.length) (hsl : stk.length ≤ 4096)
    (hk : (ts.getD i tg0).k ≠ 0 ∧ (ts.getD i tg0).k ≠ 1 ∧ (ts.getD i tg0).k ≠ 2 ∧ (ts.getD i tg0).k ≠ 3 ∧ (ts.getD i tg0).k ≠ 4) :
    Calls Try.prog 73 #[.pointer (some ⟨G, 0, none⟩)] w (NsP c.w0 B G tv fv (rNode (ts.getD i tg0) (fur.getD i 0) stk i env)) := by
  rw [rNode_go hk]
  obtain ⟨T, off, cp, rfl, hTB, hTG, hTw, hT⟩ := ht.out
  obtain ⟨he, hhv, hnd, hst, e, hE, hR⟩ := hv.out
  have hent := Lib.hid fun (W : World) (sv : Value) (n : Int) (p : Option Addr) (hh : Hid (McC W G (.slice (some ⟨T, off, none⟩) ts.length cp) fv sv c)) => enter_any W G _ fv sv c n p hh
  have hpush := Lib.hid fun (W : World) (f : Fr) (h1 : MRc B G (.slice (some ⟨T, off, none⟩) ts.length cp) fv sv c l W) => push_any B G _ fv sv l c f W (Lib.hid h1.mc) (Lib.hid h1.own) ⟨h1.gB, h1.bl⟩ (by rw [hst.len]; omega) h1.kS
  have hG := h.out.mc.lt
  have c3 := h.out.mc.c3; have c12 := h.out.mc.c12; have c13 := h.out.mc.c13; have hfz := h.out.mc.fz
  rw [hnd] at c12
  obtain ⟨x, hx⟩ : ∃ x, ts.getD i tg0 = x := ⟨_, rfl⟩
  have hx0 := hT i hi
  rw [hx] at hx0 hk ⊢
  obtain ⟨xk, xa, xb, xc, xn, xx, xy, xz, xw⟩ := x
  obtain ⟨t0, t1, t2, t3, t4, t5, t6, t7, t8⟩ := hx0
  dsimp only at hk t0 t1 t2 t3 t4 t5 t6 t7 t8 ⊢
  obtain ⟨k0, k1, k2, k3, k4⟩ := hk
  clear hT hE hR hst he hhv hx
  go_enter Try.func73, Try.ntmps73
  go_wp2_with fail
  go_region
  go_wp2_with fail
  obtain ⟨W1, hW1, hb1⟩ : ∃ W1, W1 = (w.alloc (.cells #[.int .i64 xk, .int .i64 xa, .int .i64 xb, .int .i64 xc, .int .i64 xn, .int .i64 xx, .int .i64 xy, .int .i64 xz, .int .i64 xw] 37)).drew.drew ∧ Below w.heap.size w W1 := ⟨_, rfl, by (repeat' (first | with_reducible exact Below.refl _ _ | with_reducible assumption | with_reducible apply Below.setCell | with_reducible apply Below.alloc | with_reducible apply Below.drew | with_reducible apply below_drewN | with_reducible exact Nat.le_refl _ | (simp; done) | (simp; omega) | omega | exact Nat.le_refl _))⟩
  have h1 := h.out.below hb1
  have hv1 := hv.out.below hb1
  have n1 : W1.cell? ⟨w.heap.size, 1, none⟩ = some (.int .i64 xa) := by rw [hW1]; simp [go_sem]
  have hnB : ¬ Bp G sv w.heap.size := h.out.new
  have hwl : w.heap.size < W1.heap.size := by rw [hW1]; simp
  have hp := hpush.out W1 ⟨0, i, c.en, th0⟩ h1
  rw [hW1] at hp
  have hp := Lib.hid hp
  have h1 := Lib.hid h1
  have hv1 := Lib.hid hv1
  clear hfz t0 t1 t2 t3 t4 t5 t6 t7 t8
  go_region_with (refine hp.out.mono ?_; intro e1 w1 hpp; obtain ⟨sv2, rfl, h2, hbp, hsv, hstk⟩ := mr_push h1.out (by rw [hW1]; exact hpp))
  all_goals
    clear hpp hp
    have n1 : w1.cell? _ = _ := hbp.cell n1 hnB
    have hwl2 : w.heap.size < w1.heap.size := Nat.lt_of_lt_of_le hwl hbp.size
    obtain ⟨he, _, _, hst, e, hE, hR⟩ := hv1.out
    have hst2 := hstk (f := ⟨0, i, env, .num 0⟩) hst ⟨rfl, rfl, ⟨e, hE, hR⟩, rfl⟩
    have hE2 : EnR w1 (.pointer c.en) e := hE.bar hbp h1.out.enF
    have hR2 := hR.step hbp h1.out.enF hsv
    have c13 := h2.mc.c13
    have hG2 := h2.mc.lt
    have hen := Lib.hid fun (W : World) (hb : Below w1.heap.size w1 W) => hent.out W sv2 xa c.en (Lib.hid (h2.mc.below hb))
    have hfin := Lib.hid fun (W w3 : World) (hb : Below w1.heap.size w1 W) (hm : McC w3 G _ fv sv2 { c with hv := false, nd := xa, en := c.en }) (hb2 : Bar (Bq G) W w3) => mr_ev (h2.below hb) he (hst2.below hb) (hE2.below hb) (hR2.below hb) hm hb2
    clear h2 hE hR hst hst2 hE2 hR2 he hbp hsv hstk hv1 h1 hent hpush hW1 hb1 hwl hnB c3 c12
    go_wp2_with fail
    go_region_with (refine (hen.out _ (by (repeat' (first | with_reducible exact Below.refl _ _ | with_reducible assumption | with_reducible apply Below.setCell | with_reducible apply Below.alloc | with_reducible apply Below.drew | with_reducible apply below_drewN | with_reducible exact Nat.le_refl _ | (simp; done) | (simp; omega) | omega | exact Nat.le_refl _)))).mono ?_; rintro e1 w3 ⟨rfl, h3, h4⟩; have hfin := Lib.hid (hfin.out _ _ (by (repeat' (first | with_reducible exact Below.refl _ _ | with_reducible assumption | with_reducible apply Below.setCell | with_reducible apply Below.alloc | with_reducible apply Below.drew | with_reducible apply below_drewN | with_reducible exact Nat.le_refl _ | (simp; done) | (simp; omega) | omega | exact Nat.le_refl _))) h3 h4))
    all_goals
      go_wp2_with fail
      all_goals go_end0
      all_goals exact ⟨rfl, hfin.out⟩
end Go.Proofs.Ytnjalpcmjkahkaa
