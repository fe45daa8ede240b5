/- subst.holds, may. -/
import Derived.Test.YtfkdcconmecaoaaDoorSbA
import Derived.Test.YtfkdcconmecaoaaDoorTyM
namespace Go.Proofs.YtfkdcconmecaoaaDoor
open Go.RowKit Go.Maps
set_option linter.unusedVariables false
set_option linter.unusedSimpArgs false

abbrev bnV (x : Bn) : Value := .agg #[.int .i64 x.v, .bool x.ir, .slice x.ad x.n x.c, .int .i64 x.r.a, .int .i64 x.r.b, .int .i64 x.r.c, .int .i64 x.r.d, .int .i64 x.r.t]
def holdsB (x : Bn) : Bool := if x.ir then decide (x.n = 0) && x.r.may else rwQ x.r.a x.r.b x.r.c x.r.d x.r.t 0 0 0 0 0 && tyV x.ns
set_option maxHeartbeats 2000000 in
theorem holds_any (x : Bn) (w : World) (h : Hid (TyArg w x.ad x.n x.ns)) (hl : x.n ≤ 140737488351232) :
    Calls Tryd.prog 50 #[bnV x] w fun e w' => e = .returned (.bool (holdsB x)) ∧ Below w.heap.size w w' := by
  unfold bnV
  have hin := fun (x0 x1 x2 x3 x4 y0 y1 y2 y3 y4 : Int) (W : World) => row_in 9997 x0 x1 x2 x3 x4 y0 y1 y2 y3 y4 W
  simp only [Nat.reduceAdd] at hin
  have kM := Lib.hid fun (W : World) => rowsMay_any x.r.a x.r.b x.r.c x.r.d x.r.t W
  have kT := Lib.hid fun (W : World) (hb : Below w.heap.size w W) => tyMay_any x.ad x.n x.c x.ns W (Lib.hid (h.out.below hb)) hl
  obtain ⟨m, hm⟩ : ∃ m, mayR x.r.a x.r.b x.r.c x.r.d x.r.t = m := ⟨_, rfl⟩
  obtain ⟨q, hq⟩ : ∃ q, rwQ x.r.a x.r.b x.r.c x.r.d x.r.t 0 0 0 0 0 = q := ⟨_, rfl⟩
  obtain ⟨tv, htv⟩ : ∃ q, tyV x.ns = q := ⟨_, rfl⟩
  have hv : Hid (holdsB x = if x.ir then decide (x.n = 0) && m else q && tv) := Lib.hid (by unfold holdsB Rw.may; rw [hm, hq, htv])
  generalize holdsB x = H at hv
  rw [hm] at kM
  rw [htv] at kT
  clear hm htv h
  obtain ⟨v, ir, ad, n, c, ns, ⟨ra, rb, rc, rd, rt⟩⟩ := x
  simp only [] at *
  cases ir
  · cases q
    · have hf : Hid (H = false) := Lib.hid (by rw [hv.out]; rfl)
      go_enter Tryd.func50, Tryd.ntmps50
      go_wp2_with fail
      go_ret
      exact ⟨ret_bb hf.out.symm, by (repeat' (first | with_reducible exact Below.refl _ _ | with_reducible assumption | with_reducible apply Below.setCell | with_reducible apply Below.alloc | with_reducible apply Below.drew | with_reducible apply below_drewN | with_reducible exact Nat.le_refl _ | (simp; done) | (simp; omega) | omega | exact Nat.le_refl _))⟩
    · have hf : Hid (H = tv) := Lib.hid (by rw [hv.out]; rfl)
      go_enter Tryd.func50, Tryd.ntmps50
      go_wp2_with fail
      refine (kT.out _ (below_alc w _)).mono ?_
      rintro e w1 ⟨rfl, hb1⟩
      go_wp2_with fail
      go_ret
      exact ⟨ret_bb hf.out.symm, belT (below_alc w _) hb1⟩
  · by_cases hn : n = 0
    · subst hn
      have hf : Hid (H = m) := Lib.hid (by rw [hv.out]; rfl)
      go_enter Tryd.func50, Tryd.ntmps50
      go_wp2_with fail
      refine (kM.out _).mono ?_
      rintro e w1 ⟨rfl, hb1⟩
      go_wp2_with fail
      go_ret
      exact ⟨ret_bb hf.out.symm, belT (below_alc w _) hb1⟩
    · have hf : Hid (H = false) := Lib.hid (by rw [hv.out, decide_eq_false hn]; rfl)
      have hn2 : ((n : Int) == 0) = false := beq_eq_false_iff_ne.2 (by omega)
      have hn3 : (n == 0) = false := beq_eq_false_iff_ne.2 hn
      go_enter Tryd.func50, Tryd.ntmps50
      go_wp2_with fail
      go_ret
      exact ⟨ret_bb hf.out.symm, by (repeat' (first | with_reducible exact Below.refl _ _ | with_reducible assumption | with_reducible apply Below.setCell | with_reducible apply Below.alloc | with_reducible apply Below.drew | with_reducible apply below_drewN | with_reducible exact Nat.le_refl _ | (simp; done) | (simp; omega) | omega | exact Nat.le_refl _))⟩
end Go.Proofs.YtfkdcconmecaoaaDoor
