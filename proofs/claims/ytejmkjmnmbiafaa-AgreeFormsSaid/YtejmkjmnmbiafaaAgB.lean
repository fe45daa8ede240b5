/- awake of layer 22. -/
import Derived.Test.YtejmkjmnmbiafaaAgA
namespace Go.Proofs.Ytejmkjmnmbiafaa
open Go.RowKit
set_option linter.unusedVariables false

theorem belT {a b c : World} (h : Below a.heap.size a b) (k : Below b.heap.size b c) : Below a.heap.size a c := h.trans (k.mono h.size)

set_option maxHeartbeats 400000 in
theorem awake_any (w : World) : Calls Try.prog 11 #[] w fun e w' => e = .returned (.bool true) ∧ Below w.heap.size w w' := by
  go_enter Try.func11, Try.ntmps11
  go_wp2_with fail
  refine (fuel_any _ _).mono ?_
  rintro e w' ⟨rfl, rfl⟩
  rw [show fuelV 3 = 16384 from by decide, show fuelE 3 = 0 from by decide]
  go_wp2_with fail
  refine (fuel_any _ _).mono ?_
  rintro e w' ⟨rfl, rfl⟩
  rw [show fuelV 31 = 0 from by decide, show fuelE 31 = 2200 from by decide]
  go_wp2_with fail
  refine (same_any _ _ _ _ _).mono ?_
  rintro e w1 ⟨rfl, hb1⟩
  rw [show sameV _ _ _ _ = true from by decide, show sameE _ _ _ _ = 0 from by decide]
  go_wp2_with fail
  refine (same_any _ _ _ _ _).mono ?_
  rintro e w2 ⟨rfl, hb2⟩
  rw [show sameV _ _ _ _ = true from by decide, show sameE _ _ _ _ = 0 from by decide]
  go_wp2_with fail
  refine (same_any _ _ _ _ _).mono ?_
  rintro e w3 ⟨rfl, hb3⟩
  rw [show sameV _ _ _ _ = false from by decide, show sameE _ _ _ _ = 0 from by decide]
  go_wp2_with fail
  refine (same_any _ _ _ _ _).mono ?_
  rintro e w4 ⟨rfl, hb4⟩
  rw [show sameV _ _ _ _ = false from by decide, show sameE _ _ _ _ = 2200 from by decide]
  go_wp2_with (go_at_call 10; refine (num_any _ _ (by omega) (by omega)).mono ?_; rintro e w' ⟨rfl, rfl⟩)
  go_ret
  exact ⟨rfl, belT (belT (belT hb1 hb2) hb3) hb4⟩
end Go.Proofs.Ytejmkjmnmbiafaa
