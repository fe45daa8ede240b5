/- awake of layer 18: its plain facts. -/
import Derived.Test.YtglbaboboonmhaaDoorNdCo
import Derived.Test.YtglbaboboonmhaaDoorDiP
namespace Go.Proofs.YtglbaboboonmhaaDoor
open Go.RowKit
set_option linter.unusedVariables false
set_option linter.unusedSimpArgs false

def diN : List Nd := [⟨0, 0, 0, 0, 0, ⟨#[]⟩, ⟨#[]⟩, ⟨#[]⟩, ⟨#[]⟩, 0⟩, ⟨0, 0, 0, 0, 0, ⟨#[]⟩, ⟨#[]⟩, ⟨#[]⟩, ⟨#[]⟩, 0⟩, ⟨4, 0, 1, 0, 0, ⟨#[]⟩, ⟨#[]⟩, ⟨#[]⟩, ⟨#[]⟩, 0⟩, ⟨3, 2, 0, 0, 0, ⟨#[]⟩, ⟨#[]⟩, ⟨#[]⟩, ⟨#[]⟩, 0⟩, ⟨1, 0, 0, 0, 0, ⟨#[]⟩, ⟨#[]⟩, ⟨#[]⟩, ⟨#[]⟩, 0⟩, ⟨5, 3, 4, 0, 0, ⟨#[]⟩, ⟨#[]⟩, ⟨#[]⟩, ⟨#[]⟩, 0⟩]
theorem di_any : anyV diN = true := by rw [any_c]; decide +kernel
theorem di_5 : dirP diN 5 = (true, 0) := by unfold dirP hasV; rw [di_any]; decide +kernel
theorem di_2 : dirP diN 2 = (false, 0) := by unfold dirP hasV; rw [di_any]; decide +kernel
theorem di_6 : dirP diN 6 = (false, 1800) := by unfold dirP hasV; rw [di_any]; decide +kernel
theorem di_sz : ∀ t ∈ diN, NdSz t := by
  intro t ht
  simp only [diN, List.mem_cons, List.not_mem_nil, or_false] at ht
  rcases ht with rfl | rfl | rfl | rfl | rfl | rfl <;> (unfold NdSz; decide)
end Go.Proofs.YtglbaboboonmhaaDoor
