/- Programs lent and kept; nodes written over. -/
import Derived.Test.YtidlljookjicpaaDoorNdO
import Derived.Test.YtidlljookjicpaaDoorNaH
import Derived.Deep.RegionHeld3
namespace Go.Proofs.YtidlljookjicpaaDoor
open Go.RowKit
set_option linter.unusedVariables false
set_option linter.unusedSimpArgs false

theorem allR_self {f : Nd → Nd → Bool} (hf : ∀ t, f t t = true) (l : List Nd) (n : Nat) : allR f l l n = true := by
  unfold allR; rw [List.all_eq_true]; intro j _; exact hf _
theorem sameV_self {f : Nd → Nd → Bool} (hf : ∀ t, f t t = true) (l : List Nd) : sameV f l l = true := by
  unfold sameV; rw [allR_self hf, decide_eq_true rfl]; rfl
theorem ndE_self (t : Nd) : ndE t t = true := by unfold ndE ndQ; simp
theorem ndS_self (t : Nd) : ndS t t = true := by unfold ndS ndQ; simp
theorem sameVO_self (l : List Or) : sameVO orE l l = true := by
  unfold sameVO allRO
  rw [decide_eq_true rfl, Bool.true_and, List.all_eq_true]
  intro j _; unfold orE orQ; simp
theorem mkE : ndQ 0 0 0 0 0 ⟨#[]⟩ ⟨#[]⟩ ⟨#[]⟩ ⟨#[]⟩ 77777 0 0 0 0 0 ⟨#[]⟩ ⟨#[]⟩ ⟨#[]⟩ ⟨#[]⟩ 77777 = true := by unfold ndQ; simp
theorem mkO : orQ ⟨#[]⟩ 0 77777 ⟨#[]⟩ 0 77777 = true := by unfold orQ; simp

end Go.Proofs.YtidlljookjicpaaDoor
