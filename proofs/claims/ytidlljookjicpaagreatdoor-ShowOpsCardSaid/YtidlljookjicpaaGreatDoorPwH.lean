/- Two listed variables at once: errors.errorType and the table of powers of ten. -/
import Derived.Test.YtidlljookjicpaaGreatDoorHan
import Derived.Test.YtidlljookjicpaaGreatDoorCrd
import Derived.Test.YtidlljookjicpaaGreatDoorTbw
namespace Go.Proofs.YtidlljookjicpaaGreatDoor
open Go.RowKit
set_option linter.unusedVariables false
set_option linter.unusedSimpArgs false

theorem plain_of {W : World} {l : List (String × DataW Unit)} (h : laidMetH Tryz.prog l W) (hm : ("errors.errorType", (Rows.laid_errors_errorType : DataW Unit)) ∈ l) : laidMet Tryz.prog (l.filter fun x => x.2.handleName?.isNone) W := by
  have hf : ("errors.errorType", (Rows.laid_errors_errorType : DataW Unit)) ∈ l.filter fun x => x.2.handleName?.isSome := List.mem_filter.2 ⟨hm, rfl⟩
  unfold laidMetH at h
  generalize (l.filter fun x => x.2.handleName?.isSome) = fl at h hf
  cases fl with
  | nil => cases hf
  | cons a r => exact h.1
theorem mixed_of {W : World} {l : List (String × DataW Unit)} (h : laidMetH Tryz.prog l W) (h1 : ("errors.errorType", (Rows.laid_errors_errorType : DataW Unit)) ∈ l) (h2 : ("internal/strconv.uint64pow10", (Rows.laid_internal_strconv_uint64pow10 : DataW Unit)) ∈ l) : Hid (errTy W ∧ TabW W) := by
  have hm : ("internal/strconv.uint64pow10", (Rows.laid_internal_strconv_uint64pow10 : DataW Unit)) ∈ l.filter fun x => x.2.handleName?.isNone := List.mem_filter.2 ⟨h2, rfl⟩
  rw [show (Rows.laid_internal_strconv_uint64pow10 : DataW Unit) = Lib.tabData .u64 Lib.pow10Tab from by kernel_rfl] at hm
  exact Lib.hid ⟨errTy_of h h1, tabIs_of_mem gPow (t := 171) (e := 81) (n := 20) (by kernel_rfl) Tryz.underlying171 Tryz.underlying81 (by kernel_rfl) (by kernel_rfl) (plain_of h h1) hm⟩
end Go.Proofs.YtidlljookjicpaaGreatDoor
