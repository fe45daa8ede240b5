/- The listed variable errors.errorType: what it holds; a world that holds it. -/
import Derived.Test.YtidlljookjicpaaGreatDoorRows
import Derived.Test.YtidlljookjicpaaGreatDoorAsA
import Derived.LaidLaws
import Derived.LaidHandle
import Derived.Stop.Joined
namespace Go.Proofs.YtidlljookjicpaaGreatDoor
open Go.RowKit
set_option linter.unusedVariables false
set_option linter.unusedSimpArgs false

theorem et_name : Tryz.prog.globalNamed "errors.errorType" = some 0 := by kernel_rfl
theorem et_rt : (Tryz.prog.cutTypes.find? (·.1 == "internal/reflectlite.rtype")).map (·.2) = some 138 := by kernel_rfl
theorem et_row : ((List.range 204).filter fun t => Tryz.prog.rowNamed t [101, 114, 114, 111, 114]) = [61] := by kernel_rfl
theorem et_size : Tryz.prog.types.size = 204 := by kernel_rfl
theorem et_hd : typeHandle Tryz.prog 61 = .pointer (some ⟨4, 61, none⟩) := by kernel_rfl
theorem errTy_of {W : World} {l : List (String × DataW Unit)} (h : laidMetH Tryz.prog l W) (hm : ("errors.errorType", (Rows.laid_errors_errorType : DataW Unit)) ∈ l) : errTy W := by
  have hf : ("errors.errorType", (Rows.laid_errors_errorType : DataW Unit)) ∈ l.filter fun x => x.2.handleName?.isSome := List.mem_filter.2 ⟨hm, rfl⟩
  have hall : handlesMet Tryz.prog (l.filter fun x => x.2.handleName?.isSome) W := by
    unfold laidMetH at h
    generalize (l.filter fun x => x.2.handleName?.isSome) = fl at h hf
    cases fl with
    | nil => cases hf
    | cons a r => exact h.2
  obtain ⟨name, u, ty, e1, e2, e3, e4, e5⟩ := hall _ hf
  obtain rfl : name = [101, 114, 114, 111, 114] := (Option.some.inj e1).symm
  obtain rfl := Option.some.inj (et_rt.symm.trans e2)
  have hmem : ty ∈ (List.range 204).filter fun t => Tryz.prog.rowNamed t [101, 114, 114, 111, 114] := List.mem_filter.2 ⟨List.mem_range.2 (by rw [← et_size]; exact e3), e4⟩
  rw [et_row] at hmem
  obtain rfl := List.mem_singleton.1 hmem
  rw [et_hd] at e5
  unfold errTy rT
  simpa using World.var?_cell et_name e5 0
/-- the settled world, the variable's cell laid. -/
noncomputable def handleWorld (os : Os) : World := { World.holding Tryz.prog os ⟨#[], #[], []⟩ with heap := (World.holding Tryz.prog os ⟨#[], #[], []⟩).heap.modify 0 fun | .cells _ t frozen => .cells #[.iface 138 (.agg #[.pointer (some ⟨4, 61, none⟩)])] t frozen | o => o }
end Go.Proofs.YtidlljookjicpaaGreatDoor
