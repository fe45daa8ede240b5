/- Programs: tree.May, the reference's TreeMay. -/
import Derived.Test.YtnhfbbognjdnpaaGreatDoorNaG
import Derived.Test.YtnhfbbognjdnpaaGreatDoorNaH
namespace Go.Proofs.YtnhfbbognjdnpaaGreatDoor
open Go.RowKit
set_option linter.unusedVariables false
set_option linter.unusedSimpArgs false

def opOk (o : Or) : Bool := nmB o.nm.data.toList && baseB o.f && baseB o.t
def opsV (os : List Or) : Bool := decide (os.length ≤ 4) && os.all opOk
def mayV (os : List Or) (ts : List Nd) : Bool := opsV os && treeV (okNm true) ts
theorem opsV_op {os : List Or} {j : Nat} (h : j < os.length) (hn : opOk (os.getD j or0) = false) : opsV os = false := by
  have : os.all opOk = false := by
    cases hc : os.all opOk
    · rfl
    · rw [List.all_eq_true] at hc
      have := hc (os.getD j or0) (by simp [h])
      rw [this] at hn; cases hn
  unfold opsV; rw [this]; simp
theorem opsV_ok {os : List Or} (h1 : os.length ≤ 4) (h : os.all opOk = true) : opsV os = true := by unfold opsV; rw [h, decide_eq_true h1]; rfl
theorem opsV_len {os : List Or} (h1 : 4 < os.length) : opsV os = false := by unfold opsV; rw [decide_eq_false (by omega)]; rfl
theorem getO_mem {ts : List Or} {j : Nat} (hj : j < ts.length) : ts.getD j or0 ∈ ts := by
  rw [List.getD_eq_getElem?_getD, List.getElem?_eq_getElem hj]; exact List.getElem_mem hj
theorem allO_take {os : List Or} {j : Nat} (h : j < os.length) (h2 : (os.take j).all opOk = true) : (os.take (j + 1)).all opOk = opOk (os.getD j or0) := by
  rw [List.take_succ_eq_append_getElem h, List.all_append, h2]
  simp [h]

end Go.Proofs.YtnhfbbognjdnpaaGreatDoor
