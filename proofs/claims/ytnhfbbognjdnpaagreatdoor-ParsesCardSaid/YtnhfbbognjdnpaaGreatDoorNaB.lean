/- Names: contracts of tree.isName and of the reference's NameMay. -/
import Derived.Test.YtnhfbbognjdnpaaGreatDoorNmA
import Derived.Test.YtnhfbbognjdnpaaGreatDoorNaA
/- Names: contracts of tree.isName and of the reference's NameMay. -/
namespace Go.Proofs.YtnhfbbognjdnpaaGreatDoor
open Go.RowKit
set_option linter.unusedVariables false
set_option linter.unusedSimpArgs false

theorem nmR_err {L : List Tk} {p e : Int} {s : ByteArray} (he : e ≠ 0) : nmR (L, p, e) s = false := by
  unfold nmR
  simp only []
  split
  · rw [beq_eq_false_iff_ne.2 he]; rfl
  · rfl
theorem nmR_len {L : List Tk} {p e : Int} {s : ByteArray} (h : L.length ≠ 1) : nmR (L, p, e) s = false := by
  match L, h with
  | [], _ => rfl
  | [t], h => exact absurd rfl h
  | _ :: _ :: _, _ => rfl
theorem list_dec (x s : ByteArray) : (x.toList == s.toList) = decide (x = s) := by
  by_cases h : x = s
  · subst h; simp
  · rw [decide_eq_false h]
    refine beq_eq_false_iff_ne.2 fun e => h (ba_ext ?_)
    rw [← ByteArray.toList_eq, ← ByteArray.toList_eq]; exact e
end Go.Proofs.YtnhfbbognjdnpaaGreatDoor

/- A node's names: tree.names, tree.named, tree.resolved. -/
namespace Go.Proofs.YtnhfbbognjdnpaaGreatDoor
open Go.RowKit
set_option linter.unusedVariables false
set_option linter.unusedSimpArgs false

def namesL (kd : Int) (s1 s2 s3 s4 : ByteArray) : List ByteArray := if kd = 0 ∨ kd = 9 then [s1] else if kd = 3 ∨ kd = 5 then [s2] else if kd = 6 then [s2, s3] else if kd = 10 then [s1, s2, s3, s4] else []
/-- a slice of texts. -/
def StrSl (w : World) (v : Value) (l : List ByteArray) : Prop := (l = [] ∧ v = .slice none 0 0) ∨ ∃ g, v = .slice (some ⟨g, 0, none⟩) l.length l.length ∧ g < w.heap.size ∧ ∀ i, i < l.length → w.cell? ⟨g, i, none⟩ = some (.string (l.getD i ⟨#[]⟩))
def NmsPost (l : List ByteArray) (w : World) (e : Ending) (w' : World) : Prop := ∃ v, e = .returned v ∧ StrSl w' v l ∧ Below w.heap.size w w'
theorem nms_fin {w W : World} {l : List ByteArray} {n : Nat} {T : TypeId} {arr : Array Value} (hb : Below w.heap.size w W) (ha : arr = (l.map Value.string).toArray) (hn : n = l.length) {g : Nat} (hg : g = W.heap.size := by simp) :
    NmsPost l w (.returned (.slice (some ⟨g, 0, none⟩) n n)) (W.alloc (.cells arr T)) := by
  subst ha; subst hn; subst hg
  refine ⟨_, rfl, .inr ⟨W.heap.size, rfl, by simp, fun i hi => ?_⟩, hb.alloc hb.size _⟩
  rw [World.cell?_alloc_at _ _ _ _ rfl]
  simp [List.getD_eq_getElem?_getD, List.getElem?_eq_getElem hi]
end Go.Proofs.YtnhfbbognjdnpaaGreatDoor

/- A node's names: tree.named and tree.resolved. -/
namespace Go.Proofs.YtnhfbbognjdnpaaGreatDoor
open Go.RowKit
set_option linter.unusedVariables false
set_option linter.unusedSimpArgs false

theorem names_mem {kd : Int} {s1 s2 s3 s4 x : ByteArray} (h : x ∈ namesL kd s1 s2 s3 s4) : x = s1 ∨ x = s2 ∨ x = s3 ∨ x = s4 := by
  unfold namesL at h
  (repeat' split at h) <;> simp at h <;> (try (rcases h with rfl | rfl | rfl | rfl <;> simp)) <;> (try (rcases h with rfl | rfl <;> simp)) <;> (try (subst h; simp))
theorem names_len (kd : Int) (s1 s2 s3 s4 : ByteArray) : (namesL kd s1 s2 s3 s4).length ≤ 4 := by
  unfold namesL; (repeat' split) <;> simp
def namedB (kd nm : Int) (l : List ByteArray) : Bool := (if kd = 0 ∨ kd = 9 ∨ kd = 10 then decide (nm = 0) else true) && l.all fun s => nmB s.data.toList
def resB (l : List ByteArray) : Bool := l.all fun s => s.toList.isEmpty
theorem all_take {f : ByteArray → Bool} {l : List ByteArray} {j : Nat} (hj : j < l.length) (h : (l.take j).all f = true) : (l.take (j + 1)).all f = f (l.getD j ⟨#[]⟩) := by
  rw [List.take_succ_eq_append_getElem hj, List.all_append, h, Bool.true_and, List.getD_eq_getElem?_getD, List.getElem?_eq_getElem hj]
  simp
theorem all_stop {f : ByteArray → Bool} {l : List ByteArray} {j : Nat} (hj : j < l.length) (h : f (l.getD j ⟨#[]⟩) = false) : l.all f = false := by
  rw [List.all_eq_false]
  exact ⟨l[j], List.getElem_mem hj, by rw [List.getD_eq_getElem?_getD, List.getElem?_eq_getElem hj] at h; simpa using h⟩
theorem getD_mem {l : List ByteArray} {j : Nat} (hj : j < l.length) : l.getD j ⟨#[]⟩ ∈ l := by
  rw [List.getD_eq_getElem?_getD, List.getElem?_eq_getElem hj]; exact List.getElem_mem hj

end Go.Proofs.YtnhfbbognjdnpaaGreatDoor

/- A node moved: tree.moved, and the reference's Moved. -/
namespace Go.Proofs.YtnhfbbognjdnpaaGreatDoor
open Go.RowKit
set_option linter.unusedVariables false
set_option linter.unusedSimpArgs false

/-- how many children has a node? -/
def cntN (k : Int) : Nat := if k = 3 ∨ k = 9 then 1 else if k = 4 ∨ k = 5 ∨ k = 6 ∨ k = 8 then 2 else if k = 7 ∨ k = 10 then 3 else 0
theorem kidV_k (k a b c : Int) : ∃ x y z, kidV (kidsL k a b c) = .agg #[.int .i64 (cntN k : Int), .int .i64 x, .int .i64 y, .int .i64 z] := by
  unfold kidsL cntN kidV
  (repeat' split) <;> exact ⟨_, _, _, rfl⟩
end Go.Proofs.YtnhfbbognjdnpaaGreatDoor
