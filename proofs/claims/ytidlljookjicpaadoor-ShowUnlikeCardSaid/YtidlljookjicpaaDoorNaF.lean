/- The reference's bound. -/
import Derived.Test.YtidlljookjicpaaDoorNaE
/- The reference's bound. -/
namespace Go.Proofs.YtidlljookjicpaaDoor
open Go.RowKit
set_option linter.unusedVariables false
set_option linter.unusedSimpArgs false

theorem cell_set (w : World) (g o : Nat) (v : Value) (b q : Nat) (old : Value) (h : w.cell? ⟨g, o, none⟩ = some old) : (w.setCell ⟨g, o, none⟩ v).cell? ⟨b, q, none⟩ = if b = g ∧ q = o then some v else w.cell? ⟨b, q, none⟩ := by
  unfold World.cell? World.setCell at *
  simp only [Array.getElem?_modify, Option.isSome_none, Bool.false_eq_true, if_false] at *
  by_cases hb : g = b
  · subst hb
    cases hh : w.heap[g]? with
    | none => rw [hh] at h; cases h
    | some ob =>
      cases ob with
      | cells c T f =>
        rw [hh] at h
        simp only at h
        simp only [if_true, Option.map_some, true_and, Array.getElem?_setIfInBounds]
        have hlt : o < c.size := (Array.getElem?_eq_some_iff.1 h).1
        by_cases hq : o = q
        · subst hq; simp [hlt]
        · rw [if_neg hq, if_neg (fun e => hq e.symm)]
      | _ => rw [hh] at h; cases h
  · rw [if_neg hb, if_neg (fun e => hb e.1.symm)]
def BdPost (w : World) (g : Nat) (ok : Bool) (s6 s7 s8 : ByteArray) (e : Ending) (w' : World) : Prop :=
  e = .returned (.bool ok) ∧ w.heap.size ≤ w'.heap.size ∧ (∀ b o, b < w.heap.size → (b ≠ g ∨ (o ≠ 6 ∧ o ≠ 7 ∧ o ≠ 8)) → w'.cell? ⟨b, o, none⟩ = w.cell? ⟨b, o, none⟩) ∧ w'.cell? ⟨g, 6, none⟩ = some (.string s6) ∧ w'.cell? ⟨g, 7, none⟩ = some (.string s7) ∧ w'.cell? ⟨g, 8, none⟩ = some (.string s8) ∧
  ∀ w0 : World, Below w0.heap.size w0 w → w0.heap.size ≤ g → Below w0.heap.size w0 w'
theorem bd_fin {w W1 w' : World} {g : Nat} {ok ok' : Bool} {s6 s7 s8 : ByteArray} (hg : g < w.heap.size) (hok : ok' = ok) (hsz : w.heap.size ≤ W1.heap.size) (h1 : ∀ b o, b < w.heap.size → (b ≠ g ∨ (o ≠ 6 ∧ o ≠ 7 ∧ o ≠ 8)) → W1.cell? ⟨b, o, none⟩ = w.cell? ⟨b, o, none⟩)
    (c6 : W1.cell? ⟨g, 6, none⟩ = some (.string s6)) (c7 : W1.cell? ⟨g, 7, none⟩ = some (.string s7)) (c8 : W1.cell? ⟨g, 8, none⟩ = some (.string s8)) (hw : ∀ w0 : World, Below w0.heap.size w0 w → w0.heap.size ≤ g → Below w0.heap.size w0 W1) (hb : Below W1.heap.size W1 w') :
    BdPost w g ok s6 s7 s8 (.returned (.bool ok')) w' := by
  have hsz2 := hb.size
  refine ⟨by rw [hok], by omega, fun b o h h2 => ?_, ?_, ?_, ?_, fun w0 h h2 => belT (hw w0 h h2) hb⟩
  · rw [hb.cell (p := ⟨b, o, none⟩) (by show b < _; omega)]; exact h1 b o h h2
  · rw [hb.cell (p := ⟨g, 6, none⟩) (by show g < _; omega)]; exact c6
  · rw [hb.cell (p := ⟨g, 7, none⟩) (by show g < _; omega)]; exact c7
  · rw [hb.cell (p := ⟨g, 8, none⟩) (by show g < _; omega)]; exact c8

end Go.Proofs.YtidlljookjicpaaDoor

/- The reference's fields, per kind: plain facts. -/
namespace Go.Proofs.YtidlljookjicpaaDoor
open Go.RowKit
set_option linter.unusedVariables false
set_option linter.unusedSimpArgs false

/-- has a node just what its kind names? -/
def okF (named : Bool) (k a b c nm : Int) (s1 s2 s3 s4 : ByteArray) (at_ : Int) : Bool :=
  plainB k a b c nm s1 s2 s3 s4 && decide (0 ≤ at_) && decide (at_ ≤ 4096) && (if named then namedB k nm (namesL k s1 s2 s3 s4) else resB (namesL k s1 s2 s3 s4))
theorem emp_list : (⟨#[]⟩ : ByteArray).toList = [] := by rw [ByteArray.toList_eq]
theorem emp_is (s : ByteArray) : s.toList.isEmpty = decide (s.toList = []) := by cases s.toList <;> rfl
theorem okF0n (a b c nm at_ : Int) (s1 s2 s3 s4 : ByteArray) : okF true 0 a b c nm s1 s2 s3 s4 at_ = ((nmB s1.data.toList) && (ndQ 0 a b c nm s1 s2 s3 s4 at_ 0 0 0 0 0 s1 (⟨#[]⟩ : ByteArray) (⟨#[]⟩ : ByteArray) (⟨#[]⟩ : ByteArray) at_ && (decide (0 ≤ at_) && decide (at_ ≤ 4096)))) := by
  unfold okF plainB namedB resB namesL ndQ
  simp only [emp_list, emp_is]
  rw [Bool.eq_iff_iff]
  simp
  try grind
theorem okF0r (a b c nm at_ : Int) (s1 s2 s3 s4 : ByteArray) : okF false 0 a b c nm s1 s2 s3 s4 at_ = ((true) && (ndQ 0 a b c nm s1 s2 s3 s4 at_ 0 0 0 0 nm (⟨#[]⟩ : ByteArray) (⟨#[]⟩ : ByteArray) (⟨#[]⟩ : ByteArray) (⟨#[]⟩ : ByteArray) at_ && (decide (0 ≤ at_) && decide (at_ ≤ 4096)))) := by
  unfold okF plainB namedB resB namesL ndQ
  simp only [emp_list, emp_is]
  rw [Bool.eq_iff_iff]
  simp
  try grind
theorem okF1n (a b c nm at_ : Int) (s1 s2 s3 s4 : ByteArray) : okF true 1 a b c nm s1 s2 s3 s4 at_ = ((true) && (ndQ 1 a b c nm s1 s2 s3 s4 at_ 1 0 0 0 nm (⟨#[]⟩ : ByteArray) (⟨#[]⟩ : ByteArray) (⟨#[]⟩ : ByteArray) (⟨#[]⟩ : ByteArray) at_ && (decide (0 ≤ at_) && decide (at_ ≤ 4096)))) := by
  unfold okF plainB namedB resB namesL ndQ
  simp only [emp_list, emp_is]
  rw [Bool.eq_iff_iff]
  simp
  try grind
theorem okF1r (a b c nm at_ : Int) (s1 s2 s3 s4 : ByteArray) : okF false 1 a b c nm s1 s2 s3 s4 at_ = ((true) && (ndQ 1 a b c nm s1 s2 s3 s4 at_ 1 0 0 0 nm (⟨#[]⟩ : ByteArray) (⟨#[]⟩ : ByteArray) (⟨#[]⟩ : ByteArray) (⟨#[]⟩ : ByteArray) at_ && (decide (0 ≤ at_) && decide (at_ ≤ 4096)))) := by
  unfold okF plainB namedB resB namesL ndQ
  simp only [emp_list, emp_is]
  rw [Bool.eq_iff_iff]
  simp
  try grind
theorem okF2n (a b c nm at_ : Int) (s1 s2 s3 s4 : ByteArray) : okF true 2 a b c nm s1 s2 s3 s4 at_ = ((true) && (ndQ 2 a b c nm s1 s2 s3 s4 at_ 2 0 0 0 nm (⟨#[]⟩ : ByteArray) (⟨#[]⟩ : ByteArray) (⟨#[]⟩ : ByteArray) (⟨#[]⟩ : ByteArray) at_ && (decide (0 ≤ at_) && decide (at_ ≤ 4096)))) := by
  unfold okF plainB namedB resB namesL ndQ
  simp only [emp_list, emp_is]
  rw [Bool.eq_iff_iff]
  simp
  try grind
theorem okF2r (a b c nm at_ : Int) (s1 s2 s3 s4 : ByteArray) : okF false 2 a b c nm s1 s2 s3 s4 at_ = ((true) && (ndQ 2 a b c nm s1 s2 s3 s4 at_ 2 0 0 0 nm (⟨#[]⟩ : ByteArray) (⟨#[]⟩ : ByteArray) (⟨#[]⟩ : ByteArray) (⟨#[]⟩ : ByteArray) at_ && (decide (0 ≤ at_) && decide (at_ ≤ 4096)))) := by
  unfold okF plainB namedB resB namesL ndQ
  simp only [emp_list, emp_is]
  rw [Bool.eq_iff_iff]
  simp
  try grind
theorem okF3n (a b c nm at_ : Int) (s1 s2 s3 s4 : ByteArray) : okF true 3 a b c nm s1 s2 s3 s4 at_ = ((nmB s2.data.toList) && (ndQ 3 a b c nm s1 s2 s3 s4 at_ 3 a 0 0 0 (⟨#[]⟩ : ByteArray) s2 (⟨#[]⟩ : ByteArray) (⟨#[]⟩ : ByteArray) at_ && (decide (0 ≤ at_) && decide (at_ ≤ 4096)))) := by
  unfold okF plainB namedB resB namesL ndQ
  simp only [emp_list, emp_is]
  rw [Bool.eq_iff_iff]
  simp
  try grind
theorem okF3r (a b c nm at_ : Int) (s1 s2 s3 s4 : ByteArray) : okF false 3 a b c nm s1 s2 s3 s4 at_ = ((true) && (ndQ 3 a b c nm s1 s2 s3 s4 at_ 3 a 0 0 0 (⟨#[]⟩ : ByteArray) (⟨#[]⟩ : ByteArray) (⟨#[]⟩ : ByteArray) (⟨#[]⟩ : ByteArray) at_ && (decide (0 ≤ at_) && decide (at_ ≤ 4096)))) := by
  unfold okF plainB namedB resB namesL ndQ
  simp only [emp_list, emp_is]
  rw [Bool.eq_iff_iff]
  simp
  try grind
theorem okF4n (a b c nm at_ : Int) (s1 s2 s3 s4 : ByteArray) : okF true 4 a b c nm s1 s2 s3 s4 at_ = ((true) && (ndQ 4 a b c nm s1 s2 s3 s4 at_ 4 a b 0 0 (⟨#[]⟩ : ByteArray) (⟨#[]⟩ : ByteArray) (⟨#[]⟩ : ByteArray) (⟨#[]⟩ : ByteArray) at_ && (decide (0 ≤ at_) && decide (at_ ≤ 4096)))) := by
  unfold okF plainB namedB resB namesL ndQ
  simp only [emp_list, emp_is]
  rw [Bool.eq_iff_iff]
  simp
  try grind
theorem okF4r (a b c nm at_ : Int) (s1 s2 s3 s4 : ByteArray) : okF false 4 a b c nm s1 s2 s3 s4 at_ = ((true) && (ndQ 4 a b c nm s1 s2 s3 s4 at_ 4 a b 0 0 (⟨#[]⟩ : ByteArray) (⟨#[]⟩ : ByteArray) (⟨#[]⟩ : ByteArray) (⟨#[]⟩ : ByteArray) at_ && (decide (0 ≤ at_) && decide (at_ ≤ 4096)))) := by
  unfold okF plainB namedB resB namesL ndQ
  simp only [emp_list, emp_is]
  rw [Bool.eq_iff_iff]
  simp
  try grind
theorem okF5n (a b c nm at_ : Int) (s1 s2 s3 s4 : ByteArray) : okF true 5 a b c nm s1 s2 s3 s4 at_ = ((nmB s2.data.toList) && (ndQ 5 a b c nm s1 s2 s3 s4 at_ 5 a b 0 0 (⟨#[]⟩ : ByteArray) s2 (⟨#[]⟩ : ByteArray) (⟨#[]⟩ : ByteArray) at_ && (decide (0 ≤ at_) && decide (at_ ≤ 4096)))) := by
  unfold okF plainB namedB resB namesL ndQ
  simp only [emp_list, emp_is]
  rw [Bool.eq_iff_iff]
  simp
  try grind
theorem okF5r (a b c nm at_ : Int) (s1 s2 s3 s4 : ByteArray) : okF false 5 a b c nm s1 s2 s3 s4 at_ = ((true) && (ndQ 5 a b c nm s1 s2 s3 s4 at_ 5 a b 0 0 (⟨#[]⟩ : ByteArray) (⟨#[]⟩ : ByteArray) (⟨#[]⟩ : ByteArray) (⟨#[]⟩ : ByteArray) at_ && (decide (0 ≤ at_) && decide (at_ ≤ 4096)))) := by
  unfold okF plainB namedB resB namesL ndQ
  simp only [emp_list, emp_is]
  rw [Bool.eq_iff_iff]
  simp
  try grind
theorem okF6n (a b c nm at_ : Int) (s1 s2 s3 s4 : ByteArray) : okF true 6 a b c nm s1 s2 s3 s4 at_ = ((nmB s2.data.toList && nmB s3.data.toList) && (ndQ 6 a b c nm s1 s2 s3 s4 at_ 6 a b 0 0 (⟨#[]⟩ : ByteArray) s2 s3 (⟨#[]⟩ : ByteArray) at_ && (decide (0 ≤ at_) && decide (at_ ≤ 4096)))) := by
  unfold okF plainB namedB resB namesL ndQ
  simp only [emp_list, emp_is]
  rw [Bool.eq_iff_iff]
  simp
  try grind
theorem okF6r (a b c nm at_ : Int) (s1 s2 s3 s4 : ByteArray) : okF false 6 a b c nm s1 s2 s3 s4 at_ = ((true) && (ndQ 6 a b c nm s1 s2 s3 s4 at_ 6 a b 0 0 (⟨#[]⟩ : ByteArray) (⟨#[]⟩ : ByteArray) (⟨#[]⟩ : ByteArray) (⟨#[]⟩ : ByteArray) at_ && (decide (0 ≤ at_) && decide (at_ ≤ 4096)))) := by
  unfold okF plainB namedB resB namesL ndQ
  simp only [emp_list, emp_is]
  rw [Bool.eq_iff_iff]
  simp
  try grind
theorem okF7n (a b c nm at_ : Int) (s1 s2 s3 s4 : ByteArray) : okF true 7 a b c nm s1 s2 s3 s4 at_ = ((true) && (ndQ 7 a b c nm s1 s2 s3 s4 at_ 7 a b c 0 (⟨#[]⟩ : ByteArray) (⟨#[]⟩ : ByteArray) (⟨#[]⟩ : ByteArray) (⟨#[]⟩ : ByteArray) at_ && (decide (0 ≤ at_) && decide (at_ ≤ 4096)))) := by
  unfold okF plainB namedB resB namesL ndQ
  simp only [emp_list, emp_is]
  rw [Bool.eq_iff_iff]
  simp
  try grind
theorem okF7r (a b c nm at_ : Int) (s1 s2 s3 s4 : ByteArray) : okF false 7 a b c nm s1 s2 s3 s4 at_ = ((true) && (ndQ 7 a b c nm s1 s2 s3 s4 at_ 7 a b c 0 (⟨#[]⟩ : ByteArray) (⟨#[]⟩ : ByteArray) (⟨#[]⟩ : ByteArray) (⟨#[]⟩ : ByteArray) at_ && (decide (0 ≤ at_) && decide (at_ ≤ 4096)))) := by
  unfold okF plainB namedB resB namesL ndQ
  simp only [emp_list, emp_is]
  rw [Bool.eq_iff_iff]
  simp
  try grind
theorem okF8n (a b c nm at_ : Int) (s1 s2 s3 s4 : ByteArray) : okF true 8 a b c nm s1 s2 s3 s4 at_ = ((true) && (ndQ 8 a b c nm s1 s2 s3 s4 at_ 8 a b 0 nm (⟨#[]⟩ : ByteArray) (⟨#[]⟩ : ByteArray) (⟨#[]⟩ : ByteArray) (⟨#[]⟩ : ByteArray) at_ && (decide (0 ≤ at_) && decide (at_ ≤ 4096)))) := by
  unfold okF plainB namedB resB namesL ndQ
  simp only [emp_list, emp_is]
  rw [Bool.eq_iff_iff]
  simp
  try grind
theorem okF8r (a b c nm at_ : Int) (s1 s2 s3 s4 : ByteArray) : okF false 8 a b c nm s1 s2 s3 s4 at_ = ((true) && (ndQ 8 a b c nm s1 s2 s3 s4 at_ 8 a b 0 nm (⟨#[]⟩ : ByteArray) (⟨#[]⟩ : ByteArray) (⟨#[]⟩ : ByteArray) (⟨#[]⟩ : ByteArray) at_ && (decide (0 ≤ at_) && decide (at_ ≤ 4096)))) := by
  unfold okF plainB namedB resB namesL ndQ
  simp only [emp_list, emp_is]
  rw [Bool.eq_iff_iff]
  simp
  try grind
theorem okF9n (a b c nm at_ : Int) (s1 s2 s3 s4 : ByteArray) : okF true 9 a b c nm s1 s2 s3 s4 at_ = ((nmB s1.data.toList) && (ndQ 9 a b c nm s1 s2 s3 s4 at_ 9 a 0 0 0 s1 (⟨#[]⟩ : ByteArray) (⟨#[]⟩ : ByteArray) (⟨#[]⟩ : ByteArray) at_ && (decide (0 ≤ at_) && decide (at_ ≤ 4096)))) := by
  unfold okF plainB namedB resB namesL ndQ
  simp only [emp_list, emp_is]
  rw [Bool.eq_iff_iff]
  simp
  try grind
theorem okF9r (a b c nm at_ : Int) (s1 s2 s3 s4 : ByteArray) : okF false 9 a b c nm s1 s2 s3 s4 at_ = ((true) && (ndQ 9 a b c nm s1 s2 s3 s4 at_ 9 a 0 0 nm (⟨#[]⟩ : ByteArray) (⟨#[]⟩ : ByteArray) (⟨#[]⟩ : ByteArray) (⟨#[]⟩ : ByteArray) at_ && (decide (0 ≤ at_) && decide (at_ ≤ 4096)))) := by
  unfold okF plainB namedB resB namesL ndQ
  simp only [emp_list, emp_is]
  rw [Bool.eq_iff_iff]
  simp
  try grind
theorem okF10n (a b c nm at_ : Int) (s1 s2 s3 s4 : ByteArray) : okF true 10 a b c nm s1 s2 s3 s4 at_ = ((nmB s1.data.toList && nmB s2.data.toList && nmB s3.data.toList && nmB s4.data.toList) && (ndQ 10 a b c nm s1 s2 s3 s4 at_ 10 a b c 0 s1 s2 s3 s4 at_ && (decide (0 ≤ at_) && decide (at_ ≤ 4096)))) := by
  unfold okF plainB namedB resB namesL ndQ
  simp only [emp_list, emp_is]
  rw [Bool.eq_iff_iff]
  simp
  try grind
theorem okF10r (a b c nm at_ : Int) (s1 s2 s3 s4 : ByteArray) : okF false 10 a b c nm s1 s2 s3 s4 at_ = ((true) && (ndQ 10 a b c nm s1 s2 s3 s4 at_ 10 a b c nm (⟨#[]⟩ : ByteArray) (⟨#[]⟩ : ByteArray) (⟨#[]⟩ : ByteArray) (⟨#[]⟩ : ByteArray) at_ && (decide (0 ≤ at_) && decide (at_ ≤ 4096)))) := by
  unfold okF plainB namedB resB namesL ndQ
  simp only [emp_list, emp_is]
  rw [Bool.eq_iff_iff]
  simp
  try grind
end Go.Proofs.YtidlljookjicpaaDoor
