/- Plain facts on what lex.Tokens tells: bounds. -/
import Derived.Test.YtidlljookjicpaaGreatDoorLxR
namespace Go.Proofs.YtidlljookjicpaaGreatDoor
open Go.RowKit
set_option linter.unusedVariables false
set_option linter.unusedSimpArgs false
theorem firstF_er (l : List UInt8) : 0 ≤ (firstF l).2.2 ∧ (firstF l).2.2 ≤ 202 := by
  match l with
  | [] => simp [firstF]
  | c :: t => simp only [firstF]; (repeat' split) <;> simp
theorem lx_er : ∀ (f : Nat) (l : List UInt8) (p : Nat) (acc : List Tk), 0 ≤ (lx f l p acc).2.2 ∧ (lx f l p acc).2.2 ≤ 202
  | 0, _, _, _ => by simp [lx]
  | f + 1, l, p, acc => by
    unfold lx
    simp only []
    split
    · simp
    · split
      · exact lx_er f _ _ _
      · exact firstF_er _
theorem lx_len : ∀ (f : Nat) (l : List UInt8) (p : Nat) (acc : List Tk), (lx f l p acc).1.length ≤ acc.length + l.length
  | 0, _, _, _ => by simp [lx]
  | f + 1, l, p, acc => by
    unfold lx
    simp only []
    split
    · simp
    · rename_i hm
      split
      · rename_i he
        have hp := firstF_pos hm he
        refine Nat.le_trans (lx_len f _ _ _) ?_
        simp only [List.length_append, List.length_drop, List.length_cons, List.length_nil] at hp ⊢
        omega
      · simp
theorem lexR_bd (s : ByteArray) : 0 ≤ (lexR s).2.2 ∧ (lexR s).2.2 ≤ 202 := by
  unfold lexR
  split
  · simp
  · split
    · simp
    · exact lx_er _ _ _ _
theorem lexR_len (s : ByteArray) : (lexR s).1.length ≤ 4096 := by
  unfold lexR
  split
  · simp
  · split
    · simp
    · have := lx_len (s.data.toList.length + 1) s.data.toList 0 []
      rw [len_list] at this
      unfold lxAt
      rw [len_list]
      simp at this
      omega
/-- an own slice of tokens: nil, or in a block of its own. -/
theorem OwnK.cases {B : Nat} {w : World} {v : Value} {l : List Tk} (h : OwnK B w v l) : (v = .slice none 0 0 ∧ l = []) ∨ ∃ g c, v = .slice (some ⟨g, 0, none⟩) l.length c ∧ B ≤ g ∧ g < w.heap.size ∧ TkSl w g 0 l ∧ ∀ o, w.frozen? ⟨g, o, none⟩ = false := by
  have hr := h.rd
  rcases h.2 with ⟨rfl, h0⟩ | ⟨g, cap, cur, rfl, hb, hg, hc, hm, hsz, htk⟩
  · exact .inl ⟨rfl, List.eq_nil_of_length_eq_zero h0⟩
  · refine .inr ⟨g, cap, rfl, hb, (Array.getElem?_eq_some_iff.1 hg).1, ?_, fun o => World.ownsRow.frozenAt h o⟩
    rcases hr with ⟨rfl, _⟩ | ⟨g', c', he, _, hs⟩
    · intro i hi; simp at hi
    · injection he with he _ _
      injection he with he
      injection he with he _ _
      subst he
      exact hs
theorem OwnK.far {B : Nat} {w : World} {v : Value} {l : List Tk} (h : OwnK B w v l) {g : Nat} (hg : g < B) : ∀ k, v.ownBlock = some k → k ≠ g := fun k hk => by
  have := (World.ownsRow.lt h k hk).1; omega
end Go.Proofs.YtidlljookjicpaaGreatDoor
