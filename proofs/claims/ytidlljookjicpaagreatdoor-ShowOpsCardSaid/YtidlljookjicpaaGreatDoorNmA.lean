/- Names: a text of one token that is a name is what letters, length and the words of the language say. -/
import Derived.Test.YtidlljookjicpaaGreatDoorLxW
import Derived.Test.YtidlljookjicpaaGreatDoorLxR
namespace Go.Proofs.YtidlljookjicpaaGreatDoor
open Go.RowKit
set_option linter.unusedVariables false
set_option linter.unusedSimpArgs false

def nmB (l : List UInt8) : Bool := decide (l.length ≤ 16) && letB l && !kwB l
/-- is what lex.Tokens tells of s one name that is s? -/
def nmR (R : List Tk × Int × Int) (s : ByteArray) : Bool := match R.1 with
  | [t] => (R.2.2 == 0) && (t.kind == 0) && decide (bs t.text = s)
  | _ => false
theorem isL_asc {c : UInt8} (h : isL c = true) : decide (c.toNat < 128) = true := by unfold isL at h; simp at h ⊢; omega
theorem isN_asc {c : UInt8} (h : isN c = true) : decide (c.toNat < 128) = true := by
  unfold isN isL isD at h; simp at h ⊢; omega
theorem asc_isN {l : List UInt8} (h : l.all isN = true) : asc l = true := by
  unfold asc
  rw [List.all_eq_true] at h ⊢
  exact fun x hx => isN_asc (h x hx)
theorem letB_all {l : List UInt8} (h : letB l = true) : l.all isN = true ∧ l ≠ [] := by
  cases l with
  | nil => simp [letB] at h
  | cons c t =>
    rw [letB_cons, Bool.and_eq_true] at h
    exact ⟨by rw [List.all_cons, isL_isN h.1, h.2]; rfl, by simp⟩
theorem runN_whole {l : List UInt8} (h : l.all isN = true) : runN l = l.length := by
  have := runN_app (r := []) h
  rw [List.append_nil, runN_nil] at this; omega
theorem skip_let {c : UInt8} {t : List UInt8} (h : isL c = true) : skipF false (c :: t) = 0 := by
  unfold isL at h
  simp at h
  rw [skipF_cons, if_neg (by omega), if_neg (by omega), if_neg (by omega)]; rfl
theorem lexR_name {s : ByteArray} (h : nmB s.data.toList = true) : lexR s = ([⟨0, s.data.toList, 0, 0⟩], 0, 0) := by
  unfold nmB at h
  simp only [Bool.and_eq_true, decide_eq_true_eq, Bool.not_eq_true'] at h
  obtain ⟨⟨hl, hb⟩, hk⟩ := h
  obtain ⟨ha, hne⟩ := letB_all hb
  have hsb : bs s.data.toList = s := ba_ext rfl
  have h1 := lexR_asc (asc_isN ha) (by omega)
  rw [hsb] at h1
  rw [h1]
  generalize s.data.toList = l at hl hb hk ha hne
  match l, hne with
  | c :: t, _ =>
    rw [letB_cons, Bool.and_eq_true] at hb
    have hr := runN_whole ha
    have hf : firstF (c :: t) = (⟨0, c :: t, 0, 0⟩, (c :: t).length, 0) := by
      simp only [firstF]
      rw [if_pos hb.1, hr, List.take_length, hk]
      simp only [Bool.false_eq_true, if_false]
      rw [if_neg (by omega)]
    rw [lxAt_more (skip_let hb.1) (by simp) hf, List.drop_length, lxAt_nil]
    rfl
theorem tw_all (l : List UInt8) : ∀ x ∈ l.takeWhile isN, isN x = true := by
  induction l with
  | nil => intro x hx; simp at hx
  | cons c t ih =>
    intro x hx
    cases h : isN c
    · rw [List.takeWhile_cons_of_neg (by rw [h]; simp)] at hx; simp at hx
    · rw [List.takeWhile_cons_of_pos h] at hx
      rcases List.mem_cons.1 hx with rfl | hx
      · exact h
      · exact ih x hx
theorem firstF_kind0 {m : List UInt8} {t : Tk} {n : Nat} (hne : m ≠ []) (hf : firstF m = (t, n, 0)) (hk : t.kind = 0) : letB t.text = true ∧ kwB t.text = false ∧ t.text.length ≤ 16 ∧ t.text = m.take n := by
  match m, hne with
  | c :: r, _ =>
    simp only [firstF] at hf
    by_cases hl : isL c = true
    · rw [if_pos hl] at hf
      split at hf
      · injection hf with h1 h2; subst h1; simp at hk
      · rename_i hkw
        split at hf
        · injection hf with h1 h2; injection h2 with h2 h3; simp at h3
        · rename_i hlen
          injection hf with h1 h2; injection h2 with h2 h3
          subst h1
          subst h2
          have hr := runN_le (c :: r)
          have hlet : letB ((c :: r).take (runN (c :: r))) = true := by
            rw [runN_take]
            rw [List.takeWhile_cons_of_pos (isL_isN hl), letB_cons, hl, Bool.true_and, List.all_eq_true]
            intro x hx
            exact tw_all r x hx
          refine ⟨hlet, by simpa using hkw, by simpa using hlen, ?_⟩
          show (c :: r).take (runN (c :: r)) = (c :: r).take ((c :: r).take (runN (c :: r))).length
          rw [List.length_take, Nat.min_eq_left hr]
    · rw [if_neg hl] at hf
      by_cases hd : isD c = true
      · rw [if_pos hd] at hf
        split at hf
        · injection hf with h1 h2; subst h1; simp at hk
        · injection hf with h1 h2; injection h2 with h2 h3; simp at h3
      · rw [if_neg hd] at hf
        split at hf
        · injection hf with h1 h2; injection h2 with h2 h3; simp at h3
        · injection hf with h1 h2; subst h1; simp at hk
theorem lx_pre : ∀ (f : Nat) (l : List UInt8) (p : Nat) (acc : List Tk), (lx f l p acc).2.2 = 0 → l.length < f → ∃ r, (lx f l p acc).1 = acc ++ r ∧ ∀ t ∈ r, t.kind = 0 → letB t.text = true ∧ kwB t.text = false ∧ t.text.length ≤ 16
  | 0, _, _, _, _, h => by omega
  | f + 1, l, p, acc, he, hl => by
    unfold lx at he ⊢
    simp only [] at he ⊢
    by_cases hm : l.drop (skipF false l) = []
    · rw [if_pos hm]; exact ⟨[], by simp, by simp⟩
    · rw [if_neg hm] at he ⊢
      by_cases h0 : (firstF (l.drop (skipF false l))).2.2 = 0
      · rw [if_pos h0] at he ⊢
        have hp := firstF_pos hm h0
        obtain ⟨r, h1, h2⟩ := lx_pre f _ _ _ he (by simp only [List.length_drop] at hp ⊢; omega)
        refine ⟨_, by rw [h1, List.append_assoc], ?_⟩
        intro t ht hk
        rcases List.mem_append.1 ht with h | h
        · simp only [List.mem_cons, List.not_mem_nil, or_false] at h
          subst h
          obtain ⟨⟨t1, n, er⟩, hq⟩ : ∃ q, firstF (l.drop (skipF false l)) = q := ⟨_, rfl⟩
          rw [hq] at h0 hk ⊢
          obtain rfl : er = 0 := h0
          obtain ⟨a1, a2, a3, _⟩ := firstF_kind0 hm hq hk
          exact ⟨a1, a2, a3⟩
        · exact h2 t h hk
      · rw [if_neg h0] at he; exact absurd he h0
theorem nm_iff (s : ByteArray) : nmR (lexR s) s = nmB s.data.toList := by
  cases hb : nmB s.data.toList
  · unfold nmR
    split
    · rename_i t ht
      cases hc : ((lexR s).2.2 == 0) && (t.kind == 0) && decide (bs t.text = s)
      · rfl
      · exfalso
        simp only [Bool.and_eq_true, beq_iff_eq, decide_eq_true_eq] at hc
        obtain ⟨⟨h1, h2⟩, h3⟩ := hc
        have hl : t.text = s.data.toList := by rw [← h3]; rfl
        have hlr : ∃ r, (lexR s).1 = r ∧ ∀ t ∈ r, t.kind = 0 → letB t.text = true ∧ kwB t.text = false ∧ t.text.length ≤ 16 := by
          unfold lexR at h1 ⊢
          split at h1
          · simp at h1
          · split at h1
            · simp at h1
            · rename_i h5 h6
              rw [if_neg h5, if_neg h6]
              obtain ⟨r, h7, h8⟩ := lx_pre _ _ _ _ h1 (Nat.lt_succ_self _)
              exact ⟨r, by rw [lxAt, h7]; rfl, h8⟩
        obtain ⟨r, h7, h8⟩ := hlr
        rw [ht] at h7
        subst h7
        obtain ⟨q1, q2, q3⟩ := h8 t (by simp) h2
        rw [hl] at q1 q2 q3
        unfold nmB at hb
        rw [q1, q2, decide_eq_true q3] at hb
        cases hb
    · rfl
  · rw [lexR_name hb]
    unfold nmR
    simp only []
    rw [decide_eq_true (show bs s.data.toList = s from ba_ext rfl)]
    rfl
end Go.Proofs.YtidlljookjicpaaGreatDoor
