/- What a text's program is like. -/
import Derived.Test.YtnhfbbognjdnpaaGreatDoorPrD
import Derived.Test.YtnhfbbognjdnpaaGreatDoorMay
import Derived.Test.YtnhfbbognjdnpaaGreatDoorPaU
import Derived.Test.YtnhfbbognjdnpaaGreatDoorLxY
namespace Go.Proofs.YtnhfbbognjdnpaaGreatDoor
open Go.RowKit
set_option linter.unusedVariables false
set_option linter.unusedSimpArgs false

theorem nm_sz {x : ByteArray} (h : nmB x.data.toList = true) : x.size ≤ 1125899906842624 := by
  unfold nmB at h
  simp only [Bool.and_eq_true, decide_eq_true_eq] at h
  have := h.1.1
  show x.data.size ≤ _
  rw [← Array.length_toList]; omega
theorem e_sz {x : ByteArray} (h : x.data.toList = []) : x.size ≤ 1125899906842624 := by
  show x.data.size ≤ _
  rw [← Array.length_toList, h]; decide
theorem plain_sz {t : Nd} (hp : plainC t.k t.a t.b t.c t.n t.nm.data.toList t.x.data.toList t.y.data.toList t.z.data.toList = true) (hn : namedB t.k t.n (namesL t.k t.nm t.x t.y t.z) = true) : NdSz t := by
  obtain ⟨k, a, b, c, n, nm, x, y, z, p⟩ := t
  dsimp only at hp hn
  unfold namedB at hn
  rw [Bool.and_eq_true] at hn
  have hn := hn.2
  unfold plainC at hp
  show nm.size ≤ _ ∧ x.size ≤ _ ∧ y.size ≤ _ ∧ z.size ≤ _
  by_cases h0 : k = 0
  · subst h0
    rw [if_pos rfl, decide_eq_true_eq] at hp
    have hn : [nm].all (fun s => nmB s.data.toList) = true := hn
    rw [List.all_cons, Bool.and_eq_true] at hn
    exact ⟨nm_sz hn.1, e_sz hp.2.2.2.1, e_sz hp.2.2.2.2.1, e_sz hp.2.2.2.2.2⟩
  rw [if_neg h0] at hp
  by_cases h1 : k = 1 ∨ k = 2
  · rw [if_pos h1, decide_eq_true_eq] at hp
    exact ⟨e_sz hp.2.2.2.1, e_sz hp.2.2.2.2.1, e_sz hp.2.2.2.2.2.1, e_sz hp.2.2.2.2.2.2⟩
  rw [if_neg h1] at hp
  by_cases h3 : k = 3
  · subst h3
    rw [if_pos rfl, decide_eq_true_eq] at hp
    have hn : [x].all (fun s => nmB s.data.toList) = true := hn
    rw [List.all_cons, Bool.and_eq_true] at hn
    exact ⟨e_sz hp.2.2.2.1, nm_sz hn.1, e_sz hp.2.2.2.2.1, e_sz hp.2.2.2.2.2⟩
  rw [if_neg h3] at hp
  by_cases h4 : k = 4
  · rw [if_pos h4, decide_eq_true_eq] at hp
    exact ⟨e_sz hp.2.2.1, e_sz hp.2.2.2.1, e_sz hp.2.2.2.2.1, e_sz hp.2.2.2.2.2⟩
  rw [if_neg h4] at hp
  by_cases h5 : k = 5
  · subst h5
    rw [if_pos rfl, decide_eq_true_eq] at hp
    have hn : [x].all (fun s => nmB s.data.toList) = true := hn
    rw [List.all_cons, Bool.and_eq_true] at hn
    exact ⟨e_sz hp.2.2.1, nm_sz hn.1, e_sz hp.2.2.2.1, e_sz hp.2.2.2.2⟩
  rw [if_neg h5] at hp
  by_cases h6 : k = 6
  · subst h6
    rw [if_pos rfl, decide_eq_true_eq] at hp
    have hn : [x, y].all (fun s => nmB s.data.toList) = true := hn
    rw [List.all_cons, List.all_cons, Bool.and_eq_true, Bool.and_eq_true] at hn
    exact ⟨e_sz hp.2.2.1, nm_sz hn.1, nm_sz hn.2.1, e_sz hp.2.2.2⟩
  rw [if_neg h6] at hp
  by_cases h7 : k = 7
  · rw [if_pos h7, decide_eq_true_eq] at hp
    exact ⟨e_sz hp.2.1, e_sz hp.2.2.1, e_sz hp.2.2.2.1, e_sz hp.2.2.2.2⟩
  rw [if_neg h7] at hp
  by_cases h8 : k = 8
  · rw [if_pos h8, decide_eq_true_eq] at hp
    exact ⟨e_sz hp.2.1, e_sz hp.2.2.1, e_sz hp.2.2.2.1, e_sz hp.2.2.2.2⟩
  rw [if_neg h8] at hp
  by_cases h9 : k = 9
  · subst h9
    rw [if_pos rfl, decide_eq_true_eq] at hp
    have hn : [nm].all (fun s => nmB s.data.toList) = true := hn
    rw [List.all_cons, Bool.and_eq_true] at hn
    exact ⟨nm_sz hn.1, e_sz hp.2.2.1, e_sz hp.2.2.2.1, e_sz hp.2.2.2.2⟩
  rw [if_neg h9, decide_eq_true_eq] at hp
  subst hp
  have hn : [nm, x, y, z].all (fun s => nmB s.data.toList) = true := hn
  simp only [List.all_cons, Bool.and_eq_true] at hn
  exact ⟨nm_sz hn.1, nm_sz hn.2.1, nm_sz hn.2.2.1, nm_sz hn.2.2.2.1⟩
theorem ok_sz {t : Nd} (h : okNd (okNm true) t = true) : NdSz t := by
  unfold okNd okNm at h
  rw [plain_c] at h
  simp only [Bool.and_eq_true, if_true] at h
  exact plain_sz h.1.1.1.1 h.2
/-- what is known of a program that was read. -/
structure PrK (n : Nat) (os : List Or) (ns : List Nd) : Prop where
  sz : ∀ t ∈ ns, NdSz t
  oz : ∀ o ∈ os, OrSz o
  may : mayV os ns = true
  at_ : ∀ j, j < ns.length → 0 ≤ (ns.getD j nd0).p ∧ (ns.getD j nd0).p < n
  l0 : 1 ≤ ns.length
  l1 : ns.length ≤ 512
  ol : os.length ≤ 4
theorem parse_k {s : ByteArray} {os : List Or} {ns : List Nd} (h : parseV s = .ok (os, ns)) : PrK s.size os ns := by
  obtain ⟨h1, h2, h3, h4⟩ := parseV_may h
  have hl : 1 ≤ ns.length ∧ ns.length ≤ 512 := by
    unfold treeV at h1
    simp only [Bool.and_eq_true, decide_eq_true_eq] at h1
    exact h1.1.1
  refine ⟨fun t ht => ok_sz (h2 t ht).1, fun o ho => nm_sz (h4 o ho).2.2, ?_, fun j hj => ?_, hl.1, hl.2, h3⟩
  · unfold mayV
    rw [h1, opsV_ok h3, Bool.and_true]
    rw [List.all_eq_true]
    intro o ho
    obtain ⟨a1, a2, a3⟩ := h4 o ho
    unfold opOk baseB
    rw [a3]
    rcases a1 with e1 | e1 <;> rcases a2 with e2 | e2 <;> (rw [e1, e2]; rfl)
  · have hm : ns.getD j nd0 ∈ ns := by
      rw [List.getD_eq_getElem?_getD, List.getElem?_eq_getElem hj]; exact List.getElem_mem hj
    exact (h2 _ hm).2
theorem parse_no {s : ByteArray} {x : PE} (h : parseV s = .error x) : (400 ≤ x.1 ∧ x.1 ≤ 403) ∧ 0 ≤ x.2 ∧ x.2 ≤ s.size := parseV_bad h (lexR_place s)
end Go.Proofs.YtnhfbbognjdnpaaGreatDoor
