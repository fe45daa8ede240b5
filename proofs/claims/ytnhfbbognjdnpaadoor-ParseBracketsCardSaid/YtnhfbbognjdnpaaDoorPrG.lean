/- A text with blanks ahead, and a line's end and blanks behind. -/
import Derived.Test.YtnhfbbognjdnpaaDoorPrF
namespace Go.Proofs.YtnhfbbognjdnpaaDoor
open Go.RowKit
set_option linter.unusedVariables false
set_option linter.unusedSimpArgs false

theorem lx_ahead {q l : List UInt8} (hq : skipF false (q ++ l) = skipF false l + q.length) : lxAt (q ++ l) 0 [] = lxAt l q.length [] := by
  have hd : (q ++ l).drop (skipF false (q ++ l)) = l.drop (skipF false l) := by
    rw [hq, Nat.add_comm, List.drop_append]; simp
  by_cases h : l.drop (skipF false l) = []
  · rw [lxAt_end (by rw [hd]; exact h), lxAt_end h]
  · by_cases he : (firstF (l.drop (skipF false l))).2.2 = 0
    · obtain ⟨⟨t, n, er⟩, hf⟩ : ∃ r, firstF (l.drop (skipF false l)) = r := ⟨_, rfl⟩
      rw [hf] at he
      obtain rfl : er = 0 := he
      rw [lxAt_step (l := l) h hf, lxAt_step (l := q ++ l) (by rw [hd]; exact h) (by rw [hd]; exact hf), hd, hq]
      rw [show 0 + (skipF false l + q.length) = q.length + skipF false l by omega]
    · rw [lxAt_bad (by rw [hd]; exact h) (by rw [hd]; exact he), lxAt_bad h he, hd, hq]
      congr 2
      omega
/-- blanks and remarks ahead. -/
structure Blank (p : ByteArray) : Prop where
  v : (vaV p).2 = true
  s : ∀ l, skipF false (p.data.toList ++ l) = skipF false l + p.data.toList.length
  n : lexR p = ([], 0, 0)
theorem lexR_pre {p : ByteArray} (hp : Blank p) (x : ByteArray) (h : p.size + x.size ≤ 4096) : lexR (p ++ x) = if (lexR x).2.2 = 0 then ((lexR x).1.map (sh p.size), 0, 0) else ([], (lexR x).2.1 + p.size, (lexR x).2.2) := by
  have hw : (p ++ x).size ≤ 4096 := by rw [app_size]; exact h
  have hva := vaV_app p x hp.v
  cases hv : (vaV x).2
  · rw [hv] at hva
    simp only [Bool.false_eq_true, if_false] at hva
    rw [lexR_form x (by omega) hv, lexR_form _ hw (by rw [hva]), hva]
    dsimp only
    rw [if_neg (by simp)]
    congr 2
    omega
  · rw [hv] at hva
    simp only [if_true] at hva
    have h1 := lexR_ok x (by omega) hv
    rw [lexR_ok _ hw (by rw [hva]), app_list, lx_ahead (hp.s _), h1]
    have h2 := lxAt_sh p.size [] _ x.data.toList (Nat.le_refl _) 0 []
    rw [List.map_nil, List.append_nil, Nat.zero_add] at h2
    rw [len_list, h2]
    rfl
theorem lexR_ahead {p : ByteArray} (hp : Blank p) (s : ByteArray) (h : p.size + (s.size + 1 + p.size) ≤ 4096) : (lexR (p ++ (s ++ nlB ++ p))).2.2 = (lexR s).2.2 ∧ ((lexR s).2.2 = 0 → (lexR (p ++ (s ++ nlB ++ p))).1 = (lexR s).1.map (shT p.size)) ∧ ((lexR s).2.2 ≠ 0 → (lexR (p ++ (s ++ nlB ++ p))).2.1 = (lexR s).2.1 + p.size) := by
  have hj := lexR_join s p (by omega)
  rw [hp.n] at hj
  unfold joinR at hj
  rw [lexR_pre hp _ (by rw [nl_whole]; exact h)]
  generalize lexR s = A at hj ⊢
  by_cases h2 : A.2.2 = 200
  · rw [if_pos h2] at hj
    rw [hj]
    dsimp only
    rw [if_neg (by simp)]
    exact ⟨h2.symm, fun h0 => (by rw [h0] at h2; cases h2), fun _ => rfl⟩
  · rw [if_neg h2, if_neg (by decide)] at hj
    by_cases h0 : A.2.2 = 0
    · rw [if_pos h0, if_pos rfl] at hj
      rw [hj, if_pos rfl]
      refine ⟨h0.symm, fun _ => ?_, fun hn => absurd h0 hn⟩
      simp only [List.map_nil, List.append_nil]
      rfl
    · rw [if_neg h0] at hj
      rw [hj, if_neg h0]
      exact ⟨rfl, fun hc => absurd hc h0, fun _ => rfl⟩
theorem parse_blank {p : ByteArray} (hp : Blank p) (s : ByteArray) (h : p.size + (s.size + 1 + p.size) ≤ 4096) : RR (p.size : Int) (s.size : Int) ((p ++ (s ++ nlB ++ p)).size : Int) (fun a a' => a'.1 = a.1 ∧ a'.2 = a.2.map (shN p.size)) (parseV s) (parseV (p ++ (s ++ nlB ++ p))) := by
  obtain ⟨h1, h2, h3⟩ := lexR_ahead hp s h
  unfold parseV
  rw [h1]
  by_cases h0 : (lexR s).2.2 = 0
  · rw [if_pos h0, if_pos h0, h2 h0]
    exact prog_sh _ _ _ _
  · rw [if_neg h0, if_neg h0, h3 h0]
    exact ⟨_, rfl, rfl, .inl rfl⟩
theorem bare_sh (d : Int) (ns : List Nd) : sameV ndS ns (ns.map (shN d)) = true := by
  refine sameS_of ?_
  rw [List.map_map]
  rfl
end Go.Proofs.YtnhfbbognjdnpaaDoor
