/- What a target term is, plain: places, names, numbers. -/
import Derived.Test.YtnjalpcmjkahkaaRsY
import Derived.Test.YtnjalpcmjkahkaaTgF
namespace Go.Proofs.Ytnjalpcmjkahkaa
open Go.RowKit
set_option linter.unusedVariables false
set_option linter.unusedSimpArgs false

theorem bgK_in {g : Nat → Int} (hg : ∀ j, g j ≤ j) : ∀ (cs : List Int) (k : Int), 0 ≤ bgK g cs k → ∀ c ∈ cs, 0 ≤ c ∧ c < k
  | [], k, _, c, hc => by cases hc
  | d :: cs, k, h, c, hc => by
    unfold bgK at h
    split at h
    · next hd =>
      split at h
      · omega
      · next hn =>
        have hle := hg (k - 1).toNat
        rcases List.mem_cons.1 hc with rfl | hc
        · omega
        · have := bgK_in hg cs _ h c hc
          omega
    · omega
theorem bg_in {ks : Nat → List Int} {i : Nat} (h : 0 ≤ bg ks i) {c : Int} (hc : c ∈ ks i) : 0 ≤ c ∧ c < i := by
  rw [bg_eq] at h
  exact bgK_in (bg_le ks) _ _ h c (List.mem_reverse.2 hc)
theorem may_parts {ts : List Tg} (h : mayV ts = true) : (1 ≤ ts.length ∧ ts.length ≤ 8192) ∧ (∀ i, i < ts.length → okT (ts.getD i tg0) = true) ∧ ∀ i, i < ts.length → ∀ c ∈ ksT ts i, 0 ≤ c ∧ c < i := by
  unfold mayV at h
  simp only [Bool.and_eq_true, decide_eq_true_eq, List.all_eq_true] at h
  obtain ⟨⟨h1, h2⟩, h3⟩ := h
  refine ⟨h1, fun i hi => h2 _ ?_, fun i hi c hc => bg_in (bg_all h3 i (by omega)) hc⟩
  rw [List.getD_eq_getElem?_getD, List.getElem?_eq_getElem hi]; exact List.getElem_mem hi
theorem okT_parts {t : Tg} (h : okT t = true) : plainT t.k t.a t.b t.c t.n t.x t.y t.z t.w = true ∧ numT t.k t.n = true ∧ okNames t.k t.n t.x t.y t.z t.w = true := by
  unfold okT at h
  simp only [Bool.and_eq_true] at h
  exact ⟨h.1.1, h.1.2, h.2⟩
theorem kids_a {k a b c : Int} (h : k = 3 ∨ k = 4 ∨ k = 9 ∨ k = 5 ∨ k = 6 ∨ k = 8 ∨ k = 10 ∨ k = 11 ∨ k = 7 ∨ k = 12) : a ∈ kidsL k a b c := by
  unfold kidsL; repeat' split
  all_goals first | (exfalso; omega) | simp
theorem kids_b {k a b c : Int} (h : k = 5 ∨ k = 6 ∨ k = 8 ∨ k = 10 ∨ k = 11 ∨ k = 7 ∨ k = 12) : b ∈ kidsL k a b c := by
  unfold kidsL; repeat' split
  all_goals first | (exfalso; omega) | simp
theorem kids_c {k a b c : Int} (h : k = 7 ∨ k = 12) : c ∈ kidsL k a b c := by
  unfold kidsL; repeat' split
  all_goals first | (exfalso; omega) | simp
theorem plainT_kind {k a b c n x y z w : Int} (h : plainT k a b c n x y z w = true) : 0 ≤ k ∧ k ≤ 12 := by
  unfold plainT at h
  repeat' (split at h)
  all_goals first | omega | (simp at h; omega)
theorem kidLt_of {ts : List Tg} (h : mayV ts = true) : KidLt ts := fun i hi => by
  obtain ⟨_, h2, h3⟩ := may_parts h
  have hk := plainT_kind (okT_parts (h2 i hi)).1
  have h3 := h3 i hi
  unfold ksT at h3
  exact ⟨fun h0 h1 h2 => h3 _ (kids_a (by omega)), fun h0 => h3 _ (kids_b (by omega)), fun h0 => h3 _ (kids_c (by omega))⟩
theorem kidIn_of {ts : List Tg} (h : mayV ts = true) : KidIn ts := fun i hi => by
  obtain ⟨h1, h2, h3⟩ := may_parts h
  have hp := okT_parts (h2 i hi)
  have hk := plainT_kind hp.1
  have h3 := h3 i hi
  have hpl := hp.1
  have hn := hp.2.1
  unfold ksT at h3
  unfold numT at hn
  simp only [decide_eq_true_eq] at hn
  generalize ts.getD i tg0 = t at *
  refine ⟨hn.2.2.1, fun h => by have := hn.1 h; omega, ?_, ?_, ?_⟩
  · by_cases h0 : t.k = 3 ∨ t.k = 4 ∨ t.k = 9 ∨ t.k = 5 ∨ t.k = 6 ∨ t.k = 8 ∨ t.k = 10 ∨ t.k = 11 ∨ t.k = 7 ∨ t.k = 12
    · have := h3 _ (kids_a (b := t.b) (c := t.c) h0); omega
    · unfold plainT at hpl
      rw [if_pos (by omega)] at hpl
      simp only [decide_eq_true_eq] at hpl
      omega
  · by_cases h0 : t.k = 5 ∨ t.k = 6 ∨ t.k = 8 ∨ t.k = 10 ∨ t.k = 11 ∨ t.k = 7 ∨ t.k = 12
    · have := h3 _ (kids_b (a := t.a) (c := t.c) h0); omega
    · have hb : t.b = 0 := by
        unfold plainT at hpl
        repeat' (split at hpl)
        all_goals first | (simp only [decide_eq_true_eq] at hpl; omega) | omega
      omega
  · by_cases h0 : t.k = 7 ∨ t.k = 12
    · have := h3 _ (kids_c (a := t.a) (b := t.b) h0); omega
    · have hb : t.c = 0 := by
        unfold plainT at hpl
        repeat' (split at hpl)
        all_goals first | (simp only [decide_eq_true_eq] at hpl; omega) | omega
      omega
theorem namIn_of {ts : List Tg} (h : mayV ts = true) : NamIn ts := fun i hi => by
  obtain ⟨h1, h2, h3⟩ := may_parts h
  have hp := okT_parts (h2 i hi)
  have hk := plainT_kind hp.1
  have hpl := hp.1
  have hok := hp.2.2
  generalize ts.getD i tg0 = t at *
  obtain ⟨k, a, b, c, n, x, y, z, w⟩ := t
  dsimp only at hk hpl hok ⊢
  clear hp h2 h3 h1 h
  have hk : k = 0 ∨ k = 1 ∨ k = 2 ∨ k = 3 ∨ k = 4 ∨ k = 5 ∨ k = 6 ∨ k = 7 ∨ k = 8 ∨ k = 9 ∨ k = 10 ∨ k = 11 ∨ k = 12 := by omega
  rcases hk with rfl | rfl | rfl | rfl | rfl | rfl | rfl | rfl | rfl | rfl | rfl | rfl | rfl
  all_goals
    simp [plainT] at hpl
    simp [okNames, namesT, nameT] at hok
    omega
/-- what Run tells: what came of it, how many steps, an error's number. -/
def runV (ts : List Tg) (fuel : Int) : ((Int × Int) × Nat) × Int :=
  if mayV ts = true ∧ 0 ≤ fuel ∧ fuel ≤ 1048576 then (rRun ts (furV ts) fuel.toNat 0 (.ev [] ((ts.length : Int) - 1) .nil), 0) else (((0, 0), 0), 2100)
def runR (x : ((Int × Int) × Nat) × Int) : Value := .tuple #[.agg #[.int .i64 x.1.1.1, .int .i64 x.1.1.2], .int .i64 x.1.2, .int .i64 x.2]
end Go.Proofs.Ytnjalpcmjkahkaa
