/- Trees in rows: plain facts on begins and depths. -/
import Derived.Test.YtidlljookjicpaaDoorBg
import Derived.Test.YtidlljookjicpaaDoorNaC
/- Trees in rows: plain facts on begins and depths. -/
namespace Go.Proofs.YtidlljookjicpaaDoor
set_option linter.unusedVariables false
set_option linter.unusedSimpArgs false

theorem bgK_mem (g : Nat → Int) (hg : ∀ j, g j ≤ j) : ∀ (cs : List Int) (k : Int), 0 ≤ bgK g cs k → ∀ c ∈ cs, 0 ≤ c ∧ c < k ∧ 0 ≤ g c.toNat := by
  intro cs
  induction cs with
  | nil => intro k _ c hc; cases hc
  | cons d cs ih =>
    intro k h c hc
    unfold bgK at h
    by_cases h1 : d = k - 1 ∧ 1 ≤ k
    · rw [if_pos h1] at h
      by_cases h2 : g (k - 1).toNat < 0
      · rw [if_pos h2] at h; omega
      · rw [if_neg h2] at h
        rcases List.mem_cons.1 hc with rfl | hc
        · obtain ⟨h3, h4⟩ := h1
          refine ⟨by omega, by omega, ?_⟩
          rw [h3]; omega
        · obtain ⟨a, b, e⟩ := ih _ h c hc
          have := hg (k - 1).toNat
          exact ⟨a, by omega, e⟩
    · rw [if_neg h1] at h; omega
/-- the children of a node whose part is well stand ahead of it, and their parts are well. -/
theorem kid_ok (ks : Nat → List Int) (i : Nat) (h : 0 ≤ bg ks i) : ∀ c ∈ ks i, 0 ≤ c ∧ c < i ∧ 0 ≤ bg ks c.toNat := by
  rw [bg_eq] at h
  intro c hc
  exact bgK_mem (bg ks) (bg_le ks) _ _ h c (by simpa using hc)
theorem bgK_last (g : Nat → Int) : ∀ (cs : List Int) (c k : Int), 0 ≤ bgK g (cs ++ [c]) k → bgK g (cs ++ [c]) k = g c.toNat := by
  intro cs
  induction cs with
  | nil =>
    intro c k h
    rw [List.nil_append] at h ⊢
    unfold bgK at h ⊢
    by_cases h1 : c = k - 1 ∧ 1 ≤ k
    · rw [if_pos h1] at h ⊢
      by_cases h2 : g (k - 1).toNat < 0
      · rw [if_pos h2] at h; omega
      · rw [if_neg h2, h1.1]; rfl
    · rw [if_neg h1] at h; omega
  | cons d cs ih =>
    intro c k h
    rw [List.cons_append] at h ⊢
    unfold bgK at h ⊢
    by_cases h1 : d = k - 1 ∧ 1 ≤ k
    · rw [if_pos h1] at h ⊢
      by_cases h2 : g (k - 1).toNat < 0
      · rw [if_pos h2] at h; omega
      · rw [if_neg h2] at h ⊢
        exact ih c _ h
    · rw [if_neg h1] at h; omega
theorem bg_first (ks : Nat → List Int) (i : Nat) (c : Int) (cs : List Int) (hk : ks i = c :: cs) (h : 0 ≤ bg ks i) : bg ks i = bg ks c.toNat := by
  rw [bg_eq, hk, List.reverse_cons] at h ⊢
  exact bgK_last _ _ _ _ h
theorem bg_nil (ks : Nat → List Int) (i : Nat) (hk : ks i = []) : bg ks i = i := by
  rw [bg_eq, hk]; rfl

/-- the greatest of some numbers, no less than one. -/
def mxL (g : Nat → Int) : List Int → Int → Int
  | [], d => d
  | c :: cs, d => mxL g cs (max d (g c.toNat))
/-- how deep a node's part is. -/
def dpF (ks : Nat → List Int) : Nat → Nat → Int
  | 0, _ => 0
  | f + 1, i => mxL (dpF ks f) (ks i) 0 + 1
def dp (ks : Nat → List Int) (i : Nat) : Int := dpF ks (i + 1) i
theorem mxL_congr (g h : Nat → Int) : ∀ (cs : List Int) (d : Int), (∀ c ∈ cs, g c.toNat = h c.toNat) → mxL g cs d = mxL h cs d := by
  intro cs
  induction cs with
  | nil => intro d _; rfl
  | cons c cs ih =>
    intro d hk
    unfold mxL
    rw [hk c (by simp)]
    exact ih _ (fun e he => hk e (by simp [he]))
theorem dpF_fuel (ks : Nat → List Int) : ∀ (f i g : Nat), 0 ≤ bg ks i → i < f → i < g → dpF ks f i = dpF ks g i := by
  intro f
  induction f with
  | zero => intro i g _ h; omega
  | succ f ih =>
    intro i g h0 h1 h2
    cases g with
    | zero => omega
    | succ g =>
      unfold dpF
      rw [mxL_congr _ _ _ _ (fun c hc => by
        obtain ⟨a, b, e⟩ := kid_ok ks i h0 c hc
        exact ih c.toNat g e (by omega) (by omega))]
theorem dp_eq (ks : Nat → List Int) (i : Nat) (h : 0 ≤ bg ks i) : dp ks i = mxL (dp ks) (ks i) 0 + 1 := by
  conv => lhs; unfold dp dpF
  rw [mxL_congr (dpF ks i) (dp ks) _ _ (fun c hc => by
    obtain ⟨a, b, e⟩ := kid_ok ks i h c hc
    show dpF ks i c.toNat = dpF ks (c.toNat + 1) c.toNat
    exact dpF_fuel ks i c.toNat (c.toNat + 1) e (by omega) (by omega))]
theorem mxL_bd (g : Nat → Int) : ∀ (cs : List Int) (d m : Int), 0 ≤ d → d ≤ m → (∀ c ∈ cs, 0 ≤ g c.toNat ∧ g c.toNat ≤ m) → 0 ≤ mxL g cs d ∧ mxL g cs d ≤ m := by
  intro cs
  induction cs with
  | nil => intro d m h0 h1 _; exact ⟨h0, h1⟩
  | cons c cs ih =>
    intro d m h0 h1 hk
    unfold mxL
    have := hk c (by simp)
    exact ih _ m (by omega) (by omega) (fun e he => hk e (by simp [he]))
theorem dp_bd (ks : Nat → List Int) : ∀ (n i : Nat), i < n → 0 ≤ bg ks i → 1 ≤ dp ks i ∧ dp ks i ≤ i + 1 := by
  intro n
  induction n with
  | zero => intro i h; omega
  | succ n ih =>
    intro i hi h0
    rw [dp_eq ks i h0]
    have := mxL_bd (dp ks) (ks i) 0 i (by omega) (by omega) (fun c hc => by
      obtain ⟨a, b, e⟩ := kid_ok ks i h0 c hc
      have := ih c.toNat (by omega) e
      omega)
    omega
end Go.Proofs.YtidlljookjicpaaDoor

/- Recursion over places: tree.begin, tree.depth. -/
namespace Go.Proofs.YtidlljookjicpaaDoor
open Go.RowKit
set_option linter.unusedVariables false
set_option linter.unusedSimpArgs false

theorem chL (ts : List Nd) (i : Nat) : kidV (ksN ts i) = .agg #[.int .i64 (ksN ts i).length, .int .i64 ((ksN ts i).getD 0 0), .int .i64 ((ksN ts i).getD 1 0), .int .i64 ((ksN ts i).getD 2 0)] := rfl

end Go.Proofs.YtidlljookjicpaaDoor

/- Recursion over places: tree.depth. -/
namespace Go.Proofs.YtidlljookjicpaaDoor
open Go.RowKit
set_option linter.unusedVariables false
set_option linter.unusedSimpArgs false

theorem drop_getD (l : List Int) (j : Nat) (h : j < l.length) : l.drop j = l.getD j 0 :: l.drop (j + 1) := by
  rw [List.drop_eq_getElem_cons h]; simp [h]
theorem getI_mem {l : List Int} {j : Nat} (hj : j < l.length) : l.getD j 0 ∈ l := by
  rw [List.getD_eq_getElem?_getD, List.getElem?_eq_getElem hj]; exact List.getElem_mem hj
theorem kcell (g : Nat) (w : World) (n : Nat) (l : List Int) (hl : l.length = n) (h : w.cell? ⟨g, 1, none⟩ = some (.int .i64 (l.getD 0 0)) ∧ w.cell? ⟨g, 2, none⟩ = some (.int .i64 (l.getD 1 0)) ∧ w.cell? ⟨g, 3, none⟩ = some (.int .i64 (l.getD 2 0))) :
    ∀ j, j < 3 → w.cell? ⟨g, 1 + j, none⟩ = some (.int .i64 (l.getD j 0)) := by
  intro j hj
  have : j = 0 ∨ j = 1 ∨ j = 2 := by omega
  rcases this with rfl | rfl | rfl
  · exact h.1
  · exact h.2.1
  · exact h.2.2

theorem sl3_0 (g : Nat) (W : World) : (Instr.sliceAt 64 (.pointer (some ⟨g, 1, none⟩)) none (some (.int .i64 ((0 : Nat) : Int))) none).run Tryd.prog W = .ok (.slice (some ⟨g, 1, none⟩) 0 3) W := by kernel_rfl
theorem sl3_1 (g : Nat) (W : World) : (Instr.sliceAt 64 (.pointer (some ⟨g, 1, none⟩)) none (some (.int .i64 ((1 : Nat) : Int))) none).run Tryd.prog W = .ok (.slice (some ⟨g, 1, none⟩) 1 3) W := by kernel_rfl
theorem sl3_2 (g : Nat) (W : World) : (Instr.sliceAt 64 (.pointer (some ⟨g, 1, none⟩)) none (some (.int .i64 ((2 : Nat) : Int))) none).run Tryd.prog W = .ok (.slice (some ⟨g, 1, none⟩) 2 3) W := by kernel_rfl
theorem sl3_3 (g : Nat) (W : World) : (Instr.sliceAt 64 (.pointer (some ⟨g, 1, none⟩)) none (some (.int .i64 ((3 : Nat) : Int))) none).run Tryd.prog W = .ok (.slice (some ⟨g, 1, none⟩) 3 3) W := by kernel_rfl
theorem sl3 (g : Nat) (n : Nat) (h : n ≤ 3) (W : World) : (Instr.sliceAt 64 (.pointer (some ⟨g, 1, none⟩)) none (some (.int .i64 n)) none).run Tryd.prog W = .ok (.slice (some ⟨g, 1, none⟩) n 3) W := by
  have : n = 0 ∨ n = 1 ∨ n = 2 ∨ n = 3 := by omega
  rcases this with rfl | rfl | rfl | rfl
  · exact sl3_0 g W
  · exact sl3_1 g W
  · exact sl3_2 g W
  · exact sl3_3 g W

end Go.Proofs.YtidlljookjicpaaDoor

/- Recursion over places: the reference's Begin and depth. -/
namespace Go.Proofs.YtidlljookjicpaaDoor
open Go.RowKit
set_option linter.unusedVariables false
set_option linter.unusedSimpArgs false

theorem kidsI_len (k a b c : Int) : kidsI k = (kidsL k a b c).length ∨ (kidsI k = -1 ∧ kidsL k a b c = []) := by
  unfold kidsI kidsL
  by_cases h0 : k = 0 ∨ k = 1 ∨ k = 2
  · rw [if_pos h0, if_neg (by omega), if_neg (by omega), if_neg (by omega)]; exact .inl rfl
  rw [if_neg h0]
  (repeat' split) <;> first | exact .inl rfl | exact .inr ⟨rfl, rfl⟩
theorem kidsL_get (k a b c : Int) : (1 ≤ (kidsL k a b c).length → (kidsL k a b c).getD 0 0 = a) ∧ (2 ≤ (kidsL k a b c).length → (kidsL k a b c).getD 1 0 = b) ∧ (3 ≤ (kidsL k a b c).length → (kidsL k a b c).getD 2 0 = c) := by
  unfold kidsL
  (repeat' split) <;> refine ⟨fun h => ?_, fun h => ?_, fun h => ?_⟩ <;> first | rfl | (simp at h)

end Go.Proofs.YtidlljookjicpaaDoor

/- Recursion over places: the reference's depth. -/
namespace Go.Proofs.YtidlljookjicpaaDoor
open Go.RowKit
set_option linter.unusedVariables false
set_option linter.unusedSimpArgs false

theorem kid_cases (l : List Int) (a b c : Int) (h3 : l.length ≤ 3) (hg : (1 ≤ l.length → l.getD 0 0 = a) ∧ (2 ≤ l.length → l.getD 1 0 = b) ∧ (3 ≤ l.length → l.getD 2 0 = c)) : l = [] ∨ l = [a] ∨ l = [a, b] ∨ l = [a, b, c] := by
  match l, h3, hg with
  | [], _, _ => exact .inl rfl
  | [x], _, hg => exact .inr (.inl (by have := hg.1 (by simp); simp at this; rw [this]))
  | [x, y], _, hg => exact .inr (.inr (.inl (by have h1 := hg.1 (by simp); have h2 := hg.2.1 (by simp); simp at h1 h2; rw [h1, h2])))
  | [x, y, z], _, hg => exact .inr (.inr (.inr (by have h1 := hg.1 (by simp); have h2 := hg.2.1 (by simp); have h3 := hg.2.2 (by simp); simp at h1 h2 h3; rw [h1, h2, h3])))
  | _ :: _ :: _ :: _ :: _, h3, _ => simp at h3

end Go.Proofs.YtidlljookjicpaaDoor
