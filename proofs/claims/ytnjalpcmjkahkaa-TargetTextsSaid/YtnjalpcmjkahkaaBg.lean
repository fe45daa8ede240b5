/- Where the parts of nodes begin: plain facts. 'ks i' are the places at which node i has its children; 'bg ks i' is where its part begins, or below 0. -/
import Derived.Test.YtnjalpcmjkahkaaChecked
namespace Go.Proofs.Ytnjalpcmjkahkaa
set_option linter.unusedVariables false
set_option linter.unusedSimpArgs false

/-- children from the last to the first, the part found so far beginning at k. -/
def bgK (g : Nat → Int) : List Int → Int → Int
  | [], k => k
  | c :: cs, k => if c = k - 1 ∧ 1 ≤ k then (if g (k - 1).toNat < 0 then -1 else bgK g cs (g (k - 1).toNat)) else -1

def bgF (ks : Nat → List Int) : Nat → Nat → Int
  | 0, _ => -1
  | f + 1, i => bgK (bgF ks f) (ks i).reverse i
def bg (ks : Nat → List Int) (i : Nat) : Int := bgF ks (i + 1) i

theorem bgK_le (g : Nat → Int) (hg : ∀ j, g j ≤ j) : ∀ (cs : List Int) (k : Int), 0 ≤ k → bgK g cs k ≤ k := by
  intro cs
  induction cs with
  | nil => intro k _; exact Int.le_refl k
  | cons c cs ih =>
    intro k hk
    unfold bgK
    by_cases h1 : c = k - 1 ∧ 1 ≤ k
    · rw [if_pos h1]
      have hgk := hg (k - 1).toNat
      by_cases h2 : g (k - 1).toNat < 0
      · rw [if_pos h2]; omega
      · rw [if_neg h2]
        have := ih (g (k - 1).toNat) (by omega)
        omega
    · rw [if_neg h1]; omega
theorem bgK_congr (g h : Nat → Int) (hg : ∀ j, g j ≤ j) : ∀ (cs : List Int) (k : Int), (∀ j : Nat, (j : Int) < k → g j = h j) → bgK g cs k = bgK h cs k := by
  intro cs
  induction cs with
  | nil => intro k _; rfl
  | cons c cs ih =>
    intro k hk
    unfold bgK
    by_cases h1 : c = k - 1 ∧ 1 ≤ k
    · rw [if_pos h1, if_pos h1, ← hk (k - 1).toNat (by omega)]
      have hgk := hg (k - 1).toNat
      by_cases h2 : g (k - 1).toNat < 0
      · rw [if_pos h2, if_pos h2]
      · rw [if_neg h2, if_neg h2]
        exact ih _ (fun j hj => hk j (by omega))
    · rw [if_neg h1, if_neg h1]
theorem bgF_le (ks : Nat → List Int) : ∀ (f i : Nat), bgF ks f i ≤ i := by
  intro f
  induction f with
  | zero => intro i; unfold bgF; omega
  | succ f ih => intro i; unfold bgF; exact bgK_le _ ih _ _ (by omega)
theorem bgF_fuel (ks : Nat → List Int) : ∀ (f i g : Nat), i < f → i < g → bgF ks f i = bgF ks g i := by
  intro f
  induction f with
  | zero => intro i g h; omega
  | succ f ih =>
    intro i g h1 h2
    cases g with
    | zero => omega
    | succ g =>
      unfold bgF
      apply bgK_congr _ _ (bgF_le ks f)
      intro j hj
      exact ih j g (by omega) (by omega)
theorem bg_eq (ks : Nat → List Int) (i : Nat) : bg ks i = bgK (bg ks) (ks i).reverse i := by
  conv => lhs; unfold bg bgF
  apply bgK_congr _ _ (bgF_le ks i)
  intro j hj
  unfold bg
  exact bgF_fuel ks _ _ _ (by omega) (by omega)
theorem bg_le (ks : Nat → List Int) (i : Nat) : bg ks i ≤ i := bgF_le ks _ i

theorem bgK_cover (g : Nat → Int) (hg : ∀ j, g j ≤ j) : ∀ (cs : List Int) (k : Int), 0 ≤ k → 0 ≤ bgK g cs k →
    (∀ j : Nat, (j : Int) < k → 0 ≤ g j → ∀ m : Nat, g j ≤ m → m ≤ j → 0 ≤ g m) →
    ∀ m : Nat, bgK g cs k ≤ m → (m : Int) < k → 0 ≤ g m := by
  intro cs
  induction cs with
  | nil => intro k _ _ _ m h1 h2; unfold bgK at h1; omega
  | cons c cs ih =>
    intro k hk hpos hcov m h1 h2
    unfold bgK at hpos h1
    by_cases hc : c = k - 1 ∧ 1 ≤ k
    · rw [if_pos hc] at hpos h1
      by_cases hn : g (k - 1).toNat < 0
      · rw [if_pos hn] at hpos; omega
      · rw [if_neg hn] at hpos h1
        by_cases hm : (m : Int) < g (k - 1).toNat
        · have hgk := hg (k - 1).toNat
          exact ih _ (by omega) hpos (fun j hj h0 => hcov j (by omega) h0) m h1 hm
        · exact hcov (k - 1).toNat (by omega) (by omega) m (by omega) (by omega)
    · rw [if_neg hc] at hpos; omega
/-- a node whose part is well has well parts all the way. -/
theorem bg_cover (ks : Nat → List Int) : ∀ (n i : Nat), i < n → 0 ≤ bg ks i → ∀ m : Nat, bg ks i ≤ m → m ≤ i → 0 ≤ bg ks m := by
  intro n
  induction n with
  | zero => intro i h; omega
  | succ n ih =>
    intro i hi h0 m h1 h2
    by_cases hm : m = i
    · rw [hm]; exact h0
    · rw [bg_eq] at h0 h1
      exact bgK_cover (bg ks) (bg_le ks) _ i (by omega) h0 (fun j hj h0j m' h1' h2' => ih j (by omega) h0j m' h1' h2') m h1 (by omega)
theorem bg_all {ks : Nat → List Int} {n : Nat} (h : bg ks n = 0) (m : Nat) (hm : m ≤ n) : 0 ≤ bg ks m :=
  bg_cover ks (n + 1) n (by omega) (by omega) m (by omega) hm
end Go.Proofs.Ytnjalpcmjkahkaa
