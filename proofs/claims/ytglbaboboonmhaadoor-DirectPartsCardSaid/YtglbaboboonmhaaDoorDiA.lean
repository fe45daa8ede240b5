/- What needs no computation: plain facts. -/
import Derived.Test.YtglbaboboonmhaaDoorNaD
namespace Go.Proofs.YtglbaboboonmhaaDoor
set_option linter.unusedVariables false
set_option linter.unusedSimpArgs false

/-- of a node, by what its children are. -/
def dirK (g : Nat → Bool) (t : Nd) : Bool :=
  if t.k = 0 ∨ t.k = 1 ∨ t.k = 2 ∨ t.k = 3 then true
  else if t.k = 5 ∨ t.k = 8 then g t.a.toNat && g t.b.toNat
  else if t.k = 7 then g t.a.toNat && g t.b.toNat && g t.c.toNat
  else if t.k = 6 then g t.b.toNat
  else false
def dirF (ts : List Nd) : Nat → Nat → Bool
  | 0, _ => false
  | f + 1, i => dirK (dirF ts f) (ts.getD i nd0)
def dirV (ts : List Nd) (i : Nat) : Bool := dirF ts (i + 1) i
theorem dirK_congr (g h : Nat → Bool) (t : Nd) (hk : ∀ c ∈ kidsL t.k t.a t.b t.c, g c.toNat = h c.toNat) : dirK g t = dirK h t := by
  unfold dirK
  unfold kidsL at hk
  by_cases h1 : t.k = 0 ∨ t.k = 1 ∨ t.k = 2 ∨ t.k = 3
  · rw [if_pos h1, if_pos h1]
  · rw [if_neg h1, if_neg h1]
    by_cases h2 : t.k = 5 ∨ t.k = 8
    · rw [if_pos h2, if_pos h2]
      rw [if_neg (by omega), if_pos (by omega)] at hk
      rw [hk t.a (by simp), hk t.b (by simp)]
    · rw [if_neg h2, if_neg h2]
      by_cases h3 : t.k = 7
      · rw [if_pos h3, if_pos h3]
        rw [if_neg (by omega), if_neg (by omega), if_pos (by omega)] at hk
        rw [hk t.a (by simp), hk t.b (by simp), hk t.c (by simp)]
      · rw [if_neg h3, if_neg h3]
        by_cases h4 : t.k = 6
        · rw [if_pos h4, if_pos h4]
          rw [if_neg (by omega), if_pos (by omega)] at hk
          rw [hk t.b (by simp)]
        · rw [if_neg h4, if_neg h4]
theorem dirF_fuel (ts : List Nd) : ∀ (f i g : Nat), 0 ≤ bg (ksN ts) i → i < f → i < g → dirF ts f i = dirF ts g i := by
  intro f
  induction f with
  | zero => intro i g _ h; omega
  | succ f ih =>
    intro i g h0 h1 h2
    cases g with
    | zero => omega
    | succ g =>
      unfold dirF
      exact dirK_congr _ _ _ (fun c hc => by
        obtain ⟨a, b, e⟩ := kid_ok (ksN ts) i h0 c hc
        exact ih c.toNat g e (by omega) (by omega))
theorem dir_eq (ts : List Nd) (i : Nat) (h : 0 ≤ bg (ksN ts) i) : dirV ts i = dirK (dirV ts) (ts.getD i nd0) := by
  conv => lhs; unfold dirV dirF
  exact dirK_congr _ _ _ (fun c hc => by
    obtain ⟨a, b, e⟩ := kid_ok (ksN ts) i h c hc
    show dirF ts i c.toNat = dirF ts (c.toNat + 1) c.toNat
    exact dirF_fuel ts i c.toNat (c.toNat + 1) e (by omega) (by omega))
theorem dir_cases (t : Nd) (g : Nat → Bool) (P : Int → Prop) (hk : ∀ c ∈ kidsL t.k t.a t.b t.c, P c) :
    ((t.k = 0 ∨ t.k = 1 ∨ t.k = 2 ∨ t.k = 3) ∧ dirK g t = true) ∨
    ((t.k = 5 ∨ t.k = 8) ∧ P t.a ∧ P t.b ∧ dirK g t = (g t.a.toNat && g t.b.toNat)) ∨
    (t.k = 7 ∧ P t.a ∧ P t.b ∧ P t.c ∧ dirK g t = (g t.a.toNat && g t.b.toNat && g t.c.toNat)) ∨
    (t.k = 6 ∧ P t.b ∧ dirK g t = g t.b.toNat) ∨
    ((t.k < 0 ∨ t.k = 4 ∨ 8 < t.k) ∧ dirK g t = false) := by
  unfold dirK
  unfold kidsL at hk
  by_cases h1 : t.k = 0 ∨ t.k = 1 ∨ t.k = 2 ∨ t.k = 3
  · rw [if_pos h1]; exact .inl ⟨h1, rfl⟩
  · rw [if_neg h1]
    by_cases h2 : t.k = 5 ∨ t.k = 8
    · rw [if_pos h2]
      rw [if_neg (by omega), if_pos (by omega)] at hk
      exact .inr (.inl ⟨h2, hk _ (by simp), hk _ (by simp), rfl⟩)
    · rw [if_neg h2]
      by_cases h3 : t.k = 7
      · rw [if_pos h3]
        rw [if_neg (by omega), if_neg (by omega), if_pos (by omega)] at hk
        exact .inr (.inr (.inl ⟨h3, hk _ (by simp), hk _ (by simp), hk _ (by simp), rfl⟩))
      · rw [if_neg h3]
        by_cases h4 : t.k = 6
        · rw [if_pos h4]
          rw [if_neg (by omega), if_pos (by omega)] at hk
          exact .inr (.inr (.inr (.inl ⟨h4, hk _ (by simp), rfl⟩)))
        · rw [if_neg h4]
          exact .inr (.inr (.inr (.inr ⟨by omega, rfl⟩)))
end Go.Proofs.YtglbaboboonmhaaDoor
