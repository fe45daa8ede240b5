/- The first bind counts: plain facts. -/
import Derived.Test.YtdganhamafhfdaaDoorSbH
namespace Go.Proofs.YtdganhamafhfdaaDoor
set_option linter.unusedVariables false
set_option linter.unusedSimpArgs false

def fOne (x : Int) (a : Option Addr) (n c : Nat) (ts : List Ty) : List Bn := [⟨x, false, a, n, c, ts, rw0⟩]
def fTwo (x : Int) (a : Option Addr) (n c : Nat) (ts : List Ty) (a' : Option Addr) (n' c' : Nat) (ts' : List Ty) : List Bn :=
  [⟨x, true, none, 0, 0, [], ⟨0, 0, 0, 0, x⟩⟩, ⟨x, false, a, n, c, ts, rw0⟩, ⟨x, false, a', n', c', ts', rw0⟩, ⟨x, true, none, 0, 0, [], ⟨0, 0, 0, 0, -1⟩⟩]
def ty00 : List Ty := [⟨0, 0, 0, 0, 0, 0, 0, 0, 0⟩]
theorem subE_bd (xs : List Bn) (ts : List Ty) : 0 ≤ subE xs ts ∧ subE xs ts ≤ 900 := by unfold subE; split <;> omega
theorem subT_len (xs : List Bn) (ts : List Ty) : (subT xs ts).length ≤ 256 := by
  unfold subT
  split
  · split
    · rename_i h
      rw [fl_len]
      unfold TT.fits at h
      simp only [Bool.and_eq_true, decide_eq_true_eq] at h
      exact h.1
    · simp
  · simp
theorem fOne_ok (x : Int) (hx : 0 ≤ x ∧ x < 4) (a : Option Addr) (n c : Nat) (ts : List Ty) : bsV (fOne x a n c ts) = tyV ts := by
  unfold bsV fOne Bn.ok
  simp [rw0, rwQ]
  intro _; omega
theorem fTwo_ok (x : Int) (hx : 0 ≤ x ∧ x < 4) (a : Option Addr) (n c : Nat) (ts : List Ty) (a' : Option Addr) (n' c' : Nat) (ts' : List Ty) : bsV (fTwo x a n c ts a' n' c' ts') = (tyV ts && tyV ts') := by
  have h1 : (⟨0, 0, 0, 0, x⟩ : Rw).may = true := decide_eq_true (by simp only []; omega)
  have h2 : (⟨0, 0, 0, 0, -1⟩ : Rw).may = true := by decide
  have h3 : decide (0 ≤ x ∧ x < 4096) = true := decide_eq_true (by omega)
  unfold bsV fTwo Bn.ok
  simp [rw0, rwQ, h1, h2]
  cases tyV ts <;> cases tyV ts' <;> simp <;> omega
theorem sf_tr : tyV ty00 = true := by kernel_rfl
theorem sf_three (x : Int) (hx : 0 ≤ x ∧ x < 4) (a : Option Addr) (n c : Nat) (ts : List Ty) : subE (fOne x a n c ts) ty00 = if tyV ts then 0 else 900 := by
  unfold subE
  rw [fOne_ok x hx, sf_tr]
  have : ∀ σ ρ, (putT σ ρ (treeOf ty00)).fits = true := fun σ ρ => by kernel_rfl
  rw [this]; cases tyV ts <;> rfl
theorem putT_eq {σ : Int → Option TT} {ρ ρ' : Int → Option Rw} (h : ∀ r, putR ρ r = putR ρ' r) : ∀ T, putT σ ρ T = putT σ ρ' T
  | .base _ => rfl
  | .var _ => rfl
  | .fn a r b => by unfold putT; rw [putT_eq h a, putT_eq h b, h]
theorem sf_sg (x : Int) (a : Option Addr) (n c : Nat) (ts : List Ty) (a' : Option Addr) (n' c' : Nat) (ts' : List Ty) : sgB (fTwo x a n c ts a' n' c' ts') = sgB (fOne x a n c ts) := by
  funext v
  unfold sgB fst fTwo fOne
  simp only [List.findIdx?_cons, List.findIdx?_nil]
  cases h : (x == v) <;> simp
theorem sf_rh1 (x : Int) (a : Option Addr) (n c : Nat) (ts : List Ty) (v : Int) : rhB (fOne x a n c ts) v = none := by
  unfold rhB fst fOne
  simp [List.findIdx?_cons]
theorem sf_rh2 (x : Int) (a : Option Addr) (n c : Nat) (ts : List Ty) (a' : Option Addr) (n' c' : Nat) (ts' : List Ty) (v : Int) : rhB (fTwo x a n c ts a' n' c' ts') v = if v = x then some ⟨0, 0, 0, 0, x⟩ else none := by
  unfold rhB fst fTwo
  by_cases h : v = x
  · subst h; simp [List.findIdx?_cons]
  · have h1 : (x == v) = false := by rw [beq_eq_false_iff_ne]; exact fun e => h e.symm
    simp [List.findIdx?_cons, h1, h]
theorem sf_put (x : Int) (a : Option Addr) (n c : Nat) (ts : List Ty) (a' : Option Addr) (n' c' : Nat) (ts' : List Ty) (T : TT) :
    putT (sgB (fTwo x a n c ts a' n' c' ts')) (rhB (fTwo x a n c ts a' n' c' ts')) T = putT (sgB (fOne x a n c ts)) (rhB (fOne x a n c ts)) T := by
  rw [sf_sg]
  apply putT_eq
  intro r
  unfold putR
  rw [sf_rh1, sf_rh2]
  by_cases h0 : r.t < 0
  · rw [if_pos h0, if_pos h0]
  · rw [if_neg h0, if_neg h0]
    by_cases h : r.t = x
    · rw [if_pos h]; simp only [Int.zero_add]; rw [← h]
    · rw [if_neg h]
theorem sf_bad (x : Int) (hx : 0 ≤ x ∧ x < 4) (us : List Ty) (a : Option Addr) (n c : Nat) (ts : List Ty) (a' : Option Addr) (n' c' : Nat) (ts' : List Ty) (h : subE (fOne x a' n' c' ts') ty00 ≠ 0) : subE (fTwo x a n c ts a' n' c' ts') us = 900 := by
  rw [sf_three x hx] at h
  have h : tyV ts' = false := by cases h' : tyV ts' <;> simp_all
  unfold subE
  rw [fTwo_ok x hx, h]; simp
theorem sf_good (x : Int) (hx : 0 ≤ x ∧ x < 4) (us : List Ty) (a : Option Addr) (n c : Nat) (ts : List Ty) (a' : Option Addr) (n' c' : Nat) (ts' : List Ty) (h : subE (fOne x a' n' c' ts') ty00 = 0) :
    subE (fOne x a n c ts) us = subE (fTwo x a n c ts a' n' c' ts') us ∧ subT (fOne x a n c ts) us = subT (fTwo x a n c ts a' n' c' ts') us := by
  rw [sf_three x hx] at h
  have h : tyV ts' = true := by cases h' : tyV ts' <;> simp_all
  unfold subE subT
  rw [fTwo_ok x hx, fOne_ok x hx, h, sf_put, Bool.and_true]
  exact ⟨rfl, rfl⟩
end Go.Proofs.YtdganhamafhfdaaDoor
