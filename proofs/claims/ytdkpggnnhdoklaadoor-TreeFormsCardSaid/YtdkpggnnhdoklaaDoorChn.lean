/- A chain of applications: plain facts. -/
import Derived.Test.YtdkpggnnhdoklaaDoorNdAw
namespace Go.Proofs.YtdkpggnnhdoklaaDoor
open Go.RowKit
set_option linter.unusedVariables false
set_option linter.unusedSimpArgs false

def cF : Nd := ⟨0, 0, 0, 0, 0, ⟨#[102]⟩, ⟨#[]⟩, ⟨#[]⟩, ⟨#[]⟩, 0⟩
def cI (i : Int) : Nd := ⟨1, 0, 0, 0, i, ⟨#[]⟩, ⟨#[]⟩, ⟨#[]⟩, ⟨#[]⟩, 0⟩
def cA (i : Int) : Nd := ⟨4, 2 * i, 2 * i + 1, 0, 0, ⟨#[]⟩, ⟨#[]⟩, ⟨#[]⟩, ⟨#[]⟩, 0⟩
def chN : Nat → List Nd
  | 0 => [cF]
  | n + 1 => chN n ++ [cI n, cA n]
theorem chN_len (n : Nat) : (chN n).length = 2 * n + 1 := by
  induction n with
  | zero => rfl
  | succ n ih => simp only [chN, List.length_append, ih, List.length_cons, List.length_nil]; omega
theorem getD_app (l m : List Nd) (j : Nat) : (l ++ m).getD j nd0 = if j < l.length then l.getD j nd0 else m.getD (j - l.length) nd0 := by
  rw [List.getD_eq_getElem?_getD, List.getElem?_append]
  split <;> rw [List.getD_eq_getElem?_getD]
theorem chN_0 (n : Nat) : (chN n).getD 0 nd0 = cF := by
  induction n with
  | zero => rfl
  | succ n ih => unfold chN; rw [getD_app, if_pos (by rw [chN_len]; omega)]; exact ih
theorem chN_I (n i : Nat) (h : i < n) : (chN n).getD (2 * i + 1) nd0 = cI i := by
  induction n with
  | zero => omega
  | succ n ih =>
    unfold chN; rw [getD_app, chN_len]
    by_cases hi : i < n
    · rw [if_pos (by omega)]; exact ih hi
    · obtain rfl : i = n := by omega
      rw [if_neg (by omega), show 2 * i + 1 - (2 * i + 1) = 0 by omega]; rfl
theorem chN_A (n i : Nat) (h : i < n) : (chN n).getD (2 * i + 2) nd0 = cA i := by
  induction n with
  | zero => omega
  | succ n ih =>
    unfold chN; rw [getD_app, chN_len]
    by_cases hi : i < n
    · rw [if_pos (by omega)]; exact ih hi
    · obtain rfl : i = n := by omega
      rw [if_neg (by omega), show 2 * i + 2 - (2 * i + 1) = 1 by omega]; rfl
theorem chN_k0 (n : Nat) : ksN (chN n) 0 = [] := by unfold ksN; rw [chN_0]; rfl
theorem chN_kI (n i : Nat) (h : i < n) : ksN (chN n) (2 * i + 1) = [] := by unfold ksN; rw [chN_I n i h]; rfl
theorem chN_kA (n i : Nat) (h : i < n) : ksN (chN n) (2 * i + 2) = [2 * (i : Int), 2 * (i : Int) + 1] := by unfold ksN; rw [chN_A n i h]; rfl
theorem chN_bI (n i : Nat) (h : i < n) : bg (ksN (chN n)) (2 * i + 1) = ((2 * i + 1 : Nat) : Int) := bg_nil _ _ (chN_kI n i h)
theorem chN_bA (n : Nat) : ∀ i, i ≤ n → bg (ksN (chN n)) (2 * i) = 0 := by
  intro i
  induction i with
  | zero => intro _; exact bg_nil _ _ (chN_k0 n)
  | succ i ih =>
    intro hi
    rw [show 2 * (i + 1) = 2 * i + 2 by omega, bg_eq, chN_kA n i (by omega)]
    show bgK _ [2 * (i : Int) + 1, 2 * (i : Int)] _ = 0
    unfold bgK
    rw [if_pos (by omega), show (((2 * i + 2 : Nat) : Int) - 1).toNat = 2 * i + 1 by omega, chN_bI n i (by omega), if_neg (by omega)]
    unfold bgK
    rw [if_pos (by omega), show (((2 * i + 1 : Nat) : Int) - 1).toNat = 2 * i by omega, ih (by omega), if_neg (by omega)]
    rfl
theorem chN_dI (n i : Nat) (h : i < n) : dp (ksN (chN n)) (2 * i + 1) = 1 := by
  rw [dp_eq _ _ (by rw [chN_bI n i h]; omega), chN_kI n i h]; rfl
theorem chN_dA (n : Nat) : ∀ i : Nat, i ≤ n → dp (ksN (chN n)) (2 * i) = (i : Int) + 1 := by
  intro i
  induction i with
  | zero => intro _; rw [dp_eq _ _ (by rw [chN_bA n 0 (by omega)]; omega), chN_k0]; rfl
  | succ i ih =>
    intro hi
    rw [dp_eq _ _ (by rw [chN_bA n (i + 1) hi]; omega), show 2 * (i + 1) = 2 * i + 2 by omega, chN_kA n i (by omega)]
    unfold mxL mxL mxL
    rw [show (2 * (i : Int)).toNat = 2 * i by omega, show (2 * (i : Int) + 1).toNat = 2 * i + 1 by omega, ih (by omega), chN_dI n i (by omega)]
    omega
theorem cF_ok : okC true cF = true := by decide +kernel
theorem cI_ok (i : Nat) (h : i ≤ 1000) : okC true (cI i) = true := by
  unfold okC cI
  simp only [plainC, numB, namedB, namesL]
  simp; omega
theorem cA_ok (i : Nat) (h : i ≤ 1000) : okC true (cA i) = true := by
  unfold okC cA
  simp only [plainC, numB, namedB, namesL]
  simp
theorem chN_ok (n : Nat) (h : n ≤ 1000) : (chN n).all (okC true) = true := by
  induction n with
  | zero => unfold chN; simp [cF_ok]
  | succ n ih => unfold chN; rw [List.all_append, ih (by omega)]; simp [cI_ok n (by omega), cA_ok n (by omega)]
theorem chN_tree (n : Nat) (h : n ≤ 100) : treeV (okNm true) (chN n) = true := by
  rw [tree_c]; unfold treeC
  rw [chN_ok n (by omega), chN_len, decide_eq_true (by omega), show 2 * n + 1 - 1 = 2 * n by omega, chN_bA n n (Nat.le_refl _)]; rfl
theorem chN_may (n : Nat) (h : n ≤ 100) : mayV [] (chN n) = true := by unfold mayV; rw [chN_tree n h]; rfl
theorem chN_has (n : Nat) (h : n ≤ 100) (j : Nat) (hj : j < 2 * n + 1) : hasV (chN n) j = true := by
  unfold hasV anyV; rw [chN_tree n h, chN_len, decide_eq_true (by omega)]; rfl
theorem mv0 (l : List Nd) : l.map (mvN 0) = l := by
  have : (mvN 0) = id := by
    funext t; unfold mvN; cases t; simp
  rw [this]; simp
theorem chN_dep (n c : Nat) (h : n ≤ 100) (hc : c < n) : depV (chN n) ((2 * c + 2 : Nat) : Int) = ((c : Int) + 2, 0) := by
  rw [depV_yes (chN_has n h _ (by omega)), Int.toNat_natCast, show 2 * c + 2 = 2 * (c + 1) by omega, chN_dA n (c + 1) (by omega)]
  simp; omega
theorem chN_dep1 (n c : Nat) (h : n ≤ 100) (hc : c < n) : (depV (chN n) ((2 * c + 1 : Nat) : Int)).2 = 0 := by
  rw [depV_yes (chN_has n h _ (by omega))]
theorem chN_part (n c : Nat) (h : n ≤ 100) (hc : c < n) : partV (chN n) ((2 * c + 2 : Nat) : Int) = (chN n).take (2 * c + 3) := by
  unfold partV
  rw [chN_has n h _ (by omega), if_pos rfl, Int.toNat_natCast, show 2 * c + 2 = 2 * (c + 1) by omega, chN_bA n (c + 1) (by omega), mv0]
  simp; congr 1
theorem chN_part1 (n c : Nat) (h : n ≤ 100) (hc : c < n) : partV (chN n) ((2 * c + 1 : Nat) : Int) = [cI c] := by
  unfold partV
  rw [chN_has n h _ (by omega), if_pos rfl, Int.toNat_natCast, chN_bI n c hc, Int.toNat_natCast, show 2 * c + 1 + 1 - (2 * c + 1) = 1 by omega]
  have h2 : 2 * c + 1 < (chN n).length := by rw [chN_len]; omega
  rw [List.drop_eq_getElem_cons h2, show (chN n)[2 * c + 1] = cI c from by
    have := chN_I n c hc
    rwa [List.getD_eq_getElem?_getD, List.getElem?_eq_getElem h2, Option.getD_some] at this]
  simp [mvN, cI, cntN]
theorem chN_sz (n : Nat) : ∀ t ∈ chN n, NdSz t := by
  induction n with
  | zero => intro t ht; simp only [chN, List.mem_cons, List.not_mem_nil, or_false] at ht; subst ht; unfold NdSz; decide
  | succ n ih =>
    intro t ht
    simp only [chN, List.mem_append, List.mem_cons, List.not_mem_nil, or_false] at ht
    rcases ht with ht | rfl | rfl
    · exact ih t ht
    · exact ⟨Nat.zero_le _, Nat.zero_le _, Nat.zero_le _, Nat.zero_le _⟩
    · exact ⟨Nat.zero_le _, Nat.zero_le _, Nat.zero_le _, Nat.zero_le _⟩
/-- a slice that was laid as a literal is the call's own. -/
theorem own_lit {B : Nat} (W : World) (arr : Array Value) (ts : List Nd) (h : arr.toList = ndL ts) (n : Nat) (hn : n = ts.length) (hB : B ≤ W.heap.size) (hs : n ≤ 1099511627776) : OwnN B (W.alloc (.cells arr 45)) (.slice (some ⟨W.heap.size, 0, none⟩) n n) ts := by
  subst hn
  have hl : arr.toList.length = ts.length * 10 := by rw [h, ndL_len]
  refine ⟨ndL_len _, .inr ⟨W.heap.size, ts.length, arr, rfl, hB, by show (W.heap.push _)[W.heap.size]? = _; simp, Nat.le_refl _, by unfold maxLen; omega, by simpa using hl, ?_⟩⟩
  rw [← hl, List.take_length, h]
end Go.Proofs.YtdkpggnnhdoklaaDoor
