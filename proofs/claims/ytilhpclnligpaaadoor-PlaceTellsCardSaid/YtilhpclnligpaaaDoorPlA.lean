/- Lines and columns, what a person reads: plain facts. -/
import Derived.Test.YtilhpclnligpaaaDoorHlp
import Derived.Lib.LastIndexByte
import Derived.Lib.ItoaNum
import Derived.Lib.Bytealg
import Derived.Lib.Small
namespace Go.Proofs.YtilhpclnligpaaaDoor
open Go.RowKit
set_option linter.unusedVariables false

def coF (l : List UInt8) : Nat := l.foldl (fun c b => if b = 10 then 1 else c + 1) 1
def liF (l : List UInt8) : Nat := l.count 10 + 1
theorem coF_snoc (l : List UInt8) (b : UInt8) : coF (l ++ [b]) = if b = 10 then 1 else coF l + 1 := by
  unfold coF; rw [List.foldl_append]; rfl
theorem liF_snoc (l : List UInt8) (b : UInt8) : liF (l ++ [b]) = if b = 10 then liF l + 1 else liF l := by
  unfold liF; rw [List.count_append]
  by_cases h : b = 10
  · subst h; simp
  · rw [if_neg h]; simp [List.count_cons, h]
theorem foldl_co (l : List UInt8) : ∀ c : Nat, 1 ≤ c → 1 ≤ l.foldl (fun c b => if b = 10 then 1 else c + 1) c ∧ l.foldl (fun c b => if b = 10 then 1 else c + 1) c ≤ l.length + c := by
  induction l with
  | nil => intro c hc; simp; omega
  | cons b l ih =>
    intro c hc
    rw [List.foldl_cons]
    by_cases h : b = 10
    · rw [if_pos h]; have := ih 1 (by omega); simp only [List.length_cons]; omega
    · rw [if_neg h]; have := ih (c + 1) (by omega); simp only [List.length_cons]; omega
theorem coF_bd (l : List UInt8) : 1 ≤ coF l ∧ coF l ≤ l.length + 1 := foldl_co l 1 (by omega)
theorem liF_bd (l : List UInt8) : 1 ≤ liF l ∧ liF l ≤ l.length + 1 := by
  have := List.count_le_length (a := (10 : UInt8)) (l := l)
  unfold liF; omega
theorem take_snoc (s : ByteArray) (k : Nat) (h : k < s.size) : s.data.toList.take (k + 1) = s.data.toList.take k ++ [s[k]] := by
  rw [List.take_succ_eq_append_getElem (by simpa using h)]; rfl
theorem u8_ten (b : UInt8) : ((b.toNat : Int) = 10) ↔ b = 10 := by
  constructor
  · intro h; exact UInt8.toNat_inj.1 (by show b.toNat = 10; omega)
  · rintro rfl; rfl
theorem bang_at (s : ByteArray) (k : Nat) (h : k < s.size) : s.data[k]! = s[k] := by
  rw [getElem!_pos s.data k h]; rfl
theorem lastIdx_coF (s : ByteArray) : ∀ k : Nat, k ≤ s.size → (k : Int) - Lib.lastIdx s 10 k = coF (s.data.toList.take k) := by
  intro k
  induction k with
  | zero => intro _; rfl
  | succ k ih =>
    intro hk
    rw [take_snoc s k (by omega), coF_snoc]
    have h0 := ih (by omega)
    by_cases hb : s[k] = 10
    · rw [if_pos hb, Lib.lastIdx_hit s 10 k (by rw [bang_at s k (by omega)]; exact (u8_ten _).2 hb)]; omega
    · rw [if_neg hb, Lib.lastIdx_miss s 10 k (by rw [bang_at s k (by omega)]; exact fun h => hb ((u8_ten _).1 h))]; omega
theorem ext_list (s : ByteArray) (k : Nat) (h : k ≤ s.size) : (s.extract 0 k).data.toList = s.data.toList.take k := by
  simp
theorem ext_size (s : ByteArray) (k : Nat) (h : k ≤ s.size) : (s.extract 0 k).size = k := by
  rw [ByteArray.size_extract]; omega
theorem lib_coF (s : ByteArray) (k : Nat) (h : k ≤ s.size) : (k : Int) - Lib.lastIndexByte (s.extract 0 k) 10 = coF (s.data.toList.take k) := by
  have h1 := lastIdx_coF (s.extract 0 k) k (by rw [ext_size s k h]; exact Nat.le_refl _)
  unfold Lib.lastIndexByte
  rw [ext_size s k h, h1, ext_list s k h, List.take_take, Nat.min_self]
theorem lib_liF (s : ByteArray) (k : Nat) (h : k ≤ s.size) : Lib.countByte (s.extract 0 k).data.toList 10 + 1 = liF (s.data.toList.take k) := by
  rw [ext_list s k h]; rfl

def plOk (s : ByteArray) (a : Int) : Bool := decide (0 ≤ a ∧ a ≤ s.size)
def lnV (s : ByteArray) (a : Int) : Int := if plOk s a then liF (s.data.toList.take a.toNat) else 0
def clV (s : ByteArray) (a : Int) : Int := if plOk s a then coF (s.data.toList.take a.toNat) else 0
def plE (s : ByteArray) (a : Int) : Int := if plOk s a then 0 else 2400
theorem pl_no {s : ByteArray} {a : Int} (h : a < 0 ∨ s.size < a) : lnV s a = 0 ∧ clV s a = 0 ∧ plE s a = 2400 := by
  have : plOk s a = false := decide_eq_false (by omega)
  unfold lnV clV plE; rw [this]; exact ⟨rfl, rfl, rfl⟩
theorem pl_yes {s : ByteArray} {k : Nat} (h : k ≤ s.size) : lnV s k = liF (s.data.toList.take k) ∧ clV s k = coF (s.data.toList.take k) ∧ plE s k = 0 := by
  have : plOk s k = true := decide_eq_true (by omega)
  unfold lnV clV plE; rw [this]; exact ⟨rfl, rfl, rfl⟩
theorem pl_bd (s : ByteArray) (a : Int) : 0 ≤ lnV s a ∧ lnV s a ≤ s.size + 1 ∧ 0 ≤ clV s a ∧ clV s a ≤ s.size + 1 ∧ 0 ≤ plE s a ∧ plE s a ≤ 2400 := by
  cases h : plOk s a
  · unfold lnV clV plE; rw [h]; simp; omega
  · have h1 := liF_bd (s.data.toList.take a.toNat)
    have h2 := coF_bd (s.data.toList.take a.toNat)
    have h3 : (s.data.toList.take a.toNat).length ≤ s.size := by rw [List.length_take]; simp; omega
    unfold lnV clV plE; rw [h]; simp; omega
end Go.Proofs.YtilhpclnligpaaaDoor
