/- Small plain facts that many texts use. -/
import Derived.Test.YtnjalpcmjkahkaaChecked
import Derived.WalkKit
import Derived.ProofKit
import Derived.Below
import Derived.Lib.Hide
import Derived.IntWalk
namespace Go.Proofs.Ytnjalpcmjkahkaa
open Go.RowKit
set_option linter.unusedVariables false
set_option linter.unusedSimpArgs false

theorem u64_bd (a : Int) : 0 ≤ IntKind.u64.wrap a ∧ IntKind.u64.wrap a < 18446744073709551616 := by
  simp only [IntKind.wrap, IntKind.signed, IntKind.bits]
  have h : (0 : Int) < 2 ^ 64 := by decide
  have := Int.emod_nonneg a (b := 2 ^ 64) (by decide)
  have := Int.emod_lt_of_pos a h
  simp at *
  omega
/-- 'int(uint(x) % k)' is a number from 0 below k. -/
theorem umod_int (a K : Int) (h : 0 < K) (hk : K ≤ 9223372036854775807) : ∃ m : Int, 0 ≤ m ∧ m < K ∧ wrap64 ((IntKind.u64.wrap a).tmod K) = m := by
  have hb := u64_bd a
  rw [Int.tmod_eq_emod_of_nonneg hb.1]
  have h1 := Int.emod_nonneg (IntKind.u64.wrap a) (b := K) (by omega)
  have h2 := Int.emod_lt_of_pos (IntKind.u64.wrap a) (b := K) (by omega)
  exact ⟨(IntKind.u64.wrap a) % K, h1, h2, IntWalk.wrap64_in _ (by omega)⟩
theorem umod_u (a K : Int) (h : 0 < K) : ∃ m : Int, 0 ≤ m ∧ m < K ∧ (IntKind.u64.wrap a).tmod K = m := by
  have hb := u64_bd a
  rw [Int.tmod_eq_emod_of_nonneg hb.1]
  exact ⟨(IntKind.u64.wrap a) % K, Int.emod_nonneg _ (by omega), Int.emod_lt_of_pos _ (by omega), rfl⟩
theorem i64_small (n : Nat) (h : n < 9223372036854775808) : IntKind.i64.wrap (n : Int) = (n : Int) := IntWalk.i64_in _ (by omega)
/-- 'x & m' where m is one less than a power of two. -/
theorem and_mask (a : Int) (k : Nat) (hk : k ≤ 62) : bits .and .i64 a ((2 ^ k - 1 : Nat) : Int) = a % ((2 ^ k : Nat) : Int) := by
  have hp : 2 ^ k ≤ 2 ^ 62 := Nat.pow_le_pow_right (by omega) hk
  have hp0 : 0 < 2 ^ k := Nat.pow_pos (by omega)
  show IntKind.i64.wrap ((BitVec.ofInt 64 a &&& BitVec.ofInt 64 ((2 ^ k - 1 : Nat) : Int)).toNat : Int) = _
  have h1 : (BitVec.ofInt 64 ((2 ^ k - 1 : Nat) : Int)).toNat = 2 ^ k - 1 := by
    rw [BitVec.ofInt_natCast, BitVec.toNat_ofNat]; exact Nat.mod_eq_of_lt (by omega)
  rw [BitVec.toNat_and, h1, Nat.and_two_pow_sub_one_eq_mod, BitVec.toNat_ofInt]
  have hd : ((2 ^ k : Nat) : Int) ∣ ((2 ^ 64 : Nat) : Int) := by
    exact_mod_cast Nat.pow_dvd_pow 2 (by omega : k ≤ 64)
  have h2 : (((a % ((2 ^ 64 : Nat) : Int)).toNat % 2 ^ k : Nat) : Int) = a % ((2 ^ k : Nat) : Int) := by
    rw [Int.natCast_emod, Int.toNat_of_nonneg (Int.emod_nonneg _ (by decide)), Int.emod_emod_of_dvd _ hd]
  rw [i64_small _ (by have := Nat.mod_lt (a % ((2 ^ 64 : Nat) : Int)).toNat hp0; omega)]
  exact h2
theorem and1 (a : Int) : bits .and .i64 a 1 = a % 2 := and_mask a 1 (by omega)
theorem and3 (a : Int) : bits .and .i64 a 3 = a % 4 := and_mask a 2 (by omega)
theorem and7 (a : Int) : bits .and .i64 a 7 = a % 8 := and_mask a 3 (by omega)
theorem and15 (a : Int) : bits .and .i64 a 15 = a % 16 := and_mask a 4 (by omega)
theorem and31 (a : Int) : bits .and .i64 a 31 = a % 32 := and_mask a 5 (by omega)
theorem and63 (a : Int) : bits .and .i64 a 63 = a % 64 := and_mask a 6 (by omega)
theorem and127 (a : Int) : bits .and .i64 a 127 = a % 128 := and_mask a 7 (by omega)
theorem and1023 (a : Int) : bits .and .i64 a 1023 = a % 1024 := and_mask a 10 (by omega)
theorem and4095 (a : Int) : bits .and .i64 a 4095 = a % 4096 := and_mask a 12 (by omega)
/-- 'b | x' where b is a multiple of a power of two that is greater than x. -/
theorem or_add (b k : Nat) (x : Int) (h0 : 0 ≤ x) (h1 : x < ((2 ^ k : Nat) : Int)) (hb : 2 ^ k * (b + 1) ≤ 2 ^ 62) : bits .or .i64 ((2 ^ k * b : Nat) : Int) x = ((2 ^ k * b : Nat) : Int) + x := by
  obtain ⟨n, rfl⟩ := Int.eq_ofNat_of_zero_le h0
  have hn : n < 2 ^ k := by omega
  have hm : 2 ^ k * (b + 1) = 2 ^ k * b + 2 ^ k := by rw [Nat.mul_add, Nat.mul_one]
  show IntKind.i64.wrap ((BitVec.ofInt 64 ((2 ^ k * b : Nat) : Int) ||| BitVec.ofInt 64 (n : Int)).toNat : Int) = _
  have h2 : (BitVec.ofInt 64 ((2 ^ k * b : Nat) : Int)).toNat = 2 ^ k * b := by
    rw [BitVec.ofInt_natCast, BitVec.toNat_ofNat]; exact Nat.mod_eq_of_lt (by omega)
  have h3 : (BitVec.ofInt 64 (n : Int)).toNat = n := by
    rw [BitVec.ofInt_natCast, BitVec.toNat_ofNat]; exact Nat.mod_eq_of_lt (by omega)
  rw [BitVec.toNat_or, h2, h3, ← Nat.two_pow_add_eq_or_of_lt hn]
  rw [i64_small _ (by omega)]
  omega
theorem or128 (x : Int) (h0 : 0 ≤ x) (h1 : x < 128) : bits .or .i64 128 x = 128 + x := or_add 1 7 x h0 h1 (by decide)
theorem or192 (x : Int) (h0 : 0 ≤ x) (h1 : x < 64) : bits .or .i64 192 x = 192 + x := or_add 3 6 x h0 h1 (by decide)
theorem or224 (x : Int) (h0 : 0 ≤ x) (h1 : x < 32) : bits .or .i64 224 x = 224 + x := or_add 7 5 x h0 h1 (by decide)
theorem or240 (x : Int) (h0 : 0 ≤ x) (h1 : x < 16) : bits .or .i64 240 x = 240 + x := or_add 15 4 x h0 h1 (by decide)
end Go.Proofs.Ytnjalpcmjkahkaa
