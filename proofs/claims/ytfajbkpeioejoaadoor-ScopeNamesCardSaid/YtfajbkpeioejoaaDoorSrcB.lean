/- Contracts of package source: sign, Valid, Width; and of the reference's Width, Valid. -/
import Derived.Test.YtfajbkpeioejoaaDoorSrcA
import Derived.Outline
namespace Go.Proofs.YtfajbkpeioejoaaDoor
open Go.RowKit
set_option linter.unusedVariables false
set_option linter.unusedSimpArgs false

/-- byte at a place, as a number; 0 behind the end. -/
def bAt (s : ByteArray) (i : Nat) : Int := ((s.data.toList[i]?.getD 0).toNat : Int)

/-- may the j-th byte of a sign that begins at 'at' be what it is? -/
def okB (s : ByteArray) (at_ j : Nat) : Bool :=
  if j = 1 then decide (lowF (bAt s at_) ≤ bAt s (at_ + 1)) && decide (bAt s (at_ + 1) ≤ highF (bAt s at_))
  else decide (128 ≤ bAt s (at_ + j)) && decide (bAt s (at_ + j) ≤ 191)

def allB (s : ByteArray) (at_ k : Nat) : Bool := (List.range k).all fun j => j == 0 || okB s at_ j

/-- how many bytes the sign has that begins at 'at'; 0: none. -/
def widF (s : ByteArray) (at_ : Nat) : Int :=
  if decide ((at_ : Int) + leadF (bAt s at_) ≤ s.size) && allB s at_ (leadF (bAt s at_)).toNat then leadF (bAt s at_) else 0

theorem bAt_lt (s : ByteArray) (i : Nat) (h : i < s.size) : bAt s i = (s[i].toNat : Int) := by
  unfold bAt
  have h' : i < s.data.toList.length := by simpa using h
  rw [List.getElem?_eq_getElem h']
  rfl

theorem bAt_bd (s : ByteArray) (i : Nat) : 0 ≤ bAt s i ∧ bAt s i ≤ 255 := by
  unfold bAt
  have := (s.data.toList[i]?.getD 0).toNat_lt
  omega

theorem leadF_bd (b : Int) : 0 ≤ leadF b ∧ leadF b ≤ 4 := by unfold leadF; (repeat' split) <;> omega

theorem allB_succ (s : ByteArray) (a k : Nat) (h : 1 ≤ k) : allB s a (k + 1) = (allB s a k && okB s a k) := by
  unfold allB
  rw [List.range_succ, List.all_append]
  have : (k == 0) = false := by simp; omega
  simp [this]

theorem allB_le (s : ByteArray) (a k m : Nat) (h : k ≤ m) (hm : allB s a m = true) : allB s a k = true := by
  unfold allB at *
  rw [List.all_eq_true] at *
  intro x hx
  exact hm x (by rw [List.mem_range] at *; omega)

theorem allB_no (s : ByteArray) (a k m : Nat) (h1 : 1 ≤ k) (h : k < m) (hk : okB s a k = false) : allB s a m = false := by
  cases hm : allB s a m
  · rfl
  · have := allB_le s a (k + 1) m (by omega) hm
    rw [allB_succ s a k h1, hk] at this
    simp at this

set_option maxHeartbeats 400000 in
theorem sign_any (s : ByteArray) (w : World) (hs : s.size ≤ 1125899906842624) (hp : 0 < s.size) :
    Calls Tryd.prog 53 #[.string s] w fun e w' => e = .returned (.int .i64 (widF s 0)) ∧ w = w' := by
  have hb0 := bAt_bd s 0
  have hl := leadF_bd (bAt s 0)
  go_enter Tryd.func53, Tryd.ntmps53
  go_wp2_with fail
  rw [← bAt_lt s 0 hp]
  refine (lead_any _ _ hb0.1 hb0.2).mono ?_
  rintro e w' ⟨rfl, rfl⟩
  by_cases hc : (s.size : Int) < leadF (bAt s 0)
  · go_wp2
    go_ret
    exact ⟨ret_i (by unfold widF; rw [if_neg]; simp; omega), rfl⟩
  · go_wp2_with fail
    rw [← bAt_lt s 0 hp]
    refine (second_any _ _ hb0.1 hb0.2).mono ?_
    rintro e w' ⟨rfl, rfl⟩
    go_wp2_with fail
    go_loop [4, 5, 6] (fun lo hi i => ∃ (k : Nat) (l h : Int), 1 ≤ k ∧ (k = 1 ∨ (k : Int) ≤ leadF (bAt s 0)) ∧ i = .int .i64 k ∧ Hid (allB s 0 k = true) ∧ Hid (okB s 0 k = (decide (l ≤ bAt s k) && decide (bAt s k ≤ h))) ∧ lo = .int .u8 l ∧ hi = .int .u8 h) (fun _ _ i => (5 - intOf i).toNat)
    case atStart => exact ⟨1, _, _, by omega, .inl rfl, rfl, Lib.hid rfl, Lib.hid (by simp [okB]), rfl, rfl⟩
    case round =>
      obtain ⟨k, l, h, hk1, hk2, rfl, hall, hok, rfl, rfl⟩ := hrel
      by_cases hlt : (k : Int) < leadF (bAt s 0)
      · have hks : k < s.size := by omega
        have hsz := Lib.hid (bAt_lt s k hks)
        go_wp2
        · go_ret
          refine ⟨ret_i ?_, rfl⟩
          have hno : okB s 0 k = false := by rw [hok.out, hsz.out]; simp; omega
          unfold widF
          rw [allB_no s 0 k _ hk1 (by omega) hno]
          simp
        · go_round
          case rel =>
            have hyes : okB s 0 k = true := by rw [hok.out, hsz.out]; simp; omega
            exact ⟨k + 1, 128, 191, by omega, .inr (by omega), by go_num, Lib.hid (by rw [allB_succ s 0 k hk1, hall.out, hyes]; rfl), Lib.hid (by unfold okB; rw [if_neg (by omega)]; simp), rfl, rfl⟩
          case measure => simp [intOf]; omega
        · go_ret
          refine ⟨ret_i ?_, rfl⟩
          have hno : okB s 0 k = false := by rw [hok.out, hsz.out]; simp; omega
          unfold widF
          rw [allB_no s 0 k _ hk1 (by omega) hno]
          simp
      · go_wp2
        go_ret
        refine ⟨ret_i ?_, rfl⟩
        unfold widF
        have : (leadF (bAt s 0)).toNat ≤ k := by omega
        rw [if_pos]
        rw [allB_le s 0 _ k this hall.out]
        simp; omega
end Go.Proofs.YtfajbkpeioejoaaDoor
