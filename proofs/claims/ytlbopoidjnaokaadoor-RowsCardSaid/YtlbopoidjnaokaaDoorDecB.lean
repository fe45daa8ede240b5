/- The reference's Decimal, walked. -/
import Derived.Test.YtlbopoidjnaokaaDoorDec
namespace Go.Proofs.YtlbopoidjnaokaaDoor
open Go.RowKit
set_option linter.unusedVariables false
set_option linter.unusedSimpArgs false

theorem ret_sD {a b : ByteArray} (h : a = b) : Ending.returned (.string a) = .returned (.string b) := by rw [h]
def DecPost (n : Int) (w : World) (e : Ending) (w' : World) : Prop := e = .returned (.string ⟨(Lib.itoa n).toArray⟩) ∧ Below w.heap.size w w'

set_option maxRecDepth 100000 in
set_option maxHeartbeats 1000000 in
theorem decPos_any (N : Nat) (w : World) (hN : N ≤ 9223372036854775807) :
    Calls Tryd.prog 22 #[.int .i64 N] w (DecPost N w) := by
  have hN20 : N < 10 ^ 20 := by have : (9223372036854775807 : Nat) < 10 ^ 20 := by decide
                                omega
  have hN20' := Lib.hid hN20; clear hN20
  go_enter Tryd.func22, Tryd.ntmps22
  go_wp2_with fail
  go_loopw [3, 4] (fun sz o wr => ∃ (q : Nat) (l : List UInt8), q ≤ N ∧ sz = .int .u64 q ∧ Hid (DecInv N q l) ∧ Below w.heap.size w wr ∧ Hid (OwnB wr w.heap.size o l)) (fun sz o _ => (intOf sz).toNat + nilOne o)
  case atStart => exact ⟨N, [], by omega, rfl, Lib.hid (.inl ⟨rfl, rfl⟩), by (repeat' (first | with_reducible exact Below.refl _ _ | with_reducible assumption | with_reducible apply Below.setCell | with_reducible apply Below.alloc | with_reducible apply Below.drew | with_reducible apply below_drewN | with_reducible exact Nat.le_refl _ | (simp; done) | (simp; omega) | omega | exact Nat.le_refl _)), Lib.hid (.inl ⟨rfl, rfl⟩)⟩
  case round =>
    obtain ⟨q, l, hqN, rfl, hinv, hbw, hown⟩ := hrel
    have hl := inv_len hinv.out hN20'.out
    have hws := hbw.size
    by_cases hq : 0 < q
    · have hqi : (0 : Int) < (q : Int) := by omega
      have hst := Lib.hid (decInv_step hinv.out (.inl hq))
      have hb : Hid (((UInt8.ofNat (48 + q % 10)).toNat : Int) = 48 + (q : Int) % 10) := Lib.hid (by rw [UInt8.toNat_ofNat']; omega)
      go_wp2_with (at_builtin; refine ahead rfl (.tmp 25) (.tmp 26) _ w.heap.size hws (UInt8.ofNat (48 + q % 10)) _ hb.out l _ rfl rfl rfl hown.out (by omega) ?_; intro v' w1 hown1 hb1 hn1)
      have hown1' := Lib.hid hown1; clear hown1
      have hn1' := Lib.hid hn1; clear hn1
      go_wp2_with fail
      go_roundw
      case rel => exact ⟨q / 10, _, by omega, by go_num, hst, hbw.trans hb1, hown1'⟩
      case measure => simp [intOf]; rw [hn1'.out]; omega
    · obtain rfl : q = 0 := by omega
      rcases hown.out with ⟨rfl, rfl⟩ | ⟨hl1, g, c, rfl, hg, hgl, hc⟩
      · have hst := Lib.hid (decInv_step hinv.out (.inr rfl))
        have hb : Hid (((UInt8.ofNat (48 + 0 % 10)).toNat : Int) = 48) := Lib.hid rfl
        go_wp2_with (at_builtin; refine ahead rfl (.tmp 25) (.tmp 26) _ w.heap.size hws (UInt8.ofNat (48 + 0 % 10)) _ hb.out [] _ rfl rfl rfl hown.out (by simp) ?_; intro v' w1 hown1 hb1 hn1)
        have hown1' := Lib.hid hown1; clear hown1
        have hn1' := Lib.hid hn1; clear hn1
        go_wp2_with fail
        go_roundw
        case rel => exact ⟨0 / 10, _, by omega, by go_num, hst, hbw.trans hb1, hown1'⟩
        case measure => simp [intOf]; rw [hn1'.out]; simp [nilOne]
      · have hend : Hid (l = Lib.decDigits N) := Lib.hid (decInv_end hinv.out (by intro h; rw [h] at hl1; simp at hl1))
        have hcv := str_of (c := c) hc
        have hz : ((l.length : Int) == 0) = false := by rw [beq_eq_false_iff_ne]; omega
        clear hc hown
        go_wp2_with fail
        go_ret
        have hi : Lib.itoa (N : Int) = Lib.decDigits N := by unfold Lib.itoa; rw [if_neg (by omega)]; simp
        exact ⟨ret_sD (by rw [hi, ← hend.out]), hbw⟩
set_option maxRecDepth 100000 in
set_option maxHeartbeats 1000000 in
theorem decNeg_any (n : Int) (N : Nat) (w : World) (hN : N ≤ 4611686018427387904) (hn : n < 0) (hn0 : -4611686018427387904 ≤ n) (hnN : Hid (n = -(N : Int))) :
    Calls Tryd.prog 22 #[.int .i64 n] w (DecPost n w) := by
  have hN20 : N < 10 ^ 20 := by have : (4611686018427387904 : Nat) < 10 ^ 20 := by decide
                                omega
  have hN20' := Lib.hid hN20; clear hN20
  go_enter Tryd.func22, Tryd.ntmps22
  go_wp2_with fail
  go_loopw [3, 4] (fun sz o wr => ∃ (q : Nat) (l : List UInt8), q ≤ N ∧ sz = .int .u64 q ∧ Hid (DecInv N q l) ∧ Below w.heap.size w wr ∧ Hid (OwnB wr w.heap.size o l)) (fun sz o _ => (intOf sz).toNat + nilOne o)
  case atStart => exact ⟨N, [], by omega, (by congr 1; have := hnN.out; omega), Lib.hid (.inl ⟨rfl, rfl⟩), by (repeat' (first | with_reducible exact Below.refl _ _ | with_reducible assumption | with_reducible apply Below.setCell | with_reducible apply Below.alloc | with_reducible apply Below.drew | with_reducible apply below_drewN | with_reducible exact Nat.le_refl _ | (simp; done) | (simp; omega) | omega | exact Nat.le_refl _)), Lib.hid (.inl ⟨rfl, rfl⟩)⟩
  case round =>
    obtain ⟨q, l, hqN, rfl, hinv, hbw, hown⟩ := hrel
    have hl := inv_len hinv.out hN20'.out
    have hws := hbw.size
    by_cases hq : 0 < q
    · have hqi : (0 : Int) < (q : Int) := by omega
      have hst := Lib.hid (decInv_step hinv.out (.inl hq))
      have hb : Hid (((UInt8.ofNat (48 + q % 10)).toNat : Int) = 48 + (q : Int) % 10) := Lib.hid (by rw [UInt8.toNat_ofNat']; omega)
      go_wp2_with (at_builtin; refine ahead rfl (.tmp 25) (.tmp 26) _ w.heap.size hws (UInt8.ofNat (48 + q % 10)) _ hb.out l _ rfl rfl rfl hown.out (by omega) ?_; intro v' w1 hown1 hb1 hn1)
      have hown1' := Lib.hid hown1; clear hown1
      have hn1' := Lib.hid hn1; clear hn1
      go_wp2_with fail
      go_roundw
      case rel => exact ⟨q / 10, _, by omega, by go_num, hst, hbw.trans hb1, hown1'⟩
      case measure => simp [intOf]; rw [hn1'.out]; omega
    · obtain rfl : q = 0 := by omega
      rcases hown.out with ⟨rfl, rfl⟩ | ⟨hl1, g, c, rfl, hg, hgl, hc⟩
      · have hst := Lib.hid (decInv_step hinv.out (.inr rfl))
        have hb : Hid (((UInt8.ofNat (48 + 0 % 10)).toNat : Int) = 48) := Lib.hid rfl
        go_wp2_with (at_builtin; refine ahead rfl (.tmp 25) (.tmp 26) _ w.heap.size hws (UInt8.ofNat (48 + 0 % 10)) _ hb.out [] _ rfl rfl rfl hown.out (by simp) ?_; intro v' w1 hown1 hb1 hn1)
        have hown1' := Lib.hid hown1; clear hown1
        have hn1' := Lib.hid hn1; clear hn1
        go_wp2_with fail
        go_roundw
        case rel => exact ⟨0 / 10, _, by omega, by go_num, hst, hbw.trans hb1, hown1'⟩
        case measure => simp [intOf]; rw [hn1'.out]; simp [nilOne]
      · have hend : Hid (l = Lib.decDigits N) := Lib.hid (decInv_end hinv.out (by intro h; rw [h] at hl1; simp at hl1))
        have hown' := hown
        have hz : ((l.length : Int) == 0) = false := by rw [beq_eq_false_iff_ne]; omega
        clear hc hown
        go_wp2_with (at_builtin; refine ahead rfl (.tmp 32) (.tmp 33) _ w.heap.size hws 45 _ rfl l _ rfl rfl rfl hown'.out (by omega) ?_; intro v' w1 hown1 hb1 hn1; obtain ⟨l2, hl2⟩ : ∃ l2, (45 : UInt8) :: l = l2 := ⟨_, rfl⟩; rw [hl2] at hown1; obtain ⟨g', c', rfl, hg', hgl', hc'⟩ := ownB_some hown1 (by rw [← hl2]; simp); have hl2' := Lib.hid hl2; have hcv := str_of (c := c') hc'; clear hl2 hc' hn1 hown1)
        go_ret
        have hi : Lib.itoa n = 45 :: Lib.decDigits N := by rw [hnN.out]; unfold Lib.itoa; rw [if_pos (by have := hnN.out; omega), Int.natAbs_neg, Int.natAbs_natCast]
        exact ⟨ret_sD (by rw [hi, ← hend.out, hl2'.out]), hbw.trans hb1⟩
theorem dec_any (n : Int) (w : World) (h0 : -4611686018427387904 ≤ n) (h1 : n ≤ 9223372036854775807) :
    Calls Tryd.prog 22 #[.int .i64 n] w (DecPost n w) := by
  by_cases hn : n < 0
  · exact decNeg_any n (-n).toNat w (by omega) hn h0 (Lib.hid (by omega))
  · obtain ⟨N, rfl⟩ := Int.eq_ofNat_of_zero_le (by omega : 0 ≤ n)
    exact decPos_any N w (by omega)
end Go.Proofs.YtlbopoidjnaokaaDoor
