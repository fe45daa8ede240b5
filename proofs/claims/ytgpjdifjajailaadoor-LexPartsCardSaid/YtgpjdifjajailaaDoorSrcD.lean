/- Contracts of package source: Valid; of the reference's Width and Valid; of Num. -/
import Derived.Test.YtgpjdifjajailaaDoorSrcC
import Derived.Outline
import Derived.Deep.DeepCutAuto
import Derived.Deep.CutBlock
namespace Go.Proofs.YtgpjdifjajailaaDoor
open Go.RowKit
set_option linter.unusedVariables false
set_option linter.unusedSimpArgs false

/-- from a place on: the first byte that begins no sign. -/
def vaF (s : ByteArray) : Nat → Nat → Int × Bool
  | 0, _ => (0, true)
  | f + 1, at_ => if at_ < s.size then (if widF s at_ = 0 then ((at_ : Int), false) else vaF s f (at_ + (widF s at_).toNat)) else (0, true)

/-- what Valid tells. -/
def vaV (s : ByteArray) : Int × Bool := vaF s (s.size + 1) 0
def vaAt (s : ByteArray) (k : Nat) : Int × Bool := vaF s (s.size - k + 1) k

theorem vaF_fuel (s : ByteArray) : ∀ (f g k : Nat), s.size < f + k → s.size < g + k → vaF s f k = vaF s g k := by
  intro f
  induction f with
  | zero =>
    intro g k h1 h2
    cases g with
    | zero => rfl
    | succ g => unfold vaF; rw [if_neg (by omega)]
  | succ f ih =>
    intro g k h1 h2
    cases g with
    | zero => unfold vaF; rw [if_neg (by omega)]
    | succ g =>
      unfold vaF
      by_cases hk : k < s.size
      · rw [if_pos hk, if_pos hk]
        by_cases hz : widF s k = 0
        · rw [if_pos hz, if_pos hz]
        · rw [if_neg hz, if_neg hz]
          have := widF_bd s k
          exact ih g _ (by omega) (by omega)
      · rw [if_neg hk, if_neg hk]

theorem vaAt_end {s : ByteArray} {k : Nat} (h : s.size ≤ k) : vaAt s k = (0, true) := by
  unfold vaAt vaF; rw [if_neg (by omega)]
theorem vaAt_bad {s : ByteArray} {k : Nat} (h : k < s.size) (hz : widF s k = 0) : vaAt s k = ((k : Int), false) := by
  unfold vaAt vaF; rw [if_pos h, if_pos hz]
theorem vaAt_step {s : ByteArray} {k : Nat} (h : k < s.size) (hz : widF s k ≠ 0) : vaAt s k = vaAt s (k + (widF s k).toNat) := by
  have hb := widF_bd s k
  conv => lhs; unfold vaAt vaF; rw [if_pos h, if_neg hz]
  unfold vaAt
  exact vaF_fuel s _ _ _ (by omega) (by omega)
theorem vaV_eq (s : ByteArray) : vaV s = vaAt s 0 := by unfold vaV vaAt; simp

theorem ret_ib {k : IntKind} {a b : Int} {c d : Bool} (h : (a, c) = (b, d)) : Ending.returned (.tuple #[.int k a, .bool c]) = .returned (.tuple #[.int k b, .bool d]) := by
  cases h; rfl

set_option maxHeartbeats 400000 in
theorem valid_any (s : ByteArray) (w : World) (hs : s.size ≤ 1125899906842624) :
    Calls Tryd.prog 24 #[.string s] w fun e w' => e = .returned (.tuple #[.int .i64 (vaV s).1, .bool (vaV s).2]) ∧ w = w' := by
  go_enter Tryd.func24, Tryd.ntmps24
  go_wp2_with fail
  go_loop [4] (fun i => ∃ k : Nat, k ≤ s.size ∧ i = .int .i64 k ∧ Hid (vaAt s k = vaV s)) (fun i => s.size - (intOf i).toNat)
  case atStart => exact ⟨0, by omega, rfl, Lib.hid (vaV_eq s).symm⟩
  case round =>
    obtain ⟨k, hk, rfl, hv⟩ := hrel
    by_cases hlt : k < s.size
    · have he' := Lib.hid (show (s.extract k s.size).size = s.size - k by simp)
      go_wp2_with fail
      refine (sign_any _ _ (by rw [he'.out]; omega) (by rw [he'.out]; omega)).mono ?_
      rintro e w' ⟨rfl, rfl⟩
      rw [widF_ext s k (by omega)]
      have hw := widF_bd s k
      by_cases hz : widF s k = 0
      · have hz3 : (widF s k == 0) = true := by simpa using hz
        have hz' := Lib.hid hz; clear hz hw
        go_wp2
        go_ret2
        exact ⟨ret_ib (by rw [← hv.out, vaAt_bad hlt hz'.out]), rfl⟩
      · have hz3 : (widF s k == 0) = false := by simpa using hz
        obtain ⟨n, hn⟩ := Int.eq_ofNat_of_zero_le hw.1
        have hst := Lib.hid (vaAt_step hlt hz)
        rw [hn] at hw hz3 hst ⊢
        have hn1 : 1 ≤ n := by omega
        have hn' := Lib.hid hn; clear hn hz
        go_wp2
        go_round
        case rel => exact ⟨k + n, by omega, by go_num, Lib.hid (by rw [← hv.out, hst.out]; simp)⟩
        case measure => simp [intOf]; omega
    · go_wp2
      go_ret2
      exact ⟨ret_ib (by rw [← hv.out, vaAt_end (by omega)]), rfl⟩

theorem num_any (e : Int) (w : World) (h0 : 0 ≤ e) (h1 : e ≤ 9223372036854775807) :
    Calls Tryd.prog 12 #[.int .i64 e] w fun r w' => r = .returned (.int .i64 e) ∧ w = w' := by
  go_enter Tryd.func12, Tryd.ntmps12
  go_wp2
  go_ret
  exact ⟨rfl, rfl⟩

set_option maxHeartbeats 400000 in
set_option maxRecDepth 100000 in
theorem rwidth_any (s : ByteArray) (at_ : Int) (w : World) (hs : s.size ≤ 1125899906842624) (ha : -9223372036854775808 ≤ at_) (hb : at_ ≤ 9223372036854775807) :
    Calls Tryd.prog 31 #[.string s, .int .i64 at_] w fun e w' => e = .returned (.int .i64 (wdV s at_)) ∧ w = w' := by
  by_cases h0 : at_ < 0
  · go_enter Tryd.func31, Tryd.ntmps31
    go_wp2
    go_ret
    exact ⟨ret_i (wd_out (by omega)).1, rfl⟩
  · by_cases h1 : (s.size : Int) ≤ at_
    · go_enter Tryd.func31, Tryd.ntmps31
      go_wp2
      go_ret
      exact ⟨ret_i (wd_out (by omega)).1, rfl⟩
    · obtain ⟨n, rfl⟩ := Int.eq_ofNat_of_zero_le (by omega : 0 ≤ at_)
      have hn : n < s.size := by omega
      have hbn : (s[n].toNat : Int) = bAt s n := (bAt_lt s n hn).symm
      have hb0 := bAt_bd s n
      go_enter Tryd.func31, Tryd.ntmps31
      by_cases hl0 : leadF (bAt s n) = 0
      · have hv : wdV s (n : Int) = 0 := by rw [wd_in hn]; unfold widF; rw [hl0]; simp
        have hv' := Lib.hid hv
        have hc : (128 ≤ bAt s n ∧ bAt s n < 194) ∨ 245 ≤ bAt s n := by
          unfold leadF at hl0; (repeat split at hl0) <;> omega
        clear hv hl0
        go_wp2_with fail
        all_goals (go_ret; exact ⟨ret_i hv'.out.symm, rfl⟩)
      · go_upto_block 0 with fail
        go_cut [6, 7, 8] (fun k lo hi wx => k = .int .i64 (leadF (bAt s n)) ∧ lo = .int .u8 (lowF (bAt s n)) ∧ hi = .int .u8 (highF (bAt s n)) ∧ 2 ≤ leadF (bAt s n) ∧ wx = w)
        case first =>
          have hl1 : Hid (wdV s (n : Int) = 1 ∨ ¬ bAt s n < 128) := by
            by_cases hlt : bAt s n < 128
            · refine .inl ?_
              have hl : leadF (bAt s n) = 1 := by unfold leadF; (repeat' split) <;> omega
              rw [wd_in hn]; unfold widF; rw [hl]
              rw [if_pos]
              have : allB s n (1 : Int).toNat = true := by simp [allB]
              rw [this]; simp; omega
            · exact .inr hlt
          go_wp2_with fail
          · go_ret
            exact ⟨ret_i (by rcases hl1.out with h | h <;> omega), rfl⟩
          all_goals first
            | (go_meet; exact ⟨by congr 1; unfold leadF; (try simp only [beq_iff_eq, beq_eq_false_iff_ne, bne_iff_ne, decide_eq_true_eq, decide_eq_false_iff_not] at *); (repeat' split) <;> omega, by congr 1; unfold lowF; (try simp only [beq_iff_eq, beq_eq_false_iff_ne, bne_iff_ne, decide_eq_true_eq, decide_eq_false_iff_not] at *); (repeat' split) <;> omega, by congr 1; unfold highF; (try simp only [beq_iff_eq, beq_eq_false_iff_ne, bne_iff_ne, decide_eq_true_eq, decide_eq_false_iff_not] at *); (repeat' split) <;> omega, by unfold leadF; (try simp only [beq_iff_eq, beq_eq_false_iff_ne, bne_iff_ne, decide_eq_true_eq, decide_eq_false_iff_not] at *); (repeat' split) <;> omega, rfl⟩)
            | (exfalso; apply hl0; unfold leadF; (try simp only [beq_iff_eq, beq_eq_false_iff_ne, bne_iff_ne, decide_eq_true_eq, decide_eq_false_iff_not] at *); (repeat' split) <;> omega)
        case rest =>
          obtain ⟨rfl, rfl, rfl, hk2, rfl⟩ := hcut
          clear hl0
          have hlb := leadF_bd (bAt s n)
          have hno : ∀ k : Nat, 1 ≤ k → (k : Int) < leadF (bAt s n) → okB s n k = false → 0 = wdV s (n : Int) := by
            intro k h1 h2 h3
            rw [wd_in hn]; unfold widF
            rw [allB_no s n k _ h1 (by omega) h3]; simp
          have hno' := Lib.hid hno; clear hno
          by_cases hsz : (s.size : Int) < n + leadF (bAt s n)
          · go_wp2_with fail
            go_ret
            exact ⟨ret_i (by rw [wd_in hn]; unfold widF; rw [if_neg]; simp; omega), rfl⟩
          · have hn1 : n + 1 < s.size := by omega
            have hb1 : (s[n + 1].toNat : Int) = bAt s (n + 1) := (bAt_lt s (n + 1) hn1).symm
            have ho : Hid (okB s n 1 = (decide (lowF (bAt s n) ≤ bAt s (n + 1)) && decide (bAt s (n + 1) ≤ highF (bAt s n)))) := Lib.hid (by simp [okB])
            by_cases hlo : bAt s (n + 1) < lowF (bAt s n)
            · go_wp2_with fail
              go_ret
              exact ⟨ret_i (hno'.out 1 (by omega) (by omega) (by rw [ho.out]; simp; omega)), rfl⟩
            · by_cases hhi : highF (bAt s n) < bAt s (n + 1)
              · go_wp2_with fail
                go_ret
                exact ⟨ret_i (hno'.out 1 (by omega) (by omega) (by rw [ho.out]; simp; omega)), rfl⟩
              · have hall : Hid (allB s n 2 = true) := Lib.hid (by
                  rw [allB_succ s n 1 (by omega), ho.out]
                  have : allB s n 1 = true := by simp [allB]
                  rw [this]; simp; omega)
                go_wp2_with fail
                go_loop [9] (fun i => ∃ k : Nat, 2 ≤ k ∧ (k : Int) ≤ leadF (bAt s n) ∧ i = .int .i64 k ∧ Hid (allB s n k = true)) (fun i => (5 - intOf i).toNat)
                case atStart => exact ⟨2, by omega, by omega, rfl, hall⟩
                case round =>
                  obtain ⟨k, hk2', hkl, rfl, hal⟩ := hrel
                  by_cases hlt : (k : Int) < leadF (bAt s n)
                  · have hnk : n + k < s.size := by omega
                    have hbk : (s[n + k].toNat : Int) = bAt s (n + k) := (bAt_lt s (n + k) hnk).symm
                    have hok : Hid (okB s n k = (decide (128 ≤ bAt s (n + k)) && decide (bAt s (n + k) ≤ 191))) := Lib.hid (by unfold okB; rw [if_neg (by omega)])
                    by_cases hx : bAt s (n + k) < 128
                    · go_wp2_with fail
                      go_ret
                      exact ⟨ret_i (hno'.out k (by omega) (by omega) (by rw [hok.out]; simp; omega)), rfl⟩
                    · by_cases hy : 191 < bAt s (n + k)
                      · go_wp2_with fail
                        go_ret
                        exact ⟨ret_i (hno'.out k (by omega) (by omega) (by rw [hok.out]; simp; omega)), rfl⟩
                      · go_wp2_with fail
                        go_round
                        case rel => exact ⟨k + 1, by omega, by omega, by go_num, Lib.hid (by rw [allB_succ s n k (by omega), hal.out, hok.out]; simp; omega)⟩
                        case measure => simp [intOf]; omega
                  · go_wp2_with fail
                    go_ret
                    exact ⟨ret_i (by
                      rw [wd_in hn]; unfold widF
                      rw [allB_le s n _ k (by omega) hal.out, if_pos]
                      simp; omega), rfl⟩
end Go.Proofs.YtgpjdifjajailaaDoor
