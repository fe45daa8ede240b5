/- Contracts of package source: Valid; of the reference's Width and Valid; of Num. -/
import Derived.Test.YtfajbkpeioejoaaDoorSrcC
import Derived.Outline
import Derived.Deep.DeepCutAuto
import Derived.Deep.CutBlock
namespace Go.Proofs.YtfajbkpeioejoaaDoor
open Go.RowKit
set_option linter.unusedVariables false
set_option linter.unusedSimpArgs false

/-- from a place on: the first byte that begins no sign. -/
def vaF (s : ByteArray) : Nat → Nat → Int × Bool
  | 0, _ => (0, true)
  | f + 1, at_ => if at_ < s.size then (if widF s at_ = 0 then ((at_ : Int), false) else vaF s f (at_ + (widF s at_).toNat)) else (0, true)

/-- what Valid tells. -/
def vaV (s : ByteArray) : Int × Bool := vaF s (s.size + 1) 0
def vaAt (s : ByteArray) (k : Nat) : Int × Bool := vaF s (s.size - k + 1) k

theorem vaF_fuel (s : ByteArray) : ∀ (f g k : Nat), s.size < f + k → s.size < g + k → vaF s f k = vaF s g k := by
  intro f
  induction f with
  | zero =>
    intro g k h1 h2
    cases g with
    | zero => rfl
    | succ g => unfold vaF; rw [if_neg (by omega)]
  | succ f ih =>
    intro g k h1 h2
    cases g with
    | zero => unfold vaF; rw [if_neg (by omega)]
    | succ g =>
      unfold vaF
      by_cases hk : k < s.size
      · rw [if_pos hk, if_pos hk]
        by_cases hz : widF s k = 0
        · rw [if_pos hz, if_pos hz]
        · rw [if_neg hz, if_neg hz]
          have := widF_bd s k
          exact ih g _ (by omega) (by omega)
      · rw [if_neg hk, if_neg hk]

theorem vaAt_end {s : ByteArray} {k : Nat} (h : s.size ≤ k) : vaAt s k = (0, true) := by
  unfold vaAt vaF; rw [if_neg (by omega)]
theorem vaAt_bad {s : ByteArray} {k : Nat} (h : k < s.size) (hz : widF s k = 0) : vaAt s k = ((k : Int), false) := by
  unfold vaAt vaF; rw [if_pos h, if_pos hz]
theorem vaAt_step {s : ByteArray} {k : Nat} (h : k < s.size) (hz : widF s k ≠ 0) : vaAt s k = vaAt s (k + (widF s k).toNat) := by
  have hb := widF_bd s k
  conv => lhs; unfold vaAt vaF; rw [if_pos h, if_neg hz]
  unfold vaAt
  exact vaF_fuel s _ _ _ (by omega) (by omega)
theorem vaV_eq (s : ByteArray) : vaV s = vaAt s 0 := by unfold vaV vaAt; simp

theorem ret_ib {k : IntKind} {a b : Int} {c d : Bool} (h : (a, c) = (b, d)) : Ending.returned (.tuple #[.int k a, .bool c]) = .returned (.tuple #[.int k b, .bool d]) := by
  cases h; rfl

set_option maxHeartbeats 400000 in
theorem valid_any (s : ByteArray) (w : World) (hs : s.size ≤ 1125899906842624) :
    Calls Tryd.prog 50 #[.string s] w fun e w' => e = .returned (.tuple #[.int .i64 (vaV s).1, .bool (vaV s).2]) ∧ w = w' := by
  go_enter Tryd.func50, Tryd.ntmps50
  go_wp2_with fail
  go_loop [4] (fun i => ∃ k : Nat, k ≤ s.size ∧ i = .int .i64 k ∧ Hid (vaAt s k = vaV s)) (fun i => s.size - (intOf i).toNat)
  case atStart => exact ⟨0, by omega, rfl, Lib.hid (vaV_eq s).symm⟩
  case round =>
    obtain ⟨k, hk, rfl, hv⟩ := hrel
    by_cases hlt : k < s.size
    · have he' := Lib.hid (show (s.extract k s.size).size = s.size - k by simp)
      go_wp2_with fail
      refine (sign_any _ _ (by rw [he'.out]; omega) (by rw [he'.out]; omega)).mono ?_
      rintro e w' ⟨rfl, rfl⟩
      rw [widF_ext s k (by omega)]
      have hw := widF_bd s k
      by_cases hz : widF s k = 0
      · have hz3 : (widF s k == 0) = true := by simpa using hz
        have hz' := Lib.hid hz; clear hz hw
        go_wp2
        go_ret2
        exact ⟨ret_ib (by rw [← hv.out, vaAt_bad hlt hz'.out]), rfl⟩
      · have hz3 : (widF s k == 0) = false := by simpa using hz
        obtain ⟨n, hn⟩ := Int.eq_ofNat_of_zero_le hw.1
        have hst := Lib.hid (vaAt_step hlt hz)
        rw [hn] at hw hz3 hst ⊢
        have hn1 : 1 ≤ n := by omega
        have hn' := Lib.hid hn; clear hn hz
        go_wp2
        go_round
        case rel => exact ⟨k + n, by omega, by go_num, Lib.hid (by rw [← hv.out, hst.out]; simp)⟩
        case measure => simp [intOf]; omega
    · go_wp2
      go_ret2
      exact ⟨ret_ib (by rw [← hv.out, vaAt_end (by omega)]), rfl⟩

theorem num_any (e : Int) (w : World) (h0 : 0 ≤ e) (h1 : e ≤ 9223372036854775807) :
    Calls Tryd.prog 9 #[.int .i64 e] w fun r w' => r = .returned (.int .i64 e) ∧ w = w' := by
  go_enter Tryd.func9, Tryd.ntmps9
  go_wp2
  go_ret
  exact ⟨rfl, rfl⟩

end Go.Proofs.YtfajbkpeioejoaaDoor
