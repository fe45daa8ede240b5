/- Contracts of the reference's Valid, and of layer 1's awake. -/
import Derived.Test.YtbbhnohecbhjmaaSrcD
namespace Go.Proofs.Ytbbhnohecbhjmaa
open Go.RowKit
set_option linter.unusedVariables false

set_option maxHeartbeats 400000 in
theorem rvalid_any (s : ByteArray) (w : World) (hs : s.size ≤ 1125899906842624) :
    Calls Try.prog 9 #[.string s] w fun e w' => e = .returned (.tuple #[.int .i64 (vaV s).1, .bool (vaV s).2]) ∧ w = w' := by
  go_enter Try.func9, Try.ntmps9
  go_wp2_with fail
  go_loop [4] (fun i => ∃ k : Nat, k ≤ s.size ∧ i = .int .i64 k ∧ Hid (vaAt s k = vaV s)) (fun i => s.size - (intOf i).toNat)
  case atStart => exact ⟨0, by omega, rfl, Lib.hid (vaV_eq s).symm⟩
  case round =>
    obtain ⟨k, hk, rfl, hv⟩ := hrel
    by_cases hlt : k < s.size
    · go_wp2_with fail
      refine (rwidth_any _ _ _ hs (by omega) (by omega)).mono ?_
      rintro e w' ⟨rfl, rfl⟩
      rw [wd_in hlt]
      have hw := widF_bd s k
      by_cases hz : widF s k = 0
      · have hz3 : (widF s k == 0) = true := by simpa using hz
        have hz' := Lib.hid hz; clear hz hw
        go_wp2
        go_ret2
        exact ⟨ret_ib (by rw [← hv.out, vaAt_bad hlt hz'.out]), rfl⟩
      · have hz3 : (widF s k == 0) = false := by simpa using hz
        obtain ⟨n, hn⟩ := Int.eq_ofNat_of_zero_le hw.1
        have hst := Lib.hid (vaAt_step hlt hz)
        rw [hn] at hw hz3 hst ⊢
        have hn1 : 1 ≤ n := by omega
        have hn' := Lib.hid hn; clear hn hz
        go_wp2
        go_round
        case rel => exact ⟨k + n, by omega, by go_num, Lib.hid (by rw [← hv.out, hst.out]; simp)⟩
        case measure => simp [intOf]; omega
    · go_wp2
      go_ret2
      exact ⟨ret_ib (by rw [← hv.out, vaAt_end (by omega)]), rfl⟩

theorem awake_any (w : World) : Calls Try.prog 13 #[] w fun e w' => e = .returned (.bool true) ∧ w = w' := by
  go_enter Try.func13, Try.ntmps13
  go_wp2_with fail
  refine (valid_any _ _ (by decide)).mono ?_
  rintro e w' ⟨rfl, rfl⟩
  rw [show vaV _ = (0, true) from by decide +kernel]
  go_wp2_with fail
  refine (valid_any _ _ (by decide)).mono ?_
  rintro e w' ⟨rfl, rfl⟩
  rw [show vaV _ = (2, false) from by decide +kernel]
  go_wp2_with fail
  refine (valid_any _ _ (by decide)).mono ?_
  rintro e w' ⟨rfl, rfl⟩
  rw [show vaV _ = (1, false) from by decide +kernel]
  go_wp2_with fail
  refine (width_any _ _ _ (by decide) (by decide) (by decide)).mono ?_
  rintro e w' ⟨rfl, rfl⟩
  rw [show wdV _ _ = 3 from by decide +kernel, show wdE _ _ = 0 from by decide +kernel]
  go_wp2_with fail
  refine (width_any _ _ _ (by decide) (by decide) (by decide)).mono ?_
  rintro e w' ⟨rfl, rfl⟩
  rw [show wdV _ _ = 0 from by decide +kernel, show wdE _ _ = 100 from by decide +kernel]
  go_wp2_with fail
  refine (width_any _ _ _ (by decide) (by decide) (by decide)).mono ?_
  rintro e w' ⟨rfl, rfl⟩
  rw [show wdV _ _ = 0 from by decide +kernel, show wdE _ _ = 100 from by decide +kernel]
  go_wp2_with (go_at_call 12; refine (num_any _ _ (by omega) (by omega)).mono ?_; rintro e w' ⟨rfl, rfl⟩)
  go_ret
  exact ⟨rfl, rfl⟩
end Go.Proofs.Ytbbhnohecbhjmaa
