/- Contracts of package lex: run, sign, blanks, Keyword. -/
import Derived.Test.YtfajbkpeioejoaaDoorLxH
namespace Go.Proofs.YtfajbkpeioejoaaDoor
open Go.RowKit
set_option linter.unusedVariables false
set_option linter.unusedSimpArgs false

set_option maxHeartbeats 1000000 in
theorem run_any (s : ByteArray) (w : World) (hs : s.size ≤ 1125899906842624) :
    Calls Tryd.prog 55 #[.string s] w fun e w' => e = .returned (.int .i64 (runN s.data.toList)) ∧ w = w' := by
  go_enter Tryd.func55, Tryd.ntmps55
  go_wp2_with fail
  go_loop [3] (fun n => ∃ k : Nat, k ≤ s.size ∧ n = .int .i64 k ∧ Hid (runN s.data.toList = k + runN (s.data.toList.drop k))) (fun n => s.size - (intOf n).toNat)
  case atStart => exact ⟨0, Nat.zero_le _, rfl, Lib.hid (by simp)⟩
  case round =>
    obtain ⟨k, hk, rfl, hr⟩ := hrel
    by_cases hlt : k < s.size
    · have hd := Lib.hid (drop_cons s k hlt)
      have hyes : isN s[k] = true → runN s.data.toList = (k + 1 : Nat) + runN (s.data.toList.drop (k + 1)) := fun h => by
        rw [hr.out, hd.out, runN_yes h]; omega
      have hno : isN s[k] = false → runN s.data.toList = k := fun h => by
        rw [hr.out, hd.out, runN_no h]; omega
      have hyes' := Lib.hid hyes; have hno' := Lib.hid hno
      clear hyes hno
      cases hl : isL s[k] <;> cases hdg : isD s[k] <;> cases hu : ((s[k].toNat : Int) == 95)
      all_goals
        go_wp2_with (first | ((go_at_call 54; refine (isLetter_any _ _).mono ?_; rintro e w' ⟨rfl, rfl⟩)) | ((go_at_call 57; refine (isDigit_any _ _).mono ?_; rintro e w' ⟨rfl, rfl⟩)))
        first
          | (go_ret
             exact ⟨ret_i (by rw [hno'.out (by unfold isN; rw [hl, hdg, hu]; rfl)]), rfl⟩)
          | (go_round
             case rel => exact ⟨k + 1, by omega, by go_num, Lib.hid (hyes'.out (by unfold isN; rw [hl, hdg, hu]; rfl))⟩
             case measure => simp [intOf]; omega)
    · have he := Lib.hid (drop_end s k (by omega))
      go_wp2_with fail
      go_ret
      exact ⟨ret_i (by rw [hr.out, he.out, runN_nil]; simp), rfl⟩
end Go.Proofs.YtfajbkpeioejoaaDoor
