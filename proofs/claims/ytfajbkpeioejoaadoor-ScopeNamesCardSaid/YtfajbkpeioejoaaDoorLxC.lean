/- Contracts of package lex: blanks, sign, Keyword. -/
import Derived.Test.YtfajbkpeioejoaaDoorLxB
namespace Go.Proofs.YtfajbkpeioejoaaDoor
open Go.RowKit
set_option linter.unusedVariables false
set_option linter.unusedSimpArgs false

set_option maxHeartbeats 2000000 in
theorem blanks_any (s : ByteArray) (p : Nat) (w : World) (hs : s.size ≤ 1125899906842624) (hp : p ≤ s.size) :
    Calls Tryd.prog 51 #[.string s, .int .i64 p] w fun e w' => e = .returned (.int .i64 ((p + skipF false (s.data.toList.drop p) : Nat) : Int)) ∧ w = w' := by
  go_enter Tryd.func51, Tryd.ntmps51
  go_wp2_with fail
  go_loop [1, 5] (fun j r => ∃ (k : Nat) (rb : Bool), k ≤ s.size ∧ j = .int .i64 k ∧ r = .bool rb ∧ Hid (p + skipF false (s.data.toList.drop p) = k + skipF rb (s.data.toList.drop k))) (fun j _ => s.size - (intOf j).toNat)
  case atStart => exact ⟨p, false, hp, rfl, rfl, Lib.hid rfl⟩
  case round =>
    obtain ⟨k, rb, hk, rfl, rfl, hr⟩ := hrel
    by_cases hlt : k < s.size
    · have hd := Lib.hid (drop_cons s k hlt)
      have hsk := hr.out
      rw [hd.out, skipF_cons] at hsk
      have hsk' := Lib.hid hsk
      clear hsk
      by_cases h1 : (s[k].toNat : Int) = 10
      · have b1 : ((s[k].toNat : Int) == 10) = true := by simpa using h1
        have h1' := Lib.hid h1; clear h1
        go_wp2_with fail
        go_round
        case rel => exact ⟨k + 1, _, by omega, by go_num, rfl, Lib.hid (by rw [hsk'.out, if_pos h1'.out]; omega)⟩
        case measure => simp [intOf]; omega
      have b1 : ((s[k].toNat : Int) == 10) = false := by simpa using h1
      by_cases h2 : (s[k].toNat : Int) = 32
      · have b2 : ((s[k].toNat : Int) == 32) = true := by simpa using h2
        have h1' := Lib.hid h1; have h2' := Lib.hid h2; clear h1 h2
        go_wp2_with fail
        go_round
        case rel => exact ⟨k + 1, rb, by omega, by go_num, rfl, Lib.hid (by rw [hsk'.out, if_neg h1'.out, if_pos (.inl h2'.out)]; omega)⟩
        case measure => simp [intOf]; omega
      have b2 : ((s[k].toNat : Int) == 32) = false := by simpa using h2
      by_cases h3 : (s[k].toNat : Int) = 9
      · have b3 : ((s[k].toNat : Int) == 9) = true := by simpa using h3
        have h1' := Lib.hid h1; have h3' := Lib.hid h3; clear h1 h2 h3
        go_wp2_with fail
        go_round
        case rel => exact ⟨k + 1, rb, by omega, by go_num, rfl, Lib.hid (by rw [hsk'.out, if_neg h1'.out, if_pos (.inr h3'.out)]; omega)⟩
        case measure => simp [intOf]; omega
      have b3 : ((s[k].toNat : Int) == 9) = false := by simpa using h3
      by_cases h4 : (s[k].toNat : Int) = 35
      · have b4 : ((s[k].toNat : Int) == 35) = true := by simpa using h4
        have hh := Lib.hid (show ¬ ((s[k].toNat : Int) = 10) ∧ ¬ ((s[k].toNat : Int) = 32 ∨ (s[k].toNat : Int) = 9) ∧ (s[k].toNat : Int) = 35 from ⟨h1, by omega, h4⟩); clear h1 h2 h3 h4
        go_wp2_with fail
        go_round
        case rel => exact ⟨k + 1, _, by omega, by go_num, rfl, Lib.hid (by rw [hsk'.out, if_neg hh.out.1, if_neg hh.out.2.1, if_pos hh.out.2.2]; omega)⟩
        case measure => simp [intOf]; omega
      have b4 : ((s[k].toNat : Int) == 35) = false := by simpa using h4
      have hh := Lib.hid (show ¬ ((s[k].toNat : Int) = 10) ∧ ¬ ((s[k].toNat : Int) = 32 ∨ (s[k].toNat : Int) = 9) ∧ ¬ ((s[k].toNat : Int) = 35) from ⟨h1, by omega, h4⟩); clear h1 h2 h3 h4
      cases rb
      · go_wp2_with fail
        go_ret
        exact ⟨ret_i (by have := hsk'.out; rw [if_neg hh.out.1, if_neg hh.out.2.1, if_neg hh.out.2.2] at this; simp at this; omega), rfl⟩
      · go_wp2_with fail
        go_round
        case rel => exact ⟨k + 1, _, by omega, by go_num, rfl, Lib.hid (by rw [hsk'.out, if_neg hh.out.1, if_neg hh.out.2.1, if_neg hh.out.2.2]; simp; omega)⟩
        case measure => simp [intOf]; omega
    · have he := Lib.hid (drop_end s k (by omega))
      go_wp2_with fail
      go_ret
      exact ⟨ret_i (by have := hr.out; rw [he.out] at this; simp [skipF] at this; omega), rfl⟩

theorem kwB_eq (l : List UInt8) : kwB l = (l == [102, 117, 110] || (l == [108, 101, 116] || (l == [114, 101, 99] || (l == [105, 110] || (l == [105, 102] || (l == [116, 104, 101, 110] || (l == [101, 108, 115, 101] || (l == [104, 97, 110, 100, 108, 101] || (l == [119, 105, 116, 104] || (l == [114, 101, 116, 117, 114, 110] || (l == [101, 110, 100] || (l == [100, 111] || (l == [111, 112] || (l == [116, 114, 117, 101] || (l == [102, 97, 108, 115, 101] || (l == [105, 110, 116] || (l == [98, 111, 111, 108] || false))))))))))))))))) := by
  simp only [kwB, kwL, List.contains_cons, List.contains_nil]
set_option maxHeartbeats 4000000 in
theorem keyword_any (s : ByteArray) (w : World) :
    Calls Tryd.prog 62 #[.string s] w fun e w' => e = .returned (.bool (kwB s.data.toList)) ∧ w = w' := by
  have hk := Lib.hid (kwB_eq s.data.toList)
  have ht := Lib.hid (ByteArray.toList_eq s)
  go_enter Tryd.func62, Tryd.ntmps62
  go_wp2_with fail
  all_goals go_ret
  all_goals exact ⟨ret_b (by rw [hk.out, ← ht.out]; clear hk ht; simp_all), rfl⟩

theorem u8_eq (c : UInt8) (k : Nat) (hk : k < 256) : (c == UInt8.ofNat k) = ((c.toNat : Int) == (k : Int)) := by
  rw [Bool.eq_iff_iff]
  simp only [beq_iff_eq]
  constructor
  · intro h; subst h; simp [Nat.mod_eq_of_lt hk]
  · intro h
    have : c.toNat = k := by omega
    rw [← this]; simp
theorem sg_eq (c : UInt8) : signL.contains c = ((c.toNat : Int) == 40 || ((c.toNat : Int) == 41 || ((c.toNat : Int) == 61 || ((c.toNat : Int) == 43 || ((c.toNat : Int) == 45 || ((c.toNat : Int) == 42 || ((c.toNat : Int) == 47 || ((c.toNat : Int) == 60 || ((c.toNat : Int) == 59 || ((c.toNat : Int) == 58 || false)))))))))) := by
  simp only [signL, List.contains_cons, List.contains_nil, show (c == 40) = ((c.toNat : Int) == 40) from u8_eq c 40 (by decide), show (c == 41) = ((c.toNat : Int) == 41) from u8_eq c 41 (by decide), show (c == 61) = ((c.toNat : Int) == 61) from u8_eq c 61 (by decide), show (c == 43) = ((c.toNat : Int) == 43) from u8_eq c 43 (by decide), show (c == 45) = ((c.toNat : Int) == 45) from u8_eq c 45 (by decide), show (c == 42) = ((c.toNat : Int) == 42) from u8_eq c 42 (by decide), show (c == 47) = ((c.toNat : Int) == 47) from u8_eq c 47 (by decide), show (c == 60) = ((c.toNat : Int) == 60) from u8_eq c 60 (by decide), show (c == 59) = ((c.toNat : Int) == 59) from u8_eq c 59 (by decide), show (c == 58) = ((c.toNat : Int) == 58) from u8_eq c 58 (by decide)]
theorem sgn_of (s : ByteArray) (hp : 0 < s.size) : signF s.data.toList = if decide (1 < s.size) && ((s.extract 0 2).toList == [45, 62] || (s.extract 0 2).toList == [61, 61]) then 2 else if signL.contains s[0] then 1 else 0 := by
  have e0 := drop_cons s 0 hp
  rw [List.drop_zero] at e0
  by_cases h1 : 1 < s.size
  · have e1 := drop_cons s 1 h1
    have e2 : (s.extract 0 2).toList = [s[0], s[1]] := by
      rw [ByteArray.toList_eq, ext_list, List.drop_zero, e0, e1]; rfl
    rw [e0, e1, e2]
    simp only [signF]
    by_cases hc : (s[0] = 45 ∧ s[1] = 62) ∨ (s[0] = 61 ∧ s[1] = 61)
    · rw [if_pos hc, if_pos]
      simp [h1, hc]
    · rw [not_or] at hc
      have hx : (decide (1 < s.size) && ([s[0], s[1]] == [45, 62] || [s[0], s[1]] == [61, 61])) = false := by
        simp [h1]
        exact ⟨fun a b => hc.1 ⟨a, b⟩, fun a b => hc.2 ⟨a, b⟩⟩
      rw [if_neg (by rw [not_or]; exact hc), hx]
      rfl
  · rw [e0, drop_end s 1 (by omega), if_neg (by simp; omega)]
    rfl
set_option maxHeartbeats 4000000 in
theorem sign_any2 (s : ByteArray) (w : World) (hs : s.size ≤ 1125899906842624) (hp : 0 < s.size) :
    Calls Tryd.prog 59 #[.string s] w fun e w' => e = .returned (.int .i64 (signF s.data.toList)) ∧ w = w' := by
  have hk := Lib.hid (sgn_of s hp)
  have hk2 := Lib.hid (sg_eq s[0])
  by_cases h1 : 1 < s.size
  · cases hA : ((s.extract 0 2).toList == [45, 62]) <;> cases hB : ((s.extract 0 2).toList == [61, 61])
    all_goals
      have h2 : (2 : Int) ≤ s.size := by omega
      go_enter Tryd.func59, Tryd.ntmps59
      go_wp2_with fail
      all_goals go_ret
      all_goals exact ⟨ret_i (by rw [hk.out, hk2.out]; clear hk hk2; simp_all), rfl⟩
  · have hk3 := Lib.hid (show signF s.data.toList = if signL.contains s[0] then 1 else 0 by rw [sgn_of s hp, decide_eq_false h1]; rfl)
    clear hk
    go_enter Tryd.func59, Tryd.ntmps59
    go_wp2_with fail
    all_goals go_ret
    all_goals exact ⟨ret_i (by rw [hk3.out, hk2.out]; clear hk3 hk2; simp_all), rfl⟩
end Go.Proofs.YtfajbkpeioejoaaDoor
