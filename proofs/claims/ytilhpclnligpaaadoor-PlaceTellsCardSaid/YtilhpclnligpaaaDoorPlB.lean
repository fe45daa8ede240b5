/- Contracts of place.Line and of the reference's Line. -/
import Derived.Test.YtilhpclnligpaaaDoorPlA
import Derived.Test.YtilhpclnligpaaaDoorShelf
namespace Go.Proofs.YtilhpclnligpaaaDoor
open Go.RowKit
set_option linter.unusedVariables false

theorem ret_3 {k : IntKind} {a b c a' b' c' : Int} (h : a = a') (h' : b = b') (h'' : c = c') : Ending.returned (.tuple #[.int k a, .int k b, .int k c]) = .returned (.tuple #[.int k a', .int k b', .int k c']) := by rw [h, h', h'']
theorem lib_bd (s : ByteArray) (k : Nat) (h : k ≤ s.size) : -1 ≤ Lib.lastIndexByte (s.extract 0 k) 10 ∧ Lib.lastIndexByte (s.extract 0 k) 10 < k := by
  have h1 := lib_coF s k h
  have h2 := coF_bd (s.data.toList.take k)
  have h3 : (s.data.toList.take k).length = k := by rw [List.length_take]; simp; omega
  omega

set_option maxHeartbeats 400000 in
theorem line_any (s : ByteArray) (a : Int) (w : World) (hs : s.size ≤ 140737488355328) :
    Calls Tryd.prog 8 #[.string s, .int .i64 a] w fun e w' => e = .returned (.tuple #[.int .i64 (lnV s a), .int .i64 (clV s a), .int .i64 (plE s a)]) ∧ w = w' := by
  by_cases ha : a < 0
  · have hv := Lib.hid (pl_no (s := s) (.inl ha))
    go_enter Tryd.func8, Tryd.ntmps8
    go_wp2_with fail
    go_ret3
    exact ⟨ret_3 hv.out.1.symm hv.out.2.1.symm hv.out.2.2.symm, rfl⟩
  by_cases hb : (s.size : Int) < a
  · have hv := Lib.hid (pl_no (s := s) (.inr hb))
    go_enter Tryd.func8, Tryd.ntmps8
    go_wp2_with fail
    go_ret3
    exact ⟨ret_3 hv.out.1.symm hv.out.2.1.symm hv.out.2.2.symm, rfl⟩
  obtain ⟨k, rfl⟩ := Int.eq_ofNat_of_zero_le (by omega : 0 ≤ a)
  have hk : k ≤ s.size := by omega
  have hv := Lib.hid (pl_yes hk)
  have hco := Lib.hid (lib_coF s k hk)
  have hli := Lib.hid (lib_liF s k hk)
  have hbd := lib_bd s k hk
  have hsz := Lib.hid (ext_size s k hk)
  have hcn : Lib.countByte (s.extract 0 k).data.toList 10 ≤ k := by
    have := liF_bd (s.data.toList.take k)
    have h3 : (s.data.toList.take k).length = k := by rw [List.length_take]; simp; omega
    rw [← lib_liF s k hk] at this; omega
  obtain ⟨j, hj⟩ : ∃ j, Lib.lastIndexByte (s.extract 0 k) 10 = j := ⟨_, rfl⟩
  obtain ⟨m, hm⟩ : ∃ m, Lib.countByte (s.extract 0 k).data.toList 10 = m := ⟨_, rfl⟩
  rw [hj] at hco hbd
  rw [hm] at hli hcn
  have hj' := Lib.hid hj; have hm' := Lib.hid hm; clear hj hm
  go_enter Tryd.func8, Tryd.ntmps8
  go_wp2_with fail
  refine (Tryd.strings_LastIndexByte _ _ (by rw [hsz.out]; omega) _).mono ?_
  rintro e w' ⟨rfl, rfl⟩
  rw [hj'.out]
  go_wp2_with fail
  refine (Tryd.strings_Count_one _ _ _).mono ?_
  rintro e w' ⟨rfl, rfl⟩
  rw [hm'.out]
  go_wp2_with fail
  go_ret3
  exact ⟨ret_3 (by rw [hv.out.1, ← hli.out]; omega) (by rw [hv.out.2.1, ← hco.out]; omega) hv.out.2.2.symm, rfl⟩

set_option maxHeartbeats 400000 in
theorem rline_any (s : ByteArray) (a : Int) (w : World) (hs : s.size ≤ 140737488355328) :
    Calls Tryd.prog 9 #[.string s, .int .i64 a] w fun e w' => e = .returned (.tuple #[.int .i64 (lnV s a), .int .i64 (clV s a), .int .i64 (plE s a)]) ∧ w = w' := by
  by_cases ha : a < 0
  · have hv := Lib.hid (pl_no (s := s) (.inl ha))
    go_enter Tryd.func9, Tryd.ntmps9
    go_wp2_with fail
    go_ret3
    exact ⟨ret_3 hv.out.1.symm hv.out.2.1.symm hv.out.2.2.symm, rfl⟩
  by_cases hb : (s.size : Int) < a
  · have hv := Lib.hid (pl_no (s := s) (.inr hb))
    go_enter Tryd.func9, Tryd.ntmps9
    go_wp2_with fail
    go_ret3
    exact ⟨ret_3 hv.out.1.symm hv.out.2.1.symm hv.out.2.2.symm, rfl⟩
  obtain ⟨n, rfl⟩ := Int.eq_ofNat_of_zero_le (by omega : 0 ≤ a)
  have hk : n ≤ s.size := by omega
  have hv := Lib.hid (pl_yes hk)
  go_enter Tryd.func9, Tryd.ntmps9
  go_wp2_with fail
  go_loop [7, 8, 9] (fun l c i => ∃ k x y : Nat, k ≤ n ∧ i = .int .i64 k ∧ x ≤ k + 1 ∧ y ≤ k + 1 ∧ l = .int .i64 x ∧ c = .int .i64 y ∧ Hid (x = liF (s.data.toList.take k) ∧ y = coF (s.data.toList.take k))) (fun _ _ i => n - (intOf i).toNat)
  case atStart => exact ⟨0, 1, 1, by omega, rfl, by omega, by omega, rfl, rfl, Lib.hid ⟨rfl, rfl⟩⟩
  case round =>
    obtain ⟨k, x, y, hkn, rfl, hx, hy, rfl, rfl, hxy⟩ := hrel
    by_cases hlt : k < n
    · have hks : k < s.size := by omega
      have hts := take_snoc s k hks
      have hx' := liF_snoc (s.data.toList.take k) s[k]
      have hy' := coF_snoc (s.data.toList.take k) s[k]
      by_cases hten : s[k] = 10
      · have H : Hid (x + 1 = liF (s.data.toList.take (k + 1)) ∧ 1 = coF (s.data.toList.take (k + 1))) := Lib.hid (by
          rw [hts, hx', hy', if_pos hten, if_pos hten, hxy.out.1]; exact ⟨rfl, rfl⟩)
        have hb1 : ((s[k].toNat : Int) == 10) = true := by rw [beq_iff_eq]; exact (u8_ten _).2 hten
        clear hts hx' hy' hten
        go_wp2_with fail
        go_round
        case rel => exact ⟨k + 1, x + 1, 1, by omega, by go_num, by omega, by omega, by go_num, rfl, H⟩
        case measure => simp [intOf]; omega
      · have H : Hid (x = liF (s.data.toList.take (k + 1)) ∧ y + 1 = coF (s.data.toList.take (k + 1))) := Lib.hid (by
          rw [hts, hx', hy', if_neg hten, if_neg hten, hxy.out.1, hxy.out.2]; exact ⟨rfl, rfl⟩)
        have hb1 : ((s[k].toNat : Int) == 10) = false := by rw [beq_eq_false_iff_ne]; exact fun h => hten ((u8_ten _).1 h)
        clear hts hx' hy' hten
        go_wp2_with fail
        go_round
        case rel => exact ⟨k + 1, x, y + 1, by omega, by go_num, by omega, by omega, rfl, by go_num, H⟩
        case measure => simp [intOf]; omega
    · obtain rfl : k = n := by omega
      go_wp2_with fail
      go_ret3
      exact ⟨ret_3 (by rw [hv.out.1, ← hxy.out.1]) (by rw [hv.out.2.1, ← hxy.out.2]) hv.out.2.2.symm, rfl⟩
end Go.Proofs.YtilhpclnligpaaaDoor
