/- Contract of the reference of layer 2: Tokens. -/
import Derived.Test.YtgpjdifjajailaaDoorLxT
namespace Go.Proofs.YtgpjdifjajailaaDoor
open Go.RowKit
set_option linter.unusedVariables false
set_option linter.unusedSimpArgs false

theorem rtok_ok {w W : World} {v : Value} {l : List Tk} {R : List Tk × Int × Int} (hR : R = (l, 0, 0)) (hb : Below w.heap.size w W) (ho : OwnK w.heap.size W v l) : TokPost R w (.returned (.tuple #[v, .int .i64 0, .int .i64 0])) W := by
  subst hR; exact ⟨v, rfl, ho, hb⟩
theorem rtok_bad {w W : World} {a b : Int} {R : List Tk × Int × Int} (hR : R = ([], a, b)) (hb : Below w.heap.size w W) : TokPost R w (.returned (.tuple #[.slice none 0 0, .int .i64 a, .int .i64 b])) W := by
  subst hR; exact ⟨_, rfl, ownK_nil _ _, hb⟩
theorem first_drop {l : List UInt8} {t : Tk} {n : Nat} (h : l ≠ []) (hf : firstF l = (t, n, 0)) : 0 < n ∧ n ≤ l.length := by
  have := firstF_pos h (by rw [hf]); rw [hf] at this; exact this

set_option maxRecDepth 100000 in
set_option maxHeartbeats 8000000 in
theorem rtokens_any (s : ByteArray) (w : World) (hs : s.size ≤ 1125899906842624) :
    Calls Tryd.prog 10 #[.string s] w (TokPost (lexR s) w) := by
  by_cases hl : 4096 < s.size
  · have hR := Lib.hid (show lexR s = ([], 0, 200) by unfold lexR; rw [if_pos hl])
    go_enter Tryd.func10, Tryd.ntmps10
    go_wp2_with fail
    go_ret3
    exact rtok_bad hR.out (Below.refl _ _)
  have hl' : s.size ≤ 4096 := by omega
  obtain ⟨vp, hvp⟩ : ∃ x, (vaV s).1 = x := ⟨_, rfl⟩
  cases hv : (vaV s).2
  · have hR := Lib.hid (show lexR s = ([], vp, 200) by unfold lexR; rw [if_neg hl, if_pos hv, hvp])
    have hv' := Lib.hid hv; clear hv
    have hvp' := Lib.hid hvp; clear hvp
    go_enter Tryd.func10, Tryd.ntmps10
    go_wp2_with fail
    refine (rvalid_any _ _ hs).mono ?_
    rintro e w' ⟨rfl, rfl⟩
    rw [hv'.out, hvp'.out]
    go_wp2_with fail
    go_ret3
    exact rtok_bad hR.out (Below.refl _ _)
  obtain ⟨R, hR0⟩ : ∃ R, lexR s = R := ⟨_, rfl⟩
  have hR : Hid (lxAt s.data.toList 0 [] = R) := Lib.hid (by rw [← hR0]; unfold lexR; rw [if_neg hl, hv]; rfl)
  rw [hR0]
  have hv' := Lib.hid hv
  have hvp' := Lib.hid hvp
  clear hv hl hvp hR0
  go_enter Tryd.func10, Tryd.ntmps10
  go_wp2_with fail
  refine (rvalid_any _ _ hs).mono ?_
  rintro e w' ⟨rfl, rfl⟩
  rw [hv'.out, hvp'.out]
  go_wp2_with fail
  go_loopw [7, 8] (fun tv i wr => ∃ (p : Nat) (acc : List Tk), p ≤ s.size ∧ acc.length ≤ p ∧ i = .int .i64 p ∧ Below w.heap.size w wr ∧ Hid (OwnK w.heap.size wr tv acc ∧ lxAt (s.data.toList.drop p) p acc = R)) (fun _ i _ => s.size - (intOf i).toNat)
  case atStart => exact ⟨0, [], by omega, by simp, rfl, Below.refl _ _, Lib.hid ⟨ownK_nil _ _, by rw [List.drop_zero]; exact hR.out⟩⟩
  case round =>
    obtain ⟨p, acc, hp, hacc, rfl, hbw, hinv⟩ := hrel
    have hws := hbw.size
    by_cases hlt : p < s.size
    · have hd := Lib.hid (drop_cons s p hlt)
      by_cases hb : (s[p].toNat : Int) = 32 ∨ (s[p].toNat : Int) = 9 ∨ (s[p].toNat : Int) = 10
      · have hstep := Lib.hid (show lxAt (s.data.toList.drop (p + 1)) (p + 1) acc = R by rw [← hinv.out.2, hd.out]; exact (lxAt_blank (by omega)).symm)
        rcases hb with hb | hb | hb
        · have b1 : ((s[p].toNat : Int) == 32) = true := by simpa using hb
          clear hb
          go_wp2_with fail
          go_roundw
          case rel => exact ⟨p + 1, acc, by omega, by omega, by go_num, hbw, Lib.hid ⟨hinv.out.1, hstep.out⟩⟩
          case measure => simp [intOf]; omega
        · have b1 : ((s[p].toNat : Int) == 32) = false := by simp; omega
          have b2 : ((s[p].toNat : Int) == 9) = true := by simpa using hb
          clear hb
          go_wp2_with fail
          go_roundw
          case rel => exact ⟨p + 1, acc, by omega, by omega, by go_num, hbw, Lib.hid ⟨hinv.out.1, hstep.out⟩⟩
          case measure => simp [intOf]; omega
        · have b1 : ((s[p].toNat : Int) == 32) = false := by simp; omega
          have b2 : ((s[p].toNat : Int) == 9) = false := by simp; omega
          have b3 : ((s[p].toNat : Int) == 10) = true := by simpa using hb
          clear hb
          go_wp2_with fail
          go_roundw
          case rel => exact ⟨p + 1, acc, by omega, by omega, by go_num, hbw, Lib.hid ⟨hinv.out.1, hstep.out⟩⟩
          case measure => simp [intOf]; omega
      have b1 : ((s[p].toNat : Int) == 32) = false := by simp; omega
      have b2 : ((s[p].toNat : Int) == 9) = false := by simp; omega
      have b3 : ((s[p].toNat : Int) == 10) = false := by simp; omega
      by_cases h4 : (s[p].toNat : Int) = 35
      · have b4 : ((s[p].toNat : Int) == 35) = true := by simpa using h4
        obtain ⟨m, hm⟩ : ∃ m, remF (s.data.toList.drop p) = m := ⟨_, rfl⟩
        have hm0 : 0 < m := by rw [← hm, hd.out, remF_yes (by omega)]; omega
        have hml : p + m ≤ s.size := by have := remF_le (s.data.toList.drop p); rw [List.length_drop, len_list, hm] at this; omega
        have hstep := Lib.hid (show lxAt (s.data.toList.drop (p + m)) (p + m) acc = R by
          rw [← hinv.out.2]
          have := lxAt_remark (c := s[p]) (l := s.data.toList.drop (p + 1)) (p := p) (acc := acc) h4
          rw [← hd.out, hm, List.drop_drop] at this
          exact this.symm)
        have hm' := Lib.hid hm
        clear hm h4 hb
        go_wp2_with fail
        clear b1 b2 b3 b4
        go_loopw [8] (fun i wr2 => ∃ k : Nat, p ≤ k ∧ k ≤ p + m ∧ i = .int .i64 k ∧ wr2 = wr ∧ Hid (p + m = k + remF (s.data.toList.drop k))) (fun i _ => s.size - (intOf i).toNat)
        case atStart => exact ⟨p, Nat.le_refl _, by omega, rfl, rfl, Lib.hid (by rw [hm'.out])⟩
        case round =>
          obtain ⟨k, hkp, hkm, rfl, rfl, hI⟩ := hrel
          by_cases hlt2 : k < s.size
          · have hdk := Lib.hid (drop_cons s k hlt2)
            by_cases h10 : (s[k].toNat : Int) = 10
            · obtain rfl : k = p + m := by have := hI.out; rw [hdk.out, remF_no h10] at this; omega
              have b5 : ((s[p + m].toNat : Int) == 10) = true := by simpa using h10
              clear h10 hI hdk
              go_wp2_with fail
              go_roundw
              case rel => exact ⟨p + m, acc, by omega, by omega, rfl, hbw, Lib.hid ⟨hinv.out.1, hstep.out⟩⟩
              case measure => simp [intOf]; omega
            · have b5 : ((s[k].toNat : Int) == 10) = false := by simpa using h10
              have hI2 := Lib.hid (show p + m = (k + 1) + remF (s.data.toList.drop (k + 1)) by have := hI.out; rw [hdk.out, remF_yes h10] at this; omega)
              have hk1 : k + 1 ≤ p + m := by have := hI2.out; omega
              clear h10 hI hdk
              go_wp2_with fail
              go_roundw
              case rel => exact ⟨k + 1, by omega, hk1, by go_num, by first | rfl | trivial, hI2⟩
              case measure => simp [intOf]; omega
          · obtain rfl : k = p + m := by have := hI.out; rw [drop_end s k (by omega)] at this; simp [remF] at this; omega
            clear hI
            go_wp2_with fail
            go_roundw
            case rel => exact ⟨p + m, acc, by omega, by omega, rfl, hbw, Lib.hid ⟨hinv.out.1, hstep.out⟩⟩
            case measure => simp [intOf]; omega
      · have b4 : ((s[p].toNat : Int) == 35) = false := by simpa using h4
        have hne : s.data.toList.drop p ≠ [] := by rw [hd.out]; simp
        obtain ⟨r, hr⟩ : ∃ r, firstF (s.data.toList.drop p) = r := ⟨_, rfl⟩
        obtain ⟨⟨kd, tx, nm, a0⟩, n, er⟩ := r
        have hsk : skipF false (s.data.toList.drop p) = 0 := by rw [hd.out, skipF_cons, if_neg (by omega), if_neg (by omega), if_neg h4]; rfl
        by_cases he : er = 0
        · subst he
          have hpos := first_drop hne hr
          rw [List.length_drop, len_list] at hpos
          obtain ⟨hn1, hn2⟩ := hpos
          have htk : Hid (∀ W : World, Calls Tryd.prog 22 #[.string s, .int .i64 p] W fun e w' => e = .returned (.tuple #[.agg #[.int .i64 kd, .string (bs tx), .int .i64 nm, .int .i64 p], .int .i64 ((p + n : Nat) : Int), .int .i64 0]) ∧ Below W.heap.size W w') := Lib.hid fun W =>
            (token_any s p W hs hlt).mono fun e w' h => by unfold RTok at h; rw [rt_ok hr] at h; exact h
          have hstep := Lib.hid (show lxAt (s.data.toList.drop (p + n)) (p + n) (acc ++ [⟨kd, tx, nm, p⟩]) = R by
            rw [← hinv.out.2, ← List.drop_drop]; exact (lxAt_more hsk hne hr).symm)
          clear hr hne hsk h4 hb
          go_wp2_with fail
          refine (htk.out _).mono ?_
          rintro e w1 ⟨rfl, hb1⟩
          have hown1 : Hid (OwnK w.heap.size w1 _ acc) := Lib.hid (ownK_below hinv.out.1 hb1)
          have hB1 : Below w.heap.size w w1 := hbw.trans (hb1.mono hws)
          have hw1s := hB1.size
          clear hb1
          go_wp2_with (at_builtin; refine op_tk rfl (.tmp 42) (.tmp 44) (w1.alloc (.cells #[.int .i64 kd, .string (bs tx), .int .i64 nm, .int .i64 p] 35)) w.heap.size (by simp; omega) _ acc ⟨kd, tx, nm, p⟩ rfl rfl (by show Value.slice (some ⟨w1.heap.size + 1, 0, none⟩) 1 1 = _; simp) (World.ownsRow.alloc hown1.out _) (by omega) ?_; intro v' w2 hown2 hb3)
          have hB2 : Below w.heap.size w w2 := (hB1.alloc hw1s _).trans hb3
          have hown2' := Lib.hid hown2
          clear hown2 hb3 hown1 hinv
          go_wp2_with fail
          go_roundw
          case rel => exact ⟨p + n, acc ++ [⟨kd, tx, nm, p⟩], by omega, by simp; omega, rfl, hB2, Lib.hid ⟨hown2'.out, hstep.out⟩⟩
          case measure => simp [intOf]; omega
        · have htk : Hid (∀ W : World, Calls Tryd.prog 22 #[.string s, .int .i64 p] W fun e w' => e = .returned (.tuple #[tkV tk0, .int .i64 0, .int .i64 er]) ∧ Below W.heap.size W w') := Lib.hid fun W =>
            (token_any s p W hs hlt).mono fun e w' h => by unfold RTok at h; rw [rt_bad hr he] at h; exact h
          have hfin := Lib.hid (show R = ([], (p : Int), er) by rw [← hinv.out.2]; exact lxAt_err hsk hne hr he)
          have heb : (er != 0) = true := by simpa using he
          have heb2 : (er == 0) = false := by simpa using he
          clear hr hne hsk h4 hb he
          go_wp2_with fail
          refine (htk.out _).mono ?_
          rintro e w1 ⟨rfl, hb1⟩
          have hB1 : Below w.heap.size w w1 := hbw.trans (hb1.mono hws)
          have hw1s := hB1.size
          clear hb1
          unfold tkV
          go_wp2_with fail
          go_ret3
          exact rtok_bad hfin.out (by (repeat' (first | with_reducible exact Below.refl _ _ | with_reducible assumption | with_reducible apply Below.setCell | with_reducible apply Below.alloc | with_reducible apply Below.drew | with_reducible apply below_drewN | with_reducible exact Nat.le_refl _ | (simp; done) | (simp; omega) | omega | exact Nat.le_refl _)))
    · have hfin := Lib.hid (show R = (acc, 0, 0) by rw [← hinv.out.2, drop_end s p (by omega)]; exact lxAt_nil)
      go_wp2_with fail
      go_ret3
      exact rtok_ok hfin.out hbw hinv.out.1
end Go.Proofs.YtgpjdifjajailaaDoor
