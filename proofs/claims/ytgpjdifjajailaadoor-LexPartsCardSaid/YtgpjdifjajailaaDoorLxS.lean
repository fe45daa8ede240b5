/- Contracts of the reference of layer 2: number, token. -/
import Derived.Test.YtgpjdifjajailaaDoorLxR
namespace Go.Proofs.YtgpjdifjajailaaDoor
open Go.RowKit
set_option linter.unusedVariables false
set_option linter.unusedSimpArgs false

theorem fold_lo (l : List UInt8) : ∀ n : Nat, n * 10 ^ l.length ≤ l.foldl (fun n c => n * 10 + (c.toNat - 48)) n := by
  induction l with
  | nil => intro n; simp
  | cons c l ih =>
    intro n
    refine Nat.le_trans ?_ (ih _)
    rw [List.length_cons, Nat.pow_succ, ← Nat.mul_assoc, Nat.mul_right_comm]
    exact Nat.mul_le_mul_right _ (show n * 10 ≤ n * 10 + (c.toNat - 48) by omega)
theorem fold_hi (l : List UInt8) (h : l.all isD = true) : ∀ n : Nat, l.foldl (fun n c => n * 10 + (c.toNat - 48)) n < (n + 1) * 10 ^ l.length := by
  induction l with
  | nil => intro n; simp
  | cons c l ih =>
    intro n
    rw [List.all_cons, Bool.and_eq_true] at h
    have hb := isD_bd h.1
    refine Nat.lt_of_lt_of_le (ih h.2 _) ?_
    rw [List.length_cons, Nat.pow_succ, show (n + 1) * (10 ^ l.length * 10) = ((n + 1) * 10) * 10 ^ l.length by rw [Nat.mul_comm (10 ^ l.length) 10, Nat.mul_assoc]]
    exact Nat.mul_le_mul_right _ (show n * 10 + (c.toNat - 48) + 1 ≤ (n + 1) * 10 by omega)
theorem valF_hi {l : List UInt8} (h : l.all isD = true) : valF l < 10 ^ l.length := by
  have := fold_hi l h 0; simpa [valF] using this
theorem numOk_len {l : List UInt8} (h : numOk l = true) : l.length ≤ 10 := by
  rw [numOk_eq, Bool.and_eq_true, Bool.and_eq_true] at h
  obtain ⟨⟨h1, h2⟩, h3⟩ := h
  match l, h1, h2, h3 with
  | [], _, _, _ => simp
  | [c], _, _, _ => simp
  | c :: d :: t, h1, h2, h3 =>
    have h3 := of_decide_eq_true h3
    have hc : c ≠ 48 := by
      intro e; subst e; simp [leadZ] at h2
    rw [List.all_cons, Bool.and_eq_true] at h1
    have hb := isD_bd h1.1
    have hc2 : c.toNat ≠ 48 := fun e => hc (by rw [show (48 : UInt8) = UInt8.ofNat 48 from rfl, ← e]; simp)
    have hlo := fold_lo (d :: t) (c.toNat - 48)
    have hv : valF (c :: d :: t) = (d :: t).foldl (fun n c => n * 10 + (c.toNat - 48)) (c.toNat - 48) := by simp [valF]
    rw [← hv] at hlo
    by_cases hlen : (c :: d :: t).length ≤ 10
    · exact hlen
    · have h10 : 10 ^ 10 ≤ 10 ^ (d :: t).length := Nat.pow_le_pow_right (by omega) (by simp at hlen ⊢; omega)
      have : 1 * 10 ^ (d :: t).length ≤ (c.toNat - 48) * 10 ^ (d :: t).length := Nat.mul_le_mul_right _ (by omega)
      omega
def RNumPost (l : List UInt8) (w : World) (e : Ending) (w' : World) : Prop := ∃ x : Int, e = .returned (.tuple #[.int .i64 x, .bool (numOk l)]) ∧ (numOk l = true → x = valF l) ∧ w = w'
theorem rnum_no {l : List UInt8} {w : World} (h : numOk l = false) (x : Int) : RNumPost l w (.returned (.tuple #[.int .i64 x, .bool false])) w := ⟨x, by rw [h], fun hh => (by rw [h] at hh; cases hh), rfl⟩
theorem rnum_fin {l : List UInt8} {w : World} {b : Bool} (h : numOk l = b) {x : Int} (hx : x = valF l) : RNumPost l w (.returned (.tuple #[.int .i64 x, .bool b])) w := ⟨x, by rw [h], fun _ => hx, rfl⟩
set_option maxRecDepth 100000 in
set_option maxHeartbeats 2000000 in
theorem rnumber_any (s : ByteArray) (w : World) (hs : s.size ≤ 1125899906842624) (hp : 0 < s.size) :
    Calls Tryd.prog 35 #[.string s] w (RNumPost s.data.toList w) := by
  have e0 := drop_cons s 0 hp
  rw [List.drop_zero] at e0
  have hok := Lib.hid (numOk_eq s.data.toList)
  by_cases h10 : 10 < s.size
  · have hn : Hid (numOk s.data.toList = false) := Lib.hid (by
      cases h : numOk s.data.toList
      · rfl
      · have := numOk_len h; rw [len_list] at this; omega)
    clear e0
    go_enter Tryd.func35, Tryd.ntmps35
    go_wp2_with fail
    go_ret2
    exact rnum_no hn.out 0
  have hz : leadZ s.data.toList = !(decide (1 < s.size) && ((s[0].toNat : Int) == 48)) := by
    rw [show ((s[0].toNat : Int) == 48) = (s[0] == UInt8.ofNat 48) from (u8_eq s[0] 48 (by decide)).symm]
    by_cases h1 : 1 < s.size
    · have e1 := drop_cons s 1 h1
      rw [e0, e1]
      simp [leadZ, h1]
    · rw [e0, drop_end s 1 (by omega)]
      simp [leadZ, h1]
  have hz' := Lib.hid hz
  clear e0 hz
  by_cases h1 : 1 < s.size
  case neg =>
    have hlz := Lib.hid (show leadZ s.data.toList = true by rw [hz'.out, decide_eq_false h1]; rfl)
    clear hz'
    go_enter Tryd.func35, Tryd.ntmps35
    go_wp2_with fail
    go_loop [4, 5] (fun n i => ∃ k : Nat, k ≤ s.size ∧ i = .int .i64 k ∧ n = .int .i64 (valF (s.data.toList.take k)) ∧ Hid ((s.data.toList.take k).all isD = true) ∧ valF (s.data.toList.take k) ≤ 10000000000) (fun _ i => s.size - (intOf i).toNat)
    case atStart => exact ⟨0, Nat.zero_le _, rfl, rfl, Lib.hid rfl, by simp [valF]⟩
    case round =>
      obtain ⟨k, hk, rfl, rfl, hall, hv⟩ := hrel
      by_cases hlt2 : k < s.size
      · have hsn := all_snoc s k hlt2
        have hv2 : Hid (valF (s.data.toList.take (k + 1)) = valF (s.data.toList.take k) * 10 + (s[k].toNat - 48)) := Lib.hid (by rw [hsn, valF_snoc])
        have ha2 : Hid ((s.data.toList.take (k + 1)).all isD = ((s.data.toList.take k).all isD && isD s[k])) := Lib.hid (by rw [hsn]; simp)
        have hgk : Hid (isD s[k] = false → s.data.toList.all isD = false) := Lib.hid fun h => all_not (k := k) (by simpa using hlt2) h
        clear hsn
        cases hd : isD s[k]
        · have hn := Lib.hid (show numOk s.data.toList = false by rw [hok.out, hgk.out hd]; rfl)
          go_wp2_with (go_at_call 34; refine (rdigit_any _ _).mono ?_; rintro e w' ⟨rfl, rfl⟩)
          go_ret2
          exact rnum_no hn.out 0
        · have hbd := isD_bd hd
          have hv3 : Hid (valF (s.data.toList.take (k + 1)) ≤ 10000000000) := Lib.hid (by
            have h1 := valF_hi (l := s.data.toList.take (k + 1)) (by rw [ha2.out, hall.out, hd]; rfl)
            have h2 : (s.data.toList.take (k + 1)).length ≤ 10 := by rw [List.length_take, len_list]; omega
            have h3 : 10 ^ (s.data.toList.take (k + 1)).length ≤ 10 ^ 10 := Nat.pow_le_pow_right (by omega) h2
            omega)
          go_wp2_with (go_at_call 34; refine (rdigit_any _ _).mono ?_; rintro e w' ⟨rfl, rfl⟩)
          go_round
          case rel => exact ⟨k + 1, by omega, by go_num, by rw [hv2.out]; congr 1; omega, Lib.hid (by rw [ha2.out, hall.out, hd]; rfl), hv3.out⟩
          case measure => simp [intOf]; omega
      · have ht : s.data.toList.take k = s.data.toList := List.take_of_length_le (by simp; omega)
        rw [ht] at hv ⊢
        have ht2 := hall.out
        rw [ht] at ht2
        obtain ⟨vv, hvv⟩ : ∃ x, valF s.data.toList = x := ⟨_, rfl⟩
        rw [hvv] at hv ⊢
        have hvv' := Lib.hid hvv
        clear hvv
        by_cases hm : vv ≤ 1073741823
        · have hn := Lib.hid (show numOk s.data.toList = true by rw [hok.out, ht2, hlz.out, hvv'.out, decide_eq_true hm]; rfl)
          have hm2 : decide ((vv : Int) ≤ 1073741823) = true := decide_eq_true (by omega)
          clear ht ht2
          go_wp2_with fail
          go_ret2
          exact rnum_fin (b := true) hn.out (by rw [hvv'.out])
        · have hn := Lib.hid (show numOk s.data.toList = false by rw [hok.out, ht2, hlz.out, hvv'.out, decide_eq_false hm]; rfl)
          have hm2 : decide ((vv : Int) ≤ 1073741823) = false := decide_eq_false (by omega)
          clear ht ht2
          go_wp2_with fail
          go_ret2
          exact rnum_fin (b := false) hn.out (by rw [hvv'.out])
  cases hA : ((s[0].toNat : Int) == 48)
  · have hlz := Lib.hid (show leadZ s.data.toList = true by rw [hz'.out, hA]; simp)
    clear hz'
    go_enter Tryd.func35, Tryd.ntmps35
    go_wp2_with fail
    clear hA
    go_loop [4, 5] (fun n i => ∃ k : Nat, k ≤ s.size ∧ i = .int .i64 k ∧ n = .int .i64 (valF (s.data.toList.take k)) ∧ Hid ((s.data.toList.take k).all isD = true) ∧ valF (s.data.toList.take k) ≤ 10000000000) (fun _ i => s.size - (intOf i).toNat)
    case atStart => exact ⟨0, Nat.zero_le _, rfl, rfl, Lib.hid rfl, by simp [valF]⟩
    case round =>
      obtain ⟨k, hk, rfl, rfl, hall, hv⟩ := hrel
      by_cases hlt2 : k < s.size
      · have hsn := all_snoc s k hlt2
        have hv2 : Hid (valF (s.data.toList.take (k + 1)) = valF (s.data.toList.take k) * 10 + (s[k].toNat - 48)) := Lib.hid (by rw [hsn, valF_snoc])
        have ha2 : Hid ((s.data.toList.take (k + 1)).all isD = ((s.data.toList.take k).all isD && isD s[k])) := Lib.hid (by rw [hsn]; simp)
        have hgk : Hid (isD s[k] = false → s.data.toList.all isD = false) := Lib.hid fun h => all_not (k := k) (by simpa using hlt2) h
        clear hsn
        cases hd : isD s[k]
        · have hn := Lib.hid (show numOk s.data.toList = false by rw [hok.out, hgk.out hd]; rfl)
          go_wp2_with (go_at_call 34; refine (rdigit_any _ _).mono ?_; rintro e w' ⟨rfl, rfl⟩)
          go_ret2
          exact rnum_no hn.out 0
        · have hbd := isD_bd hd
          have hv3 : Hid (valF (s.data.toList.take (k + 1)) ≤ 10000000000) := Lib.hid (by
            have h1 := valF_hi (l := s.data.toList.take (k + 1)) (by rw [ha2.out, hall.out, hd]; rfl)
            have h2 : (s.data.toList.take (k + 1)).length ≤ 10 := by rw [List.length_take, len_list]; omega
            have h3 : 10 ^ (s.data.toList.take (k + 1)).length ≤ 10 ^ 10 := Nat.pow_le_pow_right (by omega) h2
            omega)
          go_wp2_with (go_at_call 34; refine (rdigit_any _ _).mono ?_; rintro e w' ⟨rfl, rfl⟩)
          go_round
          case rel => exact ⟨k + 1, by omega, by go_num, by rw [hv2.out]; congr 1; omega, Lib.hid (by rw [ha2.out, hall.out, hd]; rfl), hv3.out⟩
          case measure => simp [intOf]; omega
      · have ht : s.data.toList.take k = s.data.toList := List.take_of_length_le (by simp; omega)
        rw [ht] at hv ⊢
        have ht2 := hall.out
        rw [ht] at ht2
        obtain ⟨vv, hvv⟩ : ∃ x, valF s.data.toList = x := ⟨_, rfl⟩
        rw [hvv] at hv ⊢
        have hvv' := Lib.hid hvv
        clear hvv
        by_cases hm : vv ≤ 1073741823
        · have hn := Lib.hid (show numOk s.data.toList = true by rw [hok.out, ht2, hlz.out, hvv'.out, decide_eq_true hm]; rfl)
          have hm2 : decide ((vv : Int) ≤ 1073741823) = true := decide_eq_true (by omega)
          clear ht ht2
          go_wp2_with fail
          go_ret2
          exact rnum_fin (b := true) hn.out (by rw [hvv'.out])
        · have hn := Lib.hid (show numOk s.data.toList = false by rw [hok.out, ht2, hlz.out, hvv'.out, decide_eq_false hm]; rfl)
          have hm2 : decide ((vv : Int) ≤ 1073741823) = false := decide_eq_false (by omega)
          clear ht ht2
          go_wp2_with fail
          go_ret2
          exact rnum_fin (b := false) hn.out (by rw [hvv'.out])
  · have hn : Hid (numOk s.data.toList = false) := Lib.hid (by rw [hok.out, hz'.out, hA, decide_eq_true h1]; simp)
    go_enter Tryd.func35, Tryd.ntmps35
    go_wp2_with fail
    go_ret2
    exact rnum_no hn.out 0
end Go.Proofs.YtgpjdifjajailaaDoor
