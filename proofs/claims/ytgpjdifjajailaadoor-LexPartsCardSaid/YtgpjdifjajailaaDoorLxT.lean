/- Contracts of the reference of layer 2: token. -/
import Derived.Test.YtgpjdifjajailaaDoorLxS
namespace Go.Proofs.YtgpjdifjajailaaDoor
open Go.RowKit
set_option linter.unusedVariables false
set_option linter.unusedSimpArgs false

def rtF (l : List UInt8) (p : Nat) : Tk × Int × Int := if (firstF l).2.2 = 0 then (⟨(firstF l).1.kind, (firstF l).1.text, (firstF l).1.num, p⟩, ((p + (firstF l).2.1 : Nat) : Int), 0) else (tk0, 0, (firstF l).2.2)
theorem rt_ok {l : List UInt8} {p : Nat} {t : Tk} {n : Nat} (h : firstF l = (t, n, 0)) : rtF l p = (⟨t.kind, t.text, t.num, p⟩, ((p + n : Nat) : Int), 0) := by unfold rtF; rw [h]; rfl
theorem rt_bad {l : List UInt8} {p : Nat} {t : Tk} {n : Nat} {e : Int} (h : firstF l = (t, n, e)) (he : e ≠ 0) : rtF l p = (tk0, 0, e) := by unfold rtF; rw [h]; exact if_neg he
def RTok (R : Tk × Int × Int) (w : World) (e : Ending) (w' : World) : Prop := e = .returned (.tuple #[tkV R.1, .int .i64 R.2.1, .int .i64 R.2.2]) ∧ Below w.heap.size w w'
theorem ext_take (s : ByteArray) (p n : Nat) : (s.extract p (p + n)).data.toList = (s.data.toList.drop p).take n := by
  rw [ext_list, show p + n - p = n by omega]
theorem ext_size (s : ByteArray) (p n : Nat) (h : p + n ≤ s.size) : (s.extract p (p + n)).size = n := by simp; omega

set_option maxRecDepth 100000 in
set_option maxHeartbeats 8000000 in
theorem token_any (s : ByteArray) (p : Nat) (w : World) (hs : s.size ≤ 1125899906842624) (hp : p < s.size) :
    Calls Tryd.prog 22 #[.string s, .int .i64 p] w (RTok (rtF (s.data.toList.drop p) p) w) := by
  have e0 := drop_cons s p hp
  obtain ⟨n, hn⟩ : ∃ n, runN (s.data.toList.drop p) = n := ⟨_, rfl⟩
  have hnl : p + n ≤ s.size := by have := runN_le (s.data.toList.drop p); rw [List.length_drop, len_list, hn] at this; omega
  obtain ⟨x, hx⟩ : ∃ x, s.extract p (p + n) = x := ⟨_, rfl⟩
  have hxl := Lib.hid (show (s.data.toList.drop p).take n = x.data.toList by rw [← hx, ext_take])
  have hxs := Lib.hid (show x.size = n by rw [← hx]; exact ext_size s p n hnl)
  have hn' := Lib.hid hn
  obtain ⟨R, hR⟩ : ∃ R, rtF (s.data.toList.drop p) p = R := ⟨_, rfl⟩
  rw [hR]
  cases hl : isL s[p]
  · cases hd : isD s[p]
    · -- a sign
      by_cases h1 : p + 1 < s.size
      · have e1 := drop_cons s (p + 1) h1
        obtain ⟨y, hy⟩ : ∃ y, s.extract p (p + 2) = y := ⟨_, rfl⟩
        have hyl : y.data.toList = [s[p], s[p + 1]] := by rw [← hy, ext_take, e0, e1]; rfl
        obtain ⟨z, hz⟩ : ∃ z, s.extract p (p + 1) = z := ⟨_, rfl⟩
        have hzl : z.data.toList = [s[p]] := by rw [← hz, ext_take, e0]; rfl
        have hy2 : y.toList = [s[p], s[p + 1]] := by rw [ByteArray.toList_eq, hyl]
        have hsg : signF (s.data.toList.drop p) = if (y.toList == [45, 62] || y.toList == [61, 61]) then 2 else if sgB s[p] then 1 else 0 := by
          rw [e0, e1, hy2]
          simp only [signF]
          by_cases hc : (s[p] = 45 ∧ s[p + 1] = 62) ∨ (s[p] = 61 ∧ s[p + 1] = 61)
          · rw [if_pos hc, if_pos]; simp [hc]
          · rw [not_or] at hc
            have hf : ([s[p], s[p + 1]] == [45, 62] || [s[p], s[p + 1]] == [61, 61]) = false := by
              simp
              exact ⟨fun a b => hc.1 ⟨a, b⟩, fun a b => hc.2 ⟨a, b⟩⟩
            rw [if_neg (by rw [not_or]; exact hc), hf]; rfl
        have h2 : (p : Int) + 2 ≤ (s.size : Int) := by omega
        cases hA : (y.toList == [45, 62]) <;> cases hB : (y.toList == [61, 61])
        case false.false =>
          cases hG : sgB s[p]
          · have hf : Hid (R = (tk0, 0, 201)) := Lib.hid (by rw [← hR]; refine rt_bad (n := 0) (t := ⟨0, [], 0, 0⟩) ?_ (by decide); rw [hA, hB, hG] at hsg; rw [e0] at hsg ⊢; exact first_N hl hd hsg)
            clear e0 hn hR
            (try clear hsg); (try clear e1); (try clear hyl hy2); (try clear hzl); (try clear hfF); (try clear hk); (try clear hok)
            go_enter Tryd.func22, Tryd.ntmps22
            go_wp2_with fail
            go_loop [7] (fun i => ∃ k : Nat, p ≤ k ∧ k ≤ p + n ∧ i = .int .i64 k ∧ Hid (p + n = k + runN (s.data.toList.drop k))) (fun i => s.size - (intOf i).toNat)
            case atStart => exact ⟨p, Nat.le_refl _, by omega, rfl, Lib.hid (by rw [hn'.out])⟩
            case round =>
              obtain ⟨k, hkp, hkn, rfl, hI⟩ := hrel
              by_cases hlt : k < s.size
              · have hdk := Lib.hid (drop_cons s k hlt)
                cases hlk : isN s[k]
                · obtain rfl : k = p + n := by have := hI.out; rw [hdk.out, runN_no hlk] at this; omega
                  clear hI hdk
                  go_wp2_with ((go_at_call 32; refine (rlater_any _ _).mono ?_; rintro e w' ⟨rfl, rfl⟩))
                  clear hlk
                  go_wp2_with (first | ((go_at_call 33; refine (rfirst_any _ _).mono ?_; rintro e w' ⟨rfl, rfl⟩)) | ((go_at_call 34; refine (rdigit_any _ _).mono ?_; rintro e w' ⟨rfl, rfl⟩)))
                  refine (rsign_any _ _).mono ?_
                  rintro e w' ⟨rfl, rfl⟩
                  rw [hG]
                  go_wp2_with fail
                  exact bodyPost_ret (v := .tuple #[tkV tk0, .int .i64 0, .int .i64 201]) (by simp [results, Tryd.results22, go_sem, tkV, tk0, bs]) rfl ⟨by rw [hf.out], by (repeat' (first | with_reducible exact Below.refl _ _ | with_reducible assumption | with_reducible apply Below.setCell | with_reducible apply Below.alloc | with_reducible apply Below.drew | with_reducible apply below_drewN | with_reducible exact Nat.le_refl _ | (simp; done) | (simp; omega) | omega | exact Nat.le_refl _))⟩
                · have hI2 := Lib.hid (show p + n = (k + 1) + runN (s.data.toList.drop (k + 1)) by have := hI.out; rw [hdk.out, runN_yes hlk] at this; omega)
                  have hk1 : k + 1 ≤ p + n := by have := hI2.out; omega
                  go_wp2_with ((go_at_call 32; refine (rlater_any _ _).mono ?_; rintro e w' ⟨rfl, rfl⟩))
                  go_round
                  case rel => exact ⟨k + 1, by omega, hk1, by go_num, hI2⟩
                  case measure => simp [intOf]; omega
              · obtain rfl : k = p + n := by have := hI.out; rw [drop_end s k (by omega), runN_nil] at this; omega
                clear hI
                go_wp2_with fail
                go_wp2_with (first | ((go_at_call 33; refine (rfirst_any _ _).mono ?_; rintro e w' ⟨rfl, rfl⟩)) | ((go_at_call 34; refine (rdigit_any _ _).mono ?_; rintro e w' ⟨rfl, rfl⟩)))
                refine (rsign_any _ _).mono ?_
                rintro e w' ⟨rfl, rfl⟩
                rw [hG]
                go_wp2_with fail
                exact bodyPost_ret (v := .tuple #[tkV tk0, .int .i64 0, .int .i64 201]) (by simp [results, Tryd.results22, go_sem, tkV, tk0, bs]) rfl ⟨by rw [hf.out], by (repeat' (first | with_reducible exact Below.refl _ _ | with_reducible assumption | with_reducible apply Below.setCell | with_reducible apply Below.alloc | with_reducible apply Below.drew | with_reducible apply below_drewN | with_reducible exact Nat.le_refl _ | (simp; done) | (simp; omega) | omega | exact Nat.le_refl _))⟩
          · have hf : Hid (R = (⟨3, z.data.toList, 0, p⟩, ((p + 1 : Nat) : Int), 0)) := Lib.hid (by rw [← hR]; refine (rt_ok (t := ⟨3, z.data.toList, 0, 0⟩) (n := 1) ?_); rw [hA, hB, hG] at hsg; rw [e0] at hsg ⊢; rw [first_S hl hd (by rw [hsg]; decide), hsg, hzl]; rfl)
            clear e0 hn hR
            (try clear hsg); (try clear e1); (try clear hyl hy2); (try clear hzl); (try clear hfF); (try clear hk); (try clear hok)
            go_enter Tryd.func22, Tryd.ntmps22
            go_wp2_with fail
            go_loop [7] (fun i => ∃ k : Nat, p ≤ k ∧ k ≤ p + n ∧ i = .int .i64 k ∧ Hid (p + n = k + runN (s.data.toList.drop k))) (fun i => s.size - (intOf i).toNat)
            case atStart => exact ⟨p, Nat.le_refl _, by omega, rfl, Lib.hid (by rw [hn'.out])⟩
            case round =>
              obtain ⟨k, hkp, hkn, rfl, hI⟩ := hrel
              by_cases hlt : k < s.size
              · have hdk := Lib.hid (drop_cons s k hlt)
                cases hlk : isN s[k]
                · obtain rfl : k = p + n := by have := hI.out; rw [hdk.out, runN_no hlk] at this; omega
                  clear hI hdk
                  go_wp2_with ((go_at_call 32; refine (rlater_any _ _).mono ?_; rintro e w' ⟨rfl, rfl⟩))
                  clear hlk
                  go_wp2_with (first | ((go_at_call 33; refine (rfirst_any _ _).mono ?_; rintro e w' ⟨rfl, rfl⟩)) | ((go_at_call 34; refine (rdigit_any _ _).mono ?_; rintro e w' ⟨rfl, rfl⟩)))
                  refine (rsign_any _ _).mono ?_
                  rintro e w' ⟨rfl, rfl⟩
                  rw [hG]
                  go_wp2_with fail
                  exact bodyPost_ret (v := .tuple #[tkV ⟨3, z.data.toList, 0, p⟩, .int .i64 ((p + 1 : Nat) : Int), .int .i64 0]) (by simp [results, Tryd.results22, go_sem, tkV, bs_of]) rfl ⟨by rw [hf.out], by (repeat' (first | with_reducible exact Below.refl _ _ | with_reducible assumption | with_reducible apply Below.setCell | with_reducible apply Below.alloc | with_reducible apply Below.drew | with_reducible apply below_drewN | with_reducible exact Nat.le_refl _ | (simp; done) | (simp; omega) | omega | exact Nat.le_refl _))⟩
                · have hI2 := Lib.hid (show p + n = (k + 1) + runN (s.data.toList.drop (k + 1)) by have := hI.out; rw [hdk.out, runN_yes hlk] at this; omega)
                  have hk1 : k + 1 ≤ p + n := by have := hI2.out; omega
                  go_wp2_with ((go_at_call 32; refine (rlater_any _ _).mono ?_; rintro e w' ⟨rfl, rfl⟩))
                  go_round
                  case rel => exact ⟨k + 1, by omega, hk1, by go_num, hI2⟩
                  case measure => simp [intOf]; omega
              · obtain rfl : k = p + n := by have := hI.out; rw [drop_end s k (by omega), runN_nil] at this; omega
                clear hI
                go_wp2_with fail
                go_wp2_with (first | ((go_at_call 33; refine (rfirst_any _ _).mono ?_; rintro e w' ⟨rfl, rfl⟩)) | ((go_at_call 34; refine (rdigit_any _ _).mono ?_; rintro e w' ⟨rfl, rfl⟩)))
                refine (rsign_any _ _).mono ?_
                rintro e w' ⟨rfl, rfl⟩
                rw [hG]
                go_wp2_with fail
                exact bodyPost_ret (v := .tuple #[tkV ⟨3, z.data.toList, 0, p⟩, .int .i64 ((p + 1 : Nat) : Int), .int .i64 0]) (by simp [results, Tryd.results22, go_sem, tkV, bs_of]) rfl ⟨by rw [hf.out], by (repeat' (first | with_reducible exact Below.refl _ _ | with_reducible assumption | with_reducible apply Below.setCell | with_reducible apply Below.alloc | with_reducible apply Below.drew | with_reducible apply below_drewN | with_reducible exact Nat.le_refl _ | (simp; done) | (simp; omega) | omega | exact Nat.le_refl _))⟩
        all_goals
          have hf : Hid (R = (⟨3, y.data.toList, 0, p⟩, ((p + 2 : Nat) : Int), 0)) := Lib.hid (by rw [← hR]; refine (rt_ok (t := ⟨3, y.data.toList, 0, 0⟩) (n := 2) ?_); rw [hA, hB] at hsg; rw [e0] at hsg ⊢; rw [first_S hl hd (by rw [hsg]; simp), hsg, hyl, e1]; rfl)
          clear e0 hn hR
          (try clear hsg); (try clear e1); (try clear hyl hy2); (try clear hzl); (try clear hfF); (try clear hk); (try clear hok)
          go_enter Tryd.func22, Tryd.ntmps22
          go_wp2_with fail
          go_loop [7] (fun i => ∃ k : Nat, p ≤ k ∧ k ≤ p + n ∧ i = .int .i64 k ∧ Hid (p + n = k + runN (s.data.toList.drop k))) (fun i => s.size - (intOf i).toNat)
          case atStart => exact ⟨p, Nat.le_refl _, by omega, rfl, Lib.hid (by rw [hn'.out])⟩
          case round =>
            obtain ⟨k, hkp, hkn, rfl, hI⟩ := hrel
            by_cases hlt : k < s.size
            · have hdk := Lib.hid (drop_cons s k hlt)
              cases hlk : isN s[k]
              · obtain rfl : k = p + n := by have := hI.out; rw [hdk.out, runN_no hlk] at this; omega
                clear hI hdk
                go_wp2_with ((go_at_call 32; refine (rlater_any _ _).mono ?_; rintro e w' ⟨rfl, rfl⟩))
                clear hlk
                go_wp2_with (first | ((go_at_call 33; refine (rfirst_any _ _).mono ?_; rintro e w' ⟨rfl, rfl⟩)) | ((go_at_call 34; refine (rdigit_any _ _).mono ?_; rintro e w' ⟨rfl, rfl⟩)))
                exact bodyPost_ret (v := .tuple #[tkV ⟨3, y.data.toList, 0, p⟩, .int .i64 ((p + 2 : Nat) : Int), .int .i64 0]) (by simp [results, Tryd.results22, go_sem, tkV, bs_of]) rfl ⟨by rw [hf.out], by (repeat' (first | with_reducible exact Below.refl _ _ | with_reducible assumption | with_reducible apply Below.setCell | with_reducible apply Below.alloc | with_reducible apply Below.drew | with_reducible apply below_drewN | with_reducible exact Nat.le_refl _ | (simp; done) | (simp; omega) | omega | exact Nat.le_refl _))⟩
              · have hI2 := Lib.hid (show p + n = (k + 1) + runN (s.data.toList.drop (k + 1)) by have := hI.out; rw [hdk.out, runN_yes hlk] at this; omega)
                have hk1 : k + 1 ≤ p + n := by have := hI2.out; omega
                go_wp2_with ((go_at_call 32; refine (rlater_any _ _).mono ?_; rintro e w' ⟨rfl, rfl⟩))
                go_round
                case rel => exact ⟨k + 1, by omega, hk1, by go_num, hI2⟩
                case measure => simp [intOf]; omega
            · obtain rfl : k = p + n := by have := hI.out; rw [drop_end s k (by omega), runN_nil] at this; omega
              clear hI
              go_wp2_with fail
              go_wp2_with (first | ((go_at_call 33; refine (rfirst_any _ _).mono ?_; rintro e w' ⟨rfl, rfl⟩)) | ((go_at_call 34; refine (rdigit_any _ _).mono ?_; rintro e w' ⟨rfl, rfl⟩)))
              exact bodyPost_ret (v := .tuple #[tkV ⟨3, y.data.toList, 0, p⟩, .int .i64 ((p + 2 : Nat) : Int), .int .i64 0]) (by simp [results, Tryd.results22, go_sem, tkV, bs_of]) rfl ⟨by rw [hf.out], by (repeat' (first | with_reducible exact Below.refl _ _ | with_reducible assumption | with_reducible apply Below.setCell | with_reducible apply Below.alloc | with_reducible apply Below.drew | with_reducible apply below_drewN | with_reducible exact Nat.le_refl _ | (simp; done) | (simp; omega) | omega | exact Nat.le_refl _))⟩
      · have e1 := drop_end s (p + 1) (by omega)
        obtain ⟨z, hz⟩ : ∃ z, s.extract p (p + 1) = z := ⟨_, rfl⟩
        have hzl : z.data.toList = [s[p]] := by rw [← hz, ext_take, e0]; rfl
        have hsg : signF (s.data.toList.drop p) = if sgB s[p] then 1 else 0 := by rw [e0, e1]; rfl
        cases hG : sgB s[p]
        · have hf : Hid (R = (tk0, 0, 201)) := Lib.hid (by rw [← hR]; refine rt_bad (n := 0) (t := ⟨0, [], 0, 0⟩) ?_ (by decide); rw [hG] at hsg; rw [e0] at hsg ⊢; exact first_N hl hd hsg)
          clear e0 hn hR
          (try clear hsg); (try clear e1); (try clear hyl hy2); (try clear hzl); (try clear hfF); (try clear hk); (try clear hok)
          go_enter Tryd.func22, Tryd.ntmps22
          go_wp2_with fail
          go_loop [7] (fun i => ∃ k : Nat, p ≤ k ∧ k ≤ p + n ∧ i = .int .i64 k ∧ Hid (p + n = k + runN (s.data.toList.drop k))) (fun i => s.size - (intOf i).toNat)
          case atStart => exact ⟨p, Nat.le_refl _, by omega, rfl, Lib.hid (by rw [hn'.out])⟩
          case round =>
            obtain ⟨k, hkp, hkn, rfl, hI⟩ := hrel
            by_cases hlt : k < s.size
            · have hdk := Lib.hid (drop_cons s k hlt)
              cases hlk : isN s[k]
              · obtain rfl : k = p + n := by have := hI.out; rw [hdk.out, runN_no hlk] at this; omega
                clear hI hdk
                go_wp2_with ((go_at_call 32; refine (rlater_any _ _).mono ?_; rintro e w' ⟨rfl, rfl⟩))
                clear hlk
                go_wp2_with (first | ((go_at_call 33; refine (rfirst_any _ _).mono ?_; rintro e w' ⟨rfl, rfl⟩)) | ((go_at_call 34; refine (rdigit_any _ _).mono ?_; rintro e w' ⟨rfl, rfl⟩)))
                refine (rsign_any _ _).mono ?_
                rintro e w' ⟨rfl, rfl⟩
                rw [hG]
                go_wp2_with fail
                exact bodyPost_ret (v := .tuple #[tkV tk0, .int .i64 0, .int .i64 201]) (by simp [results, Tryd.results22, go_sem, tkV, tk0, bs]) rfl ⟨by rw [hf.out], by (repeat' (first | with_reducible exact Below.refl _ _ | with_reducible assumption | with_reducible apply Below.setCell | with_reducible apply Below.alloc | with_reducible apply Below.drew | with_reducible apply below_drewN | with_reducible exact Nat.le_refl _ | (simp; done) | (simp; omega) | omega | exact Nat.le_refl _))⟩
              · have hI2 := Lib.hid (show p + n = (k + 1) + runN (s.data.toList.drop (k + 1)) by have := hI.out; rw [hdk.out, runN_yes hlk] at this; omega)
                have hk1 : k + 1 ≤ p + n := by have := hI2.out; omega
                go_wp2_with ((go_at_call 32; refine (rlater_any _ _).mono ?_; rintro e w' ⟨rfl, rfl⟩))
                go_round
                case rel => exact ⟨k + 1, by omega, hk1, by go_num, hI2⟩
                case measure => simp [intOf]; omega
            · obtain rfl : k = p + n := by have := hI.out; rw [drop_end s k (by omega), runN_nil] at this; omega
              clear hI
              go_wp2_with fail
              go_wp2_with (first | ((go_at_call 33; refine (rfirst_any _ _).mono ?_; rintro e w' ⟨rfl, rfl⟩)) | ((go_at_call 34; refine (rdigit_any _ _).mono ?_; rintro e w' ⟨rfl, rfl⟩)))
              refine (rsign_any _ _).mono ?_
              rintro e w' ⟨rfl, rfl⟩
              rw [hG]
              go_wp2_with fail
              exact bodyPost_ret (v := .tuple #[tkV tk0, .int .i64 0, .int .i64 201]) (by simp [results, Tryd.results22, go_sem, tkV, tk0, bs]) rfl ⟨by rw [hf.out], by (repeat' (first | with_reducible exact Below.refl _ _ | with_reducible assumption | with_reducible apply Below.setCell | with_reducible apply Below.alloc | with_reducible apply Below.drew | with_reducible apply below_drewN | with_reducible exact Nat.le_refl _ | (simp; done) | (simp; omega) | omega | exact Nat.le_refl _))⟩
        · have hf : Hid (R = (⟨3, z.data.toList, 0, p⟩, ((p + 1 : Nat) : Int), 0)) := Lib.hid (by rw [← hR]; refine (rt_ok (t := ⟨3, z.data.toList, 0, 0⟩) (n := 1) ?_); rw [hG] at hsg; rw [e0] at hsg ⊢; rw [first_S hl hd (by rw [hsg]; decide), hsg, hzl]; rfl)
          clear e0 hn hR
          (try clear hsg); (try clear e1); (try clear hyl hy2); (try clear hzl); (try clear hfF); (try clear hk); (try clear hok)
          go_enter Tryd.func22, Tryd.ntmps22
          go_wp2_with fail
          go_loop [7] (fun i => ∃ k : Nat, p ≤ k ∧ k ≤ p + n ∧ i = .int .i64 k ∧ Hid (p + n = k + runN (s.data.toList.drop k))) (fun i => s.size - (intOf i).toNat)
          case atStart => exact ⟨p, Nat.le_refl _, by omega, rfl, Lib.hid (by rw [hn'.out])⟩
          case round =>
            obtain ⟨k, hkp, hkn, rfl, hI⟩ := hrel
            by_cases hlt : k < s.size
            · have hdk := Lib.hid (drop_cons s k hlt)
              cases hlk : isN s[k]
              · obtain rfl : k = p + n := by have := hI.out; rw [hdk.out, runN_no hlk] at this; omega
                clear hI hdk
                go_wp2_with ((go_at_call 32; refine (rlater_any _ _).mono ?_; rintro e w' ⟨rfl, rfl⟩))
                clear hlk
                go_wp2_with (first | ((go_at_call 33; refine (rfirst_any _ _).mono ?_; rintro e w' ⟨rfl, rfl⟩)) | ((go_at_call 34; refine (rdigit_any _ _).mono ?_; rintro e w' ⟨rfl, rfl⟩)))
                refine (rsign_any _ _).mono ?_
                rintro e w' ⟨rfl, rfl⟩
                rw [hG]
                go_wp2_with fail
                exact bodyPost_ret (v := .tuple #[tkV ⟨3, z.data.toList, 0, p⟩, .int .i64 ((p + 1 : Nat) : Int), .int .i64 0]) (by simp [results, Tryd.results22, go_sem, tkV, bs_of]) rfl ⟨by rw [hf.out], by (repeat' (first | with_reducible exact Below.refl _ _ | with_reducible assumption | with_reducible apply Below.setCell | with_reducible apply Below.alloc | with_reducible apply Below.drew | with_reducible apply below_drewN | with_reducible exact Nat.le_refl _ | (simp; done) | (simp; omega) | omega | exact Nat.le_refl _))⟩
              · have hI2 := Lib.hid (show p + n = (k + 1) + runN (s.data.toList.drop (k + 1)) by have := hI.out; rw [hdk.out, runN_yes hlk] at this; omega)
                have hk1 : k + 1 ≤ p + n := by have := hI2.out; omega
                go_wp2_with ((go_at_call 32; refine (rlater_any _ _).mono ?_; rintro e w' ⟨rfl, rfl⟩))
                go_round
                case rel => exact ⟨k + 1, by omega, hk1, by go_num, hI2⟩
                case measure => simp [intOf]; omega
            · obtain rfl : k = p + n := by have := hI.out; rw [drop_end s k (by omega), runN_nil] at this; omega
              clear hI
              go_wp2_with fail
              go_wp2_with (first | ((go_at_call 33; refine (rfirst_any _ _).mono ?_; rintro e w' ⟨rfl, rfl⟩)) | ((go_at_call 34; refine (rdigit_any _ _).mono ?_; rintro e w' ⟨rfl, rfl⟩)))
              refine (rsign_any _ _).mono ?_
              rintro e w' ⟨rfl, rfl⟩
              rw [hG]
              go_wp2_with fail
              exact bodyPost_ret (v := .tuple #[tkV ⟨3, z.data.toList, 0, p⟩, .int .i64 ((p + 1 : Nat) : Int), .int .i64 0]) (by simp [results, Tryd.results22, go_sem, tkV, bs_of]) rfl ⟨by rw [hf.out], by (repeat' (first | with_reducible exact Below.refl _ _ | with_reducible assumption | with_reducible apply Below.setCell | with_reducible apply Below.alloc | with_reducible apply Below.drew | with_reducible apply below_drewN | with_reducible exact Nat.le_refl _ | (simp; done) | (simp; omega) | omega | exact Nat.le_refl _))⟩
    · -- a number
      have hn0 : 0 < n := by rw [← hn, e0]; exact run_pos (isD_isN hd)
      have hfF : firstF (s.data.toList.drop p) = (⟨1, [], numV x.data.toList, 0⟩, n, numE x.data.toList) := by
        have hx2 := hxl.out
        have hq := hxs.out
        rw [← len_list] at hq
        rw [e0] at hx2 hn ⊢
        rw [first_D hl hd, hn, hx2, hq]
      cases hok : numOk x.data.toList
      · have hf : Hid (R = (tk0, 0, 202)) := Lib.hid (by rw [← hR]; exact rt_bad (by rw [hfF, (num_no hok).1, (num_no hok).2]) (by decide))
        have hok' := Lib.hid hok
        clear e0 hn hR
        (try clear hsg); (try clear e1); (try clear hyl hy2); (try clear hzl); (try clear hfF); (try clear hk); (try clear hok)
        go_enter Tryd.func22, Tryd.ntmps22
        go_wp2_with fail
        go_loop [7] (fun i => ∃ k : Nat, p ≤ k ∧ k ≤ p + n ∧ i = .int .i64 k ∧ Hid (p + n = k + runN (s.data.toList.drop k))) (fun i => s.size - (intOf i).toNat)
        case atStart => exact ⟨p, Nat.le_refl _, by omega, rfl, Lib.hid (by rw [hn'.out])⟩
        case round =>
          obtain ⟨k, hkp, hkn, rfl, hI⟩ := hrel
          by_cases hlt : k < s.size
          · have hdk := Lib.hid (drop_cons s k hlt)
            cases hlk : isN s[k]
            · obtain rfl : k = p + n := by have := hI.out; rw [hdk.out, runN_no hlk] at this; omega
              clear hI hdk
              go_wp2_with ((go_at_call 32; refine (rlater_any _ _).mono ?_; rintro e w' ⟨rfl, rfl⟩))
              clear hlk
              go_wp2_with (first | ((go_at_call 33; refine (rfirst_any _ _).mono ?_; rintro e w' ⟨rfl, rfl⟩)) | ((go_at_call 34; refine (rdigit_any _ _).mono ?_; rintro e w' ⟨rfl, rfl⟩)))
              refine (rnumber_any _ _ (by rw [hxs.out]; omega) (by rw [hxs.out]; omega)).mono ?_
              rintro e w' ⟨xv, rfl, _, rfl⟩
              rw [hok'.out]
              go_wp2_with fail
              exact bodyPost_ret (v := .tuple #[tkV tk0, .int .i64 0, .int .i64 202]) (by simp [results, Tryd.results22, go_sem, tkV, tk0, bs]) rfl ⟨by rw [hf.out], by (repeat' (first | with_reducible exact Below.refl _ _ | with_reducible assumption | with_reducible apply Below.setCell | with_reducible apply Below.alloc | with_reducible apply Below.drew | with_reducible apply below_drewN | with_reducible exact Nat.le_refl _ | (simp; done) | (simp; omega) | omega | exact Nat.le_refl _))⟩
            · have hI2 := Lib.hid (show p + n = (k + 1) + runN (s.data.toList.drop (k + 1)) by have := hI.out; rw [hdk.out, runN_yes hlk] at this; omega)
              have hk1 : k + 1 ≤ p + n := by have := hI2.out; omega
              go_wp2_with ((go_at_call 32; refine (rlater_any _ _).mono ?_; rintro e w' ⟨rfl, rfl⟩))
              go_round
              case rel => exact ⟨k + 1, by omega, hk1, by go_num, hI2⟩
              case measure => simp [intOf]; omega
          · obtain rfl : k = p + n := by have := hI.out; rw [drop_end s k (by omega), runN_nil] at this; omega
            clear hI
            go_wp2_with fail
            go_wp2_with (first | ((go_at_call 33; refine (rfirst_any _ _).mono ?_; rintro e w' ⟨rfl, rfl⟩)) | ((go_at_call 34; refine (rdigit_any _ _).mono ?_; rintro e w' ⟨rfl, rfl⟩)))
            refine (rnumber_any _ _ (by rw [hxs.out]; omega) (by rw [hxs.out]; omega)).mono ?_
            rintro e w' ⟨xv, rfl, _, rfl⟩
            rw [hok'.out]
            go_wp2_with fail
            exact bodyPost_ret (v := .tuple #[tkV tk0, .int .i64 0, .int .i64 202]) (by simp [results, Tryd.results22, go_sem, tkV, tk0, bs]) rfl ⟨by rw [hf.out], by (repeat' (first | with_reducible exact Below.refl _ _ | with_reducible assumption | with_reducible apply Below.setCell | with_reducible apply Below.alloc | with_reducible apply Below.drew | with_reducible apply below_drewN | with_reducible exact Nat.le_refl _ | (simp; done) | (simp; omega) | omega | exact Nat.le_refl _))⟩
      · have hf : Hid (R = (⟨1, [], (valF x.data.toList : Int), p⟩, ((p + n : Nat) : Int), 0)) := Lib.hid (by rw [← hR]; exact rt_ok (t := ⟨1, [], (valF x.data.toList : Int), 0⟩) (by rw [hfF, (num_yes hok).1, (num_yes hok).2]))
        have hok' := Lib.hid hok
        clear e0 hn hR
        (try clear hsg); (try clear e1); (try clear hyl hy2); (try clear hzl); (try clear hfF); (try clear hk); (try clear hok)
        go_enter Tryd.func22, Tryd.ntmps22
        go_wp2_with fail
        go_loop [7] (fun i => ∃ k : Nat, p ≤ k ∧ k ≤ p + n ∧ i = .int .i64 k ∧ Hid (p + n = k + runN (s.data.toList.drop k))) (fun i => s.size - (intOf i).toNat)
        case atStart => exact ⟨p, Nat.le_refl _, by omega, rfl, Lib.hid (by rw [hn'.out])⟩
        case round =>
          obtain ⟨k, hkp, hkn, rfl, hI⟩ := hrel
          by_cases hlt : k < s.size
          · have hdk := Lib.hid (drop_cons s k hlt)
            cases hlk : isN s[k]
            · obtain rfl : k = p + n := by have := hI.out; rw [hdk.out, runN_no hlk] at this; omega
              clear hI hdk
              go_wp2_with ((go_at_call 32; refine (rlater_any _ _).mono ?_; rintro e w' ⟨rfl, rfl⟩))
              clear hlk
              go_wp2_with (first | ((go_at_call 33; refine (rfirst_any _ _).mono ?_; rintro e w' ⟨rfl, rfl⟩)) | ((go_at_call 34; refine (rdigit_any _ _).mono ?_; rintro e w' ⟨rfl, rfl⟩)))
              refine (rnumber_any _ _ (by rw [hxs.out]; omega) (by rw [hxs.out]; omega)).mono ?_
              rintro e w' ⟨xv, rfl, hxv, rfl⟩
              have hxv' := Lib.hid (hxv hok'.out)
              clear hxv
              rw [hok'.out]
              go_wp2_with fail
              exact bodyPost_ret (v := .tuple #[tkV ⟨1, [], xv, p⟩, .int .i64 ((p + n : Nat) : Int), .int .i64 0]) (by simp [results, Tryd.results22, go_sem, tkV, bs]) rfl ⟨by rw [hf.out, ← hxv'.out], by (repeat' (first | with_reducible exact Below.refl _ _ | with_reducible assumption | with_reducible apply Below.setCell | with_reducible apply Below.alloc | with_reducible apply Below.drew | with_reducible apply below_drewN | with_reducible exact Nat.le_refl _ | (simp; done) | (simp; omega) | omega | exact Nat.le_refl _))⟩
            · have hI2 := Lib.hid (show p + n = (k + 1) + runN (s.data.toList.drop (k + 1)) by have := hI.out; rw [hdk.out, runN_yes hlk] at this; omega)
              have hk1 : k + 1 ≤ p + n := by have := hI2.out; omega
              go_wp2_with ((go_at_call 32; refine (rlater_any _ _).mono ?_; rintro e w' ⟨rfl, rfl⟩))
              go_round
              case rel => exact ⟨k + 1, by omega, hk1, by go_num, hI2⟩
              case measure => simp [intOf]; omega
          · obtain rfl : k = p + n := by have := hI.out; rw [drop_end s k (by omega), runN_nil] at this; omega
            clear hI
            go_wp2_with fail
            go_wp2_with (first | ((go_at_call 33; refine (rfirst_any _ _).mono ?_; rintro e w' ⟨rfl, rfl⟩)) | ((go_at_call 34; refine (rdigit_any _ _).mono ?_; rintro e w' ⟨rfl, rfl⟩)))
            refine (rnumber_any _ _ (by rw [hxs.out]; omega) (by rw [hxs.out]; omega)).mono ?_
            rintro e w' ⟨xv, rfl, hxv, rfl⟩
            have hxv' := Lib.hid (hxv hok'.out)
            clear hxv
            rw [hok'.out]
            go_wp2_with fail
            exact bodyPost_ret (v := .tuple #[tkV ⟨1, [], xv, p⟩, .int .i64 ((p + n : Nat) : Int), .int .i64 0]) (by simp [results, Tryd.results22, go_sem, tkV, bs]) rfl ⟨by rw [hf.out, ← hxv'.out], by (repeat' (first | with_reducible exact Below.refl _ _ | with_reducible assumption | with_reducible apply Below.setCell | with_reducible apply Below.alloc | with_reducible apply Below.drew | with_reducible apply below_drewN | with_reducible exact Nat.le_refl _ | (simp; done) | (simp; omega) | omega | exact Nat.le_refl _))⟩
  · -- a word
    have hfF : firstF (s.data.toList.drop p) = ((wordF x.data.toList).1, n, (wordF x.data.toList).2) := by
      have hx2 := hxl.out
      have hq := hxs.out
      rw [← len_list] at hq
      rw [e0] at hx2 hn ⊢
      rw [first_L hl, hn, hx2, hq]
    have hkw := Lib.hid fun (W : World) => rkeyword_any x W (by rw [hxs.out]; omega)
    cases hk : kwB x.data.toList
    · by_cases h16 : 16 < n
      · have hf : Hid (R = (tk0, 0, 201)) := Lib.hid (by rw [← hR]; exact rt_bad (by rw [hfF, wordF_long hk (by rw [len_list, hxs.out]; exact h16)]) (by decide))
        have hk' := Lib.hid hk
        have hx16 : (16 : Int) < (x.size : Int) := by have := hxs.out; omega
        clear e0 hn hR
        (try clear hsg); (try clear e1); (try clear hyl hy2); (try clear hzl); (try clear hfF); (try clear hk); (try clear hok)
        go_enter Tryd.func22, Tryd.ntmps22
        go_wp2_with fail
        go_loop [7] (fun i => ∃ k : Nat, p ≤ k ∧ k ≤ p + n ∧ i = .int .i64 k ∧ Hid (p + n = k + runN (s.data.toList.drop k))) (fun i => s.size - (intOf i).toNat)
        case atStart => exact ⟨p, Nat.le_refl _, by omega, rfl, Lib.hid (by rw [hn'.out])⟩
        case round =>
          obtain ⟨k, hkp, hkn, rfl, hI⟩ := hrel
          by_cases hlt : k < s.size
          · have hdk := Lib.hid (drop_cons s k hlt)
            cases hlk : isN s[k]
            · obtain rfl : k = p + n := by have := hI.out; rw [hdk.out, runN_no hlk] at this; omega
              clear hI hdk
              go_wp2_with ((go_at_call 32; refine (rlater_any _ _).mono ?_; rintro e w' ⟨rfl, rfl⟩))
              clear hlk
              go_wp2_with (first | ((go_at_call 33; refine (rfirst_any _ _).mono ?_; rintro e w' ⟨rfl, rfl⟩)) | ((go_at_call 34; refine (rdigit_any _ _).mono ?_; rintro e w' ⟨rfl, rfl⟩)))
              refine (hkw.out _).mono ?_
              rintro e w' ⟨rfl, rfl⟩
              rw [hk'.out]
              go_wp2_with fail
              exact bodyPost_ret (v := .tuple #[tkV tk0, .int .i64 0, .int .i64 201]) (by simp [results, Tryd.results22, go_sem, tkV, tk0, bs]) rfl ⟨by rw [hf.out], by (repeat' (first | with_reducible exact Below.refl _ _ | with_reducible assumption | with_reducible apply Below.setCell | with_reducible apply Below.alloc | with_reducible apply Below.drew | with_reducible apply below_drewN | with_reducible exact Nat.le_refl _ | (simp; done) | (simp; omega) | omega | exact Nat.le_refl _))⟩
            · have hI2 := Lib.hid (show p + n = (k + 1) + runN (s.data.toList.drop (k + 1)) by have := hI.out; rw [hdk.out, runN_yes hlk] at this; omega)
              have hk1 : k + 1 ≤ p + n := by have := hI2.out; omega
              go_wp2_with ((go_at_call 32; refine (rlater_any _ _).mono ?_; rintro e w' ⟨rfl, rfl⟩))
              go_round
              case rel => exact ⟨k + 1, by omega, hk1, by go_num, hI2⟩
              case measure => simp [intOf]; omega
          · obtain rfl : k = p + n := by have := hI.out; rw [drop_end s k (by omega), runN_nil] at this; omega
            clear hI
            go_wp2_with fail
            go_wp2_with (first | ((go_at_call 33; refine (rfirst_any _ _).mono ?_; rintro e w' ⟨rfl, rfl⟩)) | ((go_at_call 34; refine (rdigit_any _ _).mono ?_; rintro e w' ⟨rfl, rfl⟩)))
            refine (hkw.out _).mono ?_
            rintro e w' ⟨rfl, rfl⟩
            rw [hk'.out]
            go_wp2_with fail
            exact bodyPost_ret (v := .tuple #[tkV tk0, .int .i64 0, .int .i64 201]) (by simp [results, Tryd.results22, go_sem, tkV, tk0, bs]) rfl ⟨by rw [hf.out], by (repeat' (first | with_reducible exact Below.refl _ _ | with_reducible assumption | with_reducible apply Below.setCell | with_reducible apply Below.alloc | with_reducible apply Below.drew | with_reducible apply below_drewN | with_reducible exact Nat.le_refl _ | (simp; done) | (simp; omega) | omega | exact Nat.le_refl _))⟩
      · have hf : Hid (R = (⟨0, x.data.toList, 0, p⟩, ((p + n : Nat) : Int), 0)) := Lib.hid (by rw [← hR]; exact rt_ok (t := ⟨0, x.data.toList, 0, 0⟩) (by rw [hfF, wordF_name hk (by rw [len_list, hxs.out]; omega)]))
        have hk' := Lib.hid hk
        have hx16 : (x.size : Int) ≤ 16 := by have := hxs.out; omega
        clear e0 hn hR
        (try clear hsg); (try clear e1); (try clear hyl hy2); (try clear hzl); (try clear hfF); (try clear hk); (try clear hok)
        go_enter Tryd.func22, Tryd.ntmps22
        go_wp2_with fail
        go_loop [7] (fun i => ∃ k : Nat, p ≤ k ∧ k ≤ p + n ∧ i = .int .i64 k ∧ Hid (p + n = k + runN (s.data.toList.drop k))) (fun i => s.size - (intOf i).toNat)
        case atStart => exact ⟨p, Nat.le_refl _, by omega, rfl, Lib.hid (by rw [hn'.out])⟩
        case round =>
          obtain ⟨k, hkp, hkn, rfl, hI⟩ := hrel
          by_cases hlt : k < s.size
          · have hdk := Lib.hid (drop_cons s k hlt)
            cases hlk : isN s[k]
            · obtain rfl : k = p + n := by have := hI.out; rw [hdk.out, runN_no hlk] at this; omega
              clear hI hdk
              go_wp2_with ((go_at_call 32; refine (rlater_any _ _).mono ?_; rintro e w' ⟨rfl, rfl⟩))
              clear hlk
              go_wp2_with (first | ((go_at_call 33; refine (rfirst_any _ _).mono ?_; rintro e w' ⟨rfl, rfl⟩)) | ((go_at_call 34; refine (rdigit_any _ _).mono ?_; rintro e w' ⟨rfl, rfl⟩)))
              refine (hkw.out _).mono ?_
              rintro e w' ⟨rfl, rfl⟩
              rw [hk'.out]
              go_wp2_with fail
              exact bodyPost_ret (v := .tuple #[tkV ⟨0, x.data.toList, 0, p⟩, .int .i64 ((p + n : Nat) : Int), .int .i64 0]) (by simp [results, Tryd.results22, go_sem, tkV, bs_of]) rfl ⟨by rw [hf.out], by (repeat' (first | with_reducible exact Below.refl _ _ | with_reducible assumption | with_reducible apply Below.setCell | with_reducible apply Below.alloc | with_reducible apply Below.drew | with_reducible apply below_drewN | with_reducible exact Nat.le_refl _ | (simp; done) | (simp; omega) | omega | exact Nat.le_refl _))⟩
            · have hI2 := Lib.hid (show p + n = (k + 1) + runN (s.data.toList.drop (k + 1)) by have := hI.out; rw [hdk.out, runN_yes hlk] at this; omega)
              have hk1 : k + 1 ≤ p + n := by have := hI2.out; omega
              go_wp2_with ((go_at_call 32; refine (rlater_any _ _).mono ?_; rintro e w' ⟨rfl, rfl⟩))
              go_round
              case rel => exact ⟨k + 1, by omega, hk1, by go_num, hI2⟩
              case measure => simp [intOf]; omega
          · obtain rfl : k = p + n := by have := hI.out; rw [drop_end s k (by omega), runN_nil] at this; omega
            clear hI
            go_wp2_with fail
            go_wp2_with (first | ((go_at_call 33; refine (rfirst_any _ _).mono ?_; rintro e w' ⟨rfl, rfl⟩)) | ((go_at_call 34; refine (rdigit_any _ _).mono ?_; rintro e w' ⟨rfl, rfl⟩)))
            refine (hkw.out _).mono ?_
            rintro e w' ⟨rfl, rfl⟩
            rw [hk'.out]
            go_wp2_with fail
            exact bodyPost_ret (v := .tuple #[tkV ⟨0, x.data.toList, 0, p⟩, .int .i64 ((p + n : Nat) : Int), .int .i64 0]) (by simp [results, Tryd.results22, go_sem, tkV, bs_of]) rfl ⟨by rw [hf.out], by (repeat' (first | with_reducible exact Below.refl _ _ | with_reducible assumption | with_reducible apply Below.setCell | with_reducible apply Below.alloc | with_reducible apply Below.drew | with_reducible apply below_drewN | with_reducible exact Nat.le_refl _ | (simp; done) | (simp; omega) | omega | exact Nat.le_refl _))⟩
    · have hf : Hid (R = (⟨2, x.data.toList, 0, p⟩, ((p + n : Nat) : Int), 0)) := Lib.hid (by rw [← hR]; exact rt_ok (t := ⟨2, x.data.toList, 0, 0⟩) (by rw [hfF, wordF_kw hk]))
      have hk' := Lib.hid hk
      clear e0 hn hR
      (try clear hsg); (try clear e1); (try clear hyl hy2); (try clear hzl); (try clear hfF); (try clear hk); (try clear hok)
      go_enter Tryd.func22, Tryd.ntmps22
      go_wp2_with fail
      go_loop [7] (fun i => ∃ k : Nat, p ≤ k ∧ k ≤ p + n ∧ i = .int .i64 k ∧ Hid (p + n = k + runN (s.data.toList.drop k))) (fun i => s.size - (intOf i).toNat)
      case atStart => exact ⟨p, Nat.le_refl _, by omega, rfl, Lib.hid (by rw [hn'.out])⟩
      case round =>
        obtain ⟨k, hkp, hkn, rfl, hI⟩ := hrel
        by_cases hlt : k < s.size
        · have hdk := Lib.hid (drop_cons s k hlt)
          cases hlk : isN s[k]
          · obtain rfl : k = p + n := by have := hI.out; rw [hdk.out, runN_no hlk] at this; omega
            clear hI hdk
            go_wp2_with ((go_at_call 32; refine (rlater_any _ _).mono ?_; rintro e w' ⟨rfl, rfl⟩))
            clear hlk
            go_wp2_with (first | ((go_at_call 33; refine (rfirst_any _ _).mono ?_; rintro e w' ⟨rfl, rfl⟩)) | ((go_at_call 34; refine (rdigit_any _ _).mono ?_; rintro e w' ⟨rfl, rfl⟩)))
            refine (hkw.out _).mono ?_
            rintro e w' ⟨rfl, rfl⟩
            rw [hk'.out]
            go_wp2_with fail
            exact bodyPost_ret (v := .tuple #[tkV ⟨2, x.data.toList, 0, p⟩, .int .i64 ((p + n : Nat) : Int), .int .i64 0]) (by simp [results, Tryd.results22, go_sem, tkV, bs_of]) rfl ⟨by rw [hf.out], by (repeat' (first | with_reducible exact Below.refl _ _ | with_reducible assumption | with_reducible apply Below.setCell | with_reducible apply Below.alloc | with_reducible apply Below.drew | with_reducible apply below_drewN | with_reducible exact Nat.le_refl _ | (simp; done) | (simp; omega) | omega | exact Nat.le_refl _))⟩
          · have hI2 := Lib.hid (show p + n = (k + 1) + runN (s.data.toList.drop (k + 1)) by have := hI.out; rw [hdk.out, runN_yes hlk] at this; omega)
            have hk1 : k + 1 ≤ p + n := by have := hI2.out; omega
            go_wp2_with ((go_at_call 32; refine (rlater_any _ _).mono ?_; rintro e w' ⟨rfl, rfl⟩))
            go_round
            case rel => exact ⟨k + 1, by omega, hk1, by go_num, hI2⟩
            case measure => simp [intOf]; omega
        · obtain rfl : k = p + n := by have := hI.out; rw [drop_end s k (by omega), runN_nil] at this; omega
          clear hI
          go_wp2_with fail
          go_wp2_with (first | ((go_at_call 33; refine (rfirst_any _ _).mono ?_; rintro e w' ⟨rfl, rfl⟩)) | ((go_at_call 34; refine (rdigit_any _ _).mono ?_; rintro e w' ⟨rfl, rfl⟩)))
          refine (hkw.out _).mono ?_
          rintro e w' ⟨rfl, rfl⟩
          rw [hk'.out]
          go_wp2_with fail
          exact bodyPost_ret (v := .tuple #[tkV ⟨2, x.data.toList, 0, p⟩, .int .i64 ((p + n : Nat) : Int), .int .i64 0]) (by simp [results, Tryd.results22, go_sem, tkV, bs_of]) rfl ⟨by rw [hf.out], by (repeat' (first | with_reducible exact Below.refl _ _ | with_reducible assumption | with_reducible apply Below.setCell | with_reducible apply Below.alloc | with_reducible apply Below.drew | with_reducible apply below_drewN | with_reducible exact Nat.le_refl _ | (simp; done) | (simp; omega) | omega | exact Nat.le_refl _))⟩
end Go.Proofs.YtgpjdifjajailaaDoor
