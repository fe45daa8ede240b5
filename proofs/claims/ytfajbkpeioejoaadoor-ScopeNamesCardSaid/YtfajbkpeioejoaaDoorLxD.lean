/- Contracts of package lex: word, number, first. -/
import Derived.Test.YtfajbkpeioejoaaDoorLxC
import Derived.Lib.ConvBytes
import Derived.Lib.AtoiErrMem
namespace Go.Proofs.YtfajbkpeioejoaaDoor
open Go.RowKit
set_option linter.unusedVariables false
set_option linter.unusedSimpArgs false

def tkV (t : Tk) : Value := .agg #[.int .i64 t.kind, .string (bs t.text), .int .i64 t.num, .int .i64 t.at_]
def erV (e : Int) : Value := if e = 0 then .nilIface else .iface 27 (.int .i64 e)
def wordF (l : List UInt8) : Tk × Int := if kwB l then (⟨2, l, 0, 0⟩, 0) else if l.length > 16 then (⟨0, [], 0, 0⟩, 201) else (⟨0, l, 0, 0⟩, 0)
theorem wordF_kw {l : List UInt8} (h : kwB l = true) : wordF l = (⟨2, l, 0, 0⟩, 0) := by unfold wordF; rw [if_pos h]
theorem wordF_long {l : List UInt8} (h : kwB l = false) (h2 : 16 < l.length) : wordF l = (⟨0, [], 0, 0⟩, 201) := by unfold wordF; rw [h]; simp; omega
theorem wordF_name {l : List UInt8} (h : kwB l = false) (h2 : l.length ≤ 16) : wordF l = (⟨0, l, 0, 0⟩, 0) := by unfold wordF; rw [h]; simp; omega

set_option maxHeartbeats 1000000 in
theorem word_any (s : ByteArray) (w : World) (hs : s.size ≤ 1125899906842624) :
    Calls Tryd.prog 56 #[.string s] w fun e w' => e = .returned (.tuple #[tkV (wordF s.data.toList).1, erV (wordF s.data.toList).2]) ∧ Below w.heap.size w w' := by
  cases hk : kwB s.data.toList
  · by_cases hl : 16 < s.size
    · have hf := Lib.hid (wordF_long hk (by rw [len_list]; exact hl))
      have hk' := Lib.hid hk; clear hk
      go_enter Tryd.func56, Tryd.ntmps56
      go_wp2_with fail
      refine (keyword_any _ _).mono ?_
      rintro e w' ⟨rfl, rfl⟩
      rw [hk'.out]
      go_wp2_with fail
      exact bodyPost_ret (v := .tuple #[tkV ⟨0, [], 0, 0⟩, erV 201]) (by simp [results, Tryd.results56, go_sem, tkV, erV, bs]) rfl ⟨by rw [hf.out], by (repeat' (first | with_reducible exact Below.refl _ _ | with_reducible assumption | with_reducible apply Below.setCell | with_reducible apply Below.alloc | with_reducible apply Below.drew | with_reducible apply below_drewN | with_reducible exact Nat.le_refl _ | (simp; done) | (simp; omega) | omega | exact Nat.le_refl _))⟩
    · have hf := Lib.hid (wordF_name hk (by rw [len_list]; omega))
      have hk' := Lib.hid hk; clear hk
      go_enter Tryd.func56, Tryd.ntmps56
      go_wp2_with fail
      refine (keyword_any _ _).mono ?_
      rintro e w' ⟨rfl, rfl⟩
      rw [hk'.out]
      go_wp2_with fail
      exact bodyPost_ret (v := .tuple #[tkV ⟨0, s.data.toList, 0, 0⟩, erV 0]) (by simp [results, Tryd.results56, go_sem, tkV, erV, bs_of]) rfl ⟨by rw [hf.out], by (repeat' (first | with_reducible exact Below.refl _ _ | with_reducible assumption | with_reducible apply Below.setCell | with_reducible apply Below.alloc | with_reducible apply Below.drew | with_reducible apply below_drewN | with_reducible exact Nat.le_refl _ | (simp; done) | (simp; omega) | omega | exact Nat.le_refl _))⟩
  · have hf := Lib.hid (wordF_kw hk)
    have hk' := Lib.hid hk; clear hk
    go_enter Tryd.func56, Tryd.ntmps56
    go_wp2_with fail
    refine (keyword_any _ _).mono ?_
    rintro e w' ⟨rfl, rfl⟩
    rw [hk'.out]
    go_wp2_with fail
    exact bodyPost_ret (v := .tuple #[tkV ⟨2, s.data.toList, 0, 0⟩, erV 0]) (by simp [results, Tryd.results56, go_sem, tkV, erV, bs_of]) rfl ⟨by rw [hf.out], by (repeat' (first | with_reducible exact Below.refl _ _ | with_reducible assumption | with_reducible apply Below.setCell | with_reducible apply Below.alloc | with_reducible apply Below.drew | with_reducible apply below_drewN | with_reducible exact Nat.le_refl _ | (simp; done) | (simp; omega) | omega | exact Nat.le_refl _))⟩

def numV (l : List UInt8) : Int := if numOk l then (valF l : Int) else 0
def numE (l : List UInt8) : Int := if numOk l then 0 else 202
theorem num_no {l : List UInt8} (h : numOk l = false) : numV l = 0 ∧ numE l = 202 := by unfold numV numE; rw [h]; exact ⟨rfl, rfl⟩
theorem num_yes {l : List UInt8} (h : numOk l = true) : numV l = valF l ∧ numE l = 0 := by unfold numV numE; rw [h]; exact ⟨rfl, rfl⟩
def leadZ (l : List UInt8) : Bool := l == [48] || !(l.head? == some 48)
theorem numOk_eq (l : List UInt8) : numOk l = (l.all isD && leadZ l && decide (valF l ≤ 1073741823)) := rfl
theorem all_not {l : List UInt8} {k : Nat} (h : k < l.length) (hd : isD l[k] = false) : l.all isD = false := by
  rw [List.all_eq_false]; exact ⟨l[k], List.getElem_mem _, by rw [hd]; decide⟩
theorem all_snoc (s : ByteArray) (k : Nat) (h : k < s.size) : s.data.toList.take (k + 1) = s.data.toList.take k ++ [s[k]] := by
  rw [List.take_succ_eq_append_getElem (by simpa using h)]; rfl
theorem ret_ie {a b : Int} {v u : Value} (h : a = b) (h2 : v = u) : Ending.returned (.tuple #[.int .i64 a, v]) = .returned (.tuple #[.int .i64 b, u]) := by rw [h, h2]
theorem isD_bd {c : UInt8} (h : isD c = true) : 48 ≤ (c.toNat : Int) ∧ (c.toNat : Int) ≤ 57 := by unfold isD at h; simpa using h

set_option maxRecDepth 100000 in
set_option maxHeartbeats 2000000 in
theorem number_any (s : ByteArray) (w : World) (hs : s.size ≤ 1125899906842624) (hp : 0 < s.size) :
    Calls Tryd.prog 58 #[.string s] w fun e w' => e = .returned (.tuple #[.int .i64 (numV s.data.toList), erV (numE s.data.toList)]) ∧ Below w.heap.size w w' := by
  have e0 := drop_cons s 0 hp
  rw [List.drop_zero] at e0
  have hlz : leadZ s.data.toList = !((s[0].toNat : Int) == 48 && !(s.toList == [48])) := by
    unfold leadZ
    rw [ByteArray.toList_eq, show (some (48 : UInt8)) = some (UInt8.ofNat 48) from rfl]
    have h0 : s.data.toList.head? = some s[0] := by rw [e0]; rfl
    rw [h0, show ((some s[0] == some (UInt8.ofNat 48)) = (s[0] == UInt8.ofNat 48)) from rfl, u8_eq s[0] 48 (by decide)]
    show (s.data.toList == [UInt8.ofNat 48] || !((s[0].toNat : Int) == 48)) = !((s[0].toNat : Int) == 48 && !(s.data.toList == [UInt8.ofNat 48]))
    generalize (s.data.toList == [UInt8.ofNat 48]) = x
    generalize ((s[0].toNat : Int) == 48) = y
    cases x <;> cases y <;> rfl
  have hlz' := Lib.hid hlz
  have hok := Lib.hid (numOk_eq s.data.toList)
  clear e0 hlz
  cases hA : ((s[0].toNat : Int) == 48) <;> cases hB : (s.toList == [48])
  case true.false =>
    have hn := Lib.hid (num_no (l := s.data.toList) (by rw [hok.out, hlz'.out, hA, hB]; simp))
    go_enter Tryd.func58, Tryd.ntmps58
    go_wp2_with fail
    go_ret2
    exact ⟨ret_ie hn.out.1.symm (by rw [hn.out.2]; rfl), by (repeat' (first | with_reducible exact Below.refl _ _ | with_reducible assumption | with_reducible apply Below.setCell | with_reducible apply Below.alloc | with_reducible apply Below.drew | with_reducible apply below_drewN | with_reducible exact Nat.le_refl _ | (simp; done) | (simp; omega) | omega | exact Nat.le_refl _))⟩
  all_goals
    have hlt := Lib.hid (show leadZ s.data.toList = true by rw [hlz'.out, hA, hB]; rfl)
    have hcv := Lib.run_convert_string_bytes (P := Tryd.prog) w 9 39 5 s (u := .string) Tryd.underlying9 Tryd.underlying39 Tryd.underlying5
    have hcell : Hid (∀ k (hk : k < s.size), (Lib.bytesWorld w 5 s).cell? ⟨w.heap.size, k, none⟩ = some (.int .u8 (s[k].toNat : Int))) := Lib.hid fun k hk => by
      rw [Lib.bytesWorld_cell w _ s k hk]
      have : s.data.toList.getD k 0 = s[k] := by
        have h' : k < s.data.toList.length := by simpa using hk
        rw [List.getD_eq_getElem?_getD, List.getElem?_eq_getElem h']; rfl
      rw [this]
    have hbw := Lib.bytesWorld_below w 5 s
    generalize Lib.bytesWorld w 5 s = W1 at hcv hcell hbw
    clear hlz'
    go_enter Tryd.func58, Tryd.ntmps58
    go_wp2_with fail
    clear hA hB hcv
    go_loop [4, 18] (fun n i => ∃ k : Nat, k ≤ s.size ∧ i = .int .i64 k ∧ n = .int .i64 (valF (s.data.toList.take k)) ∧ Hid ((s.data.toList.take k).all isD = true) ∧ valF (s.data.toList.take k) ≤ 1073741823) (fun _ i => s.size - (intOf i).toNat)
    case atStart => exact ⟨0, Nat.zero_le _, rfl, rfl, Lib.hid rfl, by simp [valF]⟩
    case round =>
      obtain ⟨k, hk, rfl, rfl, hall, hv⟩ := hrel
      by_cases hlt2 : k < s.size
      · have hc := hcell.out k hlt2
        have hsn := all_snoc s k hlt2
        have hv2 : Hid (valF (s.data.toList.take (k + 1)) = valF (s.data.toList.take k) * 10 + (s[k].toNat - 48)) := Lib.hid (by rw [hsn, valF_snoc])
        have ha2 : Hid ((s.data.toList.take (k + 1)).all isD = ((s.data.toList.take k).all isD && isD s[k])) := Lib.hid (by rw [hsn]; simp)
        have hgk : Hid (isD s[k] = false → s.data.toList.all isD = false) := Lib.hid fun h => all_not (k := k) (by simpa using hlt2) h
        have hle := Lib.hid (valF_take s.data.toList (k + 1))
        clear hsn
        cases hd : isD s[k]
        · have hn := Lib.hid (num_no (l := s.data.toList) (by rw [hok.out, hgk.out hd]; rfl))
          go_wp2_with (go_at_call 57; refine (isDigit_any _ _).mono ?_; rintro e w' ⟨rfl, rfl⟩)
          go_ret2
          exact ⟨ret_ie hn.out.1.symm (by rw [hn.out.2]; rfl), by (repeat' (first | with_reducible exact Below.refl _ _ | with_reducible assumption | with_reducible apply Below.setCell | with_reducible apply Below.alloc | with_reducible apply Below.drew | with_reducible apply below_drewN | with_reducible exact Nat.le_refl _ | (simp; done) | (simp; omega) | omega | exact Nat.le_refl _))⟩
        · have hbd := isD_bd hd
          by_cases hm : (valF (s.data.toList.take k) : Int) * 10 + ((s[k].toNat : Int) - 48) ≤ 1073741823
          · go_wp2_with (go_at_call 57; refine (isDigit_any _ _).mono ?_; rintro e w' ⟨rfl, rfl⟩)
            go_round
            case rel => exact ⟨k + 1, by omega, by go_num, by rw [hv2.out]; congr 1; omega, Lib.hid (by rw [ha2.out, hall.out, hd]; rfl), by rw [hv2.out]; omega⟩
            case measure => simp [intOf]; omega
          · have hn := Lib.hid (num_no (l := s.data.toList) (by rw [hok.out, decide_eq_false (by have := hle.out; rw [hv2.out] at this; omega)]; simp))
            go_wp2_with (go_at_call 57; refine (isDigit_any _ _).mono ?_; rintro e w' ⟨rfl, rfl⟩)
            go_ret2
            exact ⟨ret_ie hn.out.1.symm (by rw [hn.out.2]; rfl), by (repeat' (first | with_reducible exact Below.refl _ _ | with_reducible assumption | with_reducible apply Below.setCell | with_reducible apply Below.alloc | with_reducible apply Below.drew | with_reducible apply below_drewN | with_reducible exact Nat.le_refl _ | (simp; done) | (simp; omega) | omega | exact Nat.le_refl _))⟩
      · have ht : s.data.toList.take k = s.data.toList := List.take_of_length_le (by simp; omega)
        rw [ht] at hv ⊢
        have ht2 := hall.out
        rw [ht] at ht2
        have hn := Lib.hid (num_yes (l := s.data.toList) (by rw [hok.out, ht2, hlt.out, decide_eq_true hv]; rfl))
        clear ht ht2
        go_wp2_with fail
        go_ret2
        exact ⟨ret_ie hn.out.1.symm (by rw [hn.out.2]; rfl), by (repeat' (first | with_reducible exact Below.refl _ _ | with_reducible assumption | with_reducible apply Below.setCell | with_reducible apply Below.alloc | with_reducible apply Below.drew | with_reducible apply below_drewN | with_reducible exact Nat.le_refl _ | (simp; done) | (simp; omega) | omega | exact Nat.le_refl _))⟩
end Go.Proofs.YtfajbkpeioejoaaDoor
