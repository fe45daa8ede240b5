/- Contract of the reference's Tell; awake of layer 24. -/
import Derived.Test.YtilhpclnligpaaaDoorPlD
namespace Go.Proofs.YtilhpclnligpaaaDoor
open Go.RowKit
set_option linter.unusedVariables false

theorem keep_3 {w : World} (ht : Hid (TabW w)) (a b c : Obj) : KeepR w (((w.alloc a).alloc b).alloc c) :=
  ⟨Joins.below_alloc3 w a b c, by simp; omega, Lib.hid (tab_keep ht.out (Joins.below_alloc3 w a b c) (Nat.le_refl _))⟩
theorem cell_3 (w : World) (x : Array Value) (T : TypeId) (b c : Obj) (i : Nat) (v : Value) (h : x[i]? = some v) : (((w.alloc (.cells x T)).alloc b).alloc c).cell? ⟨w.heap.size, i, none⟩ = some v := by
  rw [World.cell?_alloc_past _ _ _ (by simp; omega), World.cell?_alloc_past _ _ _ (by simp), World.cell?_alloc_at _ _ _ _ rfl]; exact h
theorem may_and {k n k' n' : Int} (h : (mayO k n && mayO k' n') = true) : mayO k n = true ∧ mayO k' n' = true := by simpa using h

set_option maxRecDepth 100000 in
set_option maxHeartbeats 1000000 in
theorem rTell0_any (s ty : ByteArray) (a k n k' n' : Int) (w : World) (hs : s.size ≤ 140737488355328) (hty : ty.size ≤ 140737488355328) (ht : Hid (TabW w)) (hm : mayO k n = true) (hm' : mayO k' n' = true) :
    Calls Tryd.prog 11 #[.string s, .agg #[.int .i64 0, .int .i64 a, .string ty, .int .i64 k, .int .i64 n, .int .i64 k', .int .i64 n']] w (TellPost s 0 a ty k n k' n' w) := by
  have hok := Lib.hid (tell_yes (ty := ty) (show tellOk s 0 a k n k' n' = true by unfold tellOk; rw [hm, hm']; rfl))
  have hz1 := outB_size k n hm
  have hz2 := outB_size k' n' hm'
  obtain ⟨o1, ho1⟩ : ∃ o, outB k n = o := ⟨_, rfl⟩
  obtain ⟨o2, ho2⟩ : ∃ o, outB k' n' = o := ⟨_, rfl⟩
  rw [ho1] at hz1
  rw [ho2] at hz2
  have ho1' := Lib.hid ho1; have ho2' := Lib.hid ho2
  have hmA := Lib.hid hm; have hmB := Lib.hid hm'
  clear ho1 ho2 hm hm'
  have hn1 : ¬ 9223372036854775807 < ty.size + 3 := by omega
  have hn2 : ¬ 9223372036854775807 < ty.size + 3 + o1.size := by omega
  have hn3 : ¬ 9223372036854775807 < ty.size + 3 + o1.size + 3 := by omega
  have hn4 : ¬ 9223372036854775807 < ty.size + 3 + o1.size + 3 + o2.size := by omega
  go_enter Tryd.func11, Tryd.ntmps11
  go_wp2_with fail
  refine (rmay_any _ _ _).mono ?_
  rintro e w' ⟨rfl, rfl⟩
  rw [hmA.out]
  go_wp2_with fail
  refine (rmay_any _ _ _).mono ?_
  rintro e w' ⟨rfl, rfl⟩
  rw [hmB.out]
  go_wp2_with fail
  go_region_held3 (fun W => W.cell? ⟨w.heap.size, 2, none⟩ = some (.string ty) ∧ W.cell? ⟨w.heap.size, 3, none⟩ = some (.int .i64 k) ∧ W.cell? ⟨w.heap.size, 4, none⟩ = some (.int .i64 n) ∧ W.cell? ⟨w.heap.size, 5, none⟩ = some (.int .i64 k') ∧ W.cell? ⟨w.heap.size, 6, none⟩ = some (.int .i64 n') ∧ KeepR w W)
    (first | exact tellS_drew (cell_3 _ _ _ _ _ _ _ rfl) (cell_3 _ _ _ _ _ _ _ rfl) (cell_3 _ _ _ _ _ _ _ rfl) (cell_3 _ _ _ _ _ _ _ rfl) (cell_3 _ _ _ _ _ _ _ rfl) (keep_3 ht _ _ _) | exact tellS_step (by assumption) hb9)
    ((go_at_call 21; refine (rtell_any _ _ _ (by first | exact hmA.out | exact hmB.out)).mono ?_; rintro e w9 ⟨rfl, hb9⟩; (first | rw [ho1'.out] | rw [ho2'.out])))
  go_wp2_with fail
  go_ret2
  exact ⟨ret_si (by rw [hok.out.1]; unfold tellB; rw [if_pos rfl, ho1'.out, ho2'.out]) hok.out.2.symm, tellS_below (by assumption)⟩

set_option maxRecDepth 100000 in
set_option maxHeartbeats 1000000 in
theorem rTellBad_any (s ty : ByteArray) (code a k n k' n' : Int) (w : World) (h : Hid ((mayO k n && mayO k' n') = false ∨ ((mayO k n && mayO k' n') = true ∧ code < 0))) :
    Calls Tryd.prog 11 #[.string s, .agg #[.int .i64 code, .int .i64 a, .string ty, .int .i64 k, .int .i64 n, .int .i64 k', .int .i64 n']] w (TellPost s code a ty k n k' n' w) := by
  have hno := Lib.hid (tell_no (ty := ty) (show tellOk s code a k n k' n' = false by
    unfold tellOk
    rcases h.out with h | ⟨_, h⟩
    · rw [h]; rfl
    · rw [decide_eq_false (by omega : ¬ 0 ≤ code)]; simp))
  cases hA : mayO k n
  · have hA' := Lib.hid hA; clear hA
    go_enter Tryd.func11, Tryd.ntmps11
    go_wp2_with fail
    refine (rmay_any _ _ _).mono ?_
    rintro e w' ⟨rfl, rfl⟩
    rw [hA'.out]
    go_wp2_with fail
    go_ret2
    exact ⟨ret_si hno.out.1.symm hno.out.2.symm, by (repeat' (first | with_reducible exact Below.refl _ _ | with_reducible assumption | with_reducible apply Below.setCell | with_reducible apply Below.alloc | with_reducible apply Below.drew | with_reducible apply below_drewN | exact Nat.le_refl _ | omega | (simp; done) | (simp; omega)))⟩
  cases hB : mayO k' n'
  · have hA' := Lib.hid hA; clear hA
    have hB' := Lib.hid hB; clear hB
    go_enter Tryd.func11, Tryd.ntmps11
    go_wp2_with fail
    refine (rmay_any _ _ _).mono ?_
    rintro e w' ⟨rfl, rfl⟩
    rw [hA'.out]
    go_wp2_with fail
    refine (rmay_any _ _ _).mono ?_
    rintro e w' ⟨rfl, rfl⟩
    rw [hB'.out]
    go_wp2_with fail
    go_ret2
    exact ⟨ret_si hno.out.1.symm hno.out.2.symm, by (repeat' (first | with_reducible exact Below.refl _ _ | with_reducible assumption | with_reducible apply Below.setCell | with_reducible apply Below.alloc | with_reducible apply Below.drew | with_reducible apply below_drewN | exact Nat.le_refl _ | omega | (simp; done) | (simp; omega)))⟩
  · have hc : code < 0 := by
      rcases h.out with h | h
      · rw [hA, hB] at h; cases h
      · exact h.2
    have hA' := Lib.hid hA; clear hA
    have hB' := Lib.hid hB; clear hB
    go_enter Tryd.func11, Tryd.ntmps11
    go_wp2_with fail
    refine (rmay_any _ _ _).mono ?_
    rintro e w' ⟨rfl, rfl⟩
    rw [hA'.out]
    go_wp2_with fail
    refine (rmay_any _ _ _).mono ?_
    rintro e w' ⟨rfl, rfl⟩
    rw [hB'.out]
    go_wp2_with fail
    go_ret2
    exact ⟨ret_si hno.out.1.symm hno.out.2.symm, by (repeat' (first | with_reducible exact Below.refl _ _ | with_reducible assumption | with_reducible apply Below.setCell | with_reducible apply Below.alloc | with_reducible apply Below.drew | with_reducible apply below_drewN | exact Nat.le_refl _ | omega | (simp; done) | (simp; omega)))⟩

set_option maxRecDepth 100000 in
set_option maxHeartbeats 1000000 in
theorem rTell1_any (s ty : ByteArray) (code a k n k' n' : Int) (w : World) (hs : s.size ≤ 140737488355328) (ht : Hid (TabW w)) (hm : Hid ((mayO k n && mayO k' n') = true)) (hc0 : 0 < code) (hc1 : code ≤ 9223372036854775807) :
    Calls Tryd.prog 11 #[.string s, .agg #[.int .i64 code, .int .i64 a, .string ty, .int .i64 k, .int .i64 n, .int .i64 k', .int .i64 n']] w (TellPost s code a ty k n k' n' w) := by
  have hA' := Lib.hid (may_and hm.out).1
  have hB' := Lib.hid (may_and hm.out).2
  have hbd := pl_bd s a
  have hcb : (code != 0) = true := by rw [bne_iff_ne]; omega
  cases hp : plOk s a
  · have hno := Lib.hid (tell_no (ty := ty) (show tellOk s code a k n k' n' = false by unfold tellOk; rw [hp, decide_eq_false (by omega : ¬ code = 0)]; simp))
    have hpE : Hid (plE s a = 2400) := Lib.hid (by unfold plE; rw [hp]; rfl)
    clear hp
    go_enter Tryd.func11, Tryd.ntmps11
    go_wp2_with fail
    refine (rmay_any _ _ _).mono ?_
    rintro e w' ⟨rfl, rfl⟩
    rw [hA'.out]
    go_wp2_with fail
    refine (rmay_any _ _ _).mono ?_
    rintro e w' ⟨rfl, rfl⟩
    rw [hB'.out]
    go_wp2_with fail
    refine (rline_any _ _ _ hs).mono ?_
    rintro e w2 ⟨rfl, rfl⟩
    rw [hpE.out]
    go_wp2_with fail
    go_ret2
    exact ⟨ret_si hno.out.1.symm hno.out.2.symm, by (repeat' (first | with_reducible exact Below.refl _ _ | with_reducible assumption | with_reducible apply Below.setCell | with_reducible apply Below.alloc | with_reducible apply Below.drew | with_reducible apply below_drewN | exact Nat.le_refl _ | omega | (simp; done) | (simp; omega)))⟩
  · have hok := Lib.hid (tell_yes (ty := ty) (show tellOk s code a k n k' n' = true by unfold tellOk; rw [hm.out, hp, decide_eq_true (by omega : 0 ≤ code)]; simp))
    have hpE : Hid (plE s a = 0) := Lib.hid (by unfold plE; rw [hp]; rfl)
    obtain ⟨l, hl⟩ : ∃ l, lnV s a = l := ⟨_, rfl⟩
    obtain ⟨c, hc⟩ : ∃ c, clV s a = c := ⟨_, rfl⟩
    rw [hl, hc] at hbd
    have hl' := Lib.hid hl; have hc' := Lib.hid hc
    clear hp hl hc
    have hi1 := itoa_len l (by omega) (by omega)
    have hi2 := itoa_len c (by omega) (by omega)
    have hi3 := itoa_len code (by omega) (by omega)
    have hz1 : (⟨(Lib.itoa l).toArray⟩ : ByteArray).size ≤ 21 := by simpa [ByteArray.size] using hi1
    have hz2 : (⟨(Lib.itoa c).toArray⟩ : ByteArray).size ≤ 21 := by simpa [ByteArray.size] using hi2
    have hz3 : (⟨(Lib.itoa code).toArray⟩ : ByteArray).size ≤ 21 := by simpa [ByteArray.size] using hi3
    obtain ⟨o1, ho1⟩ : ∃ o : ByteArray, ⟨(Lib.itoa l).toArray⟩ = o := ⟨_, rfl⟩
    obtain ⟨o2, ho2⟩ : ∃ o : ByteArray, ⟨(Lib.itoa c).toArray⟩ = o := ⟨_, rfl⟩
    obtain ⟨o3, ho3⟩ : ∃ o : ByteArray, ⟨(Lib.itoa code).toArray⟩ = o := ⟨_, rfl⟩
    rw [ho1] at hz1; rw [ho2] at hz2; rw [ho3] at hz3
    have ho1' := Lib.hid ho1; have ho2' := Lib.hid ho2; have ho3' := Lib.hid ho3
    clear ho1 ho2 ho3 hi1 hi2 hi3
    have hn1 : ¬ 9223372036854775807 < o1.size + 1 := by omega
    have hn2 : ¬ 9223372036854775807 < o1.size + 1 + o2.size := by omega
    have hn3 : ¬ 9223372036854775807 < o1.size + 1 + o2.size + 8 := by omega
    have hn4 : ¬ 9223372036854775807 < o1.size + 1 + o2.size + 8 + o3.size := by omega
    go_enter Tryd.func11, Tryd.ntmps11
    go_wp2_with fail
    refine (rmay_any _ _ _).mono ?_
    rintro e w' ⟨rfl, rfl⟩
    rw [hA'.out]
    go_wp2_with fail
    refine (rmay_any _ _ _).mono ?_
    rintro e w' ⟨rfl, rfl⟩
    rw [hB'.out]
    go_wp2_with fail
    refine (rline_any _ _ _ hs).mono ?_
    rintro e w2 ⟨rfl, rfl⟩
    rw [hpE.out, hl'.out, hc'.out]
    go_wp2_with fail
    go_region_held3 (fun W => W.cell? ⟨w.heap.size, 0, none⟩ = some (.int .i64 code) ∧ KeepR w W)
      (first | exact tell1S_drew (cell_3 _ _ _ _ _ _ _ rfl) (keep_3 ht _ _ _) | exact tell1S_step (by assumption) hb9)
      ((go_at_call 14; refine (dec_any _ _ (by omega) (by omega)).mono ?_; rintro e w9 ⟨rfl, hb9⟩; (first | rw [ho1'.out] | rw [ho2'.out] | rw [ho3'.out])))
    go_wp2_with fail
    go_ret2
    exact ⟨ret_si (by rw [hok.out.1]; unfold tellB; rw [if_neg (by omega), hl'.out, hc'.out, ho1'.out, ho2'.out, ho3'.out]) hok.out.2.symm, tell1S_below (by assumption)⟩

/-- all calls of Tell, both ways. -/
theorem tell_any (s ty : ByteArray) (code a k n k' n' : Int) (w : World) (hs : s.size ≤ 140737488355328) (hty : ty.size ≤ 140737488355328) (ht : Hid (TabW w)) (hc : code ≤ 9223372036854775807) :
    Calls Tryd.prog 10 #[.string s, .agg #[.int .i64 code, .int .i64 a, .string ty, .int .i64 k, .int .i64 n, .int .i64 k', .int .i64 n']] w (TellPost s code a ty k n k' n' w) := by
  cases hm : (mayO k n && mayO k' n')
  · exact tellBad_any s ty code a k n k' n' w (Lib.hid (.inl hm))
  rcases Int.lt_trichotomy code 0 with h | rfl | h
  · exact tellBad_any s ty code a k n k' n' w (Lib.hid (.inr ⟨hm, h⟩))
  · exact tell0_any s ty a k n k' n' w hs hty ht (may_and hm).1 (may_and hm).2
  · exact tell1_any s ty code a k n k' n' w hs ht (Lib.hid hm) h hc
theorem rTell_any (s ty : ByteArray) (code a k n k' n' : Int) (w : World) (hs : s.size ≤ 140737488355328) (hty : ty.size ≤ 140737488355328) (ht : Hid (TabW w)) (hc : code ≤ 9223372036854775807) :
    Calls Tryd.prog 11 #[.string s, .agg #[.int .i64 code, .int .i64 a, .string ty, .int .i64 k, .int .i64 n, .int .i64 k', .int .i64 n']] w (TellPost s code a ty k n k' n' w) := by
  cases hm : (mayO k n && mayO k' n')
  · exact rTellBad_any s ty code a k n k' n' w (Lib.hid (.inl hm))
  rcases Int.lt_trichotomy code 0 with h | rfl | h
  · exact rTellBad_any s ty code a k n k' n' w (Lib.hid (.inr ⟨hm, h⟩))
  · exact rTell0_any s ty a k n k' n' w hs hty ht (may_and hm).1 (may_and hm).2
  · exact rTell1_any s ty code a k n k' n' w hs ht (Lib.hid hm) h hc
end Go.Proofs.YtilhpclnligpaaaDoor
