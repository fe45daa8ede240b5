/- Contract of package lex: first. -/
import Derived.Test.YtfajbkpeioejoaaDoorLxD
namespace Go.Proofs.YtfajbkpeioejoaaDoor
open Go.RowKit
set_option linter.unusedVariables false
set_option linter.unusedSimpArgs false

theorem bs_take (s : ByteArray) (n : Nat) : (s.extract 0 n).data.toList = s.data.toList.take n := by
  rw [ext_list, List.drop_zero, Nat.sub_zero]
theorem bs_size_take (s : ByteArray) (n : Nat) (h : n ≤ s.size) : (s.extract 0 n).size = n := by simp; omega
theorem first_L {c : UInt8} {t : List UInt8} (h : isL c = true) : firstF (c :: t) = ((wordF ((c :: t).take (runN (c :: t)))).1, ((c :: t).take (runN (c :: t))).length, (wordF ((c :: t).take (runN (c :: t)))).2) := by
  simp only [firstF, h, if_true, wordF]
  (repeat' split) <;> rfl
theorem first_D {c : UInt8} {t : List UInt8} (h : isL c = false) (h2 : isD c = true) : firstF (c :: t) = (⟨1, [], numV ((c :: t).take (runN (c :: t))), 0⟩, ((c :: t).take (runN (c :: t))).length, numE ((c :: t).take (runN (c :: t)))) := by
  simp only [firstF, h, h2, if_true, numV, numE]
  simp only [Bool.false_eq_true, if_false]
  (repeat' split) <;> rfl
theorem first_S {c : UInt8} {t : List UInt8} (h : isL c = false) (h2 : isD c = false) (h3 : signF (c :: t) ≠ 0) : firstF (c :: t) = (⟨3, (c :: t).take (signF (c :: t)), 0, 0⟩, ((c :: t).take (signF (c :: t))).length, 0) := by
  simp only [firstF, h, h2]
  simp only [Bool.false_eq_true, if_false]
  rw [if_neg]
  intro hx
  have := congrArg List.length hx
  have hl := (signF_le (c :: t)).1
  rw [List.length_take] at this
  simp only [List.length_nil] at this
  omega
theorem first_N {c : UInt8} {t : List UInt8} (h : isL c = false) (h2 : isD c = false) (h3 : signF (c :: t) = 0) : firstF (c :: t) = (⟨0, [], 0, 0⟩, 0, 201) := by
  simp only [firstF, h, h2, h3]
  simp
theorem run_pos {c : UInt8} {t : List UInt8} (h : isN c = true) : 0 < runN (c :: t) := by rw [runN_yes h]; omega
def FirstPost (l : List UInt8) (w : World) (e : Ending) (w' : World) : Prop := e = .returned (.tuple #[tkV (firstF l).1, .int .i64 ((firstF l).2.1 : Int), erV (firstF l).2.2]) ∧ Below w.heap.size w w'

set_option maxRecDepth 100000 in
set_option maxHeartbeats 4000000 in
theorem first_any (s : ByteArray) (w : World) (hs : s.size ≤ 1125899906842624) (hp : 0 < s.size) :
    Calls Tryd.prog 52 #[.string s] w (FirstPost s.data.toList w) := by
  have e0 := drop_cons s 0 hp
  rw [List.drop_zero] at e0
  have hrl : ((runN s.data.toList : Nat) : Int) ≤ s.size := by have := runN_le s.data.toList; rw [len_list] at this; omega
  have hsl : ((signF s.data.toList : Nat) : Int) ≤ s.size := by have := (signF_le s.data.toList).1; rw [len_list] at this; omega
  cases hl : isL s[0]
  · cases hd : isD s[0]
    · by_cases h0 : signF s.data.toList = 0
      · have hf : Hid (firstF s.data.toList = (⟨0, [], 0, 0⟩, 0, 201)) := Lib.hid (by rw [e0] at h0 ⊢; exact first_N hl hd h0)
        have hx : s.extract 0 0 = ⟨#[]⟩ := by apply ba_ext; simp
        have h0' := Lib.hid h0
        clear e0 h0
        go_enter Tryd.func52, Tryd.ntmps52
        go_wp2_with (first | ((go_at_call 54; refine (isLetter_any _ _).mono ?_; rintro e w' ⟨rfl, rfl⟩)) | ((go_at_call 57; refine (isDigit_any _ _).mono ?_; rintro e w' ⟨rfl, rfl⟩)))
        refine (sign_any2 _ _ hs hp).mono ?_
        rintro e w' ⟨rfl, rfl⟩
        rw [h0'.out]
        go_wp2_with fail
        exact bodyPost_ret (v := .tuple #[tkV ⟨0, [], 0, 0⟩, .int .i64 0, erV 201]) (by simp [results, Tryd.results52, go_sem, tkV, erV, bs]) rfl ⟨by rw [hf.out]; rfl, by (repeat' (first | with_reducible exact Below.refl _ _ | with_reducible assumption | with_reducible apply Below.setCell | with_reducible apply Below.alloc | with_reducible apply Below.drew | with_reducible apply below_drewN | with_reducible exact Nat.le_refl _ | (simp; done) | (simp; omega) | omega | exact Nat.le_refl _))⟩
      · obtain ⟨n, hn⟩ : ∃ n, signF s.data.toList = n := ⟨_, rfl⟩
        have hf : Hid (firstF s.data.toList = (⟨3, s.data.toList.take n, 0, 0⟩, (s.data.toList.take n).length, 0)) := Lib.hid (by rw [← hn]; rw [e0] at h0 ⊢; exact first_S hl hd h0)
        rw [hn] at hsl h0
        obtain ⟨x, hx⟩ : ∃ x, s.extract 0 n = x := ⟨_, rfl⟩
        have hxl := Lib.hid (show s.data.toList.take n = x.data.toList by rw [← hx, bs_take])
        have hxs := Lib.hid (show x.size = n by rw [← hx]; exact bs_size_take s n (by omega))
        have hxe : (x.toList == []) = false := by
          rw [ByteArray.toList_eq]
          cases hx2 : x.data.toList with
          | nil => have := hxs.out; rw [← len_list, hx2] at this; simp at this; omega
          | cons _ _ => rfl
        have hxe2 : x.toList.isEmpty = false := by cases hy : x.toList with | nil => rw [hy] at hxe; cases hxe | cons _ _ => rfl
        have hn' := Lib.hid hn
        clear e0 hn hrl
        go_enter Tryd.func52, Tryd.ntmps52
        go_wp2_with (first | ((go_at_call 54; refine (isLetter_any _ _).mono ?_; rintro e w' ⟨rfl, rfl⟩)) | ((go_at_call 57; refine (isDigit_any _ _).mono ?_; rintro e w' ⟨rfl, rfl⟩)))
        refine (sign_any2 _ _ hs hp).mono ?_
        rintro e w' ⟨rfl, rfl⟩
        rw [hn'.out]
        go_wp2_with fail
        exact bodyPost_ret (v := .tuple #[tkV ⟨3, x.data.toList, 0, 0⟩, .int .i64 x.size, erV 0]) (by simp [results, Tryd.results52, go_sem, tkV, erV, bs_of]) rfl ⟨by rw [hf.out, hxl.out, len_list], by (repeat' (first | with_reducible exact Below.refl _ _ | with_reducible assumption | with_reducible apply Below.setCell | with_reducible apply Below.alloc | with_reducible apply Below.drew | with_reducible apply below_drewN | with_reducible exact Nat.le_refl _ | (simp; done) | (simp; omega) | omega | exact Nat.le_refl _))⟩
    · obtain ⟨n, hn⟩ : ∃ n, runN s.data.toList = n := ⟨_, rfl⟩
      have hf : Hid (firstF s.data.toList = (⟨1, [], numV (s.data.toList.take n), 0⟩, (s.data.toList.take n).length, numE (s.data.toList.take n))) := Lib.hid (by rw [← hn, e0]; exact first_D hl hd)
      have hn0 : 0 < n := by rw [← hn, e0]; exact run_pos (isD_isN hd)
      rw [hn] at hrl
      obtain ⟨x, hx⟩ : ∃ x, s.extract 0 n = x := ⟨_, rfl⟩
      have hxl := Lib.hid (show s.data.toList.take n = x.data.toList by rw [← hx, bs_take])
      have hxs := Lib.hid (show x.size = n by rw [← hx]; exact bs_size_take s n (by omega))
      have hn' := Lib.hid hn
      have hnum := Lib.hid fun (W : World) => number_any x W (by rw [hxs.out]; omega) (by rw [hxs.out]; omega)
      obtain ⟨nv, hnv⟩ : ∃ v, numV x.data.toList = v := ⟨_, rfl⟩
      obtain ⟨ne, hne⟩ : ∃ v, numE x.data.toList = v := ⟨_, rfl⟩
      have hnv' := Lib.hid hnv; have hne' := Lib.hid hne
      clear e0 hn hsl hnv hne
      go_enter Tryd.func52, Tryd.ntmps52
      go_wp2_with (first | ((go_at_call 54; refine (isLetter_any _ _).mono ?_; rintro e w' ⟨rfl, rfl⟩)) | ((go_at_call 57; refine (isDigit_any _ _).mono ?_; rintro e w' ⟨rfl, rfl⟩)))
      refine (run_any _ _ hs).mono ?_
      rintro e w' ⟨rfl, rfl⟩
      rw [hn'.out]
      go_wp2_with fail
      refine (hnum.out _).mono ?_
      rintro e w1 ⟨rfl, hb1⟩
      rw [hnv'.out, hne'.out]
      obtain ⟨hc1, hf1⟩ := bcell hb1
      have hz1 : w.heap.size < w1.heap.size := by have := hb1.size; simp at this; omega
      have q0 : w1.cell? ⟨w.heap.size, 0, none⟩ = some (.int .i64 0) := by rw [hc1 _ _ (by simp)]; simp
      have q1 : w1.cell? ⟨w.heap.size, 1, none⟩ = some (.string ⟨#[]⟩) := by rw [hc1 _ _ (by simp)]; simp
      have q2 : w1.cell? ⟨w.heap.size, 2, none⟩ = some (.int .i64 0) := by rw [hc1 _ _ (by simp)]; simp
      have q3 : w1.cell? ⟨w.heap.size, 3, none⟩ = some (.int .i64 0) := by rw [hc1 _ _ (by simp)]; simp
      have f0 : w1.frozen? ⟨w.heap.size, 0, none⟩ = false := by rw [hf1 _ _ (by simp)]; simp
      have f1 : w1.frozen? ⟨w.heap.size, 1, none⟩ = false := by rw [hf1 _ _ (by simp)]; simp
      have f2 : w1.frozen? ⟨w.heap.size, 2, none⟩ = false := by rw [hf1 _ _ (by simp)]; simp
      have f3 : w1.frozen? ⟨w.heap.size, 3, none⟩ = false := by rw [hf1 _ _ (by simp)]; simp
      have hB1 : Below w.heap.size w w1 := belT (by (repeat' (first | with_reducible exact Below.refl _ _ | with_reducible assumption | with_reducible apply Below.setCell | with_reducible apply Below.alloc | with_reducible apply Below.drew | with_reducible apply below_drewN | with_reducible exact Nat.le_refl _ | (simp; done) | (simp; omega) | omega | exact Nat.le_refl _))) hb1
      clear hc1 hf1 hb1
      go_wp2_with fail
      exact bodyPost_ret (v := .tuple #[tkV ⟨1, [], nv, 0⟩, .int .i64 x.size, erV ne]) (by simp [results, Tryd.results52, go_sem, tkV, bs, *]) rfl ⟨by rw [hf.out, hxl.out, len_list, hnv'.out, hne'.out], by (repeat' (first | with_reducible exact Below.refl _ _ | with_reducible assumption | with_reducible apply Below.setCell | with_reducible apply Below.alloc | with_reducible apply Below.drew | with_reducible apply below_drewN | with_reducible exact Nat.le_refl _ | (simp; done) | (simp; omega) | omega | exact Nat.le_refl _))⟩
  · obtain ⟨n, hn⟩ : ∃ n, runN s.data.toList = n := ⟨_, rfl⟩
    have hf : Hid (firstF s.data.toList = ((wordF (s.data.toList.take n)).1, (s.data.toList.take n).length, (wordF (s.data.toList.take n)).2)) := Lib.hid (by rw [← hn, e0]; exact first_L hl)
    rw [hn] at hrl
    obtain ⟨x, hx⟩ : ∃ x, s.extract 0 n = x := ⟨_, rfl⟩
    have hxl := Lib.hid (show s.data.toList.take n = x.data.toList by rw [← hx, bs_take])
    have hxs := Lib.hid (show x.size = n by rw [← hx]; exact bs_size_take s n (by omega))
    have hn' := Lib.hid hn
    have hnum := Lib.hid fun (W : World) => word_any x W (by rw [hxs.out]; omega)
    obtain ⟨tk, htk⟩ : ∃ v, (wordF x.data.toList).1 = v := ⟨_, rfl⟩
    obtain ⟨ne, hne⟩ : ∃ v, (wordF x.data.toList).2 = v := ⟨_, rfl⟩
    have htk' := Lib.hid htk; have hne' := Lib.hid hne
    clear e0 hn hsl htk hne
    go_enter Tryd.func52, Tryd.ntmps52
    go_wp2_with (first | ((go_at_call 54; refine (isLetter_any _ _).mono ?_; rintro e w' ⟨rfl, rfl⟩)) | ((go_at_call 57; refine (isDigit_any _ _).mono ?_; rintro e w' ⟨rfl, rfl⟩)))
    refine (run_any _ _ hs).mono ?_
    rintro e w' ⟨rfl, rfl⟩
    rw [hn'.out]
    go_wp2_with fail
    refine (hnum.out _).mono ?_
    rintro e w1 ⟨rfl, hb1⟩
    rw [htk'.out, hne'.out]
    obtain ⟨hc1, hf1⟩ := bcell hb1
    have hz1 : w.heap.size < w1.heap.size := by have := hb1.size; simp at this; omega
    have q0 : w1.cell? ⟨w.heap.size, 0, none⟩ = some (.int .i64 0) := by rw [hc1 _ _ (by simp)]; simp
    have q1 : w1.cell? ⟨w.heap.size, 1, none⟩ = some (.string ⟨#[]⟩) := by rw [hc1 _ _ (by simp)]; simp
    have q2 : w1.cell? ⟨w.heap.size, 2, none⟩ = some (.int .i64 0) := by rw [hc1 _ _ (by simp)]; simp
    have q3 : w1.cell? ⟨w.heap.size, 3, none⟩ = some (.int .i64 0) := by rw [hc1 _ _ (by simp)]; simp
    have f0 : w1.frozen? ⟨w.heap.size, 0, none⟩ = false := by rw [hf1 _ _ (by simp)]; simp
    have f1 : w1.frozen? ⟨w.heap.size, 1, none⟩ = false := by rw [hf1 _ _ (by simp)]; simp
    have f2 : w1.frozen? ⟨w.heap.size, 2, none⟩ = false := by rw [hf1 _ _ (by simp)]; simp
    have f3 : w1.frozen? ⟨w.heap.size, 3, none⟩ = false := by rw [hf1 _ _ (by simp)]; simp
    have hB1 : Below w.heap.size w w1 := belT (by (repeat' (first | with_reducible exact Below.refl _ _ | with_reducible assumption | with_reducible apply Below.setCell | with_reducible apply Below.alloc | with_reducible apply Below.drew | with_reducible apply below_drewN | with_reducible exact Nat.le_refl _ | (simp; done) | (simp; omega) | omega | exact Nat.le_refl _))) hb1
    clear hc1 hf1 hb1
    unfold tkV
    go_wp2_with fail
    exact bodyPost_ret (v := .tuple #[tkV tk, .int .i64 x.size, erV ne]) (by simp [results, Tryd.results52, go_sem, tkV, *]) rfl ⟨by rw [hf.out, hxl.out, len_list, htk'.out, hne'.out], by (repeat' (first | with_reducible exact Below.refl _ _ | with_reducible assumption | with_reducible apply Below.setCell | with_reducible apply Below.alloc | with_reducible apply Below.drew | with_reducible apply below_drewN | with_reducible exact Nat.le_refl _ | (simp; done) | (simp; omega) | omega | exact Nat.le_refl _))⟩
end Go.Proofs.YtfajbkpeioejoaaDoor
