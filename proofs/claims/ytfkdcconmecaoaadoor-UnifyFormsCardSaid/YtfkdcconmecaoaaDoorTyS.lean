/- The reference's TypeMay. -/
import Derived.Test.YtfkdcconmecaoaaDoorTyM
import Derived.Test.YtfkdcconmecaoaaDoorInO
namespace Go.Proofs.YtfkdcconmecaoaaDoor
open Go.RowKit
set_option linter.unusedVariables false
set_option linter.unusedSimpArgs false

set_option maxHeartbeats 1000000 in
theorem rTyMay_nil (p : Option Addr) (c : Nat) (w : World) :
    Calls Tryd.prog 36 #[.agg #[.slice p 0 c]] w fun e w' => e = .returned (.bool false) ∧ Below w.heap.size w w' := by
  go_enter Tryd.func36, Tryd.ntmps36
  go_wp2_with fail
  go_ret
  exact ⟨rfl, by (repeat' (first | with_reducible exact Below.refl _ _ | with_reducible assumption | with_reducible apply Below.setCell | with_reducible apply Below.alloc | with_reducible apply Below.drew | with_reducible apply below_drewN | with_reducible exact Nat.le_refl _ | (simp; done) | (simp; omega) | omega | exact Nat.le_refl _))⟩
theorem tyQ3 (v a b c0 c1 c2 c3 t : Int) : tyQ 3 v a b c0 c1 c2 c3 t 3 0 a b c0 c1 c2 c3 t = decide (v = 0) := by
  unfold tyQ rwQ
  rw [Bool.eq_iff_iff]; simp
theorem tyQ2 (v a b c0 c1 c2 c3 t : Int) : tyQ 2 v a b c0 c1 c2 c3 t 2 v 0 0 0 0 0 0 0 = tyQ 2 0 a b c0 c1 c2 c3 t 2 0 0 0 0 0 0 0 0 := by
  unfold tyQ; simp
theorem tyQ_var {k v a b c0 c1 c2 c3 t : Int} (h : tyQ k v a b c0 c1 c2 c3 t k 0 0 0 0 0 0 0 0 = true) : v = 0 := by
  unfold tyQ at h
  simp only [Bool.and_eq_true, beq_iff_eq] at h
  exact h.2.1
set_option maxRecDepth 100000 in
set_option maxHeartbeats 8000000 in
theorem rTyMay_sl (b off cp : Nat) (ts : List Ty) (w : World) (h : Hid (TySl w b off ts)) (hbs : b < w.heap.size) (hl : ts.length ≤ 140737488351232) :
    Calls Tryd.prog 36 #[.agg #[.slice (some ⟨b, off, none⟩) ts.length cp]] w fun e w' => e = .returned (.bool (tyV ts)) ∧ Below w.heap.size w w' := by
  by_cases h0 : ts.length = 0
  · rw [tyV_len ts (.inl h0), h0]
    exact rTyMay_nil _ _ _
  by_cases h1 : 256 < ts.length
  · have hv := Lib.hid (tyV_len ts (.inr h1))
    go_enter Tryd.func36, Tryd.ntmps36
    go_wp2_with fail
    go_ret
    exact ⟨ret_b hv.out.symm, by (repeat' (first | with_reducible exact Below.refl _ _ | with_reducible assumption | with_reducible apply Below.setCell | with_reducible apply Below.alloc | with_reducible apply Below.drew | with_reducible apply below_drewN | with_reducible exact Nat.le_refl _ | (simp; done) | (simp; omega) | omega | exact Nat.le_refl _))⟩
  have hfin : Hid (∀ j, j < ts.length → tyOk (ts.getD j ty0) = false → tyV ts = false) := Lib.hid (tyV_node ts)
  have hokv : Hid (ts.all tyOk = true → tyV ts = (decide (0 < ts.length) && decide (bg (ksT ts) (ts.length - 1) = 0))) := Lib.hid (tyV_ok ts (by omega) (by omega))
  have hin := fun x0 x1 x2 x3 x4 x5 x6 x7 x8 y0 y1 y2 y3 y4 y5 y6 y7 y8 W => ty_in x0 x1 x2 x3 x4 x5 x6 x7 x8 y0 y1 y2 y3 y4 y5 y6 y7 y8 W
  go_enter Tryd.func36, Tryd.ntmps36
  go_wp2_with fail
  go_loopw [4] (fun i wr => ∃ j : Nat, j ≤ ts.length ∧ i = .int .i64 j ∧ Below w.heap.size w wr ∧ Hid ((ts.take j).all tyOk = true)) (fun i _ => ts.length - (intOf i).toNat)
  case atStart => exact ⟨0, by omega, rfl, by (repeat' (first | with_reducible exact Below.refl _ _ | with_reducible assumption | with_reducible apply Below.setCell | with_reducible apply Below.alloc | with_reducible apply Below.drew | with_reducible apply below_drewN | with_reducible exact Nat.le_refl _ | (simp; done) | (simp; omega) | omega | exact Nat.le_refl _)), Lib.hid rfl⟩
  case round =>
    obtain ⟨j, hj, rfl, hbw, hall⟩ := hrel
    by_cases hlt : j < ts.length
    · have hT := (h.out j hlt).below hbw hbs
      have htk : Hid ((ts.take (j + 1)).all tyOk = ((ts.take j).all tyOk && tyOk (ts.getD j ty0))) := Lib.hid (allT_take ts ty0 tyOk j hlt)
      have hfj : Hid (tyOk (ts.getD j ty0) = false → tyV ts = false) := Lib.hid (hfin.out j hlt)
      generalize ts.getD j ty0 = t at hT htk hfj
      obtain ⟨e0, e1, e2, e3, e4, e5, e6, e7, e8⟩ := hT
      have hws := hbw.size
      have hbr : b < wr.heap.size := by omega
      have hlt' : (j : Int) < (ts.length : Int) := by omega
      have hj0 : (0 : Int) ≤ (j : Int) := by omega
      obtain ⟨k, v, a, bb, c0, c1, c2, c3, tl⟩ := t
      simp only [] at e0 e1 e2 e3 e4 e5 e6 e7 e8
      have hk : k = 3 ∨ k = 2 ∨ k = 0 ∨ k = 1 ∨ (k ≠ 0 ∧ k ≠ 1 ∧ k ≠ 2 ∧ k ≠ 3) := by omega
      rcases hk with rfl | rfl | rfl | rfl | hk
      · rw [tyOk3] at htk hfj
        have hq := tyQ3 v a bb c0 c1 c2 c3 tl
        have kM := Lib.hid fun (W : World) => rRowMay_any c0 c1 c2 c3 tl W
        obtain ⟨m, hm⟩ : ∃ m, mayR c0 c1 c2 c3 tl = m := ⟨_, rfl⟩
        rw [hm] at kM htk hfj
        obtain ⟨q, hqq⟩ : ∃ q, decide (v = 0) = q := ⟨_, rfl⟩
        rw [hqq] at hq htk hfj
        have hv := Lib.hid (show q = true → v = 0 from fun h => by rw [h] at hqq; exact of_decide_eq_true hqq)
        clear hm hqq
        go_wp2_with fail
        refine (kM.out _).mono ?_
        rintro e w1 ⟨rfl, hb1⟩
        have hbw1 := Lib.hid (belT (belT hbw (show Below wr.heap.size wr _ from by (repeat' (first | with_reducible exact Below.refl _ _ | with_reducible assumption | with_reducible apply Below.setCell | with_reducible apply Below.alloc | with_reducible apply Below.drew | with_reducible apply below_drewN | with_reducible exact Nat.le_refl _ | (simp; done) | (simp; omega) | omega | exact Nat.le_refl _)))) hb1)
        have hX : TnAt w1 wr.heap.size ⟨3, v, a, bb, c0, c1, c2, c3, tl⟩ := TnAt.below (w := _) (by refine ⟨?_, ?_, ?_, ?_, ?_, ?_, ?_, ?_, ?_, ?_⟩ <;> first | (simp; done) | (simp; omega)) hb1
        have hY : TnAt w1 (wr.heap.size + 1) ⟨3, 0, a, bb, c0, c1, c2, c3, tl⟩ := TnAt.below (w := _) (by refine ⟨?_, ?_, ?_, ?_, ?_, ?_, ?_, ?_, ?_, ?_⟩ <;> first | (simp; done) | (simp; omega)) hb1
        clear e0 e1 e2 e3 e4 e5 e6 e7 e8 hb1
        cases m
        · have hf := Lib.hid (hfj.out (by simp))
          go_wp2_with fail
          go_ret
          exact ⟨ret_b hf.out.symm, hbw1.out⟩
        · obtain ⟨x0, x1, x2, x3, x4, x5, x6, x7, x8, x9⟩ := hX
          obtain ⟨y0, y1, y2, y3, y4, y5, y6, y7, y8, y9⟩ := hY
          simp only [] at x1 x2 x3 x4 x5 x6 x7 x8 x9 y1 y2 y3 y4 y5 y6 y7 y8 y9
          cases q
          · have hf := Lib.hid (hfj.out (by simp))
            go_wp2_with fail
            go_ret
            exact ⟨ret_b hf.out.symm, hbw1.out⟩
          · have hv0 := hv.out rfl
            subst hv0
            go_wp2_with fail
            go_roundw
            case rel => exact ⟨j + 1, by omega, by go_num, hbw1.out, Lib.hid (by rw [htk.out, hall.out]; rfl)⟩
            case measure => simp [intOf]; omega
      · rw [tyOk2] at htk hfj
        have hq := tyQ2 v a bb c0 c1 c2 c3 tl
        obtain ⟨q, hqq⟩ : ∃ q, tyQ 2 0 a bb c0 c1 c2 c3 tl 2 0 0 0 0 0 0 0 0 = q := ⟨_, rfl⟩
        rw [hqq] at hq htk hfj
        clear hqq
        cases q
        · have hf := Lib.hid (hfj.out (by simp))
          go_wp2_with fail
          go_ret
          exact ⟨ret_b hf.out.symm, by (repeat' (first | with_reducible exact Below.refl _ _ | with_reducible assumption | with_reducible apply Below.setCell | with_reducible apply Below.alloc | with_reducible apply Below.drew | with_reducible apply below_drewN | with_reducible exact Nat.le_refl _ | (simp; done) | (simp; omega) | omega | exact Nat.le_refl _))⟩
        · by_cases hv0 : v < 0
          · have hf := Lib.hid (hfj.out (by rw [decide_eq_false (by omega)]; rfl))
            go_wp2_with fail
            go_ret
            exact ⟨ret_b hf.out.symm, by (repeat' (first | with_reducible exact Below.refl _ _ | with_reducible assumption | with_reducible apply Below.setCell | with_reducible apply Below.alloc | with_reducible apply Below.drew | with_reducible apply below_drewN | with_reducible exact Nat.le_refl _ | (simp; done) | (simp; omega) | omega | exact Nat.le_refl _))⟩
          by_cases hv1 : 4096 ≤ v
          · have hf := Lib.hid (hfj.out (by rw [decide_eq_false (by omega)]; rfl))
            go_wp2_with fail
            go_ret
            exact ⟨ret_b hf.out.symm, by (repeat' (first | with_reducible exact Below.refl _ _ | with_reducible assumption | with_reducible apply Below.setCell | with_reducible apply Below.alloc | with_reducible apply Below.drew | with_reducible apply below_drewN | with_reducible exact Nat.le_refl _ | (simp; done) | (simp; omega) | omega | exact Nat.le_refl _))⟩
          have htk2 : Hid ((ts.take (j + 1)).all tyOk = true) := Lib.hid (by rw [htk.out, hall.out, decide_eq_true (by omega)]; rfl)
          go_wp2_with fail
          go_roundw
          case rel => exact ⟨j + 1, by omega, by go_num, by (repeat' (first | with_reducible exact Below.refl _ _ | with_reducible assumption | with_reducible apply Below.setCell | with_reducible apply Below.alloc | with_reducible apply Below.drew | with_reducible apply below_drewN | with_reducible exact Nat.le_refl _ | (simp; done) | (simp; omega) | omega | exact Nat.le_refl _)), htk2⟩
          case measure => simp [intOf]; omega
      · rw [tyOk0] at htk hfj
        obtain ⟨q, hq⟩ : ∃ q, tyQ 0 v a bb c0 c1 c2 c3 tl 0 0 0 0 0 0 0 0 0 = q := ⟨_, rfl⟩
        rw [hq] at htk hfj
        cases q
        · have hf := Lib.hid (hfj.out rfl)
          go_wp2_with fail
          go_ret
          exact ⟨ret_b hf.out.symm, by (repeat' (first | with_reducible exact Below.refl _ _ | with_reducible assumption | with_reducible apply Below.setCell | with_reducible apply Below.alloc | with_reducible apply Below.drew | with_reducible apply below_drewN | with_reducible exact Nat.le_refl _ | (simp; done) | (simp; omega) | omega | exact Nat.le_refl _))⟩
        · have hv0 := tyQ_var hq
          subst hv0
          have htk2 : Hid ((ts.take (j + 1)).all tyOk = true) := Lib.hid (by rw [htk.out, hall.out]; rfl)
          go_wp2_with fail
          go_roundw
          case rel => exact ⟨j + 1, by omega, by go_num, by (repeat' (first | with_reducible exact Below.refl _ _ | with_reducible assumption | with_reducible apply Below.setCell | with_reducible apply Below.alloc | with_reducible apply Below.drew | with_reducible apply below_drewN | with_reducible exact Nat.le_refl _ | (simp; done) | (simp; omega) | omega | exact Nat.le_refl _)), htk2⟩
          case measure => simp [intOf]; omega
      · rw [tyOk1] at htk hfj
        obtain ⟨q, hq⟩ : ∃ q, tyQ 1 v a bb c0 c1 c2 c3 tl 1 0 0 0 0 0 0 0 0 = q := ⟨_, rfl⟩
        rw [hq] at htk hfj
        cases q
        · have hf := Lib.hid (hfj.out rfl)
          go_wp2_with fail
          go_ret
          exact ⟨ret_b hf.out.symm, by (repeat' (first | with_reducible exact Below.refl _ _ | with_reducible assumption | with_reducible apply Below.setCell | with_reducible apply Below.alloc | with_reducible apply Below.drew | with_reducible apply below_drewN | with_reducible exact Nat.le_refl _ | (simp; done) | (simp; omega) | omega | exact Nat.le_refl _))⟩
        · have hv0 := tyQ_var hq
          subst hv0
          have htk2 : Hid ((ts.take (j + 1)).all tyOk = true) := Lib.hid (by rw [htk.out, hall.out]; rfl)
          go_wp2_with fail
          go_roundw
          case rel => exact ⟨j + 1, by omega, by go_num, by (repeat' (first | with_reducible exact Below.refl _ _ | with_reducible assumption | with_reducible apply Below.setCell | with_reducible apply Below.alloc | with_reducible apply Below.drew | with_reducible apply below_drewN | with_reducible exact Nat.le_refl _ | (simp; done) | (simp; omega) | omega | exact Nat.le_refl _)), htk2⟩
          case measure => simp [intOf]; omega
      · have hf := Lib.hid (hfj.out (tyOkx k v a bb c0 c1 c2 c3 tl hk))
        obtain ⟨k0, k1, k2, k3⟩ := hk
        have g0 : (k == 0) = false := beq_eq_false_iff_ne.2 k0
        have g1 : (k == 1) = false := beq_eq_false_iff_ne.2 k1
        have g2 : (k == 2) = false := beq_eq_false_iff_ne.2 k2
        have g3 : (k == 3) = false := beq_eq_false_iff_ne.2 k3
        go_wp2_with fail
        go_ret
        exact ⟨ret_b hf.out.symm, by (repeat' (first | with_reducible exact Below.refl _ _ | with_reducible assumption | with_reducible apply Below.setCell | with_reducible apply Below.alloc | with_reducible apply Below.drew | with_reducible apply below_drewN | with_reducible exact Nat.le_refl _ | (simp; done) | (simp; omega) | omega | exact Nat.le_refl _))⟩
    · have hval : Hid (tyV ts = (decide (0 < ts.length) && decide (bg (ksT ts) (ts.length - 1) = 0))) := Lib.hid (hokv.out (by have := hall.out; rwa [List.take_of_length_le (by omega)] at this))
      have hI := Lib.hid fun (W : World) => rbegin_any b off cp ts hl ts.length (ts.length - 1) W (by omega) (by omega)
      rw [show ((ts.length - 1 : Nat) : Int) = (ts.length : Int) - 1 by omega] at hI
      obtain ⟨g, hg⟩ : ∃ g, bg (ksT ts) (ts.length - 1) = g := ⟨_, rfl⟩
      rw [hg] at hI hval
      clear hg
      go_wp2_with fail
      refine (hI.out _ (Lib.hid (h.out.below hbw hbs)) (by have := hbw.size; omega)).mono ?_
      rintro e w1 ⟨rfl, hb1⟩
      go_wp2_with fail
      go_ret
      exact ⟨ret_bb (by rw [hval.out, decide_eq_true (show 0 < ts.length by omega)]; rfl), belT hbw hb1⟩
theorem rTyMay_any (a : Option Addr) (n c : Nat) (ts : List Ty) (w : World) (h : Hid (TyArg w a n ts)) (hl : n ≤ 140737488351232) :
    Calls Tryd.prog 36 #[.agg #[.slice a n c]] w fun e w' => e = .returned (.bool (tyV ts)) ∧ Below w.heap.size w w' := by
  obtain ⟨rfl, rfl | ⟨b, off, rfl, h1, h2⟩⟩ := h.out
  · exact rTyMay_nil _ _ _
  · exact rTyMay_sl b off c ts w (Lib.hid h1) h2 hl
end Go.Proofs.YtfkdcconmecaoaaDoor
