/- target.May. -/
import Derived.Test.YtnjalpcmjkahkaaTgE
namespace Go.Proofs.Ytnjalpcmjkahkaa
open Go.RowKit
set_option linter.unusedVariables false
set_option linter.unusedSimpArgs false

def mayV (ts : List Tg) : Bool := decide (1 ≤ ts.length ∧ ts.length ≤ 8192) && ts.all okT && decide (bg (ksT ts) (ts.length - 1) = 0)
theorem mayV_node (ts : List Tg) (j : Nat) (h : j < ts.length) (hn : okT (ts.getD j tg0) = false) : mayV ts = false := by
  have : ts.all okT = false := by
    cases hc : ts.all okT
    · rfl
    · rw [List.all_eq_true] at hc
      have := hc (ts.getD j tg0) (by simp [h])
      rw [this] at hn; cases hn
  unfold mayV; rw [this]; simp
theorem mayV_len (ts : List Tg) (h : ts.length = 0 ∨ 8192 < ts.length) : mayV ts = false := by
  unfold mayV; rw [decide_eq_false (by omega)]; simp
theorem mayV_ok (ts : List Tg) (h0 : 0 < ts.length) (h1 : ts.length ≤ 8192) (h : ts.all okT = true) : mayV ts = (decide (0 < ts.length) && decide (bg (ksT ts) (ts.length - 1) = 0)) := by
  unfold mayV; rw [h, decide_eq_true (by omega), decide_eq_true h0]; simp

set_option maxHeartbeats 1000000 in
theorem may_nil (p : Option Addr) (c : Nat) (w : World) :
    Calls Try.prog 15 #[.slice p 0 c] w fun e w' => e = .returned (.bool false) ∧ Below w.heap.size w w' := by
  go_enter Try.func15, Try.ntmps15
  go_wp2_with fail
  go_ret
  exact ⟨rfl, by (repeat' (first | with_reducible exact Below.refl _ _ | with_reducible assumption | with_reducible apply Below.setCell | with_reducible apply Below.alloc | with_reducible apply Below.drew | with_reducible apply below_drewN | with_reducible exact Nat.le_refl _ | (simp; done) | (simp; omega) | omega | exact Nat.le_refl _))⟩

set_option maxHeartbeats 1000000 in
theorem may_any (b off cp : Nat) (ts : List Tg) (w : World) (h : Hid (TgSl w b off ts)) (hbs : b < w.heap.size) (hl : ts.length ≤ 140737488351232) :
    Calls Try.prog 15 #[.slice (some ⟨b, off, none⟩) ts.length cp] w fun e w' => e = .returned (.bool (mayV ts)) ∧ Below w.heap.size w w' := by
  by_cases h0 : ts.length = 0
  · have hv := Lib.hid (mayV_len ts (.inl h0))
    have h0' : ((ts.length : Int) == 0) = true := by rw [beq_iff_eq]; omega
    have h0'' := Lib.hid h0; clear h0
    go_enter Try.func15, Try.ntmps15
    go_wp2_with fail
    go_ret
    exact ⟨ret_b hv.out.symm, by (repeat' (first | with_reducible exact Below.refl _ _ | with_reducible assumption | with_reducible apply Below.setCell | with_reducible apply Below.alloc | with_reducible apply Below.drew | with_reducible apply below_drewN | with_reducible exact Nat.le_refl _ | (simp; done) | (simp; omega) | omega | exact Nat.le_refl _))⟩
  have h0' : ((ts.length : Int) == 0) = false := by rw [beq_eq_false_iff_ne]; omega
  by_cases h1 : 8192 < ts.length
  · have hv := Lib.hid (mayV_len ts (.inr h1))
    go_enter Try.func15, Try.ntmps15
    go_wp2_with fail
    go_ret
    exact ⟨ret_b hv.out.symm, by (repeat' (first | with_reducible exact Below.refl _ _ | with_reducible assumption | with_reducible apply Below.setCell | with_reducible apply Below.alloc | with_reducible apply Below.drew | with_reducible apply below_drewN | with_reducible exact Nat.le_refl _ | (simp; done) | (simp; omega) | omega | exact Nat.le_refl _))⟩
  have hfin : Hid (∀ j, j < ts.length → okT (ts.getD j tg0) = false → mayV ts = false) := Lib.hid (mayV_node ts)
  have hokv : Hid (ts.all okT = true → mayV ts = (decide (0 < ts.length) && decide (bg (ksT ts) (ts.length - 1) = 0))) := Lib.hid (mayV_ok ts (by omega) (by omega))
  go_enter Try.func15, Try.ntmps15
  go_wp2_with fail
  go_loopw [17] (fun i wr => ∃ j : Nat, j ≤ ts.length ∧ i = .int .i64 j ∧ Below w.heap.size w wr ∧ Hid ((ts.take j).all okT = true) ∧ wr.cell? ⟨w.heap.size, 0, none⟩ = some (.slice (some ⟨b, off, none⟩) ts.length cp) ∧ w.heap.size < wr.heap.size) (fun i _ => ts.length - (intOf i).toNat)
  case atStart => exact ⟨0, by omega, rfl, by (repeat' (first | with_reducible exact Below.refl _ _ | with_reducible assumption | with_reducible apply Below.setCell | with_reducible apply Below.alloc | with_reducible apply Below.drew | with_reducible apply below_drewN | with_reducible exact Nat.le_refl _ | (simp; done) | (simp; omega) | omega | exact Nat.le_refl _)), Lib.hid rfl, by simp, by simp⟩
  case round =>
    obtain ⟨j, hj, rfl, hbw, hall, hcell, hws⟩ := hrel
    by_cases hlt : j < ts.length
    · have hT := (h.out j hlt).below hbw hbs
      have htk : Hid ((ts.take (j + 1)).all okT = ((ts.take j).all okT && okT (ts.getD j tg0))) := Lib.hid (allT_take ts tg0 okT j hlt)
      have hfj : Hid (okT (ts.getD j tg0) = false → mayV ts = false) := Lib.hid (hfin.out j hlt)
      generalize ts.getD j tg0 = t at hT htk hfj
      obtain ⟨e0, e1, e2, e3, e4, e5, e6, e7, e8⟩ := hT
      have hbr : b < wr.heap.size := by have := hbw.size; omega
      go_wp2_with fail
      refine (isPlain_any _ _ _ _ _ _ _ _ _ _).mono ?_
      rintro e w1 ⟨rfl, hb1⟩
      obtain ⟨hc1, hf1⟩ := bcell hb1
      have hz1_0 : wr.heap.size < w1.heap.size := by have := hb1.size; (try simp at this); omega
      cases hp : plainT t.k t.a t.b t.c t.n t.x t.y t.z t.w
      · have hf := Lib.hid (hfj.out (by unfold okT; rw [hp]; rfl)); clear hp
        go_wp2_with fail
        go_ret
        exact ⟨ret_b hf.out.symm, belT hbw (belT (by (repeat' (first | with_reducible exact Below.refl _ _ | with_reducible assumption | with_reducible apply Below.setCell | with_reducible apply Below.alloc | with_reducible apply Below.drew | with_reducible apply below_drewN | with_reducible exact Nat.le_refl _ | (simp; done) | (simp; omega) | omega | exact Nat.le_refl _))) hb1)⟩
      · have hp' := Lib.hid hp; clear hp
        go_wp2_with fail
        refine (isNum_any _ _ _ _ _ _ _ _ _ _).mono ?_
        rintro e w2 ⟨rfl, hb2⟩
        obtain ⟨hc2, hf2⟩ := bcell hb2
        have hz2_0 : wr.heap.size < w2.heap.size := by have := hb2.size; (try simp at this); omega
        cases hn : numT t.k t.n
        · have hf := Lib.hid (hfj.out (by unfold okT; rw [hp'.out, hn]; rfl)); clear hn
          go_wp2_with fail
          go_ret
          exact ⟨ret_b hf.out.symm, belT hbw (belT (belT (by (repeat' (first | with_reducible exact Below.refl _ _ | with_reducible assumption | with_reducible apply Below.setCell | with_reducible apply Below.alloc | with_reducible apply Below.drew | with_reducible apply below_drewN | with_reducible exact Nat.le_refl _ | (simp; done) | (simp; omega) | omega | exact Nat.le_refl _))) hb1) hb2)⟩
        · have hn' := Lib.hid hn; clear hn
          go_wp2_with fail
          refine (areNames_any _ _ _ _ _ _ _ _ _ _).mono ?_
          rintro e w3 ⟨rfl, hb3⟩
          obtain ⟨hc3, hf3⟩ := bcell hb3
          have hz3_0 : wr.heap.size < w3.heap.size := by have := hb3.size; (try simp at this); omega
          have hbw3 := belT hbw (belT (belT (belT (by (repeat' (first | with_reducible exact Below.refl _ _ | with_reducible assumption | with_reducible apply Below.setCell | with_reducible apply Below.alloc | with_reducible apply Below.drew | with_reducible apply below_drewN | with_reducible exact Nat.le_refl _ | (simp; done) | (simp; omega) | omega | exact Nat.le_refl _))) hb1) hb2) hb3)
          cases hm : okNames t.k t.n t.x t.y t.z t.w
          · have hf := Lib.hid (hfj.out (by unfold okT; rw [hp'.out, hn'.out, hm]; rfl)); clear hm
            go_wp2_with fail
            go_ret
            exact ⟨ret_b hf.out.symm, hbw3⟩
          · have hm' := Lib.hid hm; clear hm
            go_wp2_with fail
            go_round
            case rel =>
              refine ⟨j + 1, by omega, by go_num, hbw3, Lib.hid ?_, ?_, by omega⟩
              · rw [htk.out, hall.out]; unfold okT; rw [hp'.out, hn'.out, hm'.out]; rfl
              · rw [hc3 _ _ (by omega), hc2 _ _ (by omega), hc1 _ _ (by simp; omega), World.cell?_alloc_past _ _ _ hws]; exact hcell
            case measure => simp [intOf]; omega
    · have hval : Hid (mayV ts = (decide (0 < ts.length) && decide (bg (ksT ts) (ts.length - 1) = 0))) := Lib.hid (hokv.out (by have := hall.out; rwa [List.take_of_length_le (by omega)] at this))
      go_wp2_with fail
      refine (begins_any b off cp w.heap.size ts _ hcell (Lib.hid (h.out.below hbw hbs)) (by omega) (by omega)).mono ?_
      rintro e w1 ⟨v, rfl, hb1⟩
      rw [← hval.out]
      go_wp2_with fail
      go_ret
      exact ⟨rfl, belT hbw hb1⟩
end Go.Proofs.Ytnjalpcmjkahkaa
