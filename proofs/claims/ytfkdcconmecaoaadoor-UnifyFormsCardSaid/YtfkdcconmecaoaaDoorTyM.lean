/- typ.May. -/
import Derived.Test.YtfkdcconmecaoaaDoorTyQ
/- typ.May. -/
/- typ.May. -/
namespace Go.Proofs.YtfkdcconmecaoaaDoor
open Go.RowKit
set_option linter.unusedVariables false
set_option linter.unusedSimpArgs false

theorem tyV_node (ts : List Ty) (j : Nat) (h : j < ts.length) (hn : tyOk (ts.getD j ty0) = false) : tyV ts = false := by
  have : ts.all tyOk = false := by
    cases hc : ts.all tyOk
    · rfl
    · rw [List.all_eq_true] at hc
      have := hc (ts.getD j ty0) (getT_mem h)
      rw [this] at hn; cases hn
  unfold tyV; rw [this]; simp
theorem tyV_len (ts : List Ty) (h : ts.length = 0 ∨ 256 < ts.length) : tyV ts = false := by
  unfold tyV; rw [decide_eq_false (by omega)]; simp
theorem tyV_ok (ts : List Ty) (h0 : 0 < ts.length) (h1 : ts.length ≤ 256) (h : ts.all tyOk = true) : tyV ts = (decide (0 < ts.length) && decide (bg (ksT ts) (ts.length - 1) = 0)) := by
  unfold tyV; rw [h, decide_eq_true (by omega), decide_eq_true h0]; simp
set_option maxHeartbeats 1000000 in
theorem tyMay_nil (p : Option Addr) (c : Nat) (w : World) :
    Calls Tryd.prog 27 #[.agg #[.slice p 0 c]] w fun e w' => e = .returned (.bool false) ∧ Below w.heap.size w w' := by
  go_enter Tryd.func27, Tryd.ntmps27
  go_wp2_with fail
  go_ret
  exact ⟨rfl, by (repeat' (first | with_reducible exact Below.refl _ _ | with_reducible assumption | with_reducible apply Below.setCell | with_reducible apply Below.alloc | with_reducible apply Below.drew | with_reducible apply below_drewN | with_reducible exact Nat.le_refl _ | (simp; done) | (simp; omega) | omega | exact Nat.le_refl _))⟩
set_option maxRecDepth 100000 in
set_option maxHeartbeats 4000000 in
theorem tyMay_sl (b off cp : Nat) (ts : List Ty) (w : World) (h : Hid (TySl w b off ts)) (hbs : b < w.heap.size) (hl : ts.length ≤ 140737488351232) :
    Calls Tryd.prog 27 #[.agg #[.slice (some ⟨b, off, none⟩) ts.length cp]] w fun e w' => e = .returned (.bool (tyV ts)) ∧ Below w.heap.size w w' := by
  by_cases h0 : ts.length = 0
  · rw [tyV_len ts (.inl h0), h0]
    exact tyMay_nil _ _ _
  have h0' : ((ts.length : Int) == 0) = false := by rw [beq_eq_false_iff_ne]; omega
  by_cases h1 : 256 < ts.length
  · have hv := Lib.hid (tyV_len ts (.inr h1))
    go_enter Tryd.func27, Tryd.ntmps27
    go_wp2_with fail
    go_ret
    exact ⟨ret_b hv.out.symm, by (repeat' (first | with_reducible exact Below.refl _ _ | with_reducible assumption | with_reducible apply Below.setCell | with_reducible apply Below.alloc | with_reducible apply Below.drew | with_reducible apply below_drewN | with_reducible exact Nat.le_refl _ | (simp; done) | (simp; omega) | omega | exact Nat.le_refl _))⟩
  have hfin : Hid (∀ j, j < ts.length → tyOk (ts.getD j ty0) = false → tyV ts = false) := Lib.hid (tyV_node ts)
  have hokv : Hid (ts.all tyOk = true → tyV ts = (decide (0 < ts.length) && decide (bg (ksT ts) (ts.length - 1) = 0))) := Lib.hid (tyV_ok ts (by omega) (by omega))
  go_enter Tryd.func27, Tryd.ntmps27
  go_wp2_with fail
  go_loopw [20] (fun i wr => ∃ j : Nat, j ≤ ts.length ∧ i = .int .i64 j ∧ Below w.heap.size w wr ∧ Hid ((ts.take j).all tyOk = true) ∧ wr.cell? ⟨w.heap.size, 0, none⟩ = some (.slice (some ⟨b, off, none⟩) ts.length cp) ∧ w.heap.size < wr.heap.size) (fun i _ => ts.length - (intOf i).toNat)
  case atStart => exact ⟨0, by omega, rfl, by (repeat' (first | with_reducible exact Below.refl _ _ | with_reducible assumption | with_reducible apply Below.setCell | with_reducible apply Below.alloc | with_reducible apply Below.drew | with_reducible apply below_drewN | with_reducible exact Nat.le_refl _ | (simp; done) | (simp; omega) | omega | exact Nat.le_refl _)), Lib.hid rfl, by simp, by simp⟩
  case round =>
    obtain ⟨j, hj, rfl, hbw, hall, hcell, hws⟩ := hrel
    by_cases hlt : j < ts.length
    · have hT := (h.out j hlt).below hbw hbs
      have htk : Hid ((ts.take (j + 1)).all tyOk = ((ts.take j).all tyOk && tyOk (ts.getD j ty0))) := Lib.hid (allT_take ts ty0 tyOk j hlt)
      have hfj : Hid (tyOk (ts.getD j ty0) = false → tyV ts = false) := Lib.hid (hfin.out j hlt)
      generalize ts.getD j ty0 = t at hT htk hfj
      obtain ⟨e0, e1, e2, e3, e4, e5, e6, e7, e8⟩ := hT
      have hbr : b < wr.heap.size := by have := hbw.size; omega
      obtain ⟨m, hm⟩ : ∃ m, tyOk t = m := ⟨_, rfl⟩
      have kI := Lib.hid fun (W : World) => isNode_any t.k t.v t.a t.b t.c0 t.c1 t.c2 t.c3 t.t W
      rw [show tyOk ⟨t.k, t.v, t.a, t.b, t.c0, t.c1, t.c2, t.c3, t.t⟩ = m from hm] at kI
      rw [hm] at htk hfj
      clear hm
      go_wp2_with fail
      refine (kI.out _).mono ?_
      rintro e w1 ⟨rfl, hb1⟩
      have hbw1 := Lib.hid (belT (belT hbw (by (repeat' (first | with_reducible exact Below.refl _ _ | with_reducible assumption | with_reducible apply Below.setCell | with_reducible apply Below.alloc | with_reducible apply Below.drew | with_reducible apply below_drewN | with_reducible exact Nat.le_refl _ | (simp; done) | (simp; omega) | omega | exact Nat.le_refl _)))) hb1)
      have qc : w1.cell? ⟨w.heap.size, 0, none⟩ = some (.slice (some ⟨b, off, none⟩) ts.length cp) := carry hb1 (by (try simp); omega) (by first | (simp [hcell, hws]; done) | (rw [World.cell?_alloc_past _ _ _ hws]; exact hcell) | exact hcell)
      have hz1 : w.heap.size < w1.heap.size := by have := hb1.size; (try simp at this); omega
      clear hb1 hcell e0 e1 e2 e3 e4 e5 e6 e7 e8
      cases m
      · have hf := Lib.hid (hfj.out rfl)
        go_wp2_with fail
        go_ret
        exact ⟨ret_b hf.out.symm, hbw1.out⟩
      go_wp2_with fail
      go_round
      case rel => exact ⟨j + 1, by omega, by go_num, hbw1.out, Lib.hid (by rw [htk.out, hall.out]; rfl), qc, hz1⟩
      case measure => simp [intOf]; omega
    · have hval : Hid (tyV ts = (decide (0 < ts.length) && decide (bg (ksT ts) (ts.length - 1) = 0))) := Lib.hid (hokv.out (by have := hall.out; rwa [List.take_of_length_le (by omega)] at this))
      go_wp2_with fail
      refine (begins_any b off cp w.heap.size ts _ hcell (Lib.hid (h.out.below hbw hbs)) (by omega) (by omega)).mono ?_
      rintro e w1 ⟨v, rfl, hb1⟩
      rw [← hval.out]
      go_wp2_with fail
      go_ret
      exact ⟨rfl, belT hbw hb1⟩
theorem tyMay_any (a : Option Addr) (n c : Nat) (ts : List Ty) (w : World) (h : Hid (TyArg w a n ts)) (hl : n ≤ 140737488351232) :
    Calls Tryd.prog 27 #[.agg #[.slice a n c]] w fun e w' => e = .returned (.bool (tyV ts)) ∧ Below w.heap.size w w' := by
  obtain ⟨rfl, rfl | ⟨b, off, rfl, h1, h2⟩⟩ := h.out
  · exact tyMay_nil _ _ _
  · exact tyMay_sl b off c ts w (Lib.hid h1) h2 hl
end Go.Proofs.YtfkdcconmecaoaaDoor

/- The reference's begin and TypeMay. -/
namespace Go.Proofs.YtfkdcconmecaoaaDoor
open Go.RowKit
set_option linter.unusedVariables false
set_option linter.unusedSimpArgs false

theorem ret_ii0 {a b : Int} (h : a = b) : Ending.returned (.int .i64 a) = .returned (.int .i64 b) := by rw [h]
set_option maxHeartbeats 2000000 in
theorem rbegin_any (b off cp : Nat) (ts : List Ty) (hl : ts.length ≤ 140737488351232) : ∀ (n at_ : Nat) (w : World), at_ < n → at_ < ts.length → Hid (TySl w b off ts) → b < w.heap.size →
    Calls Tryd.prog 64 #[.slice (some ⟨b, off, none⟩) ts.length cp, .int .i64 at_] w fun e w' => e = .returned (.int .i64 (bg (ksT ts) at_)) ∧ Below w.heap.size w w' := by
  intro n
  induction n with
  | zero => intro at_ w h; omega
  | succ n ih =>
    intro at_ w hn hat h hbs
    have hT := h.out at_ hat
    have hks : ksT ts at_ = kT (ts.getD at_ ty0).k (ts.getD at_ ty0).a (ts.getD at_ ty0).b := rfl
    obtain ⟨R, hR⟩ : ∃ r, bg (ksT ts) at_ = r := ⟨_, rfl⟩
    rw [hR]
    generalize ts.getD at_ ty0 = t at hT hks
    obtain ⟨e0, e1, e2, e3, e4, e5, e6, e7, e8⟩ := hT
    by_cases hk : t.k = 3
    · have h2 := bg_two (ksT ts) at_ t.a t.b (by rw [hks, hk]; rfl)
      rw [hR] at h2
      rw [hk] at e0
      clear hks hk
      by_cases hb : t.b = at_ - 1 ∧ 1 ≤ at_
      · rw [if_pos hb] at h2
        obtain ⟨q, rfl⟩ : ∃ q, at_ = q + 1 := ⟨at_ - 1, by omega⟩
        have hbq : t.b = q := by omega
        simp only [Nat.add_sub_cancel] at h2
        rw [hbq] at e3
        obtain ⟨gq, hgq⟩ : ∃ z, bg (ksT ts) q = z := ⟨_, rfl⟩
        have hI := Lib.hid fun (W : World) => ih q W (by omega) (by omega)
        have hle := bg_le (ksT ts) q
        rw [hgq] at hI hle h2
        have h2' := Lib.hid h2
        clear h2 hbq hb hgq hR
        go_enter Tryd.func64, Tryd.ntmps64
        go_wp2_with fail
        refine (hI.out _ h hbs).mono ?_
        rintro e w1 ⟨rfl, hb1⟩
        have f2 := carry hb1 hbs e2
        have f0 := carry hb1 hbs e0
        have f3 := carry hb1 hbs e3
        have hB1 := Lib.hid hb1
        have hs1 := hb1.size
        clear hb1 e0 e1 e2 e3 e4 e5 e6 e7 e8
        by_cases h1 : gq < 1
        · have hv : Hid (R = -1) := Lib.hid (by rw [h2'.out, if_pos h1])
          go_wp2_with fail
          go_ret
          exact ⟨ret_ii0 hv.out.symm, hB1.out⟩
        by_cases ha : t.a = gq - 1
        · have hv : Hid (R = bg (ksT ts) (gq - 1).toNat) := Lib.hid (by rw [h2'.out, if_neg h1, if_pos ha])
          obtain ⟨m, hm⟩ := Int.eq_ofNat_of_zero_le (show 0 ≤ gq - 1 by omega)
          obtain rfl : gq = m + 1 := by omega
          have ha' : t.a = m := by omega
          rw [ha'] at f2
          have hv' : Hid (R = bg (ksT ts) m) := Lib.hid (by rw [hv.out, show (((m : Int) + 1) - 1).toNat = m by omega])
          have hI2 := Lib.hid fun (W : World) => ih m W (by omega) (by omega)
          clear hv ha ha' hm
          go_wp2_with fail
          refine (hI2.out _ (Lib.hid (h.out.below hB1.out hbs)) (by omega)).mono ?_
          rintro e w2 ⟨rfl, hb2⟩
          go_wp2_with fail
          go_ret
          exact ⟨ret_ii0 hv'.out.symm, belT hB1.out hb2⟩
        · have hv : Hid (R = -1) := Lib.hid (by rw [h2'.out, if_neg h1, if_neg ha])
          have ha1 : (t.a == gq - 1) = false := beq_eq_false_iff_ne.2 ha
          have ha2 : (t.a != gq - 1) = true := by simpa using ha
          clear ha
          go_wp2_with fail
          go_ret
          exact ⟨ret_ii0 hv.out.symm, hB1.out⟩
      · rw [if_neg hb] at h2
        subst h2
        by_cases hb1 : t.b = (at_ : Int) - 1
        · have h0 : at_ = 0 := by omega
          subst h0
          have hb2 : t.b = -1 := by omega
          rw [hb2] at e3
          simp only [Nat.zero_mul, Nat.add_zero] at e0 e3
          clear hb1 hb hb2 hR e1 e2 e4 e5 e6 e7 e8
          go_enter Tryd.func64, Tryd.ntmps64
          go_wp2_with fail
          go_ret
          exact ⟨rfl, Below.refl _ _⟩
        · have g1 : (t.b == (at_ : Int) - 1) = false := beq_eq_false_iff_ne.2 hb1
          have g2 : (t.b != (at_ : Int) - 1) = true := by simpa using hb1
          clear hb1 hb hR
          go_enter Tryd.func64, Tryd.ntmps64
          go_wp2_with fail
          go_ret
          exact ⟨rfl, Below.refl _ _⟩
    · have h2 := bg_none (ksT ts) at_ (by rw [hks]; exact if_neg hk)
      rw [hR] at h2
      subst h2
      have g1 : (t.k == 3) = false := beq_eq_false_iff_ne.2 hk
      have g2 : (t.k != 3) = true := by simpa using hk
      clear hk hks hR
      go_enter Tryd.func64, Tryd.ntmps64
      go_wp2_with fail
      go_ret
      exact ⟨rfl, Below.refl _ _⟩

end Go.Proofs.YtfkdcconmecaoaaDoor
