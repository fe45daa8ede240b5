/- The reference's BindsMay. -/
import Derived.Test.YtfkdcconmecaoaaDoorTyS
import Derived.Test.YtfkdcconmecaoaaDoorSbA
import Derived.Test.YtfkdcconmecaoaaDoorRcA
import Derived.Test.YtfkdcconmecaoaaDoorSbH
/- The reference's BindsMay. -/
namespace Go.Proofs.YtfkdcconmecaoaaDoor
open Go.RowKit Go.Maps
set_option linter.unusedVariables false
set_option linter.unusedSimpArgs false

set_option maxHeartbeats 1000000 in
theorem rbinds_nil (a : Option Addr) (c : Nat) (w : World) : Calls Tryd.prog 35 #[.slice a 0 c] w fun e w' => e = .returned (.bool true) ∧ Below w.heap.size w w' := by
  go_enter Tryd.func35, Tryd.ntmps35
  go_wp2_with fail
  go_loopw [3] (fun i wr => i = .int .i64 0 ∧ wr = w) (fun _ _ => 0)
  case atStart => exact ⟨rfl, rfl⟩
  case round =>
    obtain ⟨rfl, rfl⟩ := hrel
    go_wp2_with fail
    go_ret
    exact ⟨rfl, Below.refl _ _⟩
set_option maxRecDepth 100000 in
set_option maxHeartbeats 4000000 in
theorem rbinds_sl (b off cp : Nat) (xs : List Bn) (w : World) (h : Hid (BnSl w b off xs)) (hbs : b < w.heap.size) (hl : xs.length ≤ 140737488351232) :
    Calls Tryd.prog 35 #[.slice (some ⟨b, off, none⟩) xs.length cp] w fun e w' => e = .returned (.bool (bsV xs)) ∧ Below w.heap.size w w' := by
  by_cases h1 : 4096 < xs.length
  · have hv := Lib.hid (bs_len xs h1)
    go_enter Tryd.func35, Tryd.ntmps35
    go_wp2_with fail
    go_ret
    exact ⟨ret_b hv.out.symm, by (repeat' (first | with_reducible exact Below.refl _ _ | with_reducible assumption | with_reducible apply Below.setCell | with_reducible apply Below.alloc | with_reducible apply Below.drew | with_reducible apply below_drewN | with_reducible exact Nat.le_refl _ | (simp; done) | (simp; omega) | omega | exact Nat.le_refl _))⟩
  have hfin : Hid (∀ j, j < xs.length → (xs.getD j bn0).ok = false → bsV xs = false) := Lib.hid (bs_node xs)
  have hokv : Hid (xs.all Bn.ok = true → bsV xs = true) := Lib.hid (bs_all xs (by omega))
  have hin := fun (x0 x1 x2 x3 x4 y0 y1 y2 y3 y4 : Int) (W : World) => row_in 9997 x0 x1 x2 x3 x4 y0 y1 y2 y3 y4 W
  simp only [Nat.reduceAdd] at hin
  go_enter Tryd.func35, Tryd.ntmps35
  go_wp2_with fail
  go_loopw [3] (fun i wr => ∃ j : Nat, j ≤ xs.length ∧ i = .int .i64 j ∧ Below w.heap.size w wr ∧ Hid ((xs.take j).all Bn.ok = true)) (fun i _ => xs.length - (intOf i).toNat)
  case atStart => exact ⟨0, by omega, rfl, by (repeat' (first | with_reducible exact Below.refl _ _ | with_reducible assumption | with_reducible apply Below.setCell | with_reducible apply Below.alloc | with_reducible apply Below.drew | with_reducible apply below_drewN | with_reducible exact Nat.le_refl _ | (simp; done) | (simp; omega) | omega | exact Nat.le_refl _)), Lib.hid rfl⟩
  case round =>
    obtain ⟨j, hj, rfl, hbw, hall⟩ := hrel
    by_cases hlt : j < xs.length
    · have hT := h.out.below hbw hbs j hlt
      have htk : Hid ((xs.take (j + 1)).all Bn.ok = ((xs.take j).all Bn.ok && (xs.getD j bn0).ok)) := Lib.hid (allT_take xs bn0 Bn.ok j hlt)
      have hfj : Hid ((xs.getD j bn0).ok = false → bsV xs = false) := Lib.hid (hfin.out j hlt)
      generalize xs.getD j bn0 = x at hT htk hfj
      obtain ⟨⟨e0, e1, e2, e3, e4, e5, e6, e7⟩, hA, hn⟩ := hT
      have hbr : b < wr.heap.size := by have := hbw.size; omega
      have hlt' : (j : Int) < (xs.length : Int) := by omega
      have hj0 : (0 : Int) ≤ (j : Int) := by omega
      have kT := Lib.hid fun (W : World) (hb : Below wr.heap.size wr W) => rTyMay_any x.ad x.n x.c x.ns W (Lib.hid (hA.below hb)) hn
      have kM := Lib.hid fun (W : World) => rRowMay_any x.r.a x.r.b x.r.c x.r.d x.r.t W
      obtain ⟨m, hm⟩ : ∃ m, mayR x.r.a x.r.b x.r.c x.r.d x.r.t = m := ⟨_, rfl⟩
      obtain ⟨q, hq⟩ : ∃ q, rwQ x.r.a x.r.b x.r.c x.r.d x.r.t 0 0 0 0 0 = q := ⟨_, rfl⟩
      obtain ⟨tv, htv⟩ : ∃ q, tyV x.ns = q := ⟨_, rfl⟩
      have hxo : Hid (x.ok = (decide (0 ≤ x.v ∧ x.v < 4096) && (if x.ir then decide (x.n = 0) && m else q && tv))) := Lib.hid (by unfold Bn.ok Rw.may; rw [hm, hq, htv])
      rw [hxo.out] at htk hfj
      rw [hm] at kM
      rw [htv] at kT
      have hbw' := Lib.hid hbw
      clear hm htv hA hbw hxo
      by_cases hv0 : x.v < 0
      · have hf := Lib.hid (hfj.out (by rw [decide_eq_false (by omega)]; rfl))
        go_wp2_with fail
        go_ret
        exact ⟨ret_b hf.out.symm, hbw'.out.alloc hbw'.out.size _⟩
      by_cases hv1 : 4096 ≤ x.v
      · have hf := Lib.hid (hfj.out (by rw [decide_eq_false (by omega)]; rfl))
        go_wp2_with fail
        go_ret
        exact ⟨ret_b hf.out.symm, hbw'.out.alloc hbw'.out.size _⟩
      rw [decide_eq_true (show 0 ≤ x.v ∧ x.v < 4096 by omega), Bool.true_and] at htk hfj
      obtain ⟨v, ir, ad, n, c, ns, ⟨ra, rb, rc, rd, rt⟩⟩ := x
      simp only [] at *
      cases ir
      · simp only [Bool.false_eq_true, if_false] at htk hfj
        cases q
        · have hf := Lib.hid (hfj.out rfl)
          go_wp2_with fail
          go_ret
          exact ⟨ret_b hf.out.symm, hbw'.out.alloc hbw'.out.size _⟩
        · rw [Bool.true_and] at htk hfj
          go_wp2_with fail
          refine (kT.out _ (below_alc wr _)).mono ?_
          rintro e w1 ⟨rfl, hb1⟩
          have hbw1 := Lib.hid (belT (hbw'.out.alloc hbw'.out.size _) hb1)
          clear hb1 e0 e1 e2 e3 e4 e5 e6 e7
          cases tv
          · have hf := Lib.hid (hfj.out rfl)
            go_wp2_with fail
            go_ret
            exact ⟨ret_b hf.out.symm, hbw1.out⟩
          go_wp2_with fail
          go_roundw
          case rel => exact ⟨j + 1, by omega, by go_num, hbw1.out, Lib.hid (by rw [htk.out, hall.out]; rfl)⟩
          case measure => simp [intOf]; omega
      · simp only [if_true] at htk hfj
        by_cases hn0 : n = 0
        · subst hn0
          rw [decide_eq_true rfl, Bool.true_and] at htk hfj
          go_wp2_with fail
          refine (kM.out _).mono ?_
          rintro e w1 ⟨rfl, hb1⟩
          have hbw1 := Lib.hid (belT (hbw'.out.alloc hbw'.out.size _) hb1)
          clear hb1 e0 e1 e2 e3 e4 e5 e6 e7
          cases m
          · have hf := Lib.hid (hfj.out rfl)
            go_wp2_with fail
            go_ret
            exact ⟨ret_b hf.out.symm, hbw1.out⟩
          go_wp2_with fail
          go_roundw
          case rel => exact ⟨j + 1, by omega, by go_num, hbw1.out, Lib.hid (by rw [htk.out, hall.out]; rfl)⟩
          case measure => simp [intOf]; omega
        · have hf := Lib.hid (hfj.out (by rw [decide_eq_false hn0]; rfl))
          have hn1 : (0 : Int) < (n : Int) := by omega
          go_wp2_with fail
          go_ret
          exact ⟨ret_b hf.out.symm, hbw'.out.alloc hbw'.out.size _⟩
    · have hval : Hid (bsV xs = true) := Lib.hid (hokv.out (by have := hall.out; rwa [List.take_of_length_le (by omega)] at this))
      go_wp2_with fail
      go_ret
      exact ⟨ret_b hval.out.symm, hbw⟩
theorem rbinds_any (a : Option Addr) (n c : Nat) (xs : List Bn) (w : World) (h : Hid (BnArg w a n xs)) (hl : n ≤ 140737488351232) :
    Calls Tryd.prog 35 #[.slice a n c] w fun e w' => e = .returned (.bool (bsV xs)) ∧ Below w.heap.size w w' := by
  obtain ⟨rfl, rfl | ⟨b, off, rfl, h1, h2⟩⟩ := h.out
  · exact rbinds_nil _ _ _
  · exact rbinds_sl b off c xs w (Lib.hid h1) h2 hl

end Go.Proofs.YtfkdcconmecaoaaDoor

/- The reference's SubstType, SubstRow. -/
namespace Go.Proofs.YtfkdcconmecaoaaDoor
open Go.RowKit Go.Maps
set_option linter.unusedVariables false
set_option linter.unusedSimpArgs false

theorem rrowMay_r (r : Rw) (w : World) : Calls Tryd.prog 63 #[.agg #[.int .i64 r.a, .int .i64 r.b, .int .i64 r.c, .int .i64 r.d, .int .i64 r.t]] w fun e w' => e = .returned (.bool r.may) ∧ Below w.heap.size w w' := rRowMay_any _ _ _ _ _ _
set_option maxRecDepth 100000 in
set_option maxHeartbeats 4000000 in
theorem rsubType_any (a a2 : Option Addr) (n c n2 c2 : Nat) (xs : List Bn) (ts : List Ty) (w : World) (h : Hid (BnArg w a n xs)) (h2 : Hid (TyArg w a2 n2 ts)) (hl : n ≤ 140737488351232) (hl2 : n2 ≤ 140737488351232) :
    Calls Tryd.prog 14 #[.slice a n c, .agg #[.slice a2 n2 c2]] w (SubPost xs ts w) := by
  have kM := Lib.hid fun (W : World) (hb : Below w.heap.size w W) => rbinds_any a n c xs W (Lib.hid (h.out.below hb)) hl
  have kT := Lib.hid fun (W : World) (hb : Below w.heap.size w W) => rTyMay_any a2 n2 c2 ts W (Lib.hid (h2.out.below hb)) hl2
  have hq := Lib.hid fun (W : World) (hb : Below ((w.alloc (.cells #[.slice a2 n2 c2] 24)).alloc (.cells #[.slice none 0 0] 24)).heap.size ((w.alloc (.cells #[.slice a2 n2 c2] 24)).alloc (.cells #[.slice none 0 0] 24)) W) =>
    (show W.cell? ⟨w.heap.size, 0, none⟩ = some (.slice a2 n2 c2) ∧ W.cell? ⟨w.heap.size + 1, 0, none⟩ = some (.slice none 0 0) ∧ W.frozen? ⟨w.heap.size + 1, 0, none⟩ = false ∧ w.heap.size + 1 < W.heap.size ∧ Below w.heap.size w W from
      ⟨by rw [hb.cell (p := ⟨w.heap.size, 0, none⟩) (by simp; omega)]; simp, by rw [hb.cell (p := ⟨w.heap.size + 1, 0, none⟩) (by simp)]; simp, by rw [hb.frozen (p := ⟨w.heap.size + 1, 0, none⟩) (by simp)]; simp [go_sem], by have := hb.size; simp at this; omega, (below_alc2 w _ _).trans (hb.mono (by simp; omega))⟩)
  cases hbv : bsV xs
  · rw [hbv] at kM
    have hno := Lib.hid fun (w' : World) => sub_no (xs := xs) (ts := ts) (w := w) (w' := w') (by rw [hbv]; rfl)
    clear hbv kT
    go_enter Tryd.func14, Tryd.ntmps14
    go_wp2_with fail
    refine (kM.out _ (below_alc2 w _ _)).mono ?_
    rintro e w1 ⟨rfl, hb1⟩
    obtain ⟨y0, y1, y2, y3, y4⟩ := hq.out _ hb1
    clear hb1
    go_wp2_with fail
    exact bodyPost_ret (v := .tuple #[.agg #[.slice none 0 0], .int .i64 900]) (by simp [results, Tryd.results14, go_sem, y1, y2]) rfl (hno.out _ (by (repeat' (first | with_reducible exact Below.refl _ _ | with_reducible assumption | with_reducible apply Below.setCell | with_reducible apply Below.alloc | with_reducible apply Below.drew | with_reducible apply below_drewN | with_reducible exact Nat.le_refl _ | (simp; done) | (simp; omega) | omega | exact Nat.le_refl _))))
  cases htv : tyV ts
  · rw [hbv] at kM
    rw [htv] at kT
    have hno := Lib.hid fun (w' : World) => sub_no (xs := xs) (ts := ts) (w := w) (w' := w') (by rw [hbv, htv]; rfl)
    clear hbv htv
    go_enter Tryd.func14, Tryd.ntmps14
    go_wp2_with fail
    refine (kM.out _ (below_alc2 w _ _)).mono ?_
    rintro e w1 ⟨rfl, hb1⟩
    obtain ⟨x0, x1, x2, x3, x4⟩ := hq.out _ hb1
    have hb1' := Lib.hid hb1
    clear hb1
    go_wp2_with fail
    refine (kT.out _ x4).mono ?_
    rintro e w2 ⟨rfl, hb2⟩
    have hb2' := Lib.hid (belT hb1'.out hb2)
    obtain ⟨y0, y1, y2, y3, y4⟩ := hq.out _ hb2'.out
    clear hb2 x0 x1 x2 x3 x4
    go_wp2_with fail
    exact bodyPost_ret (v := .tuple #[.agg #[.slice none 0 0], .int .i64 900]) (by simp [results, Tryd.results14, go_sem, y1, y2]) rfl (hno.out _ (by (repeat' (first | with_reducible exact Below.refl _ _ | with_reducible assumption | with_reducible apply Below.setCell | with_reducible apply Below.alloc | with_reducible apply Below.drew | with_reducible apply below_drewN | with_reducible exact Nat.le_refl _ | (simp; done) | (simp; omega) | omega | exact Nat.le_refl _))))
  · rw [hbv] at kM
    rw [htv] at kT
    have kF := Lib.hid fun (W : World) (hb : Below w.heap.size w W) => typeOf_any a n c xs a2 n2 c2 ts W (Lib.hid (h.out.below hb)) (Lib.hid (h2.out.below hb)) hbv htv
    have hno := Lib.hid fun (w' : World) (hf : (tfP xs ts).fits = false) => sub_no (xs := xs) (ts := ts) (w := w) (w' := w') (by rw [hbv, htv]; exact hf)
    have hyes := Lib.hid fun (hf : (tfP xs ts).fits = true) => (show subT xs ts = tfL xs ts ∧ subE xs ts = 0 from ⟨by
      unfold subT tfL; rw [hbv, htv]; rfl, by unfold subE; rw [hbv, htv]; show (if (tfP xs ts).fits = true then (0 : Int) else 900) = 0; rw [hf]; rfl⟩)
    unfold TfPost at kF
    generalize tfL xs ts = L at kF hyes
    generalize (tfP xs ts).fits = C at kF hno hyes
    clear hbv htv
    go_enter Tryd.func14, Tryd.ntmps14
    go_wp2_with fail
    refine (kM.out _ (below_alc2 w _ _)).mono ?_
    rintro e w1 ⟨rfl, hb1⟩
    obtain ⟨x0, x1, x2, x3, x4⟩ := hq.out _ hb1
    have hB1 := Lib.hid hb1
    clear hb1
    go_wp2_with fail
    refine (kT.out _ x4).mono ?_
    rintro e w2 ⟨rfl, hb2⟩
    have hB2 := Lib.hid (belT hB1.out hb2)
    obtain ⟨y0, y1, y2, y3, y4⟩ := hq.out _ hB2.out
    clear hb2 x0 x1 x2 x3 x4
    go_wp2_with fail
    refine (kF.out _ y4).mono ?_
    rintro e w3 ⟨v3, rfl, hv3, hb3⟩
    have hB3 := Lib.hid (belT hB2.out hb3)
    have hz3 := hb3.size
    have hv3' := Lib.hid hv3
    obtain ⟨va, vn, vc, rfl⟩ := ownT_sl hv3
    have hy3 := Lib.hid y3
    clear hb3 hv3 y0 y1 y2 y3 y4
    obtain ⟨y0, y1, y2, y3, y4⟩ := hq.out _ hB3.out
    cases C
    · have hno' := Lib.hid fun (w' : World) => hno.out w' rfl
      go_wp2_with fail
      exact bodyPost_ret (v := .tuple #[.agg #[.slice none 0 0], .int .i64 900]) (by simp [results, Tryd.results14, go_sem, y1, y2, y3]) rfl (hno'.out _ (by (repeat' (first | with_reducible exact Below.refl _ _ | with_reducible assumption | with_reducible apply Below.setCell | with_reducible apply Below.alloc | with_reducible apply Below.drew | with_reducible apply below_drewN | with_reducible exact Nat.le_refl _ | (simp; done) | (simp; omega) | omega | exact Nat.le_refl _))))
    · obtain ⟨z1, z2⟩ := hyes.out rfl
      have hpost : Hid (∀ W v, OwnT w.heap.size W v L → Below w.heap.size w W → SubPost xs ts w (.returned (.tuple #[.agg #[v], .int .i64 0])) W) := Lib.hid fun W v hv hb => ⟨v, by rw [z2], by rw [z1]; exact hv, hb⟩
      clear z1 z2 hyes hno
      go_wp2_with fail
      exact bodyPost_ret (v := .tuple #[.agg #[.slice va vn vc], .int .i64 0]) (by simp [results, Tryd.results14, go_sem, y1, y2, y3]) rfl (hpost.out _ _ (ownT_le (OwnT.below (ownT_put hv3'.out (show w.heap.size + 1 < w2.heap.size from hy3.out)) (below_alc _ _)) (show w.heap.size ≤ w2.heap.size by have := hy3.out; omega)) (by (repeat' (first | with_reducible exact Below.refl _ _ | with_reducible assumption | with_reducible apply Below.setCell | with_reducible apply Below.alloc | with_reducible apply Below.drew | with_reducible apply below_drewN | with_reducible exact Nat.le_refl _ | (simp; done) | (simp; omega) | omega | exact Nat.le_refl _))))
end Go.Proofs.YtfkdcconmecaoaaDoor
