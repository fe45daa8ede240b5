/- The reference's SubstType, SubstRow. -/
import Derived.Test.YtjhmdobmbajcgaaRcA
import Derived.Test.YtjhmdobmbajcgaaRbB
import Derived.Test.YtjhmdobmbajcgaaSbF
namespace Go.Proofs.Ytjhmdobmbajcgaa
open Go.RowKit Go.Maps
set_option linter.unusedVariables false
set_option linter.unusedSimpArgs false

theorem rrowMay_r (r : Rw) (w : World) : Calls Try.prog 36 #[.agg #[.int .i64 r.a, .int .i64 r.b, .int .i64 r.c, .int .i64 r.d, .int .i64 r.t]] w fun e w' => e = .returned (.bool r.may) ∧ Below w.heap.size w w' := rRowMay_any _ _ _ _ _ _
set_option maxRecDepth 100000 in
set_option maxHeartbeats 4000000 in
theorem rsubType_any (a a2 : Option Addr) (n c n2 c2 : Nat) (xs : List Bn) (ts : List Ty) (w : World) (h : Hid (BnArg w a n xs)) (h2 : Hid (TyArg w a2 n2 ts)) (hl : n ≤ 140737488351232) (hl2 : n2 ≤ 140737488351232) :
    Calls Try.prog 15 #[.slice a n c, .agg #[.slice a2 n2 c2]] w (SubPost xs ts w) := by
  have kM := Lib.hid fun (W : World) (hb : Below w.heap.size w W) => rbinds_any a n c xs W (Lib.hid (h.out.below hb)) hl
  have kT := Lib.hid fun (W : World) (hb : Below w.heap.size w W) => rTyMay_any a2 n2 c2 ts W (Lib.hid (h2.out.below hb)) hl2
  have hq := Lib.hid fun (W : World) (hb : Below ((w.alloc (.cells #[.slice a2 n2 c2] 25)).alloc (.cells #[.slice none 0 0] 25)).heap.size ((w.alloc (.cells #[.slice a2 n2 c2] 25)).alloc (.cells #[.slice none 0 0] 25)) W) =>
    (show W.cell? ⟨w.heap.size, 0, none⟩ = some (.slice a2 n2 c2) ∧ W.cell? ⟨w.heap.size + 1, 0, none⟩ = some (.slice none 0 0) ∧ W.frozen? ⟨w.heap.size + 1, 0, none⟩ = false ∧ w.heap.size + 1 < W.heap.size ∧ Below w.heap.size w W from
      ⟨by rw [hb.cell (p := ⟨w.heap.size, 0, none⟩) (by simp; omega)]; simp, by rw [hb.cell (p := ⟨w.heap.size + 1, 0, none⟩) (by simp)]; simp, by rw [hb.frozen (p := ⟨w.heap.size + 1, 0, none⟩) (by simp)]; simp [go_sem], by have := hb.size; simp at this; omega, (below_alc2 w _ _).trans (hb.mono (by simp; omega))⟩)
  cases hbv : bsV xs
  · rw [hbv] at kM
    have hno := Lib.hid fun (w' : World) => sub_no (xs := xs) (ts := ts) (w := w) (w' := w') (by rw [hbv]; rfl)
    clear hbv kT
    go_enter Try.func15, Try.ntmps15
    go_wp2_with fail
    refine (kM.out _ (below_alc2 w _ _)).mono ?_
    rintro e w1 ⟨rfl, hb1⟩
    obtain ⟨y0, y1, y2, y3, y4⟩ := hq.out _ hb1
    clear hb1
    go_wp2_with fail
    exact bodyPost_ret (v := .tuple #[.agg #[.slice none 0 0], .int .i64 900]) (by simp [results, Try.results15, go_sem, y1, y2]) rfl (hno.out _ (by (repeat' (first | with_reducible exact Below.refl _ _ | with_reducible assumption | with_reducible apply Below.setCell | with_reducible apply Below.alloc | with_reducible apply Below.drew | with_reducible apply below_drewN | with_reducible exact Nat.le_refl _ | (simp; done) | (simp; omega) | omega | exact Nat.le_refl _))))
  cases htv : tyV ts
  · rw [hbv] at kM
    rw [htv] at kT
    have hno := Lib.hid fun (w' : World) => sub_no (xs := xs) (ts := ts) (w := w) (w' := w') (by rw [hbv, htv]; rfl)
    clear hbv htv
    go_enter Try.func15, Try.ntmps15
    go_wp2_with fail
    refine (kM.out _ (below_alc2 w _ _)).mono ?_
    rintro e w1 ⟨rfl, hb1⟩
    obtain ⟨x0, x1, x2, x3, x4⟩ := hq.out _ hb1
    have hb1' := Lib.hid hb1
    clear hb1
    go_wp2_with fail
    refine (kT.out _ x4).mono ?_
    rintro e w2 ⟨rfl, hb2⟩
    have hb2' := Lib.hid (belT hb1'.out hb2)
    obtain ⟨y0, y1, y2, y3, y4⟩ := hq.out _ hb2'.out
    clear hb2 x0 x1 x2 x3 x4
    go_wp2_with fail
    exact bodyPost_ret (v := .tuple #[.agg #[.slice none 0 0], .int .i64 900]) (by simp [results, Try.results15, go_sem, y1, y2]) rfl (hno.out _ (by (repeat' (first | with_reducible exact Below.refl _ _ | with_reducible assumption | with_reducible apply Below.setCell | with_reducible apply Below.alloc | with_reducible apply Below.drew | with_reducible apply below_drewN | with_reducible exact Nat.le_refl _ | (simp; done) | (simp; omega) | omega | exact Nat.le_refl _))))
  · rw [hbv] at kM
    rw [htv] at kT
    have kF := Lib.hid fun (W : World) (hb : Below w.heap.size w W) => typeOf_any a n c xs a2 n2 c2 ts W (Lib.hid (h.out.below hb)) (Lib.hid (h2.out.below hb)) hbv htv
    have hno := Lib.hid fun (w' : World) (hf : (tfP xs ts).fits = false) => sub_no (xs := xs) (ts := ts) (w := w) (w' := w') (by rw [hbv, htv]; exact hf)
    have hyes := Lib.hid fun (hf : (tfP xs ts).fits = true) => (show subT xs ts = tfL xs ts ∧ subE xs ts = 0 from ⟨by
      unfold subT tfL; rw [hbv, htv]; rfl, by unfold subE; rw [hbv, htv]; show (if (tfP xs ts).fits = true then (0 : Int) else 900) = 0; rw [hf]; rfl⟩)
    unfold TfPost at kF
    generalize tfL xs ts = L at kF hyes
    generalize (tfP xs ts).fits = C at kF hno hyes
    clear hbv htv
    go_enter Try.func15, Try.ntmps15
    go_wp2_with fail
    refine (kM.out _ (below_alc2 w _ _)).mono ?_
    rintro e w1 ⟨rfl, hb1⟩
    obtain ⟨x0, x1, x2, x3, x4⟩ := hq.out _ hb1
    have hB1 := Lib.hid hb1
    clear hb1
    go_wp2_with fail
    refine (kT.out _ x4).mono ?_
    rintro e w2 ⟨rfl, hb2⟩
    have hB2 := Lib.hid (belT hB1.out hb2)
    obtain ⟨y0, y1, y2, y3, y4⟩ := hq.out _ hB2.out
    clear hb2 x0 x1 x2 x3 x4
    go_wp2_with fail
    refine (kF.out _ y4).mono ?_
    rintro e w3 ⟨v3, rfl, hv3, hb3⟩
    have hB3 := Lib.hid (belT hB2.out hb3)
    have hz3 := hb3.size
    have hv3' := Lib.hid hv3
    obtain ⟨va, vn, vc, rfl⟩ := ownT_sl hv3
    have hy3 := Lib.hid y3
    clear hb3 hv3 y0 y1 y2 y3 y4
    obtain ⟨y0, y1, y2, y3, y4⟩ := hq.out _ hB3.out
    cases C
    · have hno' := Lib.hid fun (w' : World) => hno.out w' rfl
      go_wp2_with fail
      exact bodyPost_ret (v := .tuple #[.agg #[.slice none 0 0], .int .i64 900]) (by simp [results, Try.results15, go_sem, y1, y2, y3]) rfl (hno'.out _ (by (repeat' (first | with_reducible exact Below.refl _ _ | with_reducible assumption | with_reducible apply Below.setCell | with_reducible apply Below.alloc | with_reducible apply Below.drew | with_reducible apply below_drewN | with_reducible exact Nat.le_refl _ | (simp; done) | (simp; omega) | omega | exact Nat.le_refl _))))
    · obtain ⟨z1, z2⟩ := hyes.out rfl
      have hpost : Hid (∀ W v, OwnT w.heap.size W v L → Below w.heap.size w W → SubPost xs ts w (.returned (.tuple #[.agg #[v], .int .i64 0])) W) := Lib.hid fun W v hv hb => ⟨v, by rw [z2], by rw [z1]; exact hv, hb⟩
      clear z1 z2 hyes hno
      go_wp2_with fail
      exact bodyPost_ret (v := .tuple #[.agg #[.slice va vn vc], .int .i64 0]) (by simp [results, Try.results15, go_sem, y1, y2, y3]) rfl (hpost.out _ _ (ownT_le (OwnT.below (ownT_put hv3'.out (show w.heap.size + 1 < w2.heap.size from hy3.out)) (below_alc _ _)) (show w.heap.size ≤ w2.heap.size by have := hy3.out; omega)) (by (repeat' (first | with_reducible exact Below.refl _ _ | with_reducible assumption | with_reducible apply Below.setCell | with_reducible apply Below.alloc | with_reducible apply Below.drew | with_reducible apply below_drewN | with_reducible exact Nat.le_refl _ | (simp; done) | (simp; omega) | omega | exact Nat.le_refl _))))
set_option maxRecDepth 100000 in
set_option maxHeartbeats 4000000 in
theorem rsubRow_any (a : Option Addr) (n c : Nat) (xs : List Bn) (r : Rw) (w : World) (h : Hid (BnArg w a n xs)) (hl : n ≤ 140737488351232) :
    Calls Try.prog 17 #[.slice a n c, rwV r] w (SubRPost xs r w) := by
  have kM := Lib.hid fun (W : World) (hb : Below w.heap.size w W) => rbinds_any a n c xs W (Lib.hid (h.out.below hb)) hl
  have kT := Lib.hid fun (W : World) => rrowMay_r r W
  have hq := Lib.hid fun (W : World) (hb : Below ((w.alloc (.cells #[.int .i64 r.a, .int .i64 r.b, .int .i64 r.c, .int .i64 r.d, .int .i64 r.t] 28)).alloc (.cells #[.int .i64 0, .int .i64 0, .int .i64 0, .int .i64 0, .int .i64 0] 28)).heap.size ((w.alloc (.cells #[.int .i64 r.a, .int .i64 r.b, .int .i64 r.c, .int .i64 r.d, .int .i64 r.t] 28)).alloc (.cells #[.int .i64 0, .int .i64 0, .int .i64 0, .int .i64 0, .int .i64 0] 28)) W) =>
    (show RowAt W w.heap.size r ∧ RC (w.heap.size + 1) 0 0 0 0 0 W ∧ Below w.heap.size w W from
      ⟨RowAt.below (RowAt.alloc _ (row_lit w _ _ r rfl)) hb, RC.below ⟨by simp, by simp, by simp, by simp, by simp, by simp [go_sem], by simp⟩ hb, (below_alc2 w _ _).trans (hb.mono (by simp; omega))⟩)
  unfold rwV
  cases hbv : bsV xs
  · rw [hbv] at kM
    have hno := Lib.hid fun (w' : World) => subR_no (xs := xs) (r := r) (w := w) (w' := w') (by rw [hbv]; rfl)
    clear hbv kT
    go_enter Try.func17, Try.ntmps17
    go_wp2_with fail
    refine (kM.out _ (below_alc2 w _ _)).mono ?_
    rintro e w1 ⟨rfl, hb1⟩
    obtain ⟨_, ⟨d0, d1, d2, d3, d4, d5, d6⟩, y4⟩ := hq.out _ hb1
    have t0 := d5 0; have t1 := d5 1; have t2 := d5 2; have t3 := d5 3; have t4 := d5 4
    clear hb1 d5
    go_wp2_with fail
    exact bodyPost_ret (v := .tuple #[.agg #[.int .i64 0, .int .i64 0, .int .i64 0, .int .i64 0, .int .i64 0], .int .i64 900]) (by simp [results, Try.results17, go_sem, *]) rfl (hno.out _ (by (repeat' (first | with_reducible exact Below.refl _ _ | with_reducible assumption | with_reducible apply Below.setCell | with_reducible apply Below.alloc | with_reducible apply Below.drew | with_reducible apply below_drewN | with_reducible exact Nat.le_refl _ | (simp; done) | (simp; omega) | omega | exact Nat.le_refl _))))
  cases htv : r.may
  · rw [hbv] at kM
    rw [htv] at kT
    have hno := Lib.hid fun (w' : World) => subR_no (xs := xs) (r := r) (w := w) (w' := w') (by rw [hbv, htv]; rfl)
    clear hbv htv
    go_enter Try.func17, Try.ntmps17
    go_wp2_with fail
    refine (kM.out _ (below_alc2 w _ _)).mono ?_
    rintro e w1 ⟨rfl, hb1⟩
    obtain ⟨⟨r0, r1, r2, r3, r4, r5⟩, _, y4⟩ := hq.out _ hb1
    have hB1 := Lib.hid hb1
    clear hb1
    go_wp2_with fail
    refine (kT.out _).mono ?_
    rintro e w2 ⟨rfl, hb2⟩
    have hB2 := Lib.hid (belT hB1.out hb2)
    clear hb2 r0 r1 r2 r3 r4 r5
    obtain ⟨_, ⟨d0, d1, d2, d3, d4, d5, d6⟩, y5⟩ := hq.out _ hB2.out
    have t0 := d5 0; have t1 := d5 1; have t2 := d5 2; have t3 := d5 3; have t4 := d5 4
    clear d5
    go_wp2_with fail
    exact bodyPost_ret (v := .tuple #[.agg #[.int .i64 0, .int .i64 0, .int .i64 0, .int .i64 0, .int .i64 0], .int .i64 900]) (by simp [results, Try.results17, go_sem, *]) rfl (hno.out _ (by (repeat' (first | with_reducible exact Below.refl _ _ | with_reducible assumption | with_reducible apply Below.setCell | with_reducible apply Below.alloc | with_reducible apply Below.drew | with_reducible apply below_drewN | with_reducible exact Nat.le_refl _ | (simp; done) | (simp; omega) | omega | exact Nat.le_refl _))))
  · rw [hbv] at kM
    rw [htv] at kT
    have kF := Lib.hid fun (W : World) (hb : Below w.heap.size w W) => rowOf_any a n c xs r W (Lib.hid (h.out.below hb)) hbv htv
    have hno := Lib.hid fun (w' : World) (hf : (putR (rhB xs) r).cnt = false) => subR_no (xs := xs) (r := r) (w := w) (w' := w') (by rw [hbv, htv, hf]; rfl)
    have hyes := Lib.hid fun (w' : World) (hf : (putR (rhB xs) r).cnt = true) (hb : Below w.heap.size w w') => (show SubRPost xs r w (.returned (.tuple #[rwV (roV xs r), .int .i64 0])) w' from ⟨by
      unfold subR subRE roV; rw [hbv, htv, hf]; rfl, hb⟩)
    unfold RoPost at kF
    generalize roV xs r = V at kF hyes
    generalize (putR (rhB xs) r).cnt = C at kF hno hyes
    unfold rwV at kF hyes
    clear hbv htv
    go_enter Try.func17, Try.ntmps17
    go_wp2_with fail
    refine (kM.out _ (below_alc2 w _ _)).mono ?_
    rintro e w1 ⟨rfl, hb1⟩
    obtain ⟨⟨r0, r1, r2, r3, r4, r5⟩, _, y4⟩ := hq.out _ hb1
    have hB1 := Lib.hid hb1
    clear hb1
    go_wp2_with fail
    refine (kT.out _).mono ?_
    rintro e w2 ⟨rfl, hb2⟩
    have hB2 := Lib.hid (belT hB1.out hb2)
    clear hb2 r0 r1 r2 r3 r4 r5 y4
    obtain ⟨⟨r0, r1, r2, r3, r4, r5⟩, _, y4⟩ := hq.out _ hB2.out
    go_wp2_with fail
    refine (kF.out _ y4).mono ?_
    rintro e w3 ⟨rfl, hb3⟩
    have hB3 := Lib.hid (belT hB2.out hb3)
    clear hb3 r0 r1 r2 r3 r4 r5 y4
    obtain ⟨_, ⟨d0, d1, d2, d3, d4, d5, d6⟩, y5⟩ := hq.out _ hB3.out
    have t0 := d5 0; have t1 := d5 1; have t2 := d5 2; have t3 := d5 3; have t4 := d5 4
    clear d5
    cases C
    · have hno' := Lib.hid fun (w' : World) => hno.out w' rfl
      go_wp2_with fail
      exact bodyPost_ret (v := .tuple #[.agg #[.int .i64 0, .int .i64 0, .int .i64 0, .int .i64 0, .int .i64 0], .int .i64 900]) (by simp [results, Try.results17, go_sem, *]) rfl (hno'.out _ (by (repeat' (first | with_reducible exact Below.refl _ _ | with_reducible assumption | with_reducible apply Below.setCell | with_reducible apply Below.alloc | with_reducible apply Below.drew | with_reducible apply below_drewN | with_reducible exact Nat.le_refl _ | (simp; done) | (simp; omega) | omega | exact Nat.le_refl _))))
    · have hyes' := Lib.hid fun (w' : World) => hyes.out w' rfl
      go_wp2_with fail
      exact bodyPost_ret (v := .tuple #[.agg #[.int .i64 V.a, .int .i64 V.b, .int .i64 V.c, .int .i64 V.d, .int .i64 V.t], .int .i64 0]) (by simp [results, Try.results17, go_sem, *]) rfl (hyes'.out _ (by (repeat' (first | with_reducible exact Below.refl _ _ | with_reducible assumption | with_reducible apply Below.setCell | with_reducible apply Below.alloc | with_reducible apply Below.drew | with_reducible apply below_drewN | with_reducible exact Nat.le_refl _ | (simp; done) | (simp; omega) | omega | exact Nat.le_refl _))))
end Go.Proofs.Ytjhmdobmbajcgaa
