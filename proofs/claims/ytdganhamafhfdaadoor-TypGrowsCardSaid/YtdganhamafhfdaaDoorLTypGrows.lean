/- TypGrows holds for every two types and every row. No condition but that the listed package variables hold what the program's text lays. -/
import Derived.Test.YtdganhamafhfdaaDoorCards
import Derived.Test.YtdganhamafhfdaaDoorTie
import Derived.Test.YtdganhamafhfdaaDoorOpn
import Derived.Test.YtdganhamafhfdaaDoorCrd
import Derived.WalkKit
import Derived.ProofKit
import Derived.Deep.DeepHandedRow
import Derived.Test.YtdganhamafhfdaaDoorEqA
import Derived.Test.YtdganhamafhfdaaDoorTyI
import Derived.Test.YtdganhamafhfdaaDoorAw7
namespace Go.Proofs.YtdganhamafhfdaaDoor.typGrows
open Go.ChangeShapes Go.WideShapes Go.ChangeAt Go.RowKit
open Go.ChangeMaps (open_string shut_string)
set_option linter.unusedVariables false
set_option linter.unusedSimpArgs false

theorem tabs {W : World} (h : laidMetH Tryd.prog Rows.typGrowsRow.laid W) : Hid (TabW W) := by
  have hm : ("internal/strconv.uint64pow10", (Rows.laid_internal_strconv_uint64pow10 : DataW Unit)) ∈ Rows.typGrowsRow.laid := .tail _ (.tail _ (.head _))
  rw [show (Rows.laid_internal_strconv_uint64pow10 : DataW Unit) = Lib.tabData .u64 Lib.pow10Tab from by kernel_rfl] at hm
  exact Lib.hid (tabIs_of_mem gPow (t := 211) (e := 166) (n := 20) (by kernel_rfl) Tryd.underlying211 Tryd.underlying166 (by kernel_rfl) (by kernel_rfl) h hm)

theorem num_b (e : Int) (w : World) (h0 : 0 ≤ e) (h1 : e ≤ 9223372036854775807) :
    Calls Tryd.prog 24 #[.int .i64 e] w fun r w' => r = .returned (.int .i64 e) ∧ w' = w := num_q e w h0 h1
set_option maxRecDepth 100000 in
set_option maxHeartbeats 8000000 in
theorem walk {H : Type} {enc : TypeId × Value → H} (p0 : Option Addr) (n0 c0 : Nat) (p1 : Option Addr) (n1 c1 : Nat) (r0 r1 r2 r3 r4 : Int) (w : World)
    (f0 : ∃ fuel y, DataW.trod enc Tryd.prog w 0 (fun _ => true) true fuel 22 [.slice p0 n0 c0] = some y ∧ ∀ x ∈ DataW.weights Tryd.prog 22 y.1, x ≤ reachBytes)
    (f1 : ∃ fuel y, DataW.trod enc Tryd.prog w 0 (fun _ => true) true fuel 22 [.slice p1 n1 c1] = some y ∧ ∀ x ∈ DataW.weights Tryd.prog 22 y.1, x ≤ reachBytes) (hr0 : -9223372036854775808 ≤ r0 ∧ r0 ≤ 9223372036854775807) (hr1 : -9223372036854775808 ≤ r1 ∧ r1 ≤ 9223372036854775807) (hr2 : -9223372036854775808 ≤ r2 ∧ r2 ≤ 9223372036854775807) (hr3 : -9223372036854775808 ≤ r3 ∧ r3 ≤ 9223372036854775807) (hr4 : -9223372036854775808 ≤ r4 ∧ r4 ≤ 9223372036854775807) (hT : Hid (TabW w)) :
    Calls Tryd.prog 6 #[.agg #[.slice p0 n0 c0], .agg #[.slice p1 n1 c1], .agg #[.int .i64 r0, .int .i64 r1, .int .i64 r2, .int .i64 r3, .int .i64 r4]] w fun e w' => e = .returned (.bool true) ∧ Below w.heap.size w w' := by
  obtain ⟨_, _, t, t'⟩ := f0
  obtain ⟨hl0, ts, hA⟩ := ty_open t t'
  clear t t'
  obtain ⟨_, _, t, t'⟩ := f1
  obtain ⟨hl1, us, hU⟩ := ty_open t t'
  clear t t' hr0 hr1 hr2 hr3 hr4
  have hA := Lib.hid hA
  have hU := Lib.hid hU
  go_enter Tryd.func6, Tryd.ntmps6
  go_wp2_with fail
  refine (awake7_any _ (Lib.hid (tab_keep hT.out (show Below w.heap.size w _ from by (repeat' (first | with_reducible exact Below.refl _ _ | with_reducible assumption | with_reducible apply Below.setCell | with_reducible apply Below.alloc | with_reducible apply Below.drew | with_reducible apply below_drewN | with_reducible exact Nat.le_refl _ | (simp; done) | (simp; omega) | omega | exact Nat.le_refl _))) (Nat.le_refl _)))).mono ?_
  rintro e w1 ⟨rfl, hb1⟩
  have hX := Lib.hid (show BoxAt w1 w.heap.size (.slice p0 n0 c0) from BoxAt.below (by exact BoxAt.alloc _ (BoxAt.alloc _ (box_lit _ _ _ _ rfl))) hb1)
  have hY := Lib.hid (show BoxAt w1 (w.heap.size + 1) (.slice p1 n1 c1) from BoxAt.below (by exact BoxAt.alloc _ (box_lit _ _ _ _ (by simp))) hb1)
  have hZ := Lib.hid (show RowAt w1 (w.heap.size + 1 + 1) ⟨r0, r1, r2, r3, r4⟩ from RowAt.below (by exact row_lit _ _ _ ⟨r0, r1, r2, r3, r4⟩ (by simp)) hb1)
  have hA := Lib.hid (TyArg.below (by exact TyArg.alloc _ (TyArg.alloc _ (TyArg.alloc _ hA.out))) hb1)
  have hU := Lib.hid (TyArg.below (by exact TyArg.alloc _ (TyArg.alloc _ (TyArg.alloc _ hU.out))) hb1)
  have hB := Lib.hid (belT (show Below w.heap.size w _ from by (repeat' (first | with_reducible exact Below.refl _ _ | with_reducible assumption | with_reducible apply Below.setCell | with_reducible apply Below.alloc | with_reducible apply Below.drew | with_reducible apply below_drewN | with_reducible exact Nat.le_refl _ | (simp; done) | (simp; omega) | omega | exact Nat.le_refl _))) hb1)
  clear hb1
  obtain ⟨x0, x1⟩ := hX.out
  obtain ⟨y0, y1⟩ := hY.out
  obtain ⟨z0, z1, z2, z3, z4, z5⟩ := hZ.out
  simp only [] at z1 z2 z3 z4 z5
  go_wp2_with fail
  clear x0 x1 y0 y1 z0 z1 z2 z3 z4 z5
  refine (fun_any _ _ _ ⟨r0, r1, r2, r3, r4⟩ _ _ _ ts us _ hA hU (by omega) (by omega)).mono ?_
  rintro e w2 ⟨v, rfl, hv, hb⟩
  obtain ⟨a2, m2, d2, rfl⟩ := ownT_sl hv
  cases hok : funOk ts ⟨r0, r1, r2, r3, r4⟩ us
  · have hm2 : m2 = 0 := by
      have := hv.arg.1
      unfold funT at this
      rw [hok] at this
      simpa using this
    rw [show funE ts ⟨r0, r1, r2, r3, r4⟩ us = 700 from by unfold funE; rw [hok]; rfl]
    subst hm2
    have hB := Lib.hid (belA (.cells #[.slice a2 0 d2] 24) (belT hB.out hb))
    clear hb hv hok
    go_wp2_with ((go_at_call 24; refine (num_any _ _ (by omega) (by omega)).mono ?_; rintro e w' ⟨rfl, rfl⟩))
    go_ret
    exact ⟨rfl, hB.out⟩
  · obtain ⟨k1, k2, k3, k4, k5⟩ := arw_V hok
    obtain ⟨e1, e2⟩ := fun_yes hok
    rw [e1]
    rw [e2] at hv
    have hg := Lib.hid (fun A B C D X Y hA hB hC hD hX hY => gr_yes hok (A := A) (B := B) (C := C) (D := D) (X := X) (Y := Y) hA hB hC hD hX hY)
    generalize arwL ts ⟨r0, r1, r2, r3, r4⟩ us = F at hv k3 k4 k5 hg
    have hn0 := hA.out.1
    have hn1 := hU.out.1
    obtain rfl : m2 = n0 + n1 + 1 := by have := hv.arg.1; omega
    have hl2 : n0 + n1 + 1 ≤ 256 := by have := tyV_le k3; omega
    have hF := Lib.hid (hv.arg.alloc (.cells #[.slice a2 (n0 + n1 + 1) d2] 24))
    have hW := Lib.hid (box_lit w2 24 w2.heap.size (.slice a2 (n0 + n1 + 1) d2) rfl)
    have hX := Lib.hid ((hX.out.below hb).alloc (.cells #[.slice a2 (n0 + n1 + 1) d2] 24))
    have hY := Lib.hid ((hY.out.below hb).alloc (.cells #[.slice a2 (n0 + n1 + 1) d2] 24))
    have hA := Lib.hid ((hA.out.below hb).alloc (.cells #[.slice a2 (n0 + n1 + 1) d2] 24))
    have hU := Lib.hid ((hU.out.below hb).alloc (.cells #[.slice a2 (n0 + n1 + 1) d2] 24))
    have hB := Lib.hid (belA (.cells #[.slice a2 (n0 + n1 + 1) d2] 24) (belT hB.out hb))
    have htA := (tvs_len (treeOf ts) []).2
    have htB := (rvs_len (treeOf ts) []).2
    have htC := (tvs_len (treeOf us) []).2
    have htD := (rvs_len (treeOf us) []).2
    have s1 := (tyV_of k1).2.2.2.1
    have s2 := (tyV_of k2).2.2.2.1
    have vA := Lib.hid (fun (W : World) h => vars_any p0 n0 c0 ts W h (by omega))
    have vU := Lib.hid (fun (W : World) h => vars_any p1 n1 c1 us W h (by omega))
    have vF := Lib.hid (fun (W : World) h => vars_any a2 (n0 + n1 + 1) d2 F W h (by omega))
    have kF := Lib.hid (fun (W : World) h => tyMay_any a2 (n0 + n1 + 1) d2 F W h (by omega))
    unfold VarsPost at vA vU vF
    rw [k1] at vA
    rw [k2] at vU
    rw [k3] at vF kF
    simp only [if_true] at vA vU vF
    obtain ⟨A, qA⟩ : ∃ A, tvs (treeOf ts) [] = A := ⟨_, rfl⟩
    obtain ⟨B, qB⟩ : ∃ A, rvs (treeOf ts) [] = A := ⟨_, rfl⟩
    obtain ⟨C, qC⟩ : ∃ A, tvs (treeOf us) [] = A := ⟨_, rfl⟩
    obtain ⟨D, qD⟩ : ∃ A, rvs (treeOf us) [] = A := ⟨_, rfl⟩
    obtain ⟨X, qX⟩ : ∃ A, tvs (treeOf F) [] = A := ⟨_, rfl⟩
    obtain ⟨Y, qY⟩ : ∃ A, rvs (treeOf F) [] = A := ⟨_, rfl⟩
    obtain ⟨⟨g1, g2, g3⟩, g4, g5, g6⟩ := hg.out A B C D X Y qA qB qC qD qX qY
    rw [qA] at vA htA
    rw [qB] at vA htB
    rw [qC] at vU htC
    rw [qD] at vU htD
    rw [qX] at vF
    rw [qY] at vF
    simp only [List.length_nil, Nat.zero_add] at htA htB htC htD
    obtain ⟨lA, qA'⟩ : ∃ n, A.length = n := ⟨_, rfl⟩
    obtain ⟨lB, qB'⟩ : ∃ n, B.length = n := ⟨_, rfl⟩
    obtain ⟨lC, qC'⟩ : ∃ n, C.length = n := ⟨_, rfl⟩
    obtain ⟨lD, qD'⟩ : ∃ n, D.length = n := ⟨_, rfl⟩
    obtain ⟨lX, qX'⟩ : ∃ n, X.length = n := ⟨_, rfl⟩
    obtain ⟨lY, qY'⟩ : ∃ n, Y.length = n := ⟨_, rfl⟩
    rw [qA'] at g1 g2 g3 htA
    rw [qX'] at g1 g3
    rw [qC'] at g3 htC
    rw [qB'] at g4 g5 g6 htB
    rw [qY'] at g4 g6
    rw [qD'] at g6 htD
    have hid1 := Lib.hid (show (A.length = lA ∧ B.length = lB) ∧ (C.length = lC ∧ D.length = lD) ∧ (X.length = lX ∧ Y.length = lY) ∧ X.take lA = A ∧ Y.take lB = B from ⟨⟨qA', qB'⟩, ⟨qC', qD'⟩, ⟨qX', qY'⟩, g2, g5⟩)
    clear qA' qB' qC' qD' qX' qY' g2 g5
    clear qA qB qC qD qX qY hg k1 k2 k3 k4 k5 e1 e2 hok hv hb hn0 hn1
    obtain ⟨x0, x1⟩ := hX.out
    obtain ⟨y0, y1⟩ := hY.out
    obtain ⟨z0, z1⟩ := hW.out
    go_wp2_with (first | (go_at_call 24; refine (num_any _ _ (by omega) (by omega)).mono ?_; rintro e w' ⟨rfl, rfl⟩))
    clear x0 x1 y0 y1 z0 z1
    refine (vA.out _ hA).mono ?_
    rintro e w3 ⟨u1, u2, rfl, hu1, hu2, _, hb⟩
    obtain ⟨aA, mA, dA, rfl⟩ := ownI_sl hu1
    obtain ⟨aB, mB, dB, rfl⟩ := ownI_sl hu2
    obtain rfl : mA = lA := by have := hu1.arg.1; have := hid1.out; omega
    obtain rfl : mB = lB := by have := hu2.arg.1; have := hid1.out; omega
    have hiA := Lib.hid hu1.arg
    have hiB := Lib.hid hu2.arg
    have hX := Lib.hid (hX.out.below hb)
    have hY := Lib.hid (hY.out.below hb)
    have hW := Lib.hid (hW.out.below hb)
    have hU := Lib.hid (hU.out.below hb)
    have hF := Lib.hid (hF.out.below hb)
    have hB := Lib.hid (belT hB.out hb)
    clear hb hu1 hu2
    obtain ⟨x0, x1⟩ := hX.out
    obtain ⟨y0, y1⟩ := hY.out
    obtain ⟨z0, z1⟩ := hW.out
    go_wp2_with (first | (go_at_call 24; refine (num_any _ _ (by omega) (by omega)).mono ?_; rintro e w' ⟨rfl, rfl⟩))
    clear x0 x1 y0 y1 z0 z1
    refine (vU.out _ hU).mono ?_
    rintro e w4 ⟨u1, u2, rfl, hu1, hu2, _, hb⟩
    obtain ⟨aC, mC, dC, rfl⟩ := ownI_sl hu1
    obtain ⟨aD, mD, dD, rfl⟩ := ownI_sl hu2
    obtain rfl : mC = lC := by have := hu1.arg.1; have := hid1.out; omega
    obtain rfl : mD = lD := by have := hu2.arg.1; have := hid1.out; omega
    have hiC := Lib.hid hu1.arg
    have hiD := Lib.hid hu2.arg
    have hX := Lib.hid (hX.out.below hb)
    have hY := Lib.hid (hY.out.below hb)
    have hW := Lib.hid (hW.out.below hb)
    have hF := Lib.hid (hF.out.below hb)
    have hiA := Lib.hid (hiA.out.below hb)
    have hiB := Lib.hid (hiB.out.below hb)
    have hB := Lib.hid (belT hB.out hb)
    clear hb hu1 hu2
    obtain ⟨x0, x1⟩ := hX.out
    obtain ⟨y0, y1⟩ := hY.out
    obtain ⟨z0, z1⟩ := hW.out
    go_wp2_with (first | (go_at_call 24; refine (num_any _ _ (by omega) (by omega)).mono ?_; rintro e w' ⟨rfl, rfl⟩))
    clear x0 x1 y0 y1 z0 z1
    refine (vF.out _ hF).mono ?_
    rintro e w5 ⟨u1, u2, rfl, hu1, hu2, _, hb⟩
    obtain ⟨aX, mX, dX, rfl⟩ := ownI_sl hu1
    obtain ⟨aY, mY, dY, rfl⟩ := ownI_sl hu2
    obtain rfl : mX = lX := by have := hu1.arg.1; have := hid1.out; omega
    obtain rfl : mY = lY := by have := hu2.arg.1; have := hid1.out; omega
    have hiX := Lib.hid hu1.arg
    have hiY := Lib.hid hu2.arg
    have hX := Lib.hid (hX.out.below hb)
    have hY := Lib.hid (hY.out.below hb)
    have hW := Lib.hid (hW.out.below hb)
    have hF := Lib.hid (hF.out.below hb)
    have hiA := Lib.hid (hiA.out.below hb)
    have hiB := Lib.hid (hiB.out.below hb)
    have hB := Lib.hid (belT hB.out hb)
    have cX : mX ≤ dX := by have := ownI_cap hu1; have := hid1.out; omega
    have cY : mY ≤ dY := by have := ownI_cap hu2; have := hid1.out; omega
    clear hb hu1 hu2
    have sl1 := is_to aX mX dX mA (by omega)
    have sl2 := is_to aY mY dY mB (by omega)
    obtain ⟨x0, x1⟩ := hX.out
    obtain ⟨y0, y1⟩ := hY.out
    obtain ⟨z0, z1⟩ := hW.out
    go_wp2_with (first | (go_at_call 24; refine (num_any _ _ (by omega) (by omega)).mono ?_; rintro e w' ⟨rfl, rfl⟩))
    clear x0 x1 y0 y1 z0 z1
    refine (sameInts_any _ _ _ _ _ _ A A _ (Lib.hid (isArg_pre hiX.out hid1.out.2.2.2.1 (by have := hid1.out; omega))) hiA (by omega)).mono ?_
    rintro e w6 ⟨rfl, hb⟩
    rw [decide_eq_true rfl]
    have hW := Lib.hid (hW.out.below hb)
    have hF := Lib.hid (hF.out.below hb)
    have hiB := Lib.hid (hiB.out.below hb)
    have hiY := Lib.hid (hiY.out.below hb)
    have hB := Lib.hid (belT hB.out hb)
    clear hb
    go_wp2_with fail
    refine (sameInts_any _ _ _ _ _ _ B B _ (Lib.hid (isArg_pre hiY.out hid1.out.2.2.2.2 (by have := hid1.out; omega))) hiB (by omega)).mono ?_
    rintro e w7 ⟨rfl, hb⟩
    rw [decide_eq_true rfl]
    have hW := Lib.hid (hW.out.below hb)
    have hF := Lib.hid (hF.out.below hb)
    have hB := Lib.hid (belT hB.out hb)
    clear hb
    obtain ⟨z0, z1⟩ := hW.out
    go_wp2_with fail
    clear z0 z1
    refine (kF.out _ hF).mono ?_
    rintro e w8 ⟨rfl, hb⟩
    have hB := Lib.hid (belT hB.out hb)
    clear hb
    go_wp2_with fail
    go_ret
    exact ⟨rfl, hB.out⟩
theorem own : ownKnob Tryd.prog.godebug = none := by kernel_rfl
theorem laidOut : laidOutB Tryd.prog = true := by kernel_rfl
set_option maxRecDepth 100000 in
theorem contract (H : Type) (enc : TypeId × Value → H) (W : World) (base : Nat) (args : Array Value) (ds gs : List (DataW H)) (before : List MemPlace)
    (hval0 : ∀ (j : Nat) t v, Tryd.f6.params[j]? = some t → args[j]? = some v → Value.okWide Tryd.prog W .any base t v)
    (hW : DataW.Whole enc Tryd.prog Tryd.f6.params.toList Rows.typGrowsSpec.vars false W args.toList ds gs before)
    (hsz0 : (DataW.weightsEach Tryd.prog (Tryd.f6.params.toList ++ Rows.typGrowsSpec.plain.varTypes Tryd.prog) (ds ++ gs)).all (· ≤ reachBytes) = true)
    (hL : laidMetH Tryd.prog Rows.typGrowsRow.laid W)
    : Calls Tryd.prog 6 args W fun e W' => ∃ v, e = .returned v ∧ Rows.typGrowsSpec.post enc Tryd.prog Tryd.f6 false true false false W args v W' := by
  have hval : ∀ (j : Nat) t v, Tryd.f6.params[j]? = some t → args[j]? = some v → Value.okWide Tryd.prog W .any base t v := hval0
  have hsz : (DataW.weightsEach Tryd.prog (Tryd.f6.params.toList ++ Rows.typGrowsSpec.plain.varTypes Tryd.prog) (ds ++ gs)).all (· ≤ reachBytes) = true := hsz0
  have hW' := hW
  obtain ⟨p, q, hA0, hV, rfl, hfz, hnd⟩ := hW
  have hA : DataW.TrodAll enc Tryd.prog W 0 (fun _ => true) true Tryd.f6.params.toList args.toList ds p := hA0
  rw [Tryd.params6] at hA hval hsz
  obtain ⟨v0, vs0, d0, ds0, p0, q0, hargs, rfl, rfl, h0, r0⟩ := trodAll_cons hA
  obtain ⟨v1, vs1, d1, ds1, p1, q1, rfl, rfl, rfl, h1, r1⟩ := trodAll_cons r0
  obtain ⟨v2, vs2, d2, ds2, p2, q2, rfl, rfl, rfl, h2, r2⟩ := trodAll_cons r1
  obtain ⟨rfl, rfl, rfl⟩ := trodAll_nil r2
  obtain rfl : args = #[v0, v1, v2] := by cases args; simp_all
  obtain ⟨rfl, rfl⟩ := trodVars_none hV
  have k0 := h0
  have lt0 : ∀ x ∈ p0, x.block < W.heap.size := by obtain ⟨m, hm⟩ := k0; exact DataW.trod_lt m _ _ _ hm
  obtain ⟨cs0_0, rfl, fit0_0⟩ := open_struct Tryd.underlying24 (f := 6) (by kernel_rfl : flat Tryd.prog 6 24 = some [.sl 22]) (hval 0 24 v0 rfl rfl) h0 (sized_of hsz (j := 0) (t := 24) rfl rfl)
  obtain ⟨_, cs0_1, rfl, ⟨a0_0, n0_0, c0_0, fu0_0, y0_0, rfl, f0_0, g0_0⟩, fit0_1⟩ := fit_i fit0_0
  obtain rfl := fit_nil fit0_1
  have k1 := h1
  have lt1 : ∀ x ∈ p1, x.block < W.heap.size := by obtain ⟨m, hm⟩ := k1; exact DataW.trod_lt m _ _ _ hm
  obtain ⟨cs1_0, rfl, fit1_0⟩ := open_struct Tryd.underlying24 (f := 6) (by kernel_rfl : flat Tryd.prog 6 24 = some [.sl 22]) (hval 1 24 v1 rfl rfl) h1 (sized_of hsz (j := 1) (t := 24) rfl rfl)
  obtain ⟨_, cs1_1, rfl, ⟨a1_0, n1_0, c1_0, fu1_0, y1_0, rfl, f1_0, g1_0⟩, fit1_1⟩ := fit_i fit1_0
  obtain rfl := fit_nil fit1_1
  have k2 := h2
  have lt2 : ∀ x ∈ p2, x.block < W.heap.size := by obtain ⟨m, hm⟩ := k2; exact DataW.trod_lt m _ _ _ hm
  obtain ⟨cs2_0, rfl, fit2_0⟩ := open_struct Tryd.underlying27 (f := 6) (by kernel_rfl : flat Tryd.prog 6 27 = some [.i .i64, .i .i64, .i .i64, .i .i64, .i .i64]) (hval 2 27 v2 rfl rfl) h2 (sized_of hsz (j := 2) (t := 27) rfl rfl)
  obtain ⟨_, cs2_1, rfl, ⟨a2_0, rfl, b2_0⟩, fit2_1⟩ := fit_i fit2_0
  obtain ⟨_, cs2_2, rfl, ⟨a2_1, rfl, b2_1⟩, fit2_2⟩ := fit_i fit2_1
  obtain ⟨_, cs2_3, rfl, ⟨a2_2, rfl, b2_2⟩, fit2_3⟩ := fit_i fit2_2
  obtain ⟨_, cs2_4, rfl, ⟨a2_3, rfl, b2_3⟩, fit2_4⟩ := fit_i fit2_3
  obtain ⟨_, cs2_5, rfl, ⟨a2_4, rfl, b2_4⟩, fit2_5⟩ := fit_i fit2_4
  obtain rfl := fit_nil fit2_5
  clear hA0 hval0
  refine (walk a0_0 n0_0 c0_0 a1_0 n1_0 c1_0 a2_0 a2_1 a2_2 a2_3 a2_4 W ⟨_, _, f0_0, g0_0⟩ ⟨_, _, f1_0, g1_0⟩ (bd_i64 b2_0) (bd_i64 b2_1) (bd_i64 b2_2) (bd_i64 b2_3) (bd_i64 b2_4) (tabs hL)).mono fun e W' ⟨he, bel⟩ => ?_
  subst he
  exact ⟨_, rfl, _, _, _, [], _, [], hW', trodAll_mk1 (shut_bool Tryd.underlying4 _), (trodAll_cons_mk (Below.trod laidOut (by kernel_rfl) (of_decide_eq_true (by kernel_rfl)) k0 bel lt0) (trodAll_cons_mk (Below.trod laidOut (by kernel_rfl) (of_decide_eq_true (by kernel_rfl)) k1 bel lt1) (trodAll_cons_mk (Below.trod laidOut (by kernel_rfl) (of_decide_eq_true (by kernel_rfl)) k2 bel lt2) trodAll_mk0))), rfl, bel.frame _, fun h => by cases h⟩
noncomputable def laidWorld (os : Os) : World := { World.holding Tryd.prog os ⟨#[], #[], []⟩ with heap := layAll Tryd.prog Rows.typGrowsRow.laid (World.holding Tryd.prog os ⟨#[], #[], []⟩).heap }
theorem laid_met (os : Os) : laidMet Tryd.prog Rows.typGrowsRow.laid ((laidWorld os).forCall (fun _ _ => 0) ⟨#[], #[.agg #[.slice none 0 0], .agg #[.slice none 0 0], .agg #[.int .i64 0, .int .i64 0, .int .i64 0, .int .i64 0, .int .i64 0]], []⟩).memory := laidMet_of_run' 8 (by kernel_rfl) (by kernel_rfl)
theorem reads (os : Os) {H : Type} (enc : TypeId × Value → H) : ∃ places, DataW.whole enc Tryd.prog ((laidWorld os).forCall (fun _ _ => 0) ⟨#[], #[.agg #[.slice none 0 0], .agg #[.slice none 0 0], .agg #[.int .i64 0, .int .i64 0, .int .i64 0, .int .i64 0, .int .i64 0]], []⟩).memory Tryd.f6.params.toList Rows.typGrowsSpec.vars false #[(.agg #[.slice none 0 0] : Value), (.agg #[.slice none 0 0] : Value), (.agg #[.int .i64 0, .int .i64 0, .int .i64 0, .int .i64 0, .int .i64 0] : Value)].toList 8 = some ([.agg [.nil], .agg [.nil], .agg [.agg [.lit (.int .i64 0), .lit (.int .i64 0), .lit (.int .i64 0), .lit (.int .i64 0)], .lit (.int .i64 0)]], [], places) := ⟨[], by kernel_rfl⟩
set_option maxRecDepth 100000 in
theorem lifted (os : Os) (started : os.Started) (H : Type) (enc : TypeId × Value → H) (F : Stop.Interp) :
    ReturnsInHanded {} Tryd.checked os 6 .any ((OpenSpec.ofChange Rows.typGrowsSpec).preRow enc Tryd.prog Tryd.f6 Rows.typGrowsRow.domain false Rows.typGrowsRow.laid) (((OpenSpec.ofChange Rows.typGrowsSpec).at F).post enc Tryd.prog Tryd.f6 false true false false) := by
  obtain ⟨places, hx⟩ := reads os enc
  refine returnsInHanded_of_row (C := Tryd.checked) (s := (OpenSpec.ofChange Rows.typGrowsSpec)) own started (by kernel_rfl) Tryd.func6
    (witness_row_at (enc := enc) (C := Tryd.checked) false (laidWorld os) #[.agg #[.slice none 0 0], .agg #[.slice none 0 0], .agg #[.int .i64 0, .int .i64 0, .int .i64 0, .int .i64 0, .int .i64 0]] rfl (by kernel_rfl) (by kernel_rfl) (by kernel_rfl)
      (OpenSpec.preRow_of_cond 8 hx (by kernel_rfl) (fun k hk => by cases hk) (by kernel_rfl) (laid_met os))) ?_
  intro W base args ds gs before hval hW _ hcnd hsz hL _ _
  exact contract H enc W base args ds gs before hval hW hsz  hL
theorem said : Rows.TypGrowsSaid :=
  OpenClaim.holds_of_cond 6 Tryd.f6 rfl rfl rfl rfl rfl rfl rfl ⟨rfl, rfl, rfl, rfl, rfl⟩ rfl rfl rfl rfl rfl (by kernel_rfl) Tryd.func6 (by kernel_rfl)
    (of_decide_eq_true (by kernel_rfl)) (by unfold Func.isWrapper; first | (rw [if_pos (by decide +kernel)]; kernel_rfl) | (rw [if_neg (by decide +kernel)]; exact ⟨rfl, rfl⟩))
    (fun os started H enc _ F => by rw [OpenClaim.pre_eq_preRow]; exact lifted os started H enc F)
theorem plain (f : FuncId) (fn : Func) (hf : Tryd.pinned.checked.prog.funcNamed "trammel/trammellaw7.TypGrows" = some f) (hfn : Tryd.pinned.checked.prog.funcs[f]? = some fn) :
    true = Tryd.pinned.checked.prog.looks [] ∧ ∀ (j : Nat) t, fn.params[j]? = some t → Tryd.pinned.checked.prog.wantsStandIn t = false := by
  obtain rfl : f = 6 := Option.some.inj ((show Tryd.prog.funcNamed "trammel/trammellaw7.TypGrows" = some 6 by kernel_rfl).symm.trans hf) |>.symm
  obtain rfl : fn = Tryd.f6 := (Option.some.inj (Tryd.func6.symm.trans hfn)).symm
  refine ⟨by kernel_rfl, fun j t ht => ?_⟩
  rw [Tryd.params6] at ht
  have hm := Array.mem_of_getElem? ht
  have hm2 : t ∈ ([24, 27] : List Nat) := by simpa using hm
  simp only [List.mem_cons, List.not_mem_nil, or_false] at hm2
  rcases hm2 with rfl | rfl
  · exact (show Tryd.prog.wantsStandIn 24 = false by kernel_rfl)
  · exact (show Tryd.prog.wantsStandIn 27 = false by kernel_rfl)
theorem proved : Rows.TypGrowsCardSaid :=
  Claim7.holds_tied_plain_at .later [] _ _ _ _ said (fun _ h => by cases h) (by kernel_rfl) (fun _ h => by cases h) typGrows_row_tie rfl ⟨rfl, rfl⟩ (by kernel_rfl) rfl plain (by kernel_rfl)
end Go.Proofs.YtdganhamafhfdaaDoor.typGrows
