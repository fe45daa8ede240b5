/- SubstFirst holds for every three types and every number. No condition. -/
import Derived.Test.YtjhmdobmbajcgaaRows
import Derived.WalkKit
import Derived.ProofKit
import Derived.OpenShut
import Derived.ShutString
import Derived.ChangeOld
import Derived.Below
import Derived.SizedLaws
import Derived.Carry
import Derived.Lib.SmallJoins
import Derived.Test.YtjhmdobmbajcgaaSbI
import Derived.Test.YtjhmdobmbajcgaaTyI
import Derived.Test.YtjhmdobmbajcgaaAid
namespace Go.Proofs.Ytjhmdobmbajcgaa.substFirst
open Go.ChangeShapes Go.WideShapes Go.ChangeAt Go.RowKit
open Go.ChangeMaps (open_string shut_string)
set_option linter.unusedVariables false
set_option linter.unusedSimpArgs false

set_option maxRecDepth 100000 in
set_option maxHeartbeats 8000000 in
theorem walk {H : Type} {enc : TypeId × Value → H} (p0 : Option Addr) (n0 c0 : Nat) (p1 : Option Addr) (n1 c1 : Nat) (p2 : Option Addr) (n2 c2 : Nat) (k : Int) (w : World)
    (f0 : ∃ fuel y, DataW.trod enc Try.prog w 0 (fun _ => true) true fuel 23 [.slice p0 n0 c0] = some y ∧ ∀ x ∈ DataW.weights Try.prog 23 y.1, x ≤ reachBytes)
    (f1 : ∃ fuel y, DataW.trod enc Try.prog w 0 (fun _ => true) true fuel 23 [.slice p1 n1 c1] = some y ∧ ∀ x ∈ DataW.weights Try.prog 23 y.1, x ≤ reachBytes)
    (f2 : ∃ fuel y, DataW.trod enc Try.prog w 0 (fun _ => true) true fuel 23 [.slice p2 n2 c2] = some y ∧ ∀ x ∈ DataW.weights Try.prog 23 y.1, x ≤ reachBytes)
    (b3 : -9223372036854775808 ≤ k ∧ k ≤ 9223372036854775807) :
    Calls Try.prog 6 #[.agg #[.slice p0 n0 c0], .agg #[.slice p1 n1 c1], .agg #[.slice p2 n2 c2], .int .i64 k] w fun e w' => e = .returned (.bool true) ∧ Below w.heap.size w w' := by
  obtain ⟨_, _, t, t'⟩ := f0
  obtain ⟨hl0, ts0, hT0⟩ := ty_open t t'
  clear t t'
  obtain ⟨_, _, t, t'⟩ := f1
  obtain ⟨hl1, ts1, hT1⟩ := ty_open t t'
  clear t t'
  obtain ⟨_, _, t, t'⟩ := f2
  obtain ⟨hl2, ts2, hT2⟩ := ty_open t t'
  clear t t'
  have hT0 := Lib.hid hT0
  have hT1 := Lib.hid hT1
  have hT2 := Lib.hid hT2
  have hk : bits .and .i64 k 3 = k % 4 := and_mask k 2 (by omega)
  have hx0 : 0 ≤ k % 4 ∧ k % 4 < 4 := by omega
  generalize k % 4 = x at hk hx0
  go_enter Try.func6, Try.ntmps6
  go_wp2_with fail
  refine (awake9_any _).mono ?_
  rintro e w1 ⟨rfl, hb1⟩
  have hX1 : Hid (BoxAt w1 w.heap.size (.slice p0 n0 c0)) := Lib.hid (BoxAt.below (by exact .alloc _ (.alloc _ (box_lit _ _ _ _ rfl))) hb1)
  have hA1 : Hid (BoxAt w1 (w.heap.size + 1) (.slice p1 n1 c1)) := Lib.hid (BoxAt.below (by exact .alloc _ (box_lit _ _ _ _ (by simp))) hb1)
  have hY1 : Hid (BoxAt w1 (w.heap.size + 1 + 1) (.slice p2 n2 c2)) := Lib.hid (BoxAt.below (by exact box_lit _ _ _ _ (by simp)) hb1)
  have hT0 := Lib.hid (TyArg.below (.alloc _ (.alloc _ (.alloc _ hT0.out))) hb1)
  have hT1 := Lib.hid (TyArg.below (.alloc _ (.alloc _ (.alloc _ hT1.out))) hb1)
  have hT2 := Lib.hid (TyArg.below (.alloc _ (.alloc _ (.alloc _ hT2.out))) hb1)
  have hB1 := Lib.hid (belT (show Below w.heap.size w _ from belA _ (belA _ (belA _ (Below.refl _ _)))) hb1)
  clear hb1
  obtain ⟨x0, x1⟩ := hX1.out
  obtain ⟨a0, a1⟩ := hA1.out
  obtain ⟨y0, y1⟩ := hY1.out
  have x2 : w.heap.size < w1.heap.size + 1 := by omega
  have a2 : w.heap.size + 1 < w1.heap.size + 1 := by omega
  have y2 : w.heap.size + 1 + 1 < w1.heap.size + 1 := by omega
  go_wp2_with fail
  clear x2 a2 y2 x1 a1 y1
  obtain ⟨E1, hE1⟩ : ∃ e, subE (fOne x p1 n1 c1 ts1) ts0 = e := ⟨_, rfl⟩
  obtain ⟨S1, hS1⟩ : ∃ e, subT (fOne x p1 n1 c1 ts1) ts0 = e := ⟨_, rfl⟩
  obtain ⟨E2, hE2⟩ : ∃ e, subE (fTwo x p1 n1 c1 ts1 p2 n2 c2 ts2) ts0 = e := ⟨_, rfl⟩
  obtain ⟨S2, hS2⟩ : ∃ e, subT (fTwo x p1 n1 c1 ts1 p2 n2 c2 ts2) ts0 = e := ⟨_, rfl⟩
  obtain ⟨E3, hE3⟩ : ∃ e, subE (fOne x p2 n2 c2 ts2) ty00 = e := ⟨_, rfl⟩
  have hbad := Lib.hid (sf_bad x hx0 ts0 p1 n1 c1 ts1 p2 n2 c2 ts2)
  have hgood := Lib.hid (sf_good x hx0 ts0 p1 n1 c1 ts1 p2 n2 c2 ts2)
  rw [hE3, hE2] at hbad
  rw [hE3, hE1, hE2, hS1, hS2] at hgood
  have e1 := subE_bd (fOne x p1 n1 c1 ts1) ts0
  have e2 := subE_bd (fTwo x p1 n1 c1 ts1 p2 n2 c2 ts2) ts0
  have e3 := subE_bd (fOne x p2 n2 c2 ts2) ty00
  have hlen := subT_len (fOne x p1 n1 c1 ts1) ts0
  rw [hE1] at e1
  rw [hE2] at e2
  rw [hE3] at e3
  rw [hS1] at hlen
  have hE1 := Lib.hid hE1
  have hE2 := Lib.hid hE2
  have hE3 := Lib.hid hE3
  have hS1 := Lib.hid hS1
  have hS2 := Lib.hid hS2
  refine (subType_any _ _ _ _ _ _ (fOne x p1 n1 c1 ts1) ts0 _ (Lib.hid ?b) (Lib.hid (.alloc _ (hT0.out.alloc _))) (by omega) (by omega)).mono ?_
  case b =>
    refine .alloc _ (bnArg_lit _ _ _ _ _ _ rfl rfl rfl ?_)
    intro y hy
    simp only [fOne, List.mem_cons, List.not_mem_nil, or_false] at hy
    obtain rfl := hy
    exact ⟨hT1.out, by show n1 ≤ _; omega⟩
  rintro e w2 ⟨v1, rfl, hv1, hb2⟩
  obtain ⟨q1, m1, d1, rfl⟩ := ownT_sl hv1
  rw [hE1.out]
  rw [hS1.out] at hv1
  have hU1 := Lib.hid hv1.arg
  have hBn : Hid (BnArg w2 (some ⟨w1.heap.size + 1, 0, none⟩) 4 (fTwo x p1 n1 c1 ts1 p2 n2 c2 ts2)) := Lib.hid (BnArg.below (by
    refine bnArg_lit _ _ _ _ _ _ (by simp) rfl rfl ?_
    intro y hy
    simp only [fTwo, List.mem_cons, List.not_mem_nil, or_false] at hy
    rcases hy with rfl | rfl | rfl | rfl
    · exact ⟨tyArg_nil _ _, by show (0 : Nat) ≤ 140737488351232; omega⟩
    · exact ⟨hT1.out.alloc _, by show n1 ≤ _; omega⟩
    · exact ⟨hT2.out.alloc _, by show n2 ≤ _; omega⟩
    · exact ⟨tyArg_nil _ _, by show (0 : Nat) ≤ 140737488351232; omega⟩) hb2)
  have hX2 := Lib.hid (BoxAt.below (.alloc _ (hX1.out.alloc _)) hb2)
  have hY2 := Lib.hid (BoxAt.below (.alloc _ (hY1.out.alloc _)) hb2)
  have hT0 := Lib.hid (TyArg.below (.alloc _ (hT0.out.alloc _)) hb2)
  have hT2 := Lib.hid (TyArg.below (.alloc _ (hT2.out.alloc _)) hb2)
  have hB2 := Lib.hid (belT (belA _ (belA _ hB1.out)) hb2)
  clear hb2 hv1 hX1 hY1 hB1 hA1 x0 a0 y0
  obtain ⟨x0, x1⟩ := hX2.out
  go_wp2_with fail
  clear x0 x1
  refine (subType_any _ _ _ _ _ _ (fTwo x p1 n1 c1 ts1 p2 n2 c2 ts2) ts0 _ (Lib.hid (hBn.out.alloc _)) (Lib.hid (hT0.out.alloc _)) (by omega) (by omega)).mono ?_
  rintro e w3 ⟨v2, rfl, hv2, hb3⟩
  obtain ⟨q2, m2, d2, rfl⟩ := ownT_sl hv2
  rw [hE2.out]
  rw [hS2.out] at hv2
  have hU2 := Lib.hid hv2.arg
  have hU1 := Lib.hid ((hU1.out.alloc _).below hb3)
  have hZ3 : Hid (BoxAt w3 w2.heap.size (.slice q1 m1 d1)) := Lib.hid (BoxAt.below (by exact box_lit _ _ _ _ rfl) hb3)
  have hY3 := Lib.hid ((hY2.out.alloc _).below hb3)
  have hT2 := Lib.hid ((hT2.out.alloc _).below hb3)
  have hB3 := Lib.hid (belT (belA _ hB2.out) hb3)
  clear hb3 hv2 hX2 hY2 hB2
  obtain ⟨y0, y1⟩ := hY3.out
  go_wp2_with fail
  clear y0 y1
  refine (subType_any _ _ _ _ _ _ (fOne x p2 n2 c2 ts2) ty00 _ (Lib.hid ?b) (Lib.hid (tyArg_lit _ _ _ _ _ _ (by simp) rfl rfl)) (by omega) (by show (1 : Nat) ≤ 140737488351232; omega)).mono ?_
  case b =>
    refine .alloc _ (bnArg_lit _ _ _ _ _ _ (by simp) rfl rfl ?_)
    intro y hy
    simp only [fOne, List.mem_cons, List.not_mem_nil, or_false] at hy
    obtain rfl := hy
    exact ⟨hT2.out.alloc _, by show n2 ≤ _; omega⟩
  rintro e w4 ⟨v3, rfl, hv3, hb4⟩
  obtain ⟨q3, m3, d3, rfl⟩ := ownT_sl hv3
  rw [hE3.out]
  have hU1 := Lib.hid (TyArg.below (.alloc _ (.alloc _ (hU1.out.alloc _))) hb4)
  have hU2 := Lib.hid (TyArg.below (.alloc _ (.alloc _ (hU2.out.alloc _))) hb4)
  have hZ4 := Lib.hid (BoxAt.below (.alloc _ (.alloc _ (hZ3.out.alloc _))) hb4)
  have hV4 : Hid (BoxAt w4 w3.heap.size (.slice q2 m2 d2)) := Lib.hid (BoxAt.below (by exact .alloc _ (.alloc _ (box_lit _ _ _ _ rfl))) hb4)
  have hB4 := Lib.hid (belT (belA _ (belA _ (belA _ hB3.out))) hb4)
  clear hb4 hv3 hZ3 hY3 hB3
  by_cases hz : E3 = 0
  · obtain ⟨g1, g2⟩ := hgood.out hz
    subst hz g1 g2
    clear hbad hgood
    obtain ⟨z0, z1⟩ := hZ4.out
    obtain ⟨v0, v1⟩ := hV4.out
    go_wp2_with ((go_at_call 19; refine (num_any _ _ (by omega) (by omega)).mono ?_; rintro e w' ⟨rfl, rfl⟩))
    refine (sameType_any _ _ _ _ _ _ S1 S1 _ (Lib.hid (hU1.out.alloc _)) (Lib.hid (hU2.out.alloc _)) (by have := hU1.out.1; omega)).mono ?_
    rintro e w5 ⟨rfl, hb5⟩
    rw [decide_eq_true rfl]
    have hB5 := Lib.hid (belT (belA _ hB4.out) hb5)
    clear hb5 z0 z1 v0 v1
    go_wp2_with fail
    go_ret
    exact ⟨rfl, hB5.out⟩
  · obtain rfl := hbad.out hz
    clear hbad hgood
    go_wp2_with ((go_at_call 19; refine (num_any _ _ (by omega) (by omega)).mono ?_; rintro e w' ⟨rfl, rfl⟩))
    go_ret
    exact ⟨rfl, belA _ hB4.out⟩
theorem own : ownKnob Try.prog.godebug = none := by kernel_rfl
theorem laidOut : laidOutB Try.prog = true := by kernel_rfl
set_option maxRecDepth 100000 in
theorem lifted (os : Os) (started : os.Started) (H : Type) (enc : TypeId × Value → H) :
    ReturnsInHanded {} Try.checked os 6 .any (Rows.substFirstSpec.pre6 enc Try.prog Try.f6 Rows.substFirstRow.domain false) (Rows.substFirstSpec.post enc Try.prog Try.f6 false true false false) := by
  refine returnsInHanded_of_change_sized (C := Try.checked) own started (by kernel_rfl) Try.func6
    (ChangeSpec.witness6 (enc := enc) (C := Try.checked) false ⟨#[], #[.agg #[.slice none 0 0], .agg #[.slice none 0 0], .agg #[.slice none 0 0], .int .i64 0], []⟩ 8 (by kernel_rfl) (by kernel_rfl) (by kernel_rfl) (by kernel_rfl)) ?_
  intro W base args ds gs before hval0 hW hcnd hsz0 _
  have hval : ∀ (j : Nat) t v, Try.f6.params[j]? = some t → args[j]? = some v → Value.okWide Try.prog W .any base t v := hval0
  have hsz : (DataW.weightsEach Try.prog (Try.f6.params.toList ++ Rows.substFirstSpec.plain.varTypes Try.prog) (ds ++ gs)).all (· ≤ reachBytes) = true := hsz0
  have hW' := hW
  obtain ⟨p, q, hA0, hV, rfl, hfz, hnd⟩ := hW
  have hA : DataW.TrodAll enc Try.prog W 0 (fun _ => true) true Try.f6.params.toList args.toList ds p := hA0
  rw [Try.params6] at hA hval hsz
  obtain ⟨v0, vs0, d0, ds0, p0, q0, hargs, rfl, rfl, h0, r0⟩ := trodAll_cons hA
  obtain ⟨v1, vs1, d1, ds1, p1, q1, rfl, rfl, rfl, h1, r1⟩ := trodAll_cons r0
  obtain ⟨v2, vs2, d2, ds2, p2, q2, rfl, rfl, rfl, h2, r2⟩ := trodAll_cons r1
  obtain ⟨v3, vs3, d3, ds3, p3, q3, rfl, rfl, rfl, h3, r3⟩ := trodAll_cons r2
  obtain ⟨rfl, rfl, rfl⟩ := trodAll_nil r3
  obtain rfl : args = #[v0, v1, v2, v3] := by cases args; simp_all
  obtain ⟨rfl, rfl⟩ := trodVars_none hV
  have k0 := h0
  have lt0 : ∀ x ∈ p0, x.block < W.heap.size := by obtain ⟨m, hm⟩ := k0; exact DataW.trod_lt m _ _ _ hm
  obtain ⟨cs0, rfl, fit0⟩ := open_struct Try.underlying25 (f := 6) (by kernel_rfl : flat Try.prog 6 25 = some [.sl 23]) (hval 0 25 v0 rfl rfl) h0 (sized_of hsz (j := 0) (t := 25) rfl rfl)
  obtain ⟨_, cr0, rfl, ⟨a0, n0, c0, fu0, y0, rfl, f0, g0⟩, fitb0⟩ := fit_i fit0
  obtain rfl := fit_nil fitb0
  have k1 := h1
  have lt1 : ∀ x ∈ p1, x.block < W.heap.size := by obtain ⟨m, hm⟩ := k1; exact DataW.trod_lt m _ _ _ hm
  obtain ⟨cs1, rfl, fit1⟩ := open_struct Try.underlying25 (f := 6) (by kernel_rfl : flat Try.prog 6 25 = some [.sl 23]) (hval 1 25 v1 rfl rfl) h1 (sized_of hsz (j := 1) (t := 25) rfl rfl)
  obtain ⟨_, cr1, rfl, ⟨a1, n1, c1, fu1, y1, rfl, f1, g1⟩, fitb1⟩ := fit_i fit1
  obtain rfl := fit_nil fitb1
  have k2 := h2
  have lt2 : ∀ x ∈ p2, x.block < W.heap.size := by obtain ⟨m, hm⟩ := k2; exact DataW.trod_lt m _ _ _ hm
  obtain ⟨cs2, rfl, fit2⟩ := open_struct Try.underlying25 (f := 6) (by kernel_rfl : flat Try.prog 6 25 = some [.sl 23]) (hval 2 25 v2 rfl rfl) h2 (sized_of hsz (j := 2) (t := 25) rfl rfl)
  obtain ⟨_, cr2, rfl, ⟨a2, n2, c2, fu2, y2, rfl, f2, g2⟩, fitb2⟩ := fit_i fit2
  obtain rfl := fit_nil fitb2
  obtain ⟨a3, rfl, rfl, rfl, m3⟩ := open_int Try.underlying3 (hval 3 3 v3 rfl rfl) h3
  have w3 : -9223372036854775808 ≤ a3 ∧ a3 ≤ 9223372036854775807 := by simpa [Lit.wf, IntKind.min, IntKind.max, IntKind.signed, IntKind.bits] using m3
  clear hA0 hval0
  refine (walk a0 n0 c0 a1 n1 c1 a2 n2 c2 a3 W ⟨_, _, f0, g0⟩ ⟨_, _, f1, g1⟩ ⟨_, _, f2, g2⟩ w3).mono fun e W' ⟨he, bel⟩ => ?_
  subst he
  exact ⟨_, rfl, _, _, _, [], _, [], hW', trodAll_mk1 (shut_bool Try.underlying4 _), (trodAll_cons_mk (Below.trod laidOut (by kernel_rfl) (of_decide_eq_true (by kernel_rfl)) k0 bel lt0) (trodAll_cons_mk (Below.trod laidOut (by kernel_rfl) (of_decide_eq_true (by kernel_rfl)) k1 bel lt1) (trodAll_cons_mk (Below.trod laidOut (by kernel_rfl) (of_decide_eq_true (by kernel_rfl)) k2 bel lt2) (trodAll_cons_mk (shut_int Try.underlying3 m3) trodAll_mk0)))), rfl, bel.frame _, fun h => by cases h⟩
theorem over : Rows.substFirstRow.holds Try.pinned (OpenSpec.ofChange Rows.substFirstSpec) :=
  OpenClaim.holds_of_wide 6 Try.f6 rfl rfl rfl rfl rfl rfl rfl ⟨rfl, rfl, rfl, rfl, rfl⟩ rfl rfl rfl rfl rfl (by kernel_rfl) Try.func6 (by kernel_rfl)
    (of_decide_eq_true (by kernel_rfl)) (by unfold Func.isWrapper; first | (rw [if_pos (by decide +kernel)]; kernel_rfl) | (rw [if_neg (by decide +kernel)]; exact ⟨rfl, rfl⟩))
    (fun os started H enc _ => lifted os started H enc)
theorem proved : Rows.SubstFirstSaid := over
end Go.Proofs.Ytjhmdobmbajcgaa.substFirst
