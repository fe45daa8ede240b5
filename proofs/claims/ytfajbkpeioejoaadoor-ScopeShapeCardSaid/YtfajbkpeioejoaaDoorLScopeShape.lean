/- ScopeShape holds for every program. No condition but that the listed package variable holds what the program's text lays. -/
import Derived.Test.YtfajbkpeioejoaaDoorScJ
import Derived.Test.YtfajbkpeioejoaaDoorScK
import Derived.Test.YtfajbkpeioejoaaDoorNdIn
import Derived.Test.YtfajbkpeioejoaaDoorCards
import Derived.Test.YtfajbkpeioejoaaDoorTie
import Derived.Test.YtfajbkpeioejoaaDoorOpn
import Derived.Test.YtfajbkpeioejoaaDoorHan
import Derived.WalkKit
import Derived.ProofKit
import Derived.Deep.DeepHandedRow
namespace Go.Proofs.YtfajbkpeioejoaaDoor.scopeShape
open Go.ChangeShapes Go.WideShapes Go.ChangeAt Go.RowKit
open Go.ChangeMaps (open_string shut_string)
set_option linter.unusedVariables false
set_option linter.unusedSimpArgs false

theorem tabs {W : World} (h : laidMetH Tryd.prog Rows.scopeShapeRow.laid W) : Hid (errTy W) := Lib.hid (errTy_of h (.head _))
set_option maxRecDepth 100000 in
set_option maxHeartbeats 4000000 in
theorem walk {H : Type} {enc : TypeId × Value → H} (p0 : Option Addr) (n0 c0 : Nat) (p1 : Option Addr) (n1 c1 : Nat) (w : World)
    (f0 : ∃ fuel y, DataW.trod enc Tryd.prog w 0 (fun _ => true) true fuel 22 [.slice p0 n0 c0] = some y ∧ ∀ x ∈ DataW.weights Tryd.prog 22 y.1, x ≤ reachBytes)
    (f1 : ∃ fuel y, DataW.trod enc Tryd.prog w 0 (fun _ => true) true fuel 23 [.slice p1 n1 c1] = some y ∧ ∀ x ∈ DataW.weights Tryd.prog 23 y.1, x ≤ reachBytes)
    (hg : Hid (errTy w)) :
    Calls Tryd.prog 3 #[.agg #[.slice p0 n0 c0, .slice p1 n1 c1]] w fun e w' => e = .returned (.bool true) ∧ Below w.heap.size w w' := by
  obtain ⟨_, _, t0, t0'⟩ := f0
  obtain ⟨_, hl0, os, hO, hOz⟩ := ops_open t0 t0'
  obtain ⟨_, _, t1, t1'⟩ := f1
  obtain ⟨_, hl1, ts, hN, hNz⟩ := nodes_open t1 t1'
  clear t0 t0' t1 t1'
  have hO := Lib.hid hO
  have hN := Lib.hid hN
  have hOz := Lib.hid hOz
  have hNz := Lib.hid hNz
  have h0l := hgl hg.out
  obtain ⟨w0, hw0⟩ : ∃ W, w.alloc (.cells #[.slice p0 n0 c0, .slice p1 n1 c1] 25) = W := ⟨_, rfl⟩
  have hP : Hid (Pg w0 w.heap.size p0 n0 c0 p1 n1 c1) := Lib.hid (by rw [← hw0]; exact pg_lit _ _ _ rfl _ _ _ _ _ _)
  have hB : Hid (Below w.heap.size w w0) := Lib.hid (by rw [← hw0]; exact below_alc _ _)
  go_enter Tryd.func3, Tryd.ntmps3
  go_upto_region 1 with fail
  (try rw [hw0])
  clear hw0
  go_wp2_with fail
  refine (awake6_any _ (Lib.hid (hg.out.below hB.out))).mono ?_
  rintro e w1 ⟨rfl, hb⟩
  have hP := Lib.hid (hP.out.below hb)
  have hB := Lib.hid (belT hB.out hb)
  clear hb
  have kR := Lib.hid (Resolve_any p0 p1 n0 c0 n1 c1 os ts w1 (Lib.hid (hO.out.below hB.out)) hOz (by omega) (Lib.hid (hN.out.below hB.out)) hNz (by omega) (Lib.hid (hg.out.below hB.out)))
  obtain ⟨q0, q1, q2⟩ := hP.out
  go_wp2_with fail
  clear q0 q1 q2
  refine kR.out.mono ?_
  intro e w2 hpost
  clear kR
  cases hq : resV os ts with
  | error er =>
    obtain ⟨c, p⟩ := er
    obtain ⟨rfl, hb⟩ := res_no hpost hq
    have hB := Lib.hid (belT hB.out hb)
    obtain ⟨hc, hp⟩ := shape_bad hq
    have hp : 0 ≤ p := hp
    have hc : c = 600 ∨ c = 601 ∨ c = 602 := hc
    clear hpost hb hq
    rcases hc with rfl | rfl | rfl
    all_goals
      go_wp2_with ((go_at_call 9; refine (num_any _ _ (by omega) (by omega)).mono ?_; rintro e w' ⟨rfl, rfl⟩))
      go_ret
      exact ⟨rfl, belA _ hB.out⟩
  | ok ss =>
    obtain ⟨ao, co, N, cn, rfl, hb, hown, hN1, hN2, hsl⟩ := res_ok hpost hq
    obtain ⟨hsl0, hsm, hel⟩ := shape_ok hq
    have hP := Lib.hid (hP.out.below hb)
    have hB := Lib.hid (belT hB.out hb)
    have hQO : Hid (OArg w2 ao os.length os) := Lib.hid hown.arg
    have hQN : Hid (NArg w2 (some ⟨N, 0, none⟩) ts.length ss) := Lib.hid ⟨hsl0.symm, .inr ⟨N, 0, rfl, hsl, hN2⟩⟩
    have hsl := Lib.hid hsl
    clear hpost hb hq hown
    obtain rfl : n1 = ts.length := hN.out.1
    obtain rfl : n0 = os.length := hO.out.1
    have hssz : Hid (∀ t ∈ ss, NdSz t) := Lib.hid fun u hu => by
      obtain ⟨i, hi, e⟩ := List.mem_iff_getElem.1 hu
      obtain ⟨m, _, h2⟩ := hel i (by omega)
      have e2 : ss.getD i nd0 = u := by rw [List.getD_eq_getElem?_getD, List.getElem?_eq_getElem hi, Option.getD_some, e]
      rw [← e2, h2]
      have h0 : (⟨#[]⟩ : ByteArray).size ≤ 1125899906842624 := by decide
      exact ⟨h0, h0, h0, h0⟩
    have hel := Lib.hid hel
    go_upto_region 4 with fail
    have hQ := pg_lit w2 25 w2.heap.size rfl ao (some ⟨N, 0, none⟩) os.length co ts.length cn
    obtain ⟨w3, hw3⟩ : ∃ W, w2.alloc (.cells #[.slice ao os.length co, .slice (some ⟨N, 0, none⟩) ts.length cn] 25) = W := ⟨_, rfl⟩
    have hb : Below w2.heap.size w2 w3 := by rw [← hw3]; exact below_alc _ _
    rw [hw3] at hQ ⊢
    clear hw3
    have hP := Lib.hid (hP.out.below hb)
    have hB := Lib.hid (belT hB.out hb)
    have hQO := Lib.hid (hQO.out.below hb)
    have hQN := Lib.hid (hQN.out.below hb)
    have hsl := Lib.hid (hsl.out.below hb hN2)
    have h3l := hb.size
    clear hb
    have hQ := Lib.hid hQ
    have kM := Lib.hid (sMay_any ao (some ⟨N, 0, none⟩) os.length co ts.length cn os ss w3 hQO hOz (by omega) hQN hssz (by omega) (Lib.hid (hg.out.below hB.out)))
    rw [hsm] at kM
    obtain ⟨r0, r1, r2⟩ := hQ.out
    go_wp2_with ((go_at_call 9; refine (num_any _ _ (by omega) (by omega)).mono ?_; rintro e w' ⟨rfl, rfl⟩))
    clear r0 r1 r2
    refine kM.out.mono ?_
    rintro e w4 ⟨rfl, hb⟩
    clear kM
    have hP := Lib.hid (hP.out.below hb)
    have hB := Lib.hid (belT hB.out hb)
    have hQO := Lib.hid (hQO.out.below hb)
    have hQ := Lib.hid (hQ.out.below hb)
    have hsl := Lib.hid (hsl.out.below hb (by omega))
    have h4l := hb.size
    clear hb hQN
    have kS := Lib.hid (sameOps_any p0 ao os.length os.length c0 co os os w4 (Lib.hid (hO.out.below hB.out)) hQO (by omega))
    rw [sameVO_self] at kS
    obtain ⟨r0, r1, r2⟩ := hQ.out
    obtain ⟨q0, q1, q2⟩ := hP.out
    go_wp2_with fail
    clear r0 r1 r2 q0 q1 q2
    refine kS.out.mono ?_
    rintro e w5 ⟨rfl, hb⟩
    clear kS
    have hP := Lib.hid (hP.out.below hb)
    have hB := Lib.hid (belT hB.out hb)
    have hQ := Lib.hid (hQ.out.below hb)
    have hsl := Lib.hid (hsl.out.below hb (by omega))
    have h5l := hb.size
    have hNl5 : N < w5.heap.size := by omega
    clear hb hQO
    go_wp2_with fail
    go_loopw [6] (fun iv wr => ∃ j : Nat, j ≤ ts.length ∧ iv = .int .i64 j ∧ Below w5.heap.size w5 wr) (fun iv _ => ts.length - (intOf iv).toNat)
    case atStart => exact ⟨0, by omega, rfl, Below.refl _ _⟩
    case round =>
      obtain ⟨j, hj, rfl, hbw⟩ := hrel
      have hP5 := hP.out.below hbw
      have hQ5 := hQ.out.below hbw
      by_cases hlt : j < ts.length
      · rcases hN.out.2 with h0 | ⟨b, off, rfl, hs, hbl⟩
        · rw [h0] at hlt; simp at hlt
        have hT := (hs j hlt).below (belT hB.out hbw) hbl
        have hU := (hsl.out j (by omega)).below hbw hNl5
        obtain ⟨m, hm0, hm1⟩ := hel.out j hlt
        rw [hm1] at hU
        generalize ts.getD j nd0 = t at hT hU
        have hmn : ¬ m < 0 := by omega
        have hji : (j : Int) < (ts.length : Int) := by omega
        have hj0 : (0 : Int) ≤ (j : Int) := by omega
        unfold NdAt at hT hU
        unfold bare at hU
        dsimp only at hU
        obtain ⟨e0, e1, e2, e3, e4, e5, e6, e7, e8, e9⟩ := hT
        obtain ⟨u0, u1, u2, u3, u4, u5, u6, u7, u8, u9⟩ := hU
        obtain ⟨q0, q1, q2⟩ := hP5
        obtain ⟨r0, r1, r2⟩ := hQ5
        simp only [Nat.zero_add] at u0 u1 u2 u3 u4 u5 u6 u7 u8 u9
        have hcat : ((⟨#[]⟩ ++ ⟨#[]⟩ ++ ⟨#[]⟩ ++ ⟨#[]⟩ : ByteArray)).toList = [] := by rw [ByteArray.toList_eq]; rfl
        have hz := hbw.size
        have hNr : N < wr.heap.size := by omega
        have hbr : b < wr.heap.size := by have := hB.out.size; omega
        clear hm1 hs hj
        go_wp2_with fail
        go_region
        all_goals
          go_wp2_with fail
          go_roundw
        case rel => exact ⟨j + 1, by omega, by go_num, (belA _ (belA _ hbw)).drew⟩
        case rel => exact ⟨j + 1, by omega, by go_num, (belA _ (belA _ hbw)).drew⟩
        all_goals (simp [intOf]; omega)
      · have hj2 : j = ts.length := by omega
        subst hj2
        obtain ⟨q0, q1, q2⟩ := hP5
        obtain ⟨r0, r1, r2⟩ := hQ5
        go_wp2_with fail
        go_ret
        exact ⟨rfl, belT hB.out hbw⟩
theorem own : ownKnob Tryd.prog.godebug = none := by kernel_rfl
theorem laidOut : laidOutB Tryd.prog = true := by kernel_rfl
set_option maxRecDepth 100000 in
theorem contract (H : Type) (enc : TypeId × Value → H) (W : World) (base : Nat) (args : Array Value) (ds gs : List (DataW H)) (before : List MemPlace)
    (hval0 : ∀ (j : Nat) t v, Tryd.f3.params[j]? = some t → args[j]? = some v → Value.okWide Tryd.prog W .any base t v)
    (hW : DataW.Whole enc Tryd.prog Tryd.f3.params.toList Rows.scopeShapeSpec.vars false W args.toList ds gs before)
    (hsz0 : (DataW.weightsEach Tryd.prog (Tryd.f3.params.toList ++ Rows.scopeShapeSpec.plain.varTypes Tryd.prog) (ds ++ gs)).all (· ≤ reachBytes) = true)
    (hL : laidMetH Tryd.prog Rows.scopeShapeRow.laid W)
    : Calls Tryd.prog 3 args W fun e W' => ∃ v, e = .returned v ∧ Rows.scopeShapeSpec.post enc Tryd.prog Tryd.f3 false true false false W args v W' := by
  have hval : ∀ (j : Nat) t v, Tryd.f3.params[j]? = some t → args[j]? = some v → Value.okWide Tryd.prog W .any base t v := hval0
  have hsz : (DataW.weightsEach Tryd.prog (Tryd.f3.params.toList ++ Rows.scopeShapeSpec.plain.varTypes Tryd.prog) (ds ++ gs)).all (· ≤ reachBytes) = true := hsz0
  have hW' := hW
  obtain ⟨p, q, hA0, hV, rfl, hfz, hnd⟩ := hW
  have hA : DataW.TrodAll enc Tryd.prog W 0 (fun _ => true) true Tryd.f3.params.toList args.toList ds p := hA0
  rw [Tryd.params3] at hA hval hsz
  obtain ⟨v0, vs0, d0, ds0, p0, q0, hargs, rfl, rfl, h0, r0⟩ := trodAll_cons hA
  obtain ⟨rfl, rfl, rfl⟩ := trodAll_nil r0
  obtain rfl : args = #[v0] := by cases args; simp_all
  obtain ⟨rfl, rfl⟩ := trodVars_none hV
  have k0 := h0
  have lt0 : ∀ x ∈ p0, x.block < W.heap.size := by obtain ⟨m, hm⟩ := k0; exact DataW.trod_lt m _ _ _ hm
  obtain ⟨cs0_0, rfl, fit0_0⟩ := open_struct Tryd.underlying25 (f := 6) (by kernel_rfl : flat Tryd.prog 6 25 = some [.sl 22, .sl 23]) (hval 0 25 v0 rfl rfl) h0 (sized_of hsz (j := 0) (t := 25) rfl rfl)
  obtain ⟨_, cs0_1, rfl, ⟨a0_0, n0_0, c0_0, fu0_0, y0_0, rfl, f0_0, g0_0⟩, fit0_1⟩ := fit_i fit0_0
  obtain ⟨_, cs0_2, rfl, ⟨a0_1, n0_1, c0_1, fu0_1, y0_1, rfl, f0_1, g0_1⟩, fit0_2⟩ := fit_i fit0_1
  obtain rfl := fit_nil fit0_2
  clear hA0 hval0
  refine (walk a0_0 n0_0 c0_0 a0_1 n0_1 c0_1 W ⟨_, _, f0_0, g0_0⟩ ⟨_, _, f0_1, g0_1⟩ (tabs hL)).mono fun e W' ⟨he, bel⟩ => ?_
  subst he
  exact ⟨_, rfl, _, _, _, [], _, [], hW', trodAll_mk1 (shut_bool Tryd.underlying4 _), (trodAll_cons_mk (Below.trod laidOut (by kernel_rfl) (of_decide_eq_true (by kernel_rfl)) k0 bel lt0) trodAll_mk0), rfl, bel.frame _, fun h => by cases h⟩
theorem laid_met (os : Os) : laidMetH Tryd.prog Rows.scopeShapeRow.laid ((handleWorld os).forCall (fun _ _ => 0) ⟨#[], #[.agg #[.slice none 0 0, .slice none 0 0]], []⟩).memory := laidMetH_of_parts (laidMet_nil _ _) (by kernel_rfl)
theorem reads (os : Os) {H : Type} (enc : TypeId × Value → H) : ∃ places, DataW.whole enc Tryd.prog ((handleWorld os).forCall (fun _ _ => 0) ⟨#[], #[.agg #[.slice none 0 0, .slice none 0 0]], []⟩).memory Tryd.f3.params.toList Rows.scopeShapeSpec.vars false #[(.agg #[.slice none 0 0, .slice none 0 0] : Value)].toList 8 = some ([.agg [.nil, .nil]], [], places) := ⟨[], by kernel_rfl⟩
set_option maxRecDepth 100000 in
theorem lifted (os : Os) (started : os.Started) (H : Type) (enc : TypeId × Value → H) (F : Stop.Interp) :
    ReturnsInHanded {} Tryd.checked os 3 .any ((OpenSpec.ofChange Rows.scopeShapeSpec).preRow enc Tryd.prog Tryd.f3 Rows.scopeShapeRow.domain false Rows.scopeShapeRow.laid) (((OpenSpec.ofChange Rows.scopeShapeSpec).at F).post enc Tryd.prog Tryd.f3 false true false false) := by
  obtain ⟨places, hx⟩ := reads os enc
  refine returnsInHanded_of_row (C := Tryd.checked) (s := (OpenSpec.ofChange Rows.scopeShapeSpec)) own started (by kernel_rfl) Tryd.func3
    (witness_row_at (enc := enc) (C := Tryd.checked) false (handleWorld os) #[.agg #[.slice none 0 0, .slice none 0 0]] rfl (by kernel_rfl) (by kernel_rfl) (by kernel_rfl)
      (OpenSpec.preRow_of_cond 8 hx (by kernel_rfl) (fun k hk => by cases hk) (by kernel_rfl) (laid_met os))) ?_
  intro W base args ds gs before hval hW _ hcnd hsz hL _ _
  exact contract H enc W base args ds gs before hval hW hsz  hL
theorem said : Rows.ScopeShapeSaid :=
  OpenClaim.holds_of_cond 3 Tryd.f3 rfl rfl rfl rfl rfl rfl rfl ⟨rfl, rfl, rfl, rfl, rfl⟩ rfl rfl rfl rfl rfl (by kernel_rfl) Tryd.func3 (by kernel_rfl)
    (of_decide_eq_true (by kernel_rfl)) (by unfold Func.isWrapper; first | (rw [if_pos (by decide +kernel)]; kernel_rfl) | (rw [if_neg (by decide +kernel)]; exact ⟨rfl, rfl⟩))
    (fun os started H enc _ F => by rw [OpenClaim.pre_eq_preRow]; exact lifted os started H enc F)
theorem plain (f : FuncId) (fn : Func) (hf : Tryd.pinned.checked.prog.funcNamed "trammel/trammellaw6.ScopeShape" = some f) (hfn : Tryd.pinned.checked.prog.funcs[f]? = some fn) :
    true = Tryd.pinned.checked.prog.looks [] ∧ ∀ (j : Nat) t, fn.params[j]? = some t → Tryd.pinned.checked.prog.wantsStandIn t = false := by
  obtain rfl : f = 3 := Option.some.inj ((show Tryd.prog.funcNamed "trammel/trammellaw6.ScopeShape" = some 3 by kernel_rfl).symm.trans hf) |>.symm
  obtain rfl : fn = Tryd.f3 := (Option.some.inj (Tryd.func3.symm.trans hfn)).symm
  refine ⟨by kernel_rfl, fun j t ht => ?_⟩
  rw [Tryd.params3] at ht
  have hm := Array.mem_of_getElem? ht
  have hm2 : t ∈ ([25] : List Nat) := by simpa using hm
  simp only [List.mem_cons, List.not_mem_nil, or_false] at hm2
  subst hm2; exact (show Tryd.prog.wantsStandIn 25 = false by kernel_rfl)
theorem proved : Rows.ScopeShapeCardSaid :=
  Claim7.holds_tied_plain_at .later [] _ _ _ _ said (fun _ h => by cases h) (by kernel_rfl) (fun _ h => by cases h) scopeShape_row_tie rfl ⟨rfl, rfl⟩ (by kernel_rfl) rfl plain (by kernel_rfl)
end Go.Proofs.YtfajbkpeioejoaaDoor.scopeShape
