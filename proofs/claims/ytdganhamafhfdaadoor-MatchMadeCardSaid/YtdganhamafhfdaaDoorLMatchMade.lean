/- MatchMade holds for every type and every two rows of binds. No condition but that the listed package variables hold what the program's text lays. -/
import Derived.Test.YtdganhamafhfdaaDoorCards
import Derived.Test.YtdganhamafhfdaaDoorTie
import Derived.Test.YtdganhamafhfdaaDoorOpn
import Derived.Test.YtdganhamafhfdaaDoorCrd
import Derived.WalkKit
import Derived.ProofKit
import Derived.Deep.DeepHandedRow
import Derived.Test.YtdganhamafhfdaaDoorEqA
import Derived.Test.YtdganhamafhfdaaDoorTyI
import Derived.Test.YtdganhamafhfdaaDoorSbI
namespace Go.Proofs.YtdganhamafhfdaaDoor.matchMade
open Go.ChangeShapes Go.WideShapes Go.ChangeAt Go.RowKit
open Go.ChangeMaps (open_string shut_string)
set_option linter.unusedVariables false
set_option linter.unusedSimpArgs false

theorem tabs {W : World} (h : laidMetH Tryd.prog Rows.matchMadeRow.laid W) : Hid (TabW W) := by
  have hm : ("internal/strconv.uint64pow10", (Rows.laid_internal_strconv_uint64pow10 : DataW Unit)) ∈ Rows.matchMadeRow.laid := .tail _ (.tail _ (.head _))
  rw [show (Rows.laid_internal_strconv_uint64pow10 : DataW Unit) = Lib.tabData .u64 Lib.pow10Tab from by kernel_rfl] at hm
  exact Lib.hid (tabIs_of_mem gPow (t := 211) (e := 166) (n := 20) (by kernel_rfl) Tryd.underlying211 Tryd.underlying166 (by kernel_rfl) (by kernel_rfl) h hm)

theorem subE_01 (xs : List Bn) (ts : List Ty) : subE xs ts = 0 ∨ subE xs ts = 900 := by unfold subE; split <;> simp
theorem sub_yes {xs : List Bn} {ts : List Ty} (h : subE xs ts = 0) : bsV xs = true ∧ tyV ts = true ∧ tyV (subT xs ts) = true ∧ treeOf (subT xs ts) = putT (sgB xs) (rhB xs) (treeOf ts) := by
  unfold subE at h
  cases hbs : bsV xs
  · rw [hbs] at h; simp at h
  cases hv : tyV ts
  · rw [hbs, hv] at h; simp at h
  cases hfit : (putT (sgB xs) (rhB xs) (treeOf ts)).fits
  · rw [hbs, hv, hfit] at h; simp at h
  have hto := tyV_of hv
  have hT : subT xs ts = fl 0 (putT (sgB xs) (rhB xs) (treeOf ts)) := by unfold subT; rw [hbs, hv, hfit]; rfl
  unfold TT.fits at hfit
  simp only [Bool.and_eq_true, decide_eq_true_eq] at hfit
  have hpo : (putT (sgB xs) (rhB xs) (treeOf ts)).ok = true := putT_ok (fun v U h => (sgB_ok hbs v U h).1) (rhB_ok hbs) hto.1 hfit.2
  rw [hT]
  exact ⟨rfl, rfl, fl_may hpo hfit.1, treeOf_fl hpo⟩
theorem rh_nn {xs : List Bn} (h : bsV xs = true) : ∀ v q, rhB xs v = some q → 0 ≤ q.a ∧ 0 ≤ q.b ∧ 0 ≤ q.c ∧ 0 ≤ q.d := fun v q hq => by
  have := of_decide_eq_true (show mayR q.a q.b q.c q.d q.t = true from rhB_ok h v q hq); omega
theorem inst_put {ts us : List Ty} {σ : Int → Option TT} {ρ : Int → Option Rw} (h1 : tyV ts = true) (h2 : tyV us = true) (hu : treeOf us = putT σ ρ (treeOf ts)) (hρ : ∀ v q, ρ v = some q → 0 ≤ q.a ∧ 0 ≤ q.b ∧ 0 ≤ q.c ∧ 0 ≤ q.d) : instV ts us = true ∧ instE ts us = 0 := by
  unfold instV instE
  rw [h1, h2, hu, instT_put σ ρ hρ]
  exact ⟨rfl, rfl⟩
theorem mm_one {xs : List Bn} {ts : List Ty} (h : subE xs ts = 0) : instV ts (subT xs ts) = true ∧ instE ts (subT xs ts) = 0 := by
  obtain ⟨h1, h2, h3, h4⟩ := sub_yes h
  exact inst_put h2 h3 h4 (rh_nn h1)
theorem mm_two {xs ys : List Bn} {ts : List Ty} (h : subE xs ts = 0) (h' : subE ys (subT xs ts) = 0) : instV ts (subT ys (subT xs ts)) = true ∧ instE ts (subT ys (subT xs ts)) = 0 := by
  obtain ⟨h1, h2, h3, h4⟩ := sub_yes h
  obtain ⟨g1, g2, g3, g4⟩ := sub_yes h'
  rw [h4, putT_then] at g4
  refine inst_put h2 g3 g4 ?_
  intro v q hq
  unfold thenR at hq
  cases hx : rhB xs v with
  | none => rw [hx] at hq; exact rh_nn g1 v q hq
  | some p =>
    rw [hx] at hq
    injection hq with hq
    subst hq
    have := putR_bd (rhB_ok g1) (rhB_ok h1 v p hx)
    omega
set_option maxRecDepth 100000 in
set_option maxHeartbeats 8000000 in
theorem walk {H : Type} {enc : TypeId × Value → H} (p0 : Option Addr) (n0 c0 : Nat) (p1 : Option Addr) (n1 c1 : Nat) (p2 : Option Addr) (n2 c2 : Nat) (w : World)
    (f0 : ∃ fuel y, DataW.trod enc Tryd.prog w 0 (fun _ => true) true fuel 22 [.slice p0 n0 c0] = some y ∧ ∀ x ∈ DataW.weights Tryd.prog 22 y.1, x ≤ reachBytes)
    (f1 : ∃ fuel y, DataW.trod enc Tryd.prog w 0 (fun _ => true) true fuel 56 [.slice p1 n1 c1] = some y ∧ ∀ x ∈ DataW.weights Tryd.prog 56 y.1, x ≤ reachBytes)
    (f2 : ∃ fuel y, DataW.trod enc Tryd.prog w 0 (fun _ => true) true fuel 56 [.slice p2 n2 c2] = some y ∧ ∀ x ∈ DataW.weights Tryd.prog 56 y.1, x ≤ reachBytes) (hT : Hid (TabW w)) :
    Calls Tryd.prog 13 #[.agg #[.slice p0 n0 c0], .slice p1 n1 c1, .slice p2 n2 c2] w fun e w' => e = .returned (.bool true) ∧ Below w.heap.size w w' := by
  obtain ⟨_, _, t, t'⟩ := f0
  obtain ⟨hl0, ts, hA⟩ := ty_open t t'
  clear t t'
  obtain ⟨_, _, t, t'⟩ := f1
  obtain ⟨hl1, xs, hC, _⟩ := bs_open t t'
  clear t t'
  obtain ⟨_, _, t, t'⟩ := f2
  obtain ⟨hl2, ys, hD, _⟩ := bs_open t t'
  clear t t'
  have hA := Lib.hid hA
  have hC := Lib.hid hC
  have hD := Lib.hid hD
  have hone := Lib.hid (mm_one (xs := xs) (ts := ts))
  have htwo := Lib.hid (mm_two (xs := xs) (ys := ys) (ts := ts))
  have h01 := subE_01 xs ts
  have h02 := subE_01 ys (subT xs ts)
  have hs1 := subT_len xs ts
  have hs2 := subT_len ys (subT xs ts)
  go_enter Tryd.func13, Tryd.ntmps13
  go_wp2_with fail
  refine (awake11_any _ (Lib.hid (tab_keep hT.out (show Below w.heap.size w _ from by (repeat' (first | with_reducible exact Below.refl _ _ | with_reducible assumption | with_reducible apply Below.setCell | with_reducible apply Below.alloc | with_reducible apply Below.drew | with_reducible apply below_drewN | with_reducible exact Nat.le_refl _ | (simp; done) | (simp; omega) | omega | exact Nat.le_refl _))) (Nat.le_refl _)))).mono ?_
  rintro e w1 ⟨rfl, hb1⟩
  have hX := Lib.hid (show BoxAt w1 w.heap.size (.slice p0 n0 c0) from BoxAt.below (by exact box_lit _ _ _ _ rfl) hb1)
  have hA := Lib.hid (TyArg.below (by exact TyArg.alloc _ hA.out) hb1)
  have hC := Lib.hid (BnArg.below (by exact BnArg.alloc _ hC.out) hb1)
  have hD := Lib.hid (BnArg.below (by exact BnArg.alloc _ hD.out) hb1)
  have hB := Lib.hid (belT (show Below w.heap.size w _ from by (repeat' (first | with_reducible exact Below.refl _ _ | with_reducible assumption | with_reducible apply Below.setCell | with_reducible apply Below.alloc | with_reducible apply Below.drew | with_reducible apply below_drewN | with_reducible exact Nat.le_refl _ | (simp; done) | (simp; omega) | omega | exact Nat.le_refl _))) hb1)
  clear hb1
  obtain ⟨x0, x1⟩ := hX.out
  go_wp2_with fail
  clear x0 x1
  refine (subType_any _ _ _ _ _ _ xs ts _ hC hA (by omega) (by omega)).mono ?_
  rintro e w2 ⟨v2, rfl, hv2, hb⟩
  generalize subE xs ts = E at h01 hone htwo ⊢
  generalize subT xs ts = S at h02 hs1 hs2 hone htwo hv2
  obtain ⟨a2, m2, d2, rfl⟩ := ownT_sl hv2
  have hm2 : m2 ≤ 256 := by have := hv2.arg.1; omega
  have hX := Lib.hid ((hX.out.below hb).alloc (.cells #[.slice a2 m2 d2] 24))
  have hA := Lib.hid ((hA.out.below hb).alloc (.cells #[.slice a2 m2 d2] 24))
  have hD := Lib.hid ((hD.out.below hb).alloc (.cells #[.slice a2 m2 d2] 24))
  have hU := Lib.hid (hv2.arg.alloc (.cells #[.slice a2 m2 d2] 24))
  have hY := Lib.hid (box_lit w2 24 w2.heap.size (.slice a2 m2 d2) rfl)
  have hB := Lib.hid (belA (.cells #[.slice a2 m2 d2] 24) (belT hB.out hb))
  clear hb hv2
  go_wp2_with fail
  refine (subType_any _ _ _ _ _ _ ys S _ hD hU (by omega) (by omega)).mono ?_
  rintro e w3 ⟨v3, rfl, hv3, hb⟩
  generalize subE ys S = E2 at h02 htwo ⊢
  generalize subT ys S = S2 at hs2 htwo hv3
  obtain ⟨a3, m3, d3, rfl⟩ := ownT_sl hv3
  have hm3 : m3 ≤ 256 := by have := hv3.arg.1; omega
  have hX := Lib.hid ((hX.out.below hb).alloc (.cells #[.slice a3 m3 d3] 24))
  have hY := Lib.hid ((hY.out.below hb).alloc (.cells #[.slice a3 m3 d3] 24))
  have hA := Lib.hid ((hA.out.below hb).alloc (.cells #[.slice a3 m3 d3] 24))
  have hU := Lib.hid ((hU.out.below hb).alloc (.cells #[.slice a3 m3 d3] 24))
  have hW := Lib.hid (hv3.arg.alloc (.cells #[.slice a3 m3 d3] 24))
  have hZ := Lib.hid (box_lit w3 24 w3.heap.size (.slice a3 m3 d3) rfl)
  have hB := Lib.hid (belA (.cells #[.slice a3 m3 d3] 24) (belT hB.out hb))
  clear hb hv3 hD
  obtain ⟨x0, x1⟩ := hX.out
  obtain ⟨y0, y1⟩ := hY.out
  go_wp2_with fail
  clear x0 x1 y0 y1
  refine (instance_any _ _ _ _ _ _ ts S _ hA hU (by omega) (by omega)).mono ?_
  rintro e w4 ⟨rfl, hb⟩
  generalize instV ts S = V1 at hone ⊢
  generalize instE ts S = F1 at hone ⊢
  have hX := Lib.hid (hX.out.below hb)
  have hZ := Lib.hid (hZ.out.below hb)
  have hA := Lib.hid (hA.out.below hb)
  have hW := Lib.hid (hW.out.below hb)
  have hB := Lib.hid (belT hB.out hb)
  clear hb hU hY
  obtain ⟨x0, x1⟩ := hX.out
  obtain ⟨y0, y1⟩ := hZ.out
  go_wp2_with fail
  clear x0 x1 y0 y1
  refine (instance_any _ _ _ _ _ _ ts S2 _ hA hW (by omega) (by omega)).mono ?_
  rintro e w5 ⟨rfl, hb⟩
  generalize instV ts S2 = V2 at htwo ⊢
  generalize instE ts S2 = F2 at htwo ⊢
  have hB := Lib.hid (belT hB.out hb)
  clear hb hX hZ hA hW
  rcases h01 with rfl | rfl
  · obtain ⟨e1, e2⟩ := hone.out rfl
    subst e1 e2
    rcases h02 with rfl | rfl
    · obtain ⟨e3, e4⟩ := htwo.out rfl rfl
      subst e3 e4
      clear hone htwo
      go_wp2_with ((go_at_call 24; refine (num_any _ _ (by omega) (by omega)).mono ?_; rintro e w' ⟨rfl, rfl⟩))
      go_ret
      exact ⟨rfl, hB.out⟩
    · clear hone htwo
      go_wp2_with ((go_at_call 24; refine (num_any _ _ (by omega) (by omega)).mono ?_; rintro e w' ⟨rfl, rfl⟩))
      go_ret
      exact ⟨rfl, hB.out⟩
  · clear hone htwo
    go_wp2_with ((go_at_call 24; refine (num_any _ _ (by omega) (by omega)).mono ?_; rintro e w' ⟨rfl, rfl⟩))
    go_ret
    exact ⟨rfl, hB.out⟩
theorem own : ownKnob Tryd.prog.godebug = none := by kernel_rfl
theorem laidOut : laidOutB Tryd.prog = true := by kernel_rfl
set_option maxRecDepth 100000 in
theorem contract (H : Type) (enc : TypeId × Value → H) (W : World) (base : Nat) (args : Array Value) (ds gs : List (DataW H)) (before : List MemPlace)
    (hval0 : ∀ (j : Nat) t v, Tryd.f13.params[j]? = some t → args[j]? = some v → Value.okWide Tryd.prog W .any base t v)
    (hW : DataW.Whole enc Tryd.prog Tryd.f13.params.toList Rows.matchMadeSpec.vars false W args.toList ds gs before)
    (hsz0 : (DataW.weightsEach Tryd.prog (Tryd.f13.params.toList ++ Rows.matchMadeSpec.plain.varTypes Tryd.prog) (ds ++ gs)).all (· ≤ reachBytes) = true)
    (hL : laidMetH Tryd.prog Rows.matchMadeRow.laid W)
    : Calls Tryd.prog 13 args W fun e W' => ∃ v, e = .returned v ∧ Rows.matchMadeSpec.post enc Tryd.prog Tryd.f13 false true false false W args v W' := by
  have hval : ∀ (j : Nat) t v, Tryd.f13.params[j]? = some t → args[j]? = some v → Value.okWide Tryd.prog W .any base t v := hval0
  have hsz : (DataW.weightsEach Tryd.prog (Tryd.f13.params.toList ++ Rows.matchMadeSpec.plain.varTypes Tryd.prog) (ds ++ gs)).all (· ≤ reachBytes) = true := hsz0
  have hW' := hW
  obtain ⟨p, q, hA0, hV, rfl, hfz, hnd⟩ := hW
  have hA : DataW.TrodAll enc Tryd.prog W 0 (fun _ => true) true Tryd.f13.params.toList args.toList ds p := hA0
  rw [Tryd.params13] at hA hval hsz
  obtain ⟨v0, vs0, d0, ds0, p0, q0, hargs, rfl, rfl, h0, r0⟩ := trodAll_cons hA
  obtain ⟨v1, vs1, d1, ds1, p1, q1, rfl, rfl, rfl, h1, r1⟩ := trodAll_cons r0
  obtain ⟨v2, vs2, d2, ds2, p2, q2, rfl, rfl, rfl, h2, r2⟩ := trodAll_cons r1
  obtain ⟨rfl, rfl, rfl⟩ := trodAll_nil r2
  obtain rfl : args = #[v0, v1, v2] := by cases args; simp_all
  obtain ⟨rfl, rfl⟩ := trodVars_none hV
  have k0 := h0
  have lt0 : ∀ x ∈ p0, x.block < W.heap.size := by obtain ⟨m, hm⟩ := k0; exact DataW.trod_lt m _ _ _ hm
  obtain ⟨cs0_0, rfl, fit0_0⟩ := open_struct Tryd.underlying24 (f := 6) (by kernel_rfl : flat Tryd.prog 6 24 = some [.sl 22]) (hval 0 24 v0 rfl rfl) h0 (sized_of hsz (j := 0) (t := 24) rfl rfl)
  obtain ⟨_, cs0_1, rfl, ⟨a0_0, n0_0, c0_0, fu0_0, y0_0, rfl, f0_0, g0_0⟩, fit0_1⟩ := fit_i fit0_0
  obtain rfl := fit_nil fit0_1
  have k1 := h1
  have lt1 : ∀ x ∈ p1, x.block < W.heap.size := by obtain ⟨m, hm⟩ := k1; exact DataW.trod_lt m _ _ _ hm
  obtain ⟨a1, n1, c1, rfl⟩ := okWide_slice Tryd.underlying56 (hval 1 56 v1 rfl rfl)
  have f1 : ∃ fuel y, DataW.trod enc Tryd.prog W 0 (fun _ => true) true fuel 56 [.slice a1 n1 c1] = some y ∧ ∀ x ∈ DataW.weights Tryd.prog 56 y.1, x ≤ reachBytes := by obtain ⟨fu, hf⟩ := h1; exact ⟨fu, _, by simpa [Value.cells] using hf, sized_of hsz (j := 1) (t := 56) rfl rfl⟩
  have k2 := h2
  have lt2 : ∀ x ∈ p2, x.block < W.heap.size := by obtain ⟨m, hm⟩ := k2; exact DataW.trod_lt m _ _ _ hm
  obtain ⟨a2, n2, c2, rfl⟩ := okWide_slice Tryd.underlying56 (hval 2 56 v2 rfl rfl)
  have f2 : ∃ fuel y, DataW.trod enc Tryd.prog W 0 (fun _ => true) true fuel 56 [.slice a2 n2 c2] = some y ∧ ∀ x ∈ DataW.weights Tryd.prog 56 y.1, x ≤ reachBytes := by obtain ⟨fu, hf⟩ := h2; exact ⟨fu, _, by simpa [Value.cells] using hf, sized_of hsz (j := 2) (t := 56) rfl rfl⟩
  clear hA0 hval0
  refine (walk a0_0 n0_0 c0_0 a1 n1 c1 a2 n2 c2 W ⟨_, _, f0_0, g0_0⟩ f1 f2 (tabs hL)).mono fun e W' ⟨he, bel⟩ => ?_
  subst he
  exact ⟨_, rfl, _, _, _, [], _, [], hW', trodAll_mk1 (shut_bool Tryd.underlying4 _), (trodAll_cons_mk (Below.trod laidOut (by kernel_rfl) (of_decide_eq_true (by kernel_rfl)) k0 bel lt0) (trodAll_cons_mk (Below.trod laidOut (by kernel_rfl) (of_decide_eq_true (by kernel_rfl)) k1 bel lt1) (trodAll_cons_mk (Below.trod laidOut (by kernel_rfl) (of_decide_eq_true (by kernel_rfl)) k2 bel lt2) trodAll_mk0))), rfl, bel.frame _, fun h => by cases h⟩
noncomputable def laidWorld (os : Os) : World := { World.holding Tryd.prog os ⟨#[], #[], []⟩ with heap := layAll Tryd.prog Rows.matchMadeRow.laid (World.holding Tryd.prog os ⟨#[], #[], []⟩).heap }
theorem laid_met (os : Os) : laidMet Tryd.prog Rows.matchMadeRow.laid ((laidWorld os).forCall (fun _ _ => 0) ⟨#[], #[.agg #[.slice none 0 0], .slice none 0 0, .slice none 0 0], []⟩).memory := laidMet_of_run' 8 (by kernel_rfl) (by kernel_rfl)
theorem reads (os : Os) {H : Type} (enc : TypeId × Value → H) : ∃ places, DataW.whole enc Tryd.prog ((laidWorld os).forCall (fun _ _ => 0) ⟨#[], #[.agg #[.slice none 0 0], .slice none 0 0, .slice none 0 0], []⟩).memory Tryd.f13.params.toList Rows.matchMadeSpec.vars false #[(.agg #[.slice none 0 0] : Value), (.slice none 0 0 : Value), (.slice none 0 0 : Value)].toList 8 = some ([.agg [.nil], .nil, .nil], [], places) := ⟨[], by kernel_rfl⟩
set_option maxRecDepth 100000 in
theorem lifted (os : Os) (started : os.Started) (H : Type) (enc : TypeId × Value → H) (F : Stop.Interp) :
    ReturnsInHanded {} Tryd.checked os 13 .any ((OpenSpec.ofChange Rows.matchMadeSpec).preRow enc Tryd.prog Tryd.f13 Rows.matchMadeRow.domain false Rows.matchMadeRow.laid) (((OpenSpec.ofChange Rows.matchMadeSpec).at F).post enc Tryd.prog Tryd.f13 false true false false) := by
  obtain ⟨places, hx⟩ := reads os enc
  refine returnsInHanded_of_row (C := Tryd.checked) (s := (OpenSpec.ofChange Rows.matchMadeSpec)) own started (by kernel_rfl) Tryd.func13
    (witness_row_at (enc := enc) (C := Tryd.checked) false (laidWorld os) #[.agg #[.slice none 0 0], .slice none 0 0, .slice none 0 0] rfl (by kernel_rfl) (by kernel_rfl) (by kernel_rfl)
      (OpenSpec.preRow_of_cond 8 hx (by kernel_rfl) (fun k hk => by cases hk) (by kernel_rfl) (laid_met os))) ?_
  intro W base args ds gs before hval hW _ hcnd hsz hL _ _
  exact contract H enc W base args ds gs before hval hW hsz  hL
theorem said : Rows.MatchMadeSaid :=
  OpenClaim.holds_of_cond 13 Tryd.f13 rfl rfl rfl rfl rfl rfl rfl ⟨rfl, rfl, rfl, rfl, rfl⟩ rfl rfl rfl rfl rfl (by kernel_rfl) Tryd.func13 (by kernel_rfl)
    (of_decide_eq_true (by kernel_rfl)) (by unfold Func.isWrapper; first | (rw [if_pos (by decide +kernel)]; kernel_rfl) | (rw [if_neg (by decide +kernel)]; exact ⟨rfl, rfl⟩))
    (fun os started H enc _ F => by rw [OpenClaim.pre_eq_preRow]; exact lifted os started H enc F)
theorem plain (f : FuncId) (fn : Func) (hf : Tryd.pinned.checked.prog.funcNamed "trammel/trammellaw11.MatchMade" = some f) (hfn : Tryd.pinned.checked.prog.funcs[f]? = some fn) :
    true = Tryd.pinned.checked.prog.looks [] ∧ ∀ (j : Nat) t, fn.params[j]? = some t → Tryd.pinned.checked.prog.wantsStandIn t = false := by
  obtain rfl : f = 13 := Option.some.inj ((show Tryd.prog.funcNamed "trammel/trammellaw11.MatchMade" = some 13 by kernel_rfl).symm.trans hf) |>.symm
  obtain rfl : fn = Tryd.f13 := (Option.some.inj (Tryd.func13.symm.trans hfn)).symm
  refine ⟨by kernel_rfl, fun j t ht => ?_⟩
  rw [Tryd.params13] at ht
  have hm := Array.mem_of_getElem? ht
  have hm2 : t ∈ ([24, 56] : List Nat) := by simpa using hm
  simp only [List.mem_cons, List.not_mem_nil, or_false] at hm2
  rcases hm2 with rfl | rfl
  · exact (show Tryd.prog.wantsStandIn 24 = false by kernel_rfl)
  · exact (show Tryd.prog.wantsStandIn 56 = false by kernel_rfl)
theorem proved : Rows.MatchMadeCardSaid :=
  Claim7.holds_tied_plain_at .later [] _ _ _ _ said (fun _ h => by cases h) (by kernel_rfl) (fun _ h => by cases h) matchMade_row_tie rfl ⟨rfl, rfl⟩ (by kernel_rfl) rfl plain (by kernel_rfl)
end Go.Proofs.YtdganhamafhfdaaDoor.matchMade
