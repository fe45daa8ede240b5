/- MatchKinds holds for every type and every number. No condition but that the listed package variables hold what the program's text lays. -/
import Derived.Test.YtdganhamafhfdaaDoorCards
import Derived.Test.YtdganhamafhfdaaDoorTie
import Derived.Test.YtdganhamafhfdaaDoorOpn
import Derived.Test.YtdganhamafhfdaaDoorCrd
import Derived.WalkKit
import Derived.ProofKit
import Derived.Deep.DeepHandedRow
import Derived.Test.YtdganhamafhfdaaDoorEqA
import Derived.Test.YtdganhamafhfdaaDoorTyI
import Derived.Test.YtdganhamafhfdaaDoorAid
namespace Go.Proofs.YtdganhamafhfdaaDoor.matchKinds
open Go.ChangeShapes Go.WideShapes Go.ChangeAt Go.RowKit
open Go.ChangeMaps (open_string shut_string)
set_option linter.unusedVariables false
set_option linter.unusedSimpArgs false

theorem tabs {W : World} (h : laidMetH Tryd.prog Rows.matchKindsRow.laid W) : Hid (TabW W) := by
  have hm : ("internal/strconv.uint64pow10", (Rows.laid_internal_strconv_uint64pow10 : DataW Unit)) ∈ Rows.matchKindsRow.laid := .tail _ (.tail _ (.head _))
  rw [show (Rows.laid_internal_strconv_uint64pow10 : DataW Unit) = Lib.tabData .u64 Lib.pow10Tab from by kernel_rfl] at hm
  exact Lib.hid (tabIs_of_mem gPow (t := 211) (e := 166) (n := 20) (by kernel_rfl) Tryd.underlying211 Tryd.underlying166 (by kernel_rfl) (by kernel_rfl) h hm)

theorem root_k {ts : List Ty} (h : tyV ts = true) (x : Int) (hx : 0 ≤ x ∧ x < 4096) :
    instV [vrT x] ts = true ∧ instE [vrT x] ts = 0 ∧ instV [bsT 0] ts = ((ts.getD (ts.length - 1) ty0).k == 0) ∧ instE [bsT 0] ts = 0 ∧ instV [bsT 1] ts = ((ts.getD (ts.length - 1) ty0).k == 1) ∧ instE [bsT 1] ts = 0 ∧ instV ts [vrT x] = ((ts.getD (ts.length - 1) ty0).k == 2) ∧ instE ts [vrT x] = 0 := by
  have h1 : tyV [vrT x] = true := fl_may (T := .var x) (by unfold TT.ok; rw [decide_eq_true hx.1, decide_eq_true hx.2]; rfl) (by simp [TT.sz])
  have h2 : tyV [bsT 0] = true := by kernel_rfl
  have h3 : tyV [bsT 1] = true := by kernel_rfl
  have hto := tyV_of h
  have hs := hto.2.2.2.2
  have hok := hto.1
  unfold instV instE
  rw [h, h1, h2, h3]
  have t1 : treeOf [vrT x] = .var x := rfl
  have t2 : treeOf [bsT 0] = .base 0 := rfl
  have t3 : treeOf [bsT 1] = .base 1 := rfl
  rw [t1, t2, t3]
  generalize treeOf ts = T at hs hok
  cases T with
  | base k =>
    have e : ts.getD (ts.length - 1) ty0 = bsT k := hs.2
    rw [e]
    have hk : k = 0 ∨ k = 1 := by simpa [TT.ok] using hok
    rcases hk with rfl | rfl <;> exact ⟨rfl, rfl, rfl, rfl, rfl, rfl, rfl, rfl⟩
  | var v =>
    have e : ts.getD (ts.length - 1) ty0 = vrT v := hs.2
    rw [e]
    exact ⟨rfl, rfl, rfl, rfl, rfl, rfl, rfl, rfl⟩
  | fn a r b =>
    obtain ⟨_, i, j, e, _⟩ := hs
    rw [e]
    exact ⟨rfl, rfl, rfl, rfl, rfl, rfl, rfl, rfl⟩
theorem root_no {ts : List Ty} (h : tyV ts = false) (x : Int) : instV [vrT x] ts = false ∧ instE [vrT x] ts = 1100 ∧ instV [bsT 0] ts = false ∧ instE [bsT 0] ts = 1100 ∧ instV [bsT 1] ts = false ∧ instE [bsT 1] ts = 1100 := by
  unfold instV instE
  rw [h, Bool.and_false, Bool.and_false, Bool.and_false]
  exact ⟨rfl, rfl, rfl, rfl, rfl, rfl⟩
set_option maxRecDepth 100000 in
set_option maxHeartbeats 8000000 in
theorem walk {H : Type} {enc : TypeId × Value → H} (p0 : Option Addr) (n0 c0 : Nat) (k : Int) (w : World)
    (f0 : ∃ fuel y, DataW.trod enc Tryd.prog w 0 (fun _ => true) true fuel 22 [.slice p0 n0 c0] = some y ∧ ∀ x ∈ DataW.weights Tryd.prog 22 y.1, x ≤ reachBytes) (hkb : -9223372036854775808 ≤ k ∧ k ≤ 9223372036854775807) (hT : Hid (TabW w)) :
    Calls Tryd.prog 16 #[.agg #[.slice p0 n0 c0], .int .i64 k] w fun e w' => e = .returned (.bool true) ∧ Below w.heap.size w w' := by
  obtain ⟨_, _, t, t'⟩ := f0
  obtain ⟨hl0, ts, hA⟩ := ty_open t t'
  clear t t'
  have hA := Lib.hid hA
  obtain ⟨x, hx⟩ : ∃ x, k % 1024 = x := ⟨_, rfl⟩
  have hand : bits .and .i64 k 1023 = x := by rw [and1023, hx]
  have hxb : 0 ≤ x ∧ x < 1024 := by omega
  have hx := Lib.hid hx
  have hno := Lib.hid (fun h => root_no (ts := ts) h x)
  have hyes := Lib.hid (fun h => root_k (ts := ts) h x (by omega))
  have hpos := Lib.hid (fun h => (tyV_le (ts := ts) h))
  have hsome := Lib.hid (fun h => tyArg_some hA.out (ts := ts) h)
  obtain ⟨ok, hok⟩ : ∃ b, tyV ts = b := ⟨_, rfl⟩
  rw [hok] at hno hyes hpos hsome
  have hok := Lib.hid hok
  go_enter Tryd.func16, Tryd.ntmps16
  go_wp2_with fail
  refine (awake11_any _ (Lib.hid (tab_keep hT.out (show Below w.heap.size w _ from by (repeat' (first | with_reducible exact Below.refl _ _ | with_reducible assumption | with_reducible apply Below.setCell | with_reducible apply Below.alloc | with_reducible apply Below.drew | with_reducible apply below_drewN | with_reducible exact Nat.le_refl _ | (simp; done) | (simp; omega) | omega | exact Nat.le_refl _))) (Nat.le_refl _)))).mono ?_
  rintro e w1 ⟨rfl, hb1⟩
  have hX := Lib.hid (show BoxAt w1 w.heap.size (.slice p0 n0 c0) from BoxAt.below (by exact box_lit _ _ _ _ rfl) hb1)
  have hA := Lib.hid (TyArg.below (by exact TyArg.alloc _ hA.out) hb1)
  have hB := Lib.hid (belT (show Below w.heap.size w _ from by (repeat' (first | with_reducible exact Below.refl _ _ | with_reducible assumption | with_reducible apply Below.setCell | with_reducible apply Below.alloc | with_reducible apply Below.drew | with_reducible apply below_drewN | with_reducible exact Nat.le_refl _ | (simp; done) | (simp; omega) | omega | exact Nat.le_refl _))) hb1)
  clear hb1
  obtain ⟨x0, x1⟩ := hX.out
  go_wp2_with fail
  clear x0 x1
  refine (instance_any _ _ _ _ _ _ [vrT x] ts _ (Lib.hid (by exact TyArg.alloc _ (tyArg_lit _ _ _ _ _ _ rfl rfl rfl))) (Lib.hid (by exact TyArg.alloc _ (TyArg.alloc _ hA.out))) (by omega) (by omega)).mono ?_
  rintro e w2 ⟨rfl, hb⟩
  have hF := Lib.hid (show TyArg w2 (some ⟨w1.heap.size, 0, none⟩) 1 [vrT x] from TyArg.below (by exact TyArg.alloc _ (tyArg_lit _ _ _ _ _ _ rfl rfl rfl)) hb)
  have hG := Lib.hid (show BoxAt w2 (w1.heap.size + 1) (.slice (some ⟨w1.heap.size, 0, none⟩) 1 1) from BoxAt.below (by exact box_lit _ _ _ _ (by simp)) hb)
  have hX := Lib.hid (BoxAt.below (by exact BoxAt.alloc _ (BoxAt.alloc _ hX.out)) hb)
  have hA := Lib.hid (TyArg.below (by exact TyArg.alloc _ (TyArg.alloc _ hA.out)) hb)
  have hB := Lib.hid (belT (belA _ (belA _ hB.out)) hb)
  clear hb
  obtain ⟨x0, x1⟩ := hX.out
  go_wp2_with fail
  clear x0 x1
  refine (instance_any _ _ _ _ _ _ [bsT 0] ts _ (Lib.hid (by exact tyArg_lit _ _ _ _ _ _ rfl rfl rfl)) (Lib.hid (by exact TyArg.alloc _ hA.out)) (by omega) (by omega)).mono ?_
  rintro e w3 ⟨rfl, hb⟩
  have hF := Lib.hid ((hF.out.alloc _).below hb)
  have hG := Lib.hid ((hG.out.alloc _).below hb)
  have hX := Lib.hid ((hX.out.alloc _).below hb)
  have hA := Lib.hid ((hA.out.alloc _).below hb)
  have hB := Lib.hid (belT (belA _ hB.out) hb)
  clear hb
  obtain ⟨x0, x1⟩ := hX.out
  go_wp2_with fail
  clear x0 x1
  refine (instance_any _ _ _ _ _ _ [bsT 1] ts _ (Lib.hid (by exact tyArg_lit _ _ _ _ _ _ rfl rfl rfl)) (Lib.hid (by exact TyArg.alloc _ hA.out)) (by omega) (by omega)).mono ?_
  rintro e w4 ⟨rfl, hb⟩
  have hF := Lib.hid ((hF.out.alloc _).below hb)
  have hG := Lib.hid ((hG.out.alloc _).below hb)
  have hX := Lib.hid ((hX.out.alloc _).below hb)
  have hA := Lib.hid ((hA.out.alloc _).below hb)
  have hB := Lib.hid (belT (belA _ hB.out) hb)
  clear hb
  cases ok
  · obtain ⟨e1, e2, e3, e4, e5, e6⟩ := hno.out rfl
    rw [e1, e2, e3, e4, e5, e6]
    clear e1 e2 e3 e4 e5 e6 hno hyes hF hG hX hA hpos hsome
    go_wp2_with ((go_at_call 24; refine (num_any _ _ (by omega) (by omega)).mono ?_; rintro e w' ⟨rfl, rfl⟩))
    go_ret
    exact ⟨rfl, hB.out⟩
  · obtain ⟨e1, e2, e3, e4, e5, e6, e7, e8⟩ := hyes.out rfl
    rw [e1, e2, e3, e4, e5, e6]
    have hp := hpos.out rfl
    obtain ⟨b, off, rfl, _, _⟩ := hsome.out rfl
    obtain ⟨hn, _⟩ := hA.out
    obtain ⟨m, hm⟩ : ∃ m, n0 = m + 1 := ⟨n0 - 1, by omega⟩
    subst hm
    have hml : m + 1 ≤ 256 := by omega
    have hm' : ts.length - 1 = m := by omega
    rw [hm'] at e3 e5 e7 ⊢
    have hne : ts ≠ [] := by intro h; rw [h] at hn; simp at hn
    have hcell := Lib.hid fun (W : World) (hW : TyArg W (some ⟨b, off, none⟩) (m + 1) ts) => (show b < W.heap.size ∧ W.cell? ⟨b, off + m * 9, none⟩ = some (.int .i64 (ts.getD m ty0).k) from ⟨(tyArg_sl hW hne).2, ((tyArg_sl hW hne).1 m (by omega)).1⟩)
    generalize (ts.getD m ty0).k = K at hcell e3 e5 e7 ⊢
    obtain ⟨q0, h0⟩ : ∃ q, (K == 0) = q := ⟨_, rfl⟩
    obtain ⟨q1, h1⟩ : ∃ q, (K == 1) = q := ⟨_, rfl⟩
    obtain ⟨q2, h2⟩ : ∃ q, (K == 2) = q := ⟨_, rfl⟩
    rw [h0] at e3 ⊢
    rw [h1] at e5 ⊢
    rw [h2] at e7
    have e7 := Lib.hid e7
    have e8 := Lib.hid e8
    clear e1 e2 e3 e4 e5 e6 hno hyes hn hm' hne hp hpos hsome
    obtain ⟨x0, x1⟩ := hX.out
    obtain ⟨g0, g1⟩ := hG.out
    go_wp2_with (first | (go_at_call 24; refine (num_any _ _ (by omega) (by omega)).mono ?_; rintro e w' ⟨rfl, rfl⟩))
    clear x0 x1 g0 g1
    refine (instance_any _ _ _ _ _ _ ts [vrT x] _ hA hF (by omega) (by omega)).mono ?_
    rintro e w5 ⟨rfl, hb⟩
    rw [e7.out, e8.out]
    obtain ⟨c0, c1⟩ := hcell.out _ (hA.out.below hb)
    obtain ⟨x0, x1⟩ := hX.out.below hb
    have hB := Lib.hid (belT hB.out hb)
    clear hb hF hG hX hA e7 e8 hcell
    go_wp2_with ((go_at_call 24; refine (num_any _ _ (by omega) (by omega)).mono ?_; rintro e w' ⟨rfl, rfl⟩))
    go_ret
    exact ⟨rfl, hB.out⟩
theorem own : ownKnob Tryd.prog.godebug = none := by kernel_rfl
theorem laidOut : laidOutB Tryd.prog = true := by kernel_rfl
set_option maxRecDepth 100000 in
theorem contract (H : Type) (enc : TypeId × Value → H) (W : World) (base : Nat) (args : Array Value) (ds gs : List (DataW H)) (before : List MemPlace)
    (hval0 : ∀ (j : Nat) t v, Tryd.f16.params[j]? = some t → args[j]? = some v → Value.okWide Tryd.prog W .any base t v)
    (hW : DataW.Whole enc Tryd.prog Tryd.f16.params.toList Rows.matchKindsSpec.vars false W args.toList ds gs before)
    (hsz0 : (DataW.weightsEach Tryd.prog (Tryd.f16.params.toList ++ Rows.matchKindsSpec.plain.varTypes Tryd.prog) (ds ++ gs)).all (· ≤ reachBytes) = true)
    (hL : laidMetH Tryd.prog Rows.matchKindsRow.laid W)
    : Calls Tryd.prog 16 args W fun e W' => ∃ v, e = .returned v ∧ Rows.matchKindsSpec.post enc Tryd.prog Tryd.f16 false true false false W args v W' := by
  have hval : ∀ (j : Nat) t v, Tryd.f16.params[j]? = some t → args[j]? = some v → Value.okWide Tryd.prog W .any base t v := hval0
  have hsz : (DataW.weightsEach Tryd.prog (Tryd.f16.params.toList ++ Rows.matchKindsSpec.plain.varTypes Tryd.prog) (ds ++ gs)).all (· ≤ reachBytes) = true := hsz0
  have hW' := hW
  obtain ⟨p, q, hA0, hV, rfl, hfz, hnd⟩ := hW
  have hA : DataW.TrodAll enc Tryd.prog W 0 (fun _ => true) true Tryd.f16.params.toList args.toList ds p := hA0
  rw [Tryd.params16] at hA hval hsz
  obtain ⟨v0, vs0, d0, ds0, p0, q0, hargs, rfl, rfl, h0, r0⟩ := trodAll_cons hA
  obtain ⟨v1, vs1, d1, ds1, p1, q1, rfl, rfl, rfl, h1, r1⟩ := trodAll_cons r0
  obtain ⟨rfl, rfl, rfl⟩ := trodAll_nil r1
  obtain rfl : args = #[v0, v1] := by cases args; simp_all
  obtain ⟨rfl, rfl⟩ := trodVars_none hV
  have k0 := h0
  have lt0 : ∀ x ∈ p0, x.block < W.heap.size := by obtain ⟨m, hm⟩ := k0; exact DataW.trod_lt m _ _ _ hm
  obtain ⟨cs0_0, rfl, fit0_0⟩ := open_struct Tryd.underlying24 (f := 6) (by kernel_rfl : flat Tryd.prog 6 24 = some [.sl 22]) (hval 0 24 v0 rfl rfl) h0 (sized_of hsz (j := 0) (t := 24) rfl rfl)
  obtain ⟨_, cs0_1, rfl, ⟨a0_0, n0_0, c0_0, fu0_0, y0_0, rfl, f0_0, g0_0⟩, fit0_1⟩ := fit_i fit0_0
  obtain rfl := fit_nil fit0_1
  have k1 := h1
  have lt1 : ∀ x ∈ p1, x.block < W.heap.size := by obtain ⟨m, hm⟩ := k1; exact DataW.trod_lt m _ _ _ hm
  obtain ⟨a1, rfl, rfl, rfl, m1⟩ := open_int Tryd.underlying3 (hval 1 3 v1 rfl rfl) h1
  clear hA0 hval0
  refine (walk a0_0 n0_0 c0_0 a1 W ⟨_, _, f0_0, g0_0⟩ (bd_i64 m1) (tabs hL)).mono fun e W' ⟨he, bel⟩ => ?_
  subst he
  exact ⟨_, rfl, _, _, _, [], _, [], hW', trodAll_mk1 (shut_bool Tryd.underlying4 _), (trodAll_cons_mk (Below.trod laidOut (by kernel_rfl) (of_decide_eq_true (by kernel_rfl)) k0 bel lt0) (trodAll_cons_mk (Below.trod laidOut (by kernel_rfl) (of_decide_eq_true (by kernel_rfl)) k1 bel lt1) trodAll_mk0)), rfl, bel.frame _, fun h => by cases h⟩
noncomputable def laidWorld (os : Os) : World := { World.holding Tryd.prog os ⟨#[], #[], []⟩ with heap := layAll Tryd.prog Rows.matchKindsRow.laid (World.holding Tryd.prog os ⟨#[], #[], []⟩).heap }
theorem laid_met (os : Os) : laidMet Tryd.prog Rows.matchKindsRow.laid ((laidWorld os).forCall (fun _ _ => 0) ⟨#[], #[.agg #[.slice none 0 0], .int .i64 0], []⟩).memory := laidMet_of_run' 8 (by kernel_rfl) (by kernel_rfl)
theorem reads (os : Os) {H : Type} (enc : TypeId × Value → H) : ∃ places, DataW.whole enc Tryd.prog ((laidWorld os).forCall (fun _ _ => 0) ⟨#[], #[.agg #[.slice none 0 0], .int .i64 0], []⟩).memory Tryd.f16.params.toList Rows.matchKindsSpec.vars false #[(.agg #[.slice none 0 0] : Value), (.int .i64 0 : Value)].toList 8 = some ([.agg [.nil], .lit (.int .i64 0)], [], places) := ⟨[], by kernel_rfl⟩
set_option maxRecDepth 100000 in
theorem lifted (os : Os) (started : os.Started) (H : Type) (enc : TypeId × Value → H) (F : Stop.Interp) :
    ReturnsInHanded {} Tryd.checked os 16 .any ((OpenSpec.ofChange Rows.matchKindsSpec).preRow enc Tryd.prog Tryd.f16 Rows.matchKindsRow.domain false Rows.matchKindsRow.laid) (((OpenSpec.ofChange Rows.matchKindsSpec).at F).post enc Tryd.prog Tryd.f16 false true false false) := by
  obtain ⟨places, hx⟩ := reads os enc
  refine returnsInHanded_of_row (C := Tryd.checked) (s := (OpenSpec.ofChange Rows.matchKindsSpec)) own started (by kernel_rfl) Tryd.func16
    (witness_row_at (enc := enc) (C := Tryd.checked) false (laidWorld os) #[.agg #[.slice none 0 0], .int .i64 0] rfl (by kernel_rfl) (by kernel_rfl) (by kernel_rfl)
      (OpenSpec.preRow_of_cond 8 hx (by kernel_rfl) (fun k hk => by cases hk) (by kernel_rfl) (laid_met os))) ?_
  intro W base args ds gs before hval hW _ hcnd hsz hL _ _
  exact contract H enc W base args ds gs before hval hW hsz  hL
theorem said : Rows.MatchKindsSaid :=
  OpenClaim.holds_of_cond 16 Tryd.f16 rfl rfl rfl rfl rfl rfl rfl ⟨rfl, rfl, rfl, rfl, rfl⟩ rfl rfl rfl rfl rfl (by kernel_rfl) Tryd.func16 (by kernel_rfl)
    (of_decide_eq_true (by kernel_rfl)) (by unfold Func.isWrapper; first | (rw [if_pos (by decide +kernel)]; kernel_rfl) | (rw [if_neg (by decide +kernel)]; exact ⟨rfl, rfl⟩))
    (fun os started H enc _ F => by rw [OpenClaim.pre_eq_preRow]; exact lifted os started H enc F)
theorem plain (f : FuncId) (fn : Func) (hf : Tryd.pinned.checked.prog.funcNamed "trammel/trammellaw11.MatchKinds" = some f) (hfn : Tryd.pinned.checked.prog.funcs[f]? = some fn) :
    true = Tryd.pinned.checked.prog.looks [] ∧ ∀ (j : Nat) t, fn.params[j]? = some t → Tryd.pinned.checked.prog.wantsStandIn t = false := by
  obtain rfl : f = 16 := Option.some.inj ((show Tryd.prog.funcNamed "trammel/trammellaw11.MatchKinds" = some 16 by kernel_rfl).symm.trans hf) |>.symm
  obtain rfl : fn = Tryd.f16 := (Option.some.inj (Tryd.func16.symm.trans hfn)).symm
  refine ⟨by kernel_rfl, fun j t ht => ?_⟩
  rw [Tryd.params16] at ht
  have hm := Array.mem_of_getElem? ht
  have hm2 : t ∈ ([24, 3] : List Nat) := by simpa using hm
  simp only [List.mem_cons, List.not_mem_nil, or_false] at hm2
  rcases hm2 with rfl | rfl
  · exact (show Tryd.prog.wantsStandIn 24 = false by kernel_rfl)
  · exact (show Tryd.prog.wantsStandIn 3 = false by kernel_rfl)
theorem proved : Rows.MatchKindsCardSaid :=
  Claim7.holds_tied_plain_at .later [] _ _ _ _ said (fun _ h => by cases h) (by kernel_rfl) (fun _ h => by cases h) matchKinds_row_tie rfl ⟨rfl, rfl⟩ (by kernel_rfl) rfl plain (by kernel_rfl)
end Go.Proofs.YtdganhamafhfdaaDoor.matchKinds
