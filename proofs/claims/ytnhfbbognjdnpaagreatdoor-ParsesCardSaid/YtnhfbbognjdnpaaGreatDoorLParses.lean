/- Parses holds for every text. No condition but that the listed package variable holds what the program's text lays. -/
import Derived.Test.YtnhfbbognjdnpaaGreatDoorPrE
import Derived.Test.YtnhfbbognjdnpaaGreatDoorRkI
import Derived.Test.YtnhfbbognjdnpaaGreatDoorScG
import Derived.Test.YtnhfbbognjdnpaaGreatDoorAid
import Derived.Test.YtnhfbbognjdnpaaGreatDoorCards
import Derived.Test.YtnhfbbognjdnpaaGreatDoorTie
import Derived.Test.YtnhfbbognjdnpaaGreatDoorOpn
import Derived.Test.YtnhfbbognjdnpaaGreatDoorHan
import Derived.WalkKit
import Derived.ProofKit
import Derived.Deep.DeepHandedRow
namespace Go.Proofs.YtnhfbbognjdnpaaGreatDoor.parses
open Go.ChangeShapes Go.WideShapes Go.ChangeAt Go.RowKit
open Go.ChangeMaps (open_string shut_string)
set_option linter.unusedVariables false
set_option linter.unusedSimpArgs false

theorem tabs {W : World} (h : laidMetH Tryz.prog Rows.parsesRow.laid W) : Hid (errTy W) := Lib.hid (errTy_of h (.head _))
theorem cell_go {W W' : World} {p : Addr} {v : Value} (hb : Below W.heap.size W W') (h : W.cell? p = some v) : W'.cell? p = some v := (hb.cell (World.block_lt_of_cell? _ _ h)).trans h
/-- what both tell: operations, nodes, the place, the number. -/
def ParU (r : Except PE (List Or × List Nd)) : List Or × List Nd × Int × Int := match r with
  | .ok p => (p.1, p.2, 0, 0)
  | .error e => ([], [], e.2, e.1)
/-- rows that lie from block B on. -/
def RowsB (B : Nat) (w : World) (ao : Option Addr) (co : Nat) (an : Option Addr) (cn : Nat) (os : List Or) (ts : List Nd) : Prop := OwnO B w (.slice ao os.length co) os ∧ OwnN B w (.slice an ts.length cn) ts
theorem RowsB.below {B : Nat} {w w' : World} {ao an : Option Addr} {co cn : Nat} {os : List Or} {ts : List Nd} (h : RowsB B w ao co an cn os ts) (hb : Below w.heap.size w w') : RowsB B w' ao co an cn os ts := ⟨h.1.below hb, h.2.below hb⟩
theorem RowsB.args {B : Nat} {w : World} {ao an : Option Addr} {co cn : Nat} {os : List Or} {ts : List Nd} (h : RowsB B w ao co an cn os ts) : OArg w ao os.length os ∧ NArg w an ts.length ts := ⟨h.1.arg, h.2.arg⟩
theorem par_u {r : Except PE (List Or × List Nd)} {w w' : World} {e : Ending} (h : PrP r w e w') :
    ∃ ao co an cn, e = .returned (.tuple #[.agg #[.slice ao (ParU r).1.length co, .slice an (ParU r).2.1.length cn], .int .i64 (ParU r).2.2.1, .int .i64 (ParU r).2.2.2]) ∧ Below w.heap.size w w' ∧ RowsB w.heap.size w' ao co an cn (ParU r).1 (ParU r).2.1 := by
  cases r with
  | ok p =>
    obtain ⟨os, ns⟩ := p
    obtain ⟨a, c, a2, c2, rfl, hb, h1, h2⟩ := prp_ok h rfl
    exact ⟨a, c, a2, c2, rfl, hb, h1, h2⟩
  | error x =>
    obtain ⟨rfl, hb⟩ := prp_no h rfl
    exact ⟨none, 0, none, 0, rfl, hb, OwnO.nil _ _, OwnN.nil _ _⟩
theorem parU_ok (s : ByteArray) : (ParU (parseV s)).1.length ≤ 4096 ∧ (ParU (parseV s)).2.1.length ≤ 4096 ∧ 0 ≤ (ParU (parseV s)).2.2.2 ∧ (ParU (parseV s)).2.2.2 ≤ 403 := by
  cases hq : parseV s with
  | ok p =>
    obtain ⟨os, ns⟩ := p
    have h := parse_k hq
    exact ⟨by have := h.ol; show os.length ≤ _; omega, by have := h.l1; show ns.length ≤ _; omega, Int.le_refl 0, by show (0 : Int) ≤ 403; omega⟩
  | error e =>
    obtain ⟨h1, h2⟩ := parse_no hq
    exact ⟨Nat.zero_le _, Nat.zero_le _, by show 0 ≤ e.1; omega, by show e.1 ≤ 403; omega⟩
theorem RowsB.args2 {B : Nat} {w w' : World} {ao an : Option Addr} {co cn : Nat} {os : List Or} {ts : List Nd} (h : RowsB B w ao co an cn os ts) (hs : w.heap.size ≤ w'.heap.size) (hc : ∀ p : Addr, B ≤ p.block → p.block < w.heap.size → w'.cell? p = w.cell? p) : OArg w' ao os.length os ∧ NArg w' an ts.length ts := by
  refine ⟨?_, ?_⟩
  · rcases h.1.cases with ⟨h1, rfl⟩ | ⟨g, c, h1, h2, h3, _, h5, _⟩
    · injection h1 with e1 e2 e3
      subst e1
      exact ⟨rfl, .inl rfl⟩
    · injection h1 with e1 e2 e3
      subst e1
      refine ⟨rfl, .inr ⟨g, 0, rfl, fun i hi => ?_, by omega⟩⟩
      have hcc := fun o : Nat => hc ⟨g, o, none⟩ h2 h3
      obtain ⟨e0, e1, e2⟩ := h5 i hi
      exact ⟨(hcc _).trans e0, (hcc _).trans e1, (hcc _).trans e2⟩
  · rcases h.2.cases with ⟨h1, rfl⟩ | ⟨g, c, h1, h2, h3, _, h5, _⟩
    · injection h1 with e1 e2 e3
      subst e1
      exact ⟨rfl, .inl rfl⟩
    · injection h1 with e1 e2 e3
      subst e1
      refine ⟨rfl, .inr ⟨g, 0, rfl, fun i hi => ?_, by omega⟩⟩
      have hcc := fun o : Nat => hc ⟨g, o, none⟩ h2 h3
      obtain ⟨e0, e1, e2, e3, e4, e5, e6, e7, e8, e9⟩ := h5 i hi
      exact ⟨(hcc _).trans e0, (hcc _).trans e1, (hcc _).trans e2, (hcc _).trans e3, (hcc _).trans e4, (hcc _).trans e5, (hcc _).trans e6, (hcc _).trans e7, (hcc _).trans e8, (hcc _).trans e9⟩
theorem RowsB.nsp {B : Nat} {w : World} {ao an : Option Addr} {co cn : Nat} {os : List Or} {ts : List Nd} (h : RowsB B w ao co an cn os ts) : NSp B w an ts := by
  rcases h.2.cases with ⟨h1, rfl⟩ | ⟨g, c, h1, h2, h3, _, h5, h6⟩
  · exact .inl rfl
  · injection h1 with e1 e2 e3
    exact .inr ⟨g, e1, h2, h3, h5, h6⟩
theorem RowsB.own {B : Nat} {w : World} {ao an : Option Addr} {co cn : Nat} {os : List Or} {ts : List Nd} (h : RowsB B w ao co an cn os ts) (k : Nat) (hk : w.heap.size ≤ k) : (Value.slice ao os.length co).ownBlock ≠ some k ∧ (Value.slice an ts.length cn).ownBlock ≠ some k :=
  ⟨fun e => by have := (own_lt h.1 k e).2; omega, fun e => by have := (own_lt h.2 k e).2; omega⟩
set_option maxRecDepth 100000 in
set_option maxHeartbeats 8000000 in
theorem walk (s : ByteArray) (w : World) (hs : s.size ≤ 140737488351232) (hg : Hid (errTy w)) :
    Calls Tryz.prog 3 #[.string s] w fun e w' => e = .returned (.bool true) ∧ Below w.heap.size w w' := by
  obtain ⟨z1, z2, z5, z6⟩ := parU_ok s
  have kP := Lib.hid fun (W : World) (hb : Below w.heap.size w W) => Parse_any s W (by omega) (Lib.hid (errTy_below hg.out hb))
  have kR := Lib.hid fun (W : World) => rParse_any s W (by omega)
  have hru := Lib.hid fun (W W' : World) (e : Ending) (h : PrP (parseV s) W e W') => par_u h
  generalize parseV s = r at kP kR hru z1 z2 z5 z6
  generalize ParU r = R at hru z1 z2 z5 z6
  obtain ⟨oA, nA, at_, code⟩ := R
  dsimp only at z1 z2 z5 z6 hru
  have hcd : code ≤ 9223372036854775807 := by omega
  have hlo : oA.length ≤ 140737488351232 := by omega
  have hln : nA.length ≤ 140737488351232 := by omega
  go_enter Tryz.func3, Tryz.ntmps3
  go_wp2_with fail
  refine (kP.out _ (Below.refl _ _)).mono ?_
  intro e w1 hpost
  obtain ⟨ao, co, an, cn, rfl, hb, hA⟩ := hru.out _ _ _ hpost
  clear hpost
  have hA := Lib.hid hA
  have hB := Lib.hid hb
  clear hb
  go_upto_region 2 with fail
  obtain ⟨w2, hw2⟩ : ∃ W, w1.alloc (.cells #[.slice ao oA.length co, .slice an nA.length cn] 25) = W := ⟨_, rfl⟩
  have hX : Hid (Pg w2 w1.heap.size ao oA.length co an nA.length cn) := Lib.hid (by rw [← hw2]; exact pg_lit _ _ _ rfl _ _ _ _ _ _)
  have hb : Below w1.heap.size w1 w2 := by rw [← hw2]; exact below_alc _ _
  have hz : w2.heap.size = w1.heap.size + 1 := by rw [← hw2]; simp
  (try rw [hw2])
  clear hw2
  have hA2 := Lib.hid (hA.out.below hb)
  have hB := Lib.hid (belT hB.out hb)
  clear hb
  go_wp2_with fail
  refine (kR.out w2).mono ?_
  intro e w3 hpost
  obtain ⟨bo, eo, bn, en, rfl, hb, hC⟩ := hru.out _ _ _ hpost
  clear hpost
  have hC := Lib.hid hC
  have hB := Lib.hid (belT hB.out hb)
  have hA2 := Lib.hid (hA2.out.below hb)
  have hX := Lib.hid (hX.out.below hb)
  have hz3 := hb.size
  clear hb kR
  go_upto_region 3 with fail
  obtain ⟨w4, hw4⟩ : ∃ W, w3.alloc (.cells #[.slice bo oA.length eo, .slice bn nA.length en] 25) = W := ⟨_, rfl⟩
  have hY : Hid (Pg w4 w3.heap.size bo oA.length eo bn nA.length en) := Lib.hid (by rw [← hw4]; exact pg_lit _ _ _ rfl _ _ _ _ _ _)
  have hb : Below w3.heap.size w3 w4 := by rw [← hw4]; exact below_alc _ _
  (try rw [hw4])
  clear hw4
  have hC := Lib.hid (hC.out.below hb)
  have hB := Lib.hid (belT hB.out hb)
  have hA2 := Lib.hid (hA2.out.below hb)
  have hX := Lib.hid (hX.out.below hb)
  clear hb
  have kS := Lib.hid (sameProg_any ao an bo bn oA.length co nA.length cn oA.length eo nA.length en oA nA w4 (Lib.hid hA2.out.args.1) (Lib.hid hA2.out.args.2) (Lib.hid hC.out.args.1) (Lib.hid hC.out.args.2) hlo hln)
  obtain ⟨a0, a1, a2⟩ := hX.out
  obtain ⟨b0, b1, b2⟩ := hY.out
  go_wp2_with fail
  clear a0 a1 a2 b0 b1 b2
  refine kS.out.mono ?_
  rintro e w5 ⟨rfl, hb⟩
  have hC := Lib.hid (hC.out.below hb)
  have hB := Lib.hid (belT hB.out hb)
  have hA2 := Lib.hid (hA2.out.below hb)
  have hX := Lib.hid (hX.out.below hb)
  have hY := Lib.hid (hY.out.below hb)
  clear hb kS
  go_wp2_with fail
  refine (num_any code _ z5 hcd).mono ?_
  rintro e wN ⟨rfl, rfl⟩
  have kQ := Lib.hid (spoilProg_oth w.heap.size ao co an cn oA nA w5 hB.out.size (Lib.hid hA2.out.1) (Lib.hid hA2.out.nsp) (by omega) (by omega))
  obtain ⟨a0, a1, a2⟩ := hX.out
  go_wp2_with fail
  clear a0 a1 a2
  refine kQ.out.mono ?_
  rintro e w6 ⟨rfl, hb, hoth⟩
  have h5 := hA2.out
  have hownA : ∀ k, w2.heap.size ≤ k → (Value.slice ao oA.length co).ownBlock ≠ some k ∧ (Value.slice an nA.length cn).ownBlock ≠ some k := fun k hk => hA.out.own k (by omega)
  have hY6 : Hid (Pg w6 w3.heap.size bo oA.length eo bn nA.length en) := Lib.hid (by
    obtain ⟨p0, p1, p2⟩ := hY.out
    have hq := hownA w3.heap.size hz3
    exact ⟨by have := hb.size; have := hB.out.size; omega, (hoth ⟨_, 0, none⟩ p0 hq.1 hq.2).trans p1, (hoth ⟨_, 1, none⟩ p0 hq.1 hq.2).trans p2⟩)
  have hC6 := hC.out.args2 (w' := w6) hb.size (fun p h1 h2 => by
    have hq := hownA p.block h1
    exact hoth p h2 hq.1 hq.2)
  have hB6 := Lib.hid (hB.out.trans hb)
  have hC6 := Lib.hid hC6
  clear hb hoth h5 hownA hA hA2 hX hY hC hB kQ
  go_wp2_with fail
  refine (kP.out _ hB6.out).mono ?_
  intro e w7 hpost
  obtain ⟨co_, eo_, cn_, en_, rfl, hb, hD⟩ := hru.out _ _ _ hpost
  clear hpost
  have hD := Lib.hid hD
  have hB7 := Lib.hid (belT hB6.out hb)
  have hY7 := Lib.hid (hY6.out.below hb)
  have hC7 := Lib.hid (show OArg w7 bo oA.length oA ∧ NArg w7 bn nA.length nA from ⟨hC6.out.1.below hb, hC6.out.2.below hb⟩)
  clear hb kP hB6 hY6 hC6
  go_upto_region 7 with fail
  obtain ⟨w8, hw8⟩ : ∃ W, w7.alloc (.cells #[.slice co_ oA.length eo_, .slice cn_ nA.length en_] 25) = W := ⟨_, rfl⟩
  have hZ : Hid (Pg w8 w7.heap.size co_ oA.length eo_ cn_ nA.length en_) := Lib.hid (by rw [← hw8]; exact pg_lit _ _ _ rfl _ _ _ _ _ _)
  have hb : Below w7.heap.size w7 w8 := by rw [← hw8]; exact below_alc _ _
  (try rw [hw8])
  clear hw8
  have hD := Lib.hid (hD.out.below hb)
  have hB8 := Lib.hid (belT hB7.out hb)
  have hY8 := Lib.hid (hY7.out.below hb)
  have hC8 := Lib.hid (show OArg w8 bo oA.length oA ∧ NArg w8 bn nA.length nA from ⟨hC7.out.1.below hb, hC7.out.2.below hb⟩)
  clear hb hB7 hY7 hC7
  have kS := Lib.hid (sameProg_any co_ cn_ bo bn oA.length eo_ nA.length en_ oA.length eo nA.length en oA nA w8 (Lib.hid hD.out.args.1) (Lib.hid hD.out.args.2) (Lib.hid hC8.out.1) (Lib.hid hC8.out.2) hlo hln)
  obtain ⟨a0, a1, a2⟩ := hZ.out
  obtain ⟨b0, b1, b2⟩ := hY8.out
  go_wp2_with fail
  clear a0 a1 a2 b0 b1 b2
  refine kS.out.mono ?_
  rintro e w9 ⟨rfl, hb⟩
  have hB9 := Lib.hid (belT hB8.out hb)
  clear hb kS hD hB8 hY8 hC8 hZ
  go_wp2_with fail
  refine (awake4_any _ (Lib.hid (errTy_below hg.out hB9.out))).mono ?_
  rintro e w10 ⟨rfl, hb⟩
  go_wp2_with fail
  go_ret
  exact ⟨rfl, belT hB9.out hb⟩
theorem own : ownKnob Tryz.prog.godebug = none := by kernel_rfl
theorem laidOut : laidOutB Tryz.prog = true := by kernel_rfl
set_option maxRecDepth 100000 in
theorem contract (H : Type) (enc : TypeId × Value → H) (W : World) (base : Nat) (args : Array Value) (ds gs : List (DataW H)) (before : List MemPlace)
    (hval0 : ∀ (j : Nat) t v, Tryz.f3.params[j]? = some t → args[j]? = some v → Value.okWide Tryz.prog W .any base t v)
    (hW : DataW.Whole enc Tryz.prog Tryz.f3.params.toList Rows.parsesSpec.vars false W args.toList ds gs before)
    (hsz0 : (DataW.weightsEach Tryz.prog (Tryz.f3.params.toList ++ Rows.parsesSpec.plain.varTypes Tryz.prog) (ds ++ gs)).all (· ≤ reachBytes) = true)
    (hL : laidMetH Tryz.prog Rows.parsesRow.laid W)
    : Calls Tryz.prog 3 args W fun e W' => ∃ v, e = .returned v ∧ Rows.parsesSpec.post enc Tryz.prog Tryz.f3 false true false false W args v W' := by
  have hval : ∀ (j : Nat) t v, Tryz.f3.params[j]? = some t → args[j]? = some v → Value.okWide Tryz.prog W .any base t v := hval0
  have hsz : (DataW.weightsEach Tryz.prog (Tryz.f3.params.toList ++ Rows.parsesSpec.plain.varTypes Tryz.prog) (ds ++ gs)).all (· ≤ reachBytes) = true := hsz0
  have hW' := hW
  obtain ⟨p, q, hA0, hV, rfl, hfz, hnd⟩ := hW
  have hA : DataW.TrodAll enc Tryz.prog W 0 (fun _ => true) true Tryz.f3.params.toList args.toList ds p := hA0
  rw [Tryz.params3] at hA hval hsz
  obtain ⟨v0, vs0, d0, ds0, p0, q0, hargs, rfl, rfl, h0, r0⟩ := trodAll_cons hA
  obtain ⟨rfl, rfl, rfl⟩ := trodAll_nil r0
  obtain rfl : args = #[v0] := by cases args; simp_all
  obtain ⟨rfl, rfl⟩ := trodVars_none hV
  have k0 := h0
  have lt0 : ∀ x ∈ p0, x.block < W.heap.size := by obtain ⟨m, hm⟩ := k0; exact DataW.trod_lt m _ _ _ hm
  obtain ⟨a0, rfl, rfl, rfl, m0⟩ := open_string Tryz.underlying9 (hval 0 9 v0 rfl rfl) h0
  have w0 : a0.size ≤ 140737488351232 := by
    have := sized_string hsz (j := 0) (t := 9) rfl rfl
    simp [reachBytes] at this; omega
  clear hA0 hval0
  refine (walk a0 W w0 (tabs hL)).mono fun e W' ⟨he, bel⟩ => ?_
  subst he
  exact ⟨_, rfl, _, _, _, [], _, [], hW', trodAll_mk1 (shut_bool Tryz.underlying4 _), (trodAll_cons_mk (Below.trod laidOut (by kernel_rfl) (of_decide_eq_true (by kernel_rfl)) k0 bel lt0) trodAll_mk0), rfl, bel.frame _, fun h => by cases h⟩
theorem laid_met (os : Os) : laidMetH Tryz.prog Rows.parsesRow.laid ((handleWorld os).forCall (fun _ _ => 0) ⟨#[], #[.string ByteArray.empty], []⟩).memory := laidMetH_of_parts (laidMet_nil _ _) (by kernel_rfl)
theorem reads (os : Os) {H : Type} (enc : TypeId × Value → H) : ∃ places, DataW.whole enc Tryz.prog ((handleWorld os).forCall (fun _ _ => 0) ⟨#[], #[.string ByteArray.empty], []⟩).memory Tryz.f3.params.toList Rows.parsesSpec.vars false #[(.string ByteArray.empty : Value)].toList 8 = some ([.lit (.string [])], [], places) := ⟨[], by kernel_rfl⟩
set_option maxRecDepth 100000 in
theorem lifted (os : Os) (started : os.Started) (H : Type) (enc : TypeId × Value → H) (F : Stop.Interp) :
    ReturnsInHanded {} Tryz.checked os 3 .any ((OpenSpec.ofChange Rows.parsesSpec).preRow enc Tryz.prog Tryz.f3 Rows.parsesRow.domain false Rows.parsesRow.laid) (((OpenSpec.ofChange Rows.parsesSpec).at F).post enc Tryz.prog Tryz.f3 false true false false) := by
  obtain ⟨places, hx⟩ := reads os enc
  refine returnsInHanded_of_row (C := Tryz.checked) (s := (OpenSpec.ofChange Rows.parsesSpec)) own started (by kernel_rfl) Tryz.func3
    (witness_row_at (enc := enc) (C := Tryz.checked) false (handleWorld os) #[.string ByteArray.empty] rfl (by kernel_rfl) (by kernel_rfl) (by kernel_rfl)
      (OpenSpec.preRow_of_cond 8 hx (by kernel_rfl) (fun k hk => by cases hk) (by kernel_rfl) (laid_met os))) ?_
  intro W base args ds gs before hval hW _ hcnd hsz hL _ _
  exact contract H enc W base args ds gs before hval hW hsz  hL
theorem said : Rows.ParsesSaid :=
  OpenClaim.holds_of_cond 3 Tryz.f3 rfl rfl rfl rfl rfl rfl rfl ⟨rfl, rfl, rfl, rfl, rfl⟩ rfl rfl rfl rfl rfl (by kernel_rfl) Tryz.func3 (by kernel_rfl)
    (of_decide_eq_true (by kernel_rfl)) (by unfold Func.isWrapper; first | (rw [if_pos (by decide +kernel)]; kernel_rfl) | (rw [if_neg (by decide +kernel)]; exact ⟨rfl, rfl⟩))
    (fun os started H enc _ F => by rw [OpenClaim.pre_eq_preRow]; exact lifted os started H enc F)
theorem plain (f : FuncId) (fn : Func) (hf : Tryz.pinned.checked.prog.funcNamed "trammel/trammellaw4.Parses" = some f) (hfn : Tryz.pinned.checked.prog.funcs[f]? = some fn) :
    true = Tryz.pinned.checked.prog.looks [] ∧ ∀ (j : Nat) t, fn.params[j]? = some t → Tryz.pinned.checked.prog.wantsStandIn t = false := by
  obtain rfl : f = 3 := Option.some.inj ((show Tryz.prog.funcNamed "trammel/trammellaw4.Parses" = some 3 by kernel_rfl).symm.trans hf) |>.symm
  obtain rfl : fn = Tryz.f3 := (Option.some.inj (Tryz.func3.symm.trans hfn)).symm
  refine ⟨by kernel_rfl, fun j t ht => ?_⟩
  rw [Tryz.params3] at ht
  have hm := Array.mem_of_getElem? ht
  have hm2 : t ∈ ([9] : List Nat) := by simpa using hm
  simp only [List.mem_cons, List.not_mem_nil, or_false] at hm2
  subst hm2; exact (show Tryz.prog.wantsStandIn 9 = false by kernel_rfl)
theorem proved : Rows.ParsesCardSaid :=
  Claim7.holds_tied_plain_at .later [] _ _ _ _ said (fun _ h => by cases h) (by kernel_rfl) (fun _ h => by cases h) parses_row_tie rfl ⟨rfl, rfl⟩ (by kernel_rfl) rfl plain (by kernel_rfl)
end Go.Proofs.YtnhfbbognjdnpaaGreatDoor.parses
