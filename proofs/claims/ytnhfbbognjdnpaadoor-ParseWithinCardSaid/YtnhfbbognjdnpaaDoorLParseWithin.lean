/- ParseWithin holds for every text. No condition but that the listed package variable holds what the program's text lays. -/
import Derived.Test.YtnhfbbognjdnpaaDoorPrE
import Derived.Test.YtnhfbbognjdnpaaDoorAid
import Derived.Test.YtnhfbbognjdnpaaDoorCards
import Derived.Test.YtnhfbbognjdnpaaDoorTie
import Derived.Test.YtnhfbbognjdnpaaDoorOpn
import Derived.Test.YtnhfbbognjdnpaaDoorHan
import Derived.WalkKit
import Derived.ProofKit
import Derived.Deep.DeepHandedRow
namespace Go.Proofs.YtnhfbbognjdnpaaDoor.parseWithin
open Go.ChangeShapes Go.WideShapes Go.ChangeAt Go.RowKit
open Go.ChangeMaps (open_string shut_string)
set_option linter.unusedVariables false
set_option linter.unusedSimpArgs false

theorem tabs {W : World} (h : laidMetH Tryd.prog Rows.parseWithinRow.laid W) : Hid (errTy W) := Lib.hid (errTy_of h (.head _))
set_option maxRecDepth 100000 in
set_option maxHeartbeats 8000000 in
theorem walk (s : ByteArray) (w : World) (hs : s.size ≤ 140737488351232) (hg : Hid (errTy w)) :
    Calls Tryd.prog 3 #[.string s] w fun e w' => e = .returned (.bool true) ∧ Below w.heap.size w w' := by
  have kA := Lib.hid (awake4_any w hg)
  have kP := Lib.hid fun (W : World) (hb : Below w.heap.size w W) => Parse_any s W (by omega) (Lib.hid (errTy_below hg.out hb))
  have hsz : (s.size : Int) ≤ 140737488351232 := by omega
  have hK := Lib.hid fun (os : List Or) (ns : List Nd) (h : parseV s = .ok (os, ns)) => parse_k h
  have hE := Lib.hid fun (x : PE) (h : parseV s = .error x) => parse_no h
  generalize parseV s = R at kP hK hE
  go_enter Tryd.func3, Tryd.ntmps3
  go_wp2_with fail
  refine kA.out.mono ?_
  rintro e w1 ⟨rfl, hb1⟩
  have hB1 := Lib.hid hb1
  clear kA hb1
  go_wp2_with fail
  refine (kP.out w1 hB1.out).mono ?_
  intro e w2 hpost
  clear kP
  rcases R with x | ⟨os, ns⟩
  · obtain ⟨rfl, hb2⟩ := prp_no hpost rfl
    obtain ⟨⟨x1, x2⟩, x3, x4⟩ := hE.out x rfl
    obtain ⟨xc, xp⟩ := x
    dsimp only at x1 x2 x3 x4
    have hB2 := Lib.hid (belT hB1.out hb2)
    have e0 : (xc == 0) = false := beq_eq_false_iff_ne.2 (by omega)
    clear hpost hb2
    go_wp2_with ((go_at_call 12; refine (num_any _ _ (by omega) (by omega)).mono ?_; rintro e w' ⟨rfl, rfl⟩))
    go_ret
    exact ⟨rfl, by first | exact hB2.out | exact belT hB2.out (by (repeat' (first | with_reducible exact Below.refl _ _ | with_reducible assumption | with_reducible apply Below.setCell | with_reducible apply Below.alloc | with_reducible apply Below.drew | with_reducible apply below_drewN | with_reducible exact Nat.le_refl _ | (simp; done) | (simp; omega) | omega | exact Nat.le_refl _)))⟩
  · obtain ⟨a, c, a2, c2, rfl, hb2, ho, hn⟩ := prp_ok hpost rfl
    have hk := Lib.hid (hK.out os ns rfl)
    have hO := Lib.hid (show OArg w2 a os.length os from ho.arg)
    have hN := Lib.hid (show NArg w2 a2 ns.length ns from hn.arg)
    have hB2 := Lib.hid (belT hB1.out hb2)
    have hg2 := Lib.hid (errTy_below hg.out hB2.out)
    have hl1 := hk.out.l1
    have hol := hk.out.ol
    clear hpost ho hn hb2 hK hE hB1
    have kM := Lib.hid fun (W : World) (hb : Below w2.heap.size w2 W) => tMay_any a a2 os.length c ns.length c2 os ns W (Lib.hid (hO.out.below hb)) (Lib.hid hk.out.oz) (by omega) (Lib.hid (hN.out.below hb)) (Lib.hid hk.out.sz) (by omega) (Lib.hid (errTy_below hg2.out hb))
    simp only [hk.out.may] at kM
    go_wp2_with ((go_at_call 12; refine (num_any _ _ (by omega) (by omega)).mono ?_; rintro e w' ⟨rfl, rfl⟩))
    refine (kM.out _ (by (repeat' (first | with_reducible exact Below.refl _ _ | with_reducible assumption | with_reducible apply Below.setCell | with_reducible apply Below.alloc | with_reducible apply Below.drew | with_reducible apply below_drewN | with_reducible exact Nat.le_refl _ | (simp; done) | (simp; omega) | omega | exact Nat.le_refl _)))).mono ?_
    rintro e w3 ⟨rfl, hb3⟩
    have hb3' := Lib.hid (belT (show Below w2.heap.size w2 _ from by (repeat' (first | with_reducible exact Below.refl _ _ | with_reducible assumption | with_reducible apply Below.setCell | with_reducible apply Below.alloc | with_reducible apply Below.drew | with_reducible apply below_drewN | with_reducible exact Nat.le_refl _ | (simp; done) | (simp; omega) | omega | exact Nat.le_refl _))) hb3)
    have q1 : w3.cell? ⟨w2.heap.size, 1, none⟩ = some (.slice a2 ns.length c2) := carry hb3 (by simp) (by simp [go_sem])
    have hN3 := Lib.hid (hN.out.below hb3'.out)
    have hB3 := Lib.hid (belT hB2.out hb3'.out)
    have hl3 : w2.heap.size < w3.heap.size := Nat.lt_of_lt_of_le (by simp) hb3.size
    clear hb3 kM hN hO hb3' hB2
    go_wp2_with fail
    go_loopw [6] (fun iv wr => ∃ j : Nat, j ≤ ns.length ∧ iv = .int .i64 j ∧ wr = w3) (fun iv _ => ns.length - (intOf iv).toNat)
    case atStart => exact ⟨0, by omega, rfl, rfl⟩
    case round =>
      obtain ⟨j, hj, rfl, rfl⟩ := hrel
      by_cases hlt : j < ns.length
      · rcases hN3.out.2 with h0 | ⟨b, off, rfl, hsl, hbl⟩
        · rw [h0] at hlt; simp at hlt
        have hT := (hsl j hlt)
        have hp := (hk.out.at_ j hlt)
        generalize ns.getD j nd0 = t at hT hp
        unfold NdAt at hT
        obtain ⟨e0, e1, e2, e3, e4, e5, e6, e7, e8, e9⟩ := hT
        have hji : (j : Int) < (ns.length : Int) := by omega
        have hj0 : (0 : Int) ≤ (j : Int) := by omega
        have hp2 : ¬ (s.size : Int) ≤ t.p := by omega
        clear hsl e0 e1 e2 e3 e4 e5 e6 e7 e8 hp
        go_wp2_with fail
        go_roundw
        case rel => exact ⟨j + 1, by omega, by go_num, by first | trivial | rfl⟩
        case measure => simp [intOf]; omega
      · obtain rfl : j = ns.length := by omega
        go_wp2_with fail
        go_ret
        exact ⟨rfl, hB3.out⟩
theorem own : ownKnob Tryd.prog.godebug = none := by kernel_rfl
theorem laidOut : laidOutB Tryd.prog = true := by kernel_rfl
set_option maxRecDepth 100000 in
theorem contract (H : Type) (enc : TypeId × Value → H) (W : World) (base : Nat) (args : Array Value) (ds gs : List (DataW H)) (before : List MemPlace)
    (hval0 : ∀ (j : Nat) t v, Tryd.f3.params[j]? = some t → args[j]? = some v → Value.okWide Tryd.prog W .any base t v)
    (hW : DataW.Whole enc Tryd.prog Tryd.f3.params.toList Rows.parseWithinSpec.vars false W args.toList ds gs before)
    (hsz0 : (DataW.weightsEach Tryd.prog (Tryd.f3.params.toList ++ Rows.parseWithinSpec.plain.varTypes Tryd.prog) (ds ++ gs)).all (· ≤ reachBytes) = true)
    (hL : laidMetH Tryd.prog Rows.parseWithinRow.laid W)
    : Calls Tryd.prog 3 args W fun e W' => ∃ v, e = .returned v ∧ Rows.parseWithinSpec.post enc Tryd.prog Tryd.f3 false true false false W args v W' := by
  have hval : ∀ (j : Nat) t v, Tryd.f3.params[j]? = some t → args[j]? = some v → Value.okWide Tryd.prog W .any base t v := hval0
  have hsz : (DataW.weightsEach Tryd.prog (Tryd.f3.params.toList ++ Rows.parseWithinSpec.plain.varTypes Tryd.prog) (ds ++ gs)).all (· ≤ reachBytes) = true := hsz0
  have hW' := hW
  obtain ⟨p, q, hA0, hV, rfl, hfz, hnd⟩ := hW
  have hA : DataW.TrodAll enc Tryd.prog W 0 (fun _ => true) true Tryd.f3.params.toList args.toList ds p := hA0
  rw [Tryd.params3] at hA hval hsz
  obtain ⟨v0, vs0, d0, ds0, p0, q0, hargs, rfl, rfl, h0, r0⟩ := trodAll_cons hA
  obtain ⟨rfl, rfl, rfl⟩ := trodAll_nil r0
  obtain rfl : args = #[v0] := by cases args; simp_all
  obtain ⟨rfl, rfl⟩ := trodVars_none hV
  have k0 := h0
  have lt0 : ∀ x ∈ p0, x.block < W.heap.size := by obtain ⟨m, hm⟩ := k0; exact DataW.trod_lt m _ _ _ hm
  obtain ⟨a0, rfl, rfl, rfl, m0⟩ := open_string Tryd.underlying9 (hval 0 9 v0 rfl rfl) h0
  have w0 : a0.size ≤ 140737488351232 := by
    have := sized_string hsz (j := 0) (t := 9) rfl rfl
    simp [reachBytes] at this; omega
  clear hA0 hval0
  refine (walk a0 W w0 (tabs hL)).mono fun e W' ⟨he, bel⟩ => ?_
  subst he
  exact ⟨_, rfl, _, _, _, [], _, [], hW', trodAll_mk1 (shut_bool Tryd.underlying4 _), (trodAll_cons_mk (Below.trod laidOut (by kernel_rfl) (of_decide_eq_true (by kernel_rfl)) k0 bel lt0) trodAll_mk0), rfl, bel.frame _, fun h => by cases h⟩
theorem laid_met (os : Os) : laidMetH Tryd.prog Rows.parseWithinRow.laid ((handleWorld os).forCall (fun _ _ => 0) ⟨#[], #[.string ByteArray.empty], []⟩).memory := laidMetH_of_parts (laidMet_nil _ _) (by kernel_rfl)
theorem reads (os : Os) {H : Type} (enc : TypeId × Value → H) : ∃ places, DataW.whole enc Tryd.prog ((handleWorld os).forCall (fun _ _ => 0) ⟨#[], #[.string ByteArray.empty], []⟩).memory Tryd.f3.params.toList Rows.parseWithinSpec.vars false #[(.string ByteArray.empty : Value)].toList 8 = some ([.lit (.string [])], [], places) := ⟨[], by kernel_rfl⟩
set_option maxRecDepth 100000 in
theorem lifted (os : Os) (started : os.Started) (H : Type) (enc : TypeId × Value → H) (F : Stop.Interp) :
    ReturnsInHanded {} Tryd.checked os 3 .any ((OpenSpec.ofChange Rows.parseWithinSpec).preRow enc Tryd.prog Tryd.f3 Rows.parseWithinRow.domain false Rows.parseWithinRow.laid) (((OpenSpec.ofChange Rows.parseWithinSpec).at F).post enc Tryd.prog Tryd.f3 false true false false) := by
  obtain ⟨places, hx⟩ := reads os enc
  refine returnsInHanded_of_row (C := Tryd.checked) (s := (OpenSpec.ofChange Rows.parseWithinSpec)) own started (by kernel_rfl) Tryd.func3
    (witness_row_at (enc := enc) (C := Tryd.checked) false (handleWorld os) #[.string ByteArray.empty] rfl (by kernel_rfl) (by kernel_rfl) (by kernel_rfl)
      (OpenSpec.preRow_of_cond 8 hx (by kernel_rfl) (fun k hk => by cases hk) (by kernel_rfl) (laid_met os))) ?_
  intro W base args ds gs before hval hW _ hcnd hsz hL _ _
  exact contract H enc W base args ds gs before hval hW hsz  hL
theorem said : Rows.ParseWithinSaid :=
  OpenClaim.holds_of_cond 3 Tryd.f3 rfl rfl rfl rfl rfl rfl rfl ⟨rfl, rfl, rfl, rfl, rfl⟩ rfl rfl rfl rfl rfl (by kernel_rfl) Tryd.func3 (by kernel_rfl)
    (of_decide_eq_true (by kernel_rfl)) (by unfold Func.isWrapper; first | (rw [if_pos (by decide +kernel)]; kernel_rfl) | (rw [if_neg (by decide +kernel)]; exact ⟨rfl, rfl⟩))
    (fun os started H enc _ F => by rw [OpenClaim.pre_eq_preRow]; exact lifted os started H enc F)
theorem plain (f : FuncId) (fn : Func) (hf : Tryd.pinned.checked.prog.funcNamed "trammel/trammellaw4.ParseWithin" = some f) (hfn : Tryd.pinned.checked.prog.funcs[f]? = some fn) :
    true = Tryd.pinned.checked.prog.looks [] ∧ ∀ (j : Nat) t, fn.params[j]? = some t → Tryd.pinned.checked.prog.wantsStandIn t = false := by
  obtain rfl : f = 3 := Option.some.inj ((show Tryd.prog.funcNamed "trammel/trammellaw4.ParseWithin" = some 3 by kernel_rfl).symm.trans hf) |>.symm
  obtain rfl : fn = Tryd.f3 := (Option.some.inj (Tryd.func3.symm.trans hfn)).symm
  refine ⟨by kernel_rfl, fun j t ht => ?_⟩
  rw [Tryd.params3] at ht
  have hm := Array.mem_of_getElem? ht
  have hm2 : t ∈ ([9] : List Nat) := by simpa using hm
  simp only [List.mem_cons, List.not_mem_nil, or_false] at hm2
  subst hm2; exact (show Tryd.prog.wantsStandIn 9 = false by kernel_rfl)
theorem proved : Rows.ParseWithinCardSaid :=
  Claim7.holds_tied_plain_at .later [] _ _ _ _ said (fun _ h => by cases h) (by kernel_rfl) (fun _ h => by cases h) parseWithin_row_tie rfl ⟨rfl, rfl⟩ (by kernel_rfl) rfl plain (by kernel_rfl)
end Go.Proofs.YtnhfbbognjdnpaaDoor.parseWithin
