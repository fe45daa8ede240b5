/- TreeChain holds for every two numbers. No condition but that the listed package variable holds what the program's text lays. -/
import Derived.Test.YtdkpggnnhdoklaaDoorChn
import Derived.Test.YtdkpggnnhdoklaaDoorAid
import Derived.Test.YtdkpggnnhdoklaaDoorCards
import Derived.Test.YtdkpggnnhdoklaaDoorTie
import Derived.Test.YtdkpggnnhdoklaaDoorOpn
import Derived.Test.YtdkpggnnhdoklaaDoorHan
import Derived.WalkKit
import Derived.ProofKit
import Derived.Deep.DeepHandedRow
namespace Go.Proofs.YtdkpggnnhdoklaaDoor.treeChain
open Go.ChangeShapes Go.WideShapes Go.ChangeAt Go.RowKit
open Go.ChangeMaps (open_string shut_string)
set_option linter.unusedVariables false
set_option linter.unusedSimpArgs false

theorem tabs {W : World} (h : laidMetH Tryd.prog Rows.treeChainRow.laid W) : Hid (errTy W) := Lib.hid (errTy_of h (.head _))

set_option maxRecDepth 100000 in
set_option maxHeartbeats 8000000 in
theorem walk (a0 a1 : Int) (w : World) (b0 : -9223372036854775808 ≤ a0 ∧ a0 ≤ 9223372036854775807) (b1 : -9223372036854775808 ≤ a1 ∧ a1 ≤ 9223372036854775807) (hg : Hid (errTy w)) :
    Calls Tryd.prog 6 #[.int .i64 a0, .int .i64 a1] w fun e w' => e = .returned (.bool true) ∧ Below w.heap.size w w' := by
  obtain ⟨q, hq0, hq1⟩ : ∃ q : Nat, a0 % 64 = (q : Int) ∧ q < 64 := ⟨(a0 % 64).toNat, by omega, by omega⟩
  have ha : bits .and .i64 a0 63 = (q : Int) := by rw [and63]; exact hq0
  obtain ⟨m, hm⟩ : ∃ m, q + 1 = m := ⟨_, rfl⟩
  have hm1 : (1 : Int) + (q : Int) = (m : Int) := by omega
  have hmb : 1 ≤ m ∧ m ≤ 64 := by omega
  obtain ⟨ci, hc0, hc1, hce⟩ := umod_int a1 m (by omega) (by omega)
  obtain ⟨c, rfl⟩ := Int.eq_ofNat_of_zero_le hc0
  have hcm : c < m := by omega
  have hum : IntKind.u64.wrap (m : Int) = (m : Int) := by
    simp only [IntKind.wrap, IntKind.signed, IntKind.bits]
    simp
    omega
  have hl := Lib.hid (chN_len m)
  have hsz := Lib.hid (chN_sz m)
  have kD := Lib.hid fun (a : Option Addr) (cp : Nat) (W : World) (h : Hid (NArg W a (2 * m + 1) (chN m))) (hg : Hid (errTy W)) => tDepth_any a (2 * m + 1) cp (chN m) ((2 * c + 2 : Nat) : Int) W h hsz (by omega) hg
  rw [chN_dep m c (by omega) hcm] at kD
  have kP := Lib.hid fun (a : Option Addr) (cp : Nat) (W : World) (h : Hid (NArg W a (2 * m + 1) (chN m))) (hcp : 2 * m + 1 ≤ cp) (hg : Hid (errTy W)) => tPart_any a (2 * m + 1) cp (chN m) ((2 * c + 2 : Nat) : Int) W h hsz (by omega) hcp hg
  unfold PartPost at kP
  rw [chN_dep m c (by omega) hcm, chN_part m c (by omega) hcm] at kP
  have kQ := Lib.hid fun (a : Option Addr) (cp : Nat) (W : World) (h : Hid (NArg W a (2 * m + 1) (chN m))) (hcp : 2 * m + 1 ≤ cp) (hg : Hid (errTy W)) => tPart_any a (2 * m + 1) cp (chN m) ((2 * c + 1 : Nat) : Int) W h hsz (by omega) hcp hg
  unfold PartPost at kQ
  rw [chN_dep1 m c (by omega) hcm, chN_part1 m c (by omega) hcm] at kQ
  have kM := Lib.hid fun (a : Option Addr) (cp : Nat) (W : World) (h : Hid (NArg W a (2 * m + 1) (chN m))) (hg : Hid (errTy W)) => tMay_any none a 0 0 (2 * m + 1) cp [] (chN m) W (Lib.hid (oarg0 W none)) (Lib.hid or_sz0) (by omega) h hsz (by omega) hg
  rw [chN_may m (by omega)] at kM
  have kE := Lib.hid fun (a a' : Option Addr) (n n' cp cp' : Nat) (l : List Nd) (W : World) (h : Hid (NArg W a n l)) (h' : Hid (NArg W a' n' l)) (hn : n ≤ 1000) => (show Calls Tryd.prog 13 #[.slice a n cp, .slice a' n' cp'] W fun e w' => e = .returned (.bool true) ∧ Below W.heap.size W w' from by
    have := sameNodes_any a a' n n' cp cp' l l W h h' (by omega)
    rwa [sameV_self ndE_self] at this)
  have hs2 : ((2 * c + 2 : Nat) : Int) = 2 * (c : Int) + 2 := by omega
  have hs1 : ((2 * c + 1 : Nat) : Int) = 2 * (c : Int) + 1 := by omega
  rw [hs2] at kD kP
  rw [hs1] at kQ
  dsimp only at kD kP kQ
  have htl := Lib.hid (show ((chN m).take (2 * c + 3)).length = 2 * c + 3 by rw [List.length_take, chN_len]; omega)
  clear hs2 hs1
  have hce' := Lib.hid hce
  have h0l := hgl hg.out
  have hq1' := Lib.hid hq1
  clear hq0 hq1 hm hc0 hc1 hce
  go_enter Tryd.func6, Tryd.ntmps6
  go_wp2_with fail
  refine (awake3_any _ hg).mono ?_
  rintro e w1 ⟨rfl, hb1⟩
  have hB1 := Lib.hid hb1
  clear hb1
  have hw1s := hB1.out.size
  go_wp2_with fail
  have hown0 := Lib.hid (own_lit (B := w.heap.size) w1 #[.int .i64 0, .int .i64 0, .int .i64 0, .int .i64 0, .int .i64 0, .string ⟨#[102]⟩, .string ⟨#[]⟩, .string ⟨#[]⟩, .string ⟨#[]⟩, .int .i64 0] (chN 0) rfl 1 rfl hw1s (by omega))
  have hB0 := Lib.hid (show Below w.heap.size w (w1.alloc (.cells #[.int .i64 0, .int .i64 0, .int .i64 0, .int .i64 0, .int .i64 0, .string ⟨#[102]⟩, .string ⟨#[]⟩, .string ⟨#[]⟩, .string ⟨#[]⟩, .int .i64 0] 45)) from hB1.out.alloc hw1s _)
  go_loopw [6, 7] (fun pv iv wr => ∃ j : Nat, j ≤ m ∧ iv = .int .i64 j ∧ Below w.heap.size w wr ∧ Hid (OwnN w.heap.size wr pv (chN j))) (fun _ iv _ => m - (intOf iv).toNat)
  case atStart => exact ⟨0, by omega, rfl, hB0.out, hown0⟩
  case round =>
    obtain ⟨j, hj, rfl, hbw, hown⟩ := hrel
    have hws := hbw.size
    by_cases hlt : j < m
    · have hlj := Lib.hid (chN_len j)
      have hlt' : (j : Int) < (m : Int) := by omega
      have hj0 : (0 : Int) ≤ (j : Int) := by omega
      have hj1 : (j : Int) ≤ 64 := by omega
      go_wp2_with (at_builtin; refine op_nd rfl (.tmp 27) (.tmp 36) wr w.heap.size hws _ (chN j) [cI j, cA j] _ rfl rfl 2 rfl rfl rfl hown.out (by have := hlj.out; simp; omega) ?_; intro v' w4 hown4 hb4 _)
      have hB4 := Lib.hid (hbw.trans hb4)
      have hown4' := Lib.hid hown4
      clear hown4 hb4
      go_wp2_with fail
      go_roundw
      case rel => exact ⟨j + 1, by omega, by go_num, hB4.out, hown4'⟩
      case measure => simp [intOf]; omega
    · obtain rfl : j = m := by omega
      obtain ⟨g, cp, rfl, hg0, hgs, hgc, hsl, _⟩ : ∃ g cp, _ = Value.slice (some ⟨g, 0, none⟩) (2 * j + 1) cp ∧ w.heap.size ≤ g ∧ g < wr.heap.size ∧ 2 * j + 1 ≤ cp ∧ NdSl wr g 0 (chN j) ∧ True := by
        rcases hown.out.cases with ⟨_, h⟩ | ⟨g, cp, h1, h2, h3, h4, h5, _⟩
        · have := hl.out; rw [h] at this; simp at this
        · rw [hl.out] at h1 h4; exact ⟨g, cp, h1, h2, h3, h4, h5, trivial⟩
      have hN : Hid (NArg wr (some ⟨g, 0, none⟩) (2 * j + 1) (chN j)) := Lib.hid ⟨hl.out.symm, .inr ⟨g, 0, rfl, hsl, hgs⟩⟩
      have hgw := Lib.hid (errTy_below hg.out hbw)
      have hbw' := Lib.hid hbw
      clear hown hsl hbw
      have hce2 := hce'.out
      have hjn : ¬ (j : Int) < (j : Int) := by omega
      go_wp2_with fail
      refine (kD.out _ _ _ hN hgw).mono ?_
      rintro e w2 ⟨rfl, hb2⟩
      have hN2 := Lib.hid (hN.out.below hb2)
      have hB2 := Lib.hid (belT hbw'.out hb2)
      have hg2 := Lib.hid (errTy_below hg.out hB2.out)
      clear hb2
      go_wp2_with fail
      refine (kP.out _ _ _ hN2 hgc hg2).mono ?_
      rintro e w3 ⟨v3, rfl, hown3, hb3⟩
      have hN3 := Lib.hid (hN2.out.below hb3)
      have hB3 := Lib.hid (belT hB2.out hb3)
      have hg3 := Lib.hid (errTy_below hg.out hB3.out)
      obtain ⟨a3, n3, c3, rfl, hn3⟩ : ∃ a n c', v3 = .slice a n c' ∧ n = 2 * c + 3 := by
        rcases hown3.cases with ⟨_, h⟩ | ⟨g, c', h, _⟩
        · have := htl.out; rw [h] at this; simp at this
        · exact ⟨_, _, _, h, htl.out⟩
      have hP3 := Lib.hid hown3.arg
      have hn3' := Lib.hid hn3
      clear hb3 hown3 hn3
      go_wp2_with fail
      refine (kQ.out _ _ _ hN3 hgc hg3).mono ?_
      rintro e w4 ⟨v4, rfl, hown4, hb4⟩
      have hN4 := Lib.hid (hN3.out.below hb4)
      have hP4 := Lib.hid (hP3.out.below hb4)
      have hB4 := Lib.hid (belT hB3.out hb4)
      have hg4 := Lib.hid (errTy_below hg.out hB4.out)
      obtain ⟨a4, c4, rfl⟩ : ∃ a c', v4 = .slice a 1 c' := by
        rcases hown4.cases with ⟨_, h⟩ | ⟨g, c', h, _⟩
        · cases h
        · exact ⟨_, _, h⟩
      have hQ4 := Lib.hid hown4.arg
      clear hb4 hown4
      go_wp2_with fail
      refine (kM.out _ _ _ hN4 hg4).mono ?_
      rintro e w5 ⟨rfl, hb5⟩
      have hN5 := Lib.hid (hN4.out.below hb5)
      have hP5 := Lib.hid (hP4.out.below hb5)
      have hQ5 := Lib.hid (hQ4.out.below hb5)
      have hB5 := Lib.hid (belT hB4.out hb5)
      clear hb5
      have hto := fun (W : World) => nd_to (some ⟨g, 0, none⟩) (2 * j + 1) cp (2 * c + 3) (by omega) W
      rw [show ((2 * c + 3 : Nat) : Int) = 2 * (c : Int) + 3 by omega] at hto
      have hi1 : 2 * (c : Int) + 3 ≤ (cp : Int) := by omega
      have hi2 : (0 : Int) ≤ 2 * (c : Int) + 3 := by omega
      go_wp2_with ((go_at_call 12; refine (num_any _ _ (by omega) (by omega)).mono ?_; rintro e w' ⟨rfl, rfl⟩))
      (try (rw [hto]; go_wp2_with fail))
      clear hto
      refine (kE.out _ _ _ _ _ _ ((chN j).take (2 * c + 3)) _ hP5 (Lib.hid (hN5.out.take _ (by omega))) (by have := hn3'.out; omega)).mono ?_
      rintro e w6 ⟨rfl, hb6⟩
      have hQ6 := Lib.hid (hQ5.out.below hb6)
      have hB6 := Lib.hid (belT hB5.out hb6)
      clear hb6
      go_wp2_with ((go_at_call 12; refine (num_any _ _ (by omega) (by omega)).mono ?_; rintro e w' ⟨rfl, rfl⟩))
      refine (kE.out _ _ _ _ _ _ [cI c] _ (Lib.hid (hQ6.out.below (by (repeat' (first | with_reducible exact Below.refl _ _ | with_reducible assumption | with_reducible apply Below.setCell | with_reducible apply Below.alloc | with_reducible apply Below.drew | with_reducible apply below_drewN | with_reducible exact Nat.le_refl _ | (simp; done) | (simp; omega) | omega | exact Nat.le_refl _))))) (Lib.hid (narg_alloc w6 #[.int .i64 1, .int .i64 0, .int .i64 0, .int .i64 0, .int .i64 c, .string ⟨#[]⟩, .string ⟨#[]⟩, .string ⟨#[]⟩, .string ⟨#[]⟩, .int .i64 0] [cI c] rfl 1 rfl)) (by omega)).mono ?_
      rintro e w7 ⟨rfl, hb7⟩
      have hB7 := Lib.hid (belT (show Below w.heap.size w _ from by have := hB6.out; have := this.size; (repeat' (first | with_reducible exact Below.refl _ _ | with_reducible assumption | with_reducible apply Below.setCell | with_reducible apply Below.alloc | with_reducible apply Below.drew | with_reducible apply below_drewN | with_reducible exact Nat.le_refl _ | (simp; done) | (simp; omega) | omega | exact Nat.le_refl _))) hb7)
      clear hb7
      go_wp2_with ((go_at_call 12; refine (num_any _ _ (by omega) (by omega)).mono ?_; rintro e w' ⟨rfl, rfl⟩))
      go_ret
      exact ⟨rfl, hB7.out⟩
theorem own : ownKnob Tryd.prog.godebug = none := by kernel_rfl
theorem laidOut : laidOutB Tryd.prog = true := by kernel_rfl
set_option maxRecDepth 100000 in
theorem contract (H : Type) (enc : TypeId × Value → H) (W : World) (base : Nat) (args : Array Value) (ds gs : List (DataW H)) (before : List MemPlace)
    (hval0 : ∀ (j : Nat) t v, Tryd.f6.params[j]? = some t → args[j]? = some v → Value.okWide Tryd.prog W .any base t v)
    (hW : DataW.Whole enc Tryd.prog Tryd.f6.params.toList Rows.treeChainSpec.vars false W args.toList ds gs before)
    (hsz0 : (DataW.weightsEach Tryd.prog (Tryd.f6.params.toList ++ Rows.treeChainSpec.plain.varTypes Tryd.prog) (ds ++ gs)).all (· ≤ reachBytes) = true)
    (hL : laidMetH Tryd.prog Rows.treeChainRow.laid W)
    : Calls Tryd.prog 6 args W fun e W' => ∃ v, e = .returned v ∧ Rows.treeChainSpec.post enc Tryd.prog Tryd.f6 false true false false W args v W' := by
  have hval : ∀ (j : Nat) t v, Tryd.f6.params[j]? = some t → args[j]? = some v → Value.okWide Tryd.prog W .any base t v := hval0
  have hsz : (DataW.weightsEach Tryd.prog (Tryd.f6.params.toList ++ Rows.treeChainSpec.plain.varTypes Tryd.prog) (ds ++ gs)).all (· ≤ reachBytes) = true := hsz0
  have hW' := hW
  obtain ⟨p, q, hA0, hV, rfl, hfz, hnd⟩ := hW
  have hA : DataW.TrodAll enc Tryd.prog W 0 (fun _ => true) true Tryd.f6.params.toList args.toList ds p := hA0
  rw [Tryd.params6] at hA hval hsz
  obtain ⟨v0, vs0, d0, ds0, p0, q0, hargs, rfl, rfl, h0, r0⟩ := trodAll_cons hA
  obtain ⟨v1, vs1, d1, ds1, p1, q1, rfl, rfl, rfl, h1, r1⟩ := trodAll_cons r0
  obtain ⟨rfl, rfl, rfl⟩ := trodAll_nil r1
  obtain rfl : args = #[v0, v1] := by cases args; simp_all
  obtain ⟨rfl, rfl⟩ := trodVars_none hV
  have k0 := h0
  have lt0 : ∀ x ∈ p0, x.block < W.heap.size := by obtain ⟨m, hm⟩ := k0; exact DataW.trod_lt m _ _ _ hm
  obtain ⟨a0, rfl, rfl, rfl, m0⟩ := open_int Tryd.underlying3 (hval 0 3 v0 rfl rfl) h0
  have k1 := h1
  have lt1 : ∀ x ∈ p1, x.block < W.heap.size := by obtain ⟨m, hm⟩ := k1; exact DataW.trod_lt m _ _ _ hm
  obtain ⟨a1, rfl, rfl, rfl, m1⟩ := open_int Tryd.underlying3 (hval 1 3 v1 rfl rfl) h1
  clear hA0 hval0
  refine (walk a0 a1 W (bd_i64 m0) (bd_i64 m1) (tabs hL)).mono fun e W' ⟨he, bel⟩ => ?_
  subst he
  exact ⟨_, rfl, _, _, _, [], _, [], hW', trodAll_mk1 (shut_bool Tryd.underlying4 _), (trodAll_cons_mk (Below.trod laidOut (by kernel_rfl) (of_decide_eq_true (by kernel_rfl)) k0 bel lt0) (trodAll_cons_mk (Below.trod laidOut (by kernel_rfl) (of_decide_eq_true (by kernel_rfl)) k1 bel lt1) trodAll_mk0)), rfl, bel.frame _, fun h => by cases h⟩
theorem laid_met (os : Os) : laidMetH Tryd.prog Rows.treeChainRow.laid ((handleWorld os).forCall (fun _ _ => 0) ⟨#[], #[.int .i64 0, .int .i64 0], []⟩).memory := laidMetH_of_parts (laidMet_nil _ _) (by kernel_rfl)
theorem reads (os : Os) {H : Type} (enc : TypeId × Value → H) : ∃ places, DataW.whole enc Tryd.prog ((handleWorld os).forCall (fun _ _ => 0) ⟨#[], #[.int .i64 0, .int .i64 0], []⟩).memory Tryd.f6.params.toList Rows.treeChainSpec.vars false #[(.int .i64 0 : Value), (.int .i64 0 : Value)].toList 8 = some ([.lit (.int .i64 0), .lit (.int .i64 0)], [], places) := ⟨[], by kernel_rfl⟩
set_option maxRecDepth 100000 in
theorem lifted (os : Os) (started : os.Started) (H : Type) (enc : TypeId × Value → H) (F : Stop.Interp) :
    ReturnsInHanded {} Tryd.checked os 6 .any ((OpenSpec.ofChange Rows.treeChainSpec).preRow enc Tryd.prog Tryd.f6 Rows.treeChainRow.domain false Rows.treeChainRow.laid) (((OpenSpec.ofChange Rows.treeChainSpec).at F).post enc Tryd.prog Tryd.f6 false true false false) := by
  obtain ⟨places, hx⟩ := reads os enc
  refine returnsInHanded_of_row (C := Tryd.checked) (s := (OpenSpec.ofChange Rows.treeChainSpec)) own started (by kernel_rfl) Tryd.func6
    (witness_row_at (enc := enc) (C := Tryd.checked) false (handleWorld os) #[.int .i64 0, .int .i64 0] rfl (by kernel_rfl) (by kernel_rfl) (by kernel_rfl)
      (OpenSpec.preRow_of_cond 8 hx (by kernel_rfl) (fun k hk => by cases hk) (by kernel_rfl) (laid_met os))) ?_
  intro W base args ds gs before hval hW _ hcnd hsz hL _ _
  exact contract H enc W base args ds gs before hval hW hsz  hL
theorem said : Rows.TreeChainSaid :=
  OpenClaim.holds_of_cond 6 Tryd.f6 rfl rfl rfl rfl rfl rfl rfl ⟨rfl, rfl, rfl, rfl, rfl⟩ rfl rfl rfl rfl rfl (by kernel_rfl) Tryd.func6 (by kernel_rfl)
    (of_decide_eq_true (by kernel_rfl)) (by unfold Func.isWrapper; first | (rw [if_pos (by decide +kernel)]; kernel_rfl) | (rw [if_neg (by decide +kernel)]; exact ⟨rfl, rfl⟩))
    (fun os started H enc _ F => by rw [OpenClaim.pre_eq_preRow]; exact lifted os started H enc F)
theorem plain (f : FuncId) (fn : Func) (hf : Tryd.pinned.checked.prog.funcNamed "trammel/trammellaw3.TreeChain" = some f) (hfn : Tryd.pinned.checked.prog.funcs[f]? = some fn) :
    true = Tryd.pinned.checked.prog.looks [] ∧ ∀ (j : Nat) t, fn.params[j]? = some t → Tryd.pinned.checked.prog.wantsStandIn t = false := by
  obtain rfl : f = 6 := Option.some.inj ((show Tryd.prog.funcNamed "trammel/trammellaw3.TreeChain" = some 6 by kernel_rfl).symm.trans hf) |>.symm
  obtain rfl : fn = Tryd.f6 := (Option.some.inj (Tryd.func6.symm.trans hfn)).symm
  refine ⟨by kernel_rfl, fun j t ht => ?_⟩
  rw [Tryd.params6] at ht
  have hm := Array.mem_of_getElem? ht
  have hm2 : t ∈ ([3] : List Nat) := by simpa using hm
  simp only [List.mem_cons, List.not_mem_nil, or_false] at hm2
  subst hm2; exact (show Tryd.prog.wantsStandIn 3 = false by kernel_rfl)
theorem proved : Rows.TreeChainCardSaid :=
  Claim7.holds_tied_plain_at .later [] _ _ _ _ said (fun _ h => by cases h) (by kernel_rfl) (fun _ h => by cases h) treeChain_row_tie rfl ⟨rfl, rfl⟩ (by kernel_rfl) rfl plain (by kernel_rfl)
end Go.Proofs.YtdkpggnnhdoklaaDoor.treeChain
