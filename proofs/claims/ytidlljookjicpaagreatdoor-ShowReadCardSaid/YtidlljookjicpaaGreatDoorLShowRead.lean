/- ShowRead holds for every text. No condition but that the listed package variables hold what the program's text lays. -/
import Derived.Test.YtidlljookjicpaaGreatDoorPpA
import Derived.Test.YtidlljookjicpaaGreatDoorPwP
import Derived.Test.YtidlljookjicpaaGreatDoorPrg
import Derived.Test.YtidlljookjicpaaGreatDoorPrB
import Derived.Test.YtidlljookjicpaaGreatDoorPwH
import Derived.Test.YtidlljookjicpaaGreatDoorAid
import Derived.Test.YtidlljookjicpaaGreatDoorCards
import Derived.Test.YtidlljookjicpaaGreatDoorTie
import Derived.Test.YtidlljookjicpaaGreatDoorOpn
import Derived.Test.YtidlljookjicpaaGreatDoorHan
import Derived.WalkKit
import Derived.ProofKit
import Derived.Deep.DeepHandedRow
namespace Go.Proofs.YtidlljookjicpaaGreatDoor.showRead
open Go.ChangeShapes Go.WideShapes Go.ChangeAt Go.RowKit
open Go.ChangeMaps (open_string shut_string)
set_option linter.unusedVariables false
set_option linter.unusedSimpArgs false

theorem tabs {W : World} (h : laidMetH Tryz.prog Rows.showReadRow.laid W) : Hid (errTy W ∧ TabW W) := mixed_of h (.tail _ (.tail _ (.tail _ (.head _)))) (.tail _ (.tail _ (.head _)))
theorem pr_cases {os : List Or} {ts : List Nd} {T : PT} (hT : mayV os ts = true → MayT os ts T) : prV os ts T = none ∨ ∃ l, prV os ts T = some l ∧ l.length ≤ 4096 ∧ ∃ ns, parseV (bs l) = .ok (os, ns) ∧ ns.map bare0 = ts.map bare0 ∧ prV os ns T = some l ∧ MayT os ns T := by
  cases hp : prV os ts T with
  | none => exact .inl rfl
  | some l =>
    refine .inr ⟨l, rfl, ?_⟩
    unfold prV at hp
    split at hp
    · rename_i hm
      have hM := hT hm
      obtain ⟨ns, h1, h2⟩ := read_back hM hp
      have hl : l.length ≤ 4096 := by
        have hp := hp
        unfold outV at hp
        split at hp
        · rename_i hc; injection hp with hp; rw [← hp]; exact hc.2
        · cases hp
      refine ⟨hl, ns, h1, h2, ?_, hM.bare h2.symm⟩
      unfold prV
      rw [(parse_k h1).may, if_pos rfl, hp]
    · cases hp
theorem treeV_of {os : List Or} {ts : List Nd} (h : mayV os ts = true) : treeV (okNm true) ts = true := by
  unfold mayV at h; rw [Bool.and_eq_true] at h; exact h.2
theorem dep_may {os : List Or} {ts : List Nd} (h : mayV os ts = true) : depV ts ((ts.length : Int) - 1) = (dp (ksN ts) (ts.length - 1), 0) ∧ 0 ≤ bg (ksN ts) (ts.length - 1) ∧ 1 ≤ ts.length ∧ dp (ksN ts) (ts.length - 1) ≤ ts.length := by
  have ht := treeV_of h
  have h2 := ht
  unfold treeV at h2
  simp only [Bool.and_eq_true, decide_eq_true_eq] at h2
  have hh : hasV ts ((ts.length : Int) - 1) = true := by
    unfold hasV anyV
    rw [ht, decide_eq_true (by omega)]; rfl
  have hb := dp_bd (ksN ts) ts.length (ts.length - 1) (by omega) (by omega)
  refine ⟨?_, by omega, h2.1.1.1, by omega⟩
  unfold depV
  rw [if_pos hh, show ((ts.length : Int) - 1).toNat = ts.length - 1 by omega]
theorem none_deep {os : List Or} {ts : List Nd} {T : PT} (hm : mayV os ts = true) (h : MayT os ts T) (hn : prV os ts T = none) : 40 < dp (ksN ts) (ts.length - 1) ∨ 30 < ts.length := by
  unfold prV at hn
  rw [if_pos hm] at hn
  exact outV_none h (dep_may hm).2.1 hn
set_option maxRecDepth 100000 in
set_option maxHeartbeats 4000000 in
theorem walk (s : ByteArray) (w : World) (hs : s.size ≤ 140737488351232) (hgt : Hid (errTy w ∧ TabW w)) :
    Calls Tryz.prog 5 #[.string s] w fun e w' => e = .returned (.bool true) ∧ Below w.heap.size w w' := by
  have hg := Lib.hid hgt.out.1
  have hTb := Lib.hid hgt.out.2
  clear hgt
  have hTab := Lib.hid fun (W : World) (hb : Below w.heap.size w W) => tab_keep hTb.out hb (Nat.le_refl _)
  have hEr := Lib.hid fun (W : World) (hb : Below w.heap.size w W) => errTy_below hg.out hb
  have kA := Lib.hid (awake5_any w hg hTb)
  have kP := Lib.hid fun (W : World) (hb : Below w.heap.size w W) => Parse_any s W (by omega) (Lib.hid (hEr.out _ hb))
  have hK := Lib.hid fun (os : List Or) (ns : List Nd) (h : parseV s = .ok (os, ns)) => parse_k h
  have hE := Lib.hid fun (x : PE) (h : parseV s = .error x) => parse_no h
  generalize parseV s = R at kP hK hE
  go_enter Tryz.func5, Tryz.ntmps5
  go_wp2_with fail
  refine kA.out.mono ?_
  rintro e w1 ⟨rfl, hb1⟩
  have hB1 := Lib.hid hb1
  clear kA hb1
  go_wp2_with fail
  refine (kP.out w1 hB1.out).mono ?_
  intro e w2 hpost
  clear kP
  rcases R with x | ⟨os, ns⟩
  · obtain ⟨rfl, hb2⟩ := prp_no hpost rfl
    obtain ⟨⟨x1, x2⟩, x3, x4⟩ := hE.out x rfl
    obtain ⟨xc, xp⟩ := x
    dsimp only at x1 x2 x3 x4
    have hB2 := Lib.hid (belT hB1.out hb2)
    have e0 : (xc == 0) = false := beq_eq_false_iff_ne.2 (by omega)
    clear hpost hb2
    go_wp2_with ((go_at_call 11; refine (num_any _ _ (by omega) (by omega)).mono ?_; rintro e w' ⟨rfl, rfl⟩))
    go_ret
    exact ⟨rfl, by first | exact hB2.out | exact belT hB2.out (by (repeat' (first | with_reducible exact Below.refl _ _ | with_reducible assumption | with_reducible apply Below.setCell | with_reducible apply Below.alloc | with_reducible apply Below.drew | with_reducible apply below_drewN | with_reducible exact Nat.le_refl _ | (simp; done) | (simp; omega) | omega | exact Nat.le_refl _)))⟩
  · obtain ⟨qa, qc, qa2, qc2, rfl, hb2, ho, hn⟩ := prp_ok hpost rfl
    have hk := Lib.hid (hK.out os ns rfl)
    have hO := Lib.hid (show OArg w2 qa os.length os from ho.arg)
    have hN := Lib.hid (show NArg w2 qa2 ns.length ns from hn.arg)
    have hB2 := Lib.hid (belT hB1.out hb2)
    have zn := hk.out.l1
    have zo := hk.out.ol
    clear hpost ho hn hb2 hK hE hB1
    obtain ⟨T, hT⟩ := mayT_ex os ns
    have hTH := Lib.hid hT
    have hC := Lib.hid (pr_cases hT)
    have hNo := Lib.hid (none_deep hk.out.may (hT hk.out.may))
    obtain ⟨D1, D2, D3, D4⟩ := dep_may hk.out.may
    have hD1 := Lib.hid D1
    clear D1 D2 hT
    have hQ := Lib.hid (pg_lit w2 25 w2.heap.size rfl qa qa2 os.length qc ns.length qc2)
    have hb3 := Lib.hid (below_alc w2 (.cells #[.slice qa os.length qc, .slice qa2 ns.length qc2] 25))
    go_wp2_with ((go_at_call 11; refine (num_any _ _ (by omega) (by omega)).mono ?_; rintro e w' ⟨rfl, rfl⟩))
    generalize w2.alloc (.cells #[.slice qa os.length qc, .slice qa2 ns.length qc2] 25) = w3 at hQ hb3 ⊢
    have hO3 := Lib.hid (hO.out.below hb3.out)
    have hN3 := Lib.hid (hN.out.below hb3.out)
    have hB3 := Lib.hid (belT hB2.out hb3.out)
    have k2 := Lib.hid (Print_any qa qa2 os.length qc ns.length qc2 os ns T w3 hO3 (Lib.hid hk.out.oz) (by omega) hN3 (Lib.hid hk.out.sz) (by omega) (Lib.hid (hEr.out _ hB3.out)) (Lib.hid (hTab.out _ hB3.out)) hTH.out)
    generalize hRr : prV os ns T = R at k2 hC hNo
    clear hb3 hRr hO hN
    refine k2.out.mono ?_
    rintro e w4 ⟨rfl, hb4⟩
    have hQ := Lib.hid (hQ.out.below hb4)
    have hO4 := Lib.hid (hO3.out.below hb4)
    have hN4 := Lib.hid (hN3.out.below hb4)
    have hB4 := Lib.hid (belT hB3.out hb4)
    clear hb4 k2 hO3 hN3
    rcases hC.out with rfl | ⟨l, rfl, hl, ms, h1, h2, h3, h4⟩
    · simp only [prS, prE]
      have hor := hNo.out rfl
      have kD := Lib.hid (tDepth_any qa2 ns.length qc2 ns ((ns.length : Int) - 1) w4 hN4 (Lib.hid hk.out.sz) (by omega) (Lib.hid (hEr.out _ hB4.out)))
      rw [hD1.out] at kD
      generalize dp (ksN ns) (ns.length - 1) = d at kD hor D4
      obtain ⟨y0, g0, g1⟩ := hQ.out
      have kD := Lib.hid (show Calls Tryz.prog 17 #[.slice qa2 ns.length qc2, .int .i64 ((ns.length : Int) - 1)] w4 (fun e w' => e = .returned (.tuple #[.int .i64 d, .int .i64 0]) ∧ Below w4.heap.size w4 w') from kD.out)
      go_wp2_with ((go_at_call 11; refine (num_any _ _ (by omega) (by omega)).mono ?_; rintro e w' ⟨rfl, rfl⟩))
      refine kD.out.mono ?_
      rintro e w5 ⟨rfl, hb5⟩
      have hQ := Lib.hid (hQ.out.below hb5)
      have hB5 := Lib.hid (belT hB4.out hb5)
      clear hb5 kD y0 g0 g1
      obtain ⟨y0, g0, g1⟩ := hQ.out
      by_cases hd : 40 < d
      · clear hor
        go_wp2_with ((go_at_call 11; refine (num_any _ _ (by omega) (by omega)).mono ?_; rintro e w' ⟨rfl, rfl⟩))
        go_ret
        exact ⟨rfl, hB5.out⟩
      · have h30 : (30 : Int) < (ns.length : Int) := by omega
        clear hor
        go_wp2_with ((go_at_call 11; refine (num_any _ _ (by omega) (by omega)).mono ?_; rintro e w' ⟨rfl, rfl⟩))
        go_ret
        exact ⟨rfl, hB5.out⟩
    · simp only [prS, prE]
      have h1 := Lib.hid h1; have h2 := Lib.hid h2
      have hbl : (bs l).size ≤ 4096 := by rw [bs_sizeL]; exact hl
      obtain ⟨x, hX⟩ : ∃ x, bs l = x := ⟨_, rfl⟩
      rw [hX] at hbl ⊢
      have hXH := Lib.hid hX
      have kP := Lib.hid (Parse_any x w4 (by omega) (Lib.hid (hEr.out _ hB4.out)))
      clear hl hX hC h3 h4 hNo
      go_wp2_with ((go_at_call 11; refine (num_any _ _ (by omega) (by omega)).mono ?_; rintro e w' ⟨rfl, rfl⟩))
      refine kP.out.mono ?_
      intro e w5 hpost
      obtain ⟨ra, rc, ra2, rc2, rfl, hb5, ho5, hn5⟩ := prp_ok hpost (by rw [← hXH.out]; exact h1.out)
      have hO5 := Lib.hid (show OArg w5 ra os.length os from ho5.arg)
      have hN5 := Lib.hid (show NArg w5 ra2 ms.length ms from hn5.arg)
      have hQ := Lib.hid (hQ.out.below hb5)
      have hO4 := Lib.hid (hO4.out.below hb5)
      have hN4 := Lib.hid (hN4.out.below hb5)
      have hB5 := Lib.hid (belT hB4.out hb5)
      clear hpost ho5 hn5 hb5 kP
      have zm : ms.length ≤ 512 := by have := congrArg List.length h2.out; simp only [List.length_map] at this; omega
      have hU := Lib.hid (pg_lit w5 25 w5.heap.size rfl ra ra2 os.length rc ms.length rc2)
      have hb6 := Lib.hid (below_alc w5 (.cells #[.slice ra os.length rc, .slice ra2 ms.length rc2] 25))
      have kS := Lib.hid fun (W : World) (h : NArg W qa2 ns.length ns) (h' : NArg W ra2 ms.length ms) => tSame_any qa2 ra2 ns.length ms.length qc2 rc2 ns ms W (Lib.hid h) (Lib.hid h') (by omega)
      simp only [sameS_of h2.out.symm] at kS
      have kS := Lib.hid (show ∀ (W : World), NArg W qa2 ns.length ns → NArg W ra2 ms.length ms → _ from kS.out)
      have kO := Lib.hid fun (W : World) (h : OArg W qa os.length os) (h' : OArg W ra os.length os) => sameOps_any qa ra os.length os.length qc rc os os W (Lib.hid h) (Lib.hid h') (by omega)
      simp only [sameVO_self] at kO
      have kO := Lib.hid (show ∀ (W : World), OArg W qa os.length os → OArg W ra os.length os → _ from kO.out)
      obtain ⟨y0, g0, g1⟩ := hQ.out
      go_upto_region 11 with fail
      generalize w5.alloc (.cells #[.slice ra os.length rc, .slice ra2 ms.length rc2] 25) = w6 at hU hb6 ⊢
      have hQ := Lib.hid (hQ.out.below hb6.out)
      have hO4 := Lib.hid (hO4.out.below hb6.out)
      have hN4 := Lib.hid (hN4.out.below hb6.out)
      have hO5 := Lib.hid (hO5.out.below hb6.out)
      have hN5 := Lib.hid (hN5.out.below hb6.out)
      have hB6 := Lib.hid (belT hB5.out hb6.out)
      clear hb6 y0 g0 g1
      obtain ⟨y0, g0, g1⟩ := hQ.out
      obtain ⟨v0, v1, v2⟩ := hU.out
      go_wp2_with ((go_at_call 11; refine (num_any _ _ (by omega) (by omega)).mono ?_; rintro e w' ⟨rfl, rfl⟩))
      refine (kS.out _ hN4.out hN5.out).mono ?_
      rintro e w7 ⟨rfl, hb7⟩
      have hQ := Lib.hid (hQ.out.below hb7)
      have hU := Lib.hid (hU.out.below hb7)
      have hO4 := Lib.hid (hO4.out.below hb7)
      have hO5 := Lib.hid (hO5.out.below hb7)
      have hB7 := Lib.hid (belT hB6.out hb7)
      clear hb7 kS y0 g0 g1 v0 v1 v2
      obtain ⟨y0, g0, g1⟩ := hQ.out
      obtain ⟨v0, v1, v2⟩ := hU.out
      go_wp2_with fail
      refine (kO.out _ hO4.out hO5.out).mono ?_
      rintro e w8 ⟨rfl, hb8⟩
      have hB8 := Lib.hid (belT hB7.out hb8)
      clear hb8 kO y0 g0 g1 v0 v1 v2
      go_wp2_with fail
      go_ret
      exact ⟨rfl, hB8.out⟩
theorem own : ownKnob Tryz.prog.godebug = none := by kernel_rfl
theorem laidOut : laidOutB Tryz.prog = true := by kernel_rfl
set_option maxRecDepth 100000 in
theorem contract (H : Type) (enc : TypeId × Value → H) (W : World) (base : Nat) (args : Array Value) (ds gs : List (DataW H)) (before : List MemPlace)
    (hval0 : ∀ (j : Nat) t v, Tryz.f5.params[j]? = some t → args[j]? = some v → Value.okWide Tryz.prog W .any base t v)
    (hW : DataW.Whole enc Tryz.prog Tryz.f5.params.toList Rows.showReadSpec.vars false W args.toList ds gs before)
    (hsz0 : (DataW.weightsEach Tryz.prog (Tryz.f5.params.toList ++ Rows.showReadSpec.plain.varTypes Tryz.prog) (ds ++ gs)).all (· ≤ reachBytes) = true)
    (hL : laidMetH Tryz.prog Rows.showReadRow.laid W)
    : Calls Tryz.prog 5 args W fun e W' => ∃ v, e = .returned v ∧ Rows.showReadSpec.post enc Tryz.prog Tryz.f5 false true false false W args v W' := by
  have hval : ∀ (j : Nat) t v, Tryz.f5.params[j]? = some t → args[j]? = some v → Value.okWide Tryz.prog W .any base t v := hval0
  have hsz : (DataW.weightsEach Tryz.prog (Tryz.f5.params.toList ++ Rows.showReadSpec.plain.varTypes Tryz.prog) (ds ++ gs)).all (· ≤ reachBytes) = true := hsz0
  have hW' := hW
  obtain ⟨p, q, hA0, hV, rfl, hfz, hnd⟩ := hW
  have hA : DataW.TrodAll enc Tryz.prog W 0 (fun _ => true) true Tryz.f5.params.toList args.toList ds p := hA0
  rw [Tryz.params5] at hA hval hsz
  obtain ⟨v0, vs0, d0, ds0, p0, q0, hargs, rfl, rfl, h0, r0⟩ := trodAll_cons hA
  obtain ⟨rfl, rfl, rfl⟩ := trodAll_nil r0
  obtain rfl : args = #[v0] := by cases args; simp_all
  obtain ⟨rfl, rfl⟩ := trodVars_none hV
  have k0 := h0
  have lt0 : ∀ x ∈ p0, x.block < W.heap.size := by obtain ⟨m, hm⟩ := k0; exact DataW.trod_lt m _ _ _ hm
  obtain ⟨a0, rfl, rfl, rfl, m0⟩ := open_string Tryz.underlying9 (hval 0 9 v0 rfl rfl) h0
  have w0 : a0.size ≤ 140737488351232 := by
    have := sized_string hsz (j := 0) (t := 9) rfl rfl
    simp [reachBytes] at this; omega
  clear hA0 hval0
  refine (walk a0 W w0 (tabs hL)).mono fun e W' ⟨he, bel⟩ => ?_
  subst he
  exact ⟨_, rfl, _, _, _, [], _, [], hW', trodAll_mk1 (shut_bool Tryz.underlying4 _), (trodAll_cons_mk (Below.trod laidOut (by kernel_rfl) (of_decide_eq_true (by kernel_rfl)) k0 bel lt0) trodAll_mk0), rfl, bel.frame _, fun h => by cases h⟩
noncomputable def mixWorld (os : Os) : World := { World.holding Tryz.prog os ⟨#[], #[], []⟩ with heap := (layAll Tryz.prog Rows.showReadRow.laid (World.holding Tryz.prog os ⟨#[], #[], []⟩).heap).modify 0 fun | .cells _ t frozen => .cells #[.iface 138 (.agg #[.pointer (some ⟨4, 61, none⟩)])] t frozen | o => o }
theorem laid_met (os : Os) : laidMetH Tryz.prog Rows.showReadRow.laid ((mixWorld os).forCall (fun _ _ => 0) ⟨#[], #[.string ByteArray.empty], []⟩).memory := laidMetH_of_parts (laidMet_of_run' 8 (by kernel_rfl) (by kernel_rfl)) (by kernel_rfl)
theorem reads (os : Os) {H : Type} (enc : TypeId × Value → H) : ∃ places, DataW.whole enc Tryz.prog ((mixWorld os).forCall (fun _ _ => 0) ⟨#[], #[.string ByteArray.empty], []⟩).memory Tryz.f5.params.toList Rows.showReadSpec.vars false #[(.string ByteArray.empty : Value)].toList 8 = some ([.lit (.string [])], [], places) := ⟨[], by kernel_rfl⟩
set_option maxRecDepth 100000 in
theorem lifted (os : Os) (started : os.Started) (H : Type) (enc : TypeId × Value → H) (F : Stop.Interp) :
    ReturnsInHanded {} Tryz.checked os 5 .any ((OpenSpec.ofChange Rows.showReadSpec).preRow enc Tryz.prog Tryz.f5 Rows.showReadRow.domain false Rows.showReadRow.laid) (((OpenSpec.ofChange Rows.showReadSpec).at F).post enc Tryz.prog Tryz.f5 false true false false) := by
  obtain ⟨places, hx⟩ := reads os enc
  refine returnsInHanded_of_row (C := Tryz.checked) (s := (OpenSpec.ofChange Rows.showReadSpec)) own started (by kernel_rfl) Tryz.func5
    (witness_row_at (enc := enc) (C := Tryz.checked) false (mixWorld os) #[.string ByteArray.empty] rfl (by kernel_rfl) (by kernel_rfl) (by kernel_rfl)
      (OpenSpec.preRow_of_cond 8 hx (by kernel_rfl) (fun k hk => by cases hk) (by kernel_rfl) (laid_met os))) ?_
  intro W base args ds gs before hval hW _ hcnd hsz hL _ _
  exact contract H enc W base args ds gs before hval hW hsz  hL
theorem said : Rows.ShowReadSaid :=
  OpenClaim.holds_of_cond 5 Tryz.f5 rfl rfl rfl rfl rfl rfl rfl ⟨rfl, rfl, rfl, rfl, rfl⟩ rfl rfl rfl rfl rfl (by kernel_rfl) Tryz.func5 (by kernel_rfl)
    (of_decide_eq_true (by kernel_rfl)) (by unfold Func.isWrapper; first | (rw [if_pos (by decide +kernel)]; kernel_rfl) | (rw [if_neg (by decide +kernel)]; exact ⟨rfl, rfl⟩))
    (fun os started H enc _ F => by rw [OpenClaim.pre_eq_preRow]; exact lifted os started H enc F)
theorem plain (f : FuncId) (fn : Func) (hf : Tryz.pinned.checked.prog.funcNamed "trammel/trammellaw5.ShowRead" = some f) (hfn : Tryz.pinned.checked.prog.funcs[f]? = some fn) :
    true = Tryz.pinned.checked.prog.looks [] ∧ ∀ (j : Nat) t, fn.params[j]? = some t → Tryz.pinned.checked.prog.wantsStandIn t = false := by
  obtain rfl : f = 5 := Option.some.inj ((show Tryz.prog.funcNamed "trammel/trammellaw5.ShowRead" = some 5 by kernel_rfl).symm.trans hf) |>.symm
  obtain rfl : fn = Tryz.f5 := (Option.some.inj (Tryz.func5.symm.trans hfn)).symm
  refine ⟨by kernel_rfl, fun j t ht => ?_⟩
  rw [Tryz.params5] at ht
  have hm := Array.mem_of_getElem? ht
  have hm2 : t ∈ ([9] : List Nat) := by simpa using hm
  simp only [List.mem_cons, List.not_mem_nil, or_false] at hm2
  subst hm2; exact (show Tryz.prog.wantsStandIn 9 = false by kernel_rfl)
theorem proved : Rows.ShowReadCardSaid :=
  Claim7.holds_tied_plain_at .later [] _ _ _ _ said (fun _ h => by cases h) (by kernel_rfl) (fun _ h => by cases h) showRead_row_tie rfl ⟨rfl, rfl⟩ (by kernel_rfl) rfl plain (by kernel_rfl)
end Go.Proofs.YtidlljookjicpaaGreatDoor.showRead
