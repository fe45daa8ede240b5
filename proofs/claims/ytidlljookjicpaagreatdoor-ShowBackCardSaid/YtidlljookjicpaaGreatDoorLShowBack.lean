/- ShowBack holds for every program. No condition but that the listed package variables hold what the program's text lays. -/
import Derived.Test.YtidlljookjicpaaGreatDoorPpA
import Derived.Test.YtidlljookjicpaaGreatDoorPwP
import Derived.Test.YtidlljookjicpaaGreatDoorNdIn
import Derived.Test.YtidlljookjicpaaGreatDoorPrg
import Derived.Test.YtidlljookjicpaaGreatDoorPrB
import Derived.Test.YtidlljookjicpaaGreatDoorPwH
import Derived.Test.YtidlljookjicpaaGreatDoorCards
import Derived.Test.YtidlljookjicpaaGreatDoorTie
import Derived.Test.YtidlljookjicpaaGreatDoorOpn
import Derived.Test.YtidlljookjicpaaGreatDoorHan
import Derived.WalkKit
import Derived.ProofKit
import Derived.Deep.DeepHandedRow
namespace Go.Proofs.YtidlljookjicpaaGreatDoor.showBack
open Go.ChangeShapes Go.WideShapes Go.ChangeAt Go.RowKit
open Go.ChangeMaps (open_string shut_string)
set_option linter.unusedVariables false
set_option linter.unusedSimpArgs false

theorem tabs {W : World} (h : laidMetH Tryz.prog Rows.showBackRow.laid W) : Hid (errTy W ∧ TabW W) := mixed_of h (.tail _ (.tail _ (.tail _ (.head _)))) (.tail _ (.tail _ (.head _)))
theorem pr_cases {os : List Or} {ts : List Nd} {T : PT} (hT : mayV os ts = true → MayT os ts T) : prV os ts T = none ∨ ∃ l, prV os ts T = some l ∧ l.length ≤ 4096 ∧ ∃ ns, parseV (bs l) = .ok (os, ns) ∧ ns.map bare0 = ts.map bare0 ∧ prV os ns T = some l ∧ MayT os ns T := by
  cases hp : prV os ts T with
  | none => exact .inl rfl
  | some l =>
    refine .inr ⟨l, rfl, ?_⟩
    unfold prV at hp
    split at hp
    · rename_i hm
      have hM := hT hm
      obtain ⟨ns, h1, h2⟩ := read_back hM hp
      have hl : l.length ≤ 4096 := by
        have hp := hp
        unfold outV at hp
        split at hp
        · rename_i hc; injection hp with hp; rw [← hp]; exact hc.2
        · cases hp
      refine ⟨hl, ns, h1, h2, ?_, hM.bare h2.symm⟩
      unfold prV
      rw [(parse_k h1).may, if_pos rfl, hp]
    · cases hp
set_option maxRecDepth 100000 in
set_option maxHeartbeats 4000000 in
theorem walk {H : Type} {enc : TypeId × Value → H} (p0 : Option Addr) (n0 c0 : Nat) (p1 : Option Addr) (n1 c1 : Nat) (w : World)
    (f0 : ∃ fuel y, DataW.trod enc Tryz.prog w 0 (fun _ => true) true fuel 22 [.slice p0 n0 c0] = some y ∧ ∀ x ∈ DataW.weights Tryz.prog 22 y.1, x ≤ reachBytes)
    (f1 : ∃ fuel y, DataW.trod enc Tryz.prog w 0 (fun _ => true) true fuel 23 [.slice p1 n1 c1] = some y ∧ ∀ x ∈ DataW.weights Tryz.prog 23 y.1, x ≤ reachBytes) (hgt : Hid (errTy w ∧ TabW w)) :
    Calls Tryz.prog 4 #[.agg #[.slice p0 n0 c0, .slice p1 n1 c1]] w fun e w' => e = .returned (.bool true) ∧ Below w.heap.size w w' := by
  have hg := Lib.hid hgt.out.1
  have hTb := Lib.hid hgt.out.2
  obtain ⟨_, _, t0, t0'⟩ := f0
  obtain ⟨_, hl0, os, hO, hOz⟩ := ops_open t0 t0'
  obtain ⟨_, _, t1, t1'⟩ := f1
  obtain ⟨_, hl1, ts, hN, hNz⟩ := nodes_open t1 t1'
  clear t0 t0' t1 t1' hgt
  have hO' := Lib.hid hO; have hN' := Lib.hid hN
  have hOz' := Lib.hid hOz; have hNz' := Lib.hid hNz
  clear hO hN hOz hNz
  obtain ⟨T, hT⟩ := mayT_ex os ts
  have hTab := Lib.hid fun (W : World) (hb : Below w.heap.size w W) => tab_keep hTb.out hb (Nat.le_refl _)
  have hEr := Lib.hid fun (W : World) (hb : Below w.heap.size w W) => errTy_below hg.out hb
  have k1 := Lib.hid fun (W : World) (hb : Below w.heap.size w W) => Print_any p0 p1 n0 c0 n1 c1 os ts T W (Lib.hid (hO'.out.below hb)) hOz' (by omega) (Lib.hid (hN'.out.below hb)) hNz' (by omega) (Lib.hid (hEr.out W hb)) (Lib.hid (hTab.out W hb)) hT
  have kA := Lib.hid fun (W : World) (hb : Below w.heap.size w W) => awake5_any W (Lib.hid (hEr.out W hb)) (Lib.hid (hTab.out W hb))
  have hC := Lib.hid (pr_cases hT)
  generalize hRr : prV os ts T = R at k1 hC
  clear hT hRr
  go_enter Tryz.func4, Tryz.ntmps4
  go_wp2_with fail
  have hP := Lib.hid (pg_lit w 25 w.heap.size rfl p0 p1 n0 c0 n1 c1)
  have hbA := Lib.hid (below_alc w (.cells #[.slice p0 n0 c0, .slice p1 n1 c1] 25))
  generalize w.alloc (.cells #[.slice p0 n0 c0, .slice p1 n1 c1] 25) = wA at hP hbA ⊢
  refine (kA.out _ hbA.out).mono ?_
  rintro e w1 ⟨rfl, hb1⟩
  have hP := Lib.hid (hP.out.below hb1)
  have hB1 := Lib.hid (belT hbA.out hb1)
  clear hb1 hbA kA
  obtain ⟨z0, d0, d1⟩ := hP.out
  go_wp2_with fail
  refine (k1.out _ hB1.out).mono ?_
  rintro e w2 ⟨rfl, hb2⟩
  have hP := Lib.hid (hP.out.below hb2)
  have hB2 := Lib.hid (belT hB1.out hb2)
  clear hb2 k1 d0 d1 z0
  rcases hC.out with rfl | ⟨l, rfl, hl, ns, h1, h2, h3, h4⟩
  · simp only [prS, prE]
    go_wp2_with ((go_at_call 11; refine (num_any _ _ (by omega) (by omega)).mono ?_; rintro e w' ⟨rfl, rfl⟩))
    go_ret
    exact ⟨rfl, hB2.out⟩
  · simp only [prS, prE]
    have hK := Lib.hid (parse_k h1)
    have h1 := Lib.hid h1; have h2 := Lib.hid h2; have h3 := Lib.hid h3; have h4 := Lib.hid h4
    have hbl : (bs l).size ≤ 4096 := by rw [bs_sizeL]; exact hl
    have hx : Hid (bs l = bs l) := Lib.hid rfl
    obtain ⟨x, hX⟩ : ∃ x, bs l = x := ⟨_, rfl⟩
    rw [hX] at hbl ⊢
    have hXH := Lib.hid hX
    have kP := Lib.hid (Parse_any x w2 (by omega) (Lib.hid (hEr.out _ hB2.out)))
    clear hl hx hX hC
    go_wp2_with ((go_at_call 11; refine (num_any _ _ (by omega) (by omega)).mono ?_; rintro e w' ⟨rfl, rfl⟩))
    refine kP.out.mono ?_
    intro e w3 hpost
    obtain ⟨qa, qc, qa2, qc2, rfl, hb3, ho3, hn3⟩ := prp_ok hpost (by rw [← hXH.out]; exact h1.out)
    have hO3 := Lib.hid (show OArg w3 qa os.length os from ho3.arg)
    have hN3 := Lib.hid (show NArg w3 qa2 ns.length ns from hn3.arg)
    have hP := Lib.hid (hP.out.below hb3)
    have hB3 := Lib.hid (belT hB2.out hb3)
    clear hpost ho3 hn3 hb3 kP
    have zo : os.length ≤ 4 := hK.out.ol
    have zn : ns.length ≤ 512 := hK.out.l1
    go_wp2_with fail
    have hQ := Lib.hid (pg_lit w3 25 w3.heap.size rfl qa qa2 os.length qc ns.length qc2)
    have hb4 := Lib.hid (below_alc w3 (.cells #[.slice qa os.length qc, .slice qa2 ns.length qc2] 25))
    generalize w3.alloc (.cells #[.slice qa os.length qc, .slice qa2 ns.length qc2] 25) = w4 at hQ hb4 ⊢
    have hP := Lib.hid (hP.out.below hb4.out)
    have hO4 := Lib.hid (hO3.out.below hb4.out)
    have hN4 := Lib.hid (hN3.out.below hb4.out)
    have hB4 := Lib.hid (belT hB3.out hb4.out)
    have k2 := Lib.hid (Print_any qa qa2 os.length qc ns.length qc2 os ns T w4 hO4 (Lib.hid hK.out.oz) (by omega) hN4 (Lib.hid hK.out.sz) (by omega) (Lib.hid (hEr.out _ hB4.out)) (Lib.hid (hTab.out _ hB4.out)) fun _ => h4.out)
    rw [h3.out] at k2
    simp only [prS, prE, hXH.out] at k2
    have k2 := Lib.hid (show Calls Tryz.prog 9 #[.agg #[.slice qa os.length qc, .slice qa2 ns.length qc2]] w4 (fun e w' => e = .returned (.tuple #[.string x, .int .i64 0]) ∧ Below w4.heap.size w4 w') from k2.out)
    clear hb4 hO3 hN3
    refine k2.out.mono ?_
    rintro e w5 ⟨rfl, hb5⟩
    have hP := Lib.hid (hP.out.below hb5)
    have hQ := Lib.hid (hQ.out.below hb5)
    have hO5 := Lib.hid (hO4.out.below hb5)
    have hN5 := Lib.hid (hN4.out.below hb5)
    have hB5 := Lib.hid (belT hB4.out hb5)
    clear hb5 k2 hO4 hN4
    have kS := Lib.hid (tSame_any p1 qa2 n1 ns.length c1 qc2 ts ns w5 (Lib.hid (hN'.out.below hB5.out)) hN5 (by omega))
    rw [sameS_of h2.out.symm] at kS
    have kO := Lib.hid fun (W : World) (h : OArg W qa os.length os) (hb : Below w.heap.size w W) => sameOps_any p0 qa n0 os.length c0 qc os os W (Lib.hid (hO'.out.below hb)) (Lib.hid h) (by omega)
    simp only [sameVO_self] at kO
    have kO := Lib.hid (show ∀ (W : World), OArg W qa os.length os → Below w.heap.size w W → _ from kO.out)
    obtain ⟨z0, d0, d1⟩ := hP.out
    obtain ⟨y0, g0, g1⟩ := hQ.out
    have hxx : (x.toList == x.toList) = true := beq_self_eq_true _
    go_wp2_with ((go_at_call 11; refine (num_any _ _ (by omega) (by omega)).mono ?_; rintro e w' ⟨rfl, rfl⟩))
    refine kS.out.mono ?_
    rintro e w6 ⟨rfl, hb6⟩
    have hP := Lib.hid (hP.out.below hb6)
    have hQ := Lib.hid (hQ.out.below hb6)
    have hO6 := Lib.hid (hO5.out.below hb6)
    have hB6 := Lib.hid (belT hB5.out hb6)
    clear hb6 kS d0 d1 z0 y0 g0 g1
    obtain ⟨z0, d0, d1⟩ := hP.out
    obtain ⟨y0, g0, g1⟩ := hQ.out
    go_wp2_with fail
    refine (kO.out _ hO6.out hB6.out).mono ?_
    rintro e w7 ⟨rfl, hb7⟩
    have hB7 := Lib.hid (belT hB6.out hb7)
    clear hb7 kO d0 d1 z0 y0 g0 g1
    go_wp2_with ((go_at_call 11; refine (num_any _ _ (by omega) (by omega)).mono ?_; rintro e w' ⟨rfl, rfl⟩))
    go_ret
    exact ⟨rfl, hB7.out⟩
theorem own : ownKnob Tryz.prog.godebug = none := by kernel_rfl
theorem laidOut : laidOutB Tryz.prog = true := by kernel_rfl
set_option maxRecDepth 100000 in
theorem contract (H : Type) (enc : TypeId × Value → H) (W : World) (base : Nat) (args : Array Value) (ds gs : List (DataW H)) (before : List MemPlace)
    (hval0 : ∀ (j : Nat) t v, Tryz.f4.params[j]? = some t → args[j]? = some v → Value.okWide Tryz.prog W .any base t v)
    (hW : DataW.Whole enc Tryz.prog Tryz.f4.params.toList Rows.showBackSpec.vars false W args.toList ds gs before)
    (hsz0 : (DataW.weightsEach Tryz.prog (Tryz.f4.params.toList ++ Rows.showBackSpec.plain.varTypes Tryz.prog) (ds ++ gs)).all (· ≤ reachBytes) = true)
    (hL : laidMetH Tryz.prog Rows.showBackRow.laid W)
    : Calls Tryz.prog 4 args W fun e W' => ∃ v, e = .returned v ∧ Rows.showBackSpec.post enc Tryz.prog Tryz.f4 false true false false W args v W' := by
  have hval : ∀ (j : Nat) t v, Tryz.f4.params[j]? = some t → args[j]? = some v → Value.okWide Tryz.prog W .any base t v := hval0
  have hsz : (DataW.weightsEach Tryz.prog (Tryz.f4.params.toList ++ Rows.showBackSpec.plain.varTypes Tryz.prog) (ds ++ gs)).all (· ≤ reachBytes) = true := hsz0
  have hW' := hW
  obtain ⟨p, q, hA0, hV, rfl, hfz, hnd⟩ := hW
  have hA : DataW.TrodAll enc Tryz.prog W 0 (fun _ => true) true Tryz.f4.params.toList args.toList ds p := hA0
  rw [Tryz.params4] at hA hval hsz
  obtain ⟨v0, vs0, d0, ds0, p0, q0, hargs, rfl, rfl, h0, r0⟩ := trodAll_cons hA
  obtain ⟨rfl, rfl, rfl⟩ := trodAll_nil r0
  obtain rfl : args = #[v0] := by cases args; simp_all
  obtain ⟨rfl, rfl⟩ := trodVars_none hV
  have k0 := h0
  have lt0 : ∀ x ∈ p0, x.block < W.heap.size := by obtain ⟨m, hm⟩ := k0; exact DataW.trod_lt m _ _ _ hm
  obtain ⟨cs0_0, rfl, fit0_0⟩ := open_struct Tryz.underlying25 (f := 6) (by kernel_rfl : flat Tryz.prog 6 25 = some [.sl 22, .sl 23]) (hval 0 25 v0 rfl rfl) h0 (sized_of hsz (j := 0) (t := 25) rfl rfl)
  obtain ⟨_, cs0_1, rfl, ⟨a0_0, n0_0, c0_0, fu0_0, y0_0, rfl, f0_0, g0_0⟩, fit0_1⟩ := fit_i fit0_0
  obtain ⟨_, cs0_2, rfl, ⟨a0_1, n0_1, c0_1, fu0_1, y0_1, rfl, f0_1, g0_1⟩, fit0_2⟩ := fit_i fit0_1
  obtain rfl := fit_nil fit0_2
  clear hA0 hval0
  refine (walk a0_0 n0_0 c0_0 a0_1 n0_1 c0_1 W ⟨_, _, f0_0, g0_0⟩ ⟨_, _, f0_1, g0_1⟩ (tabs hL)).mono fun e W' ⟨he, bel⟩ => ?_
  subst he
  exact ⟨_, rfl, _, _, _, [], _, [], hW', trodAll_mk1 (shut_bool Tryz.underlying4 _), (trodAll_cons_mk (Below.trod laidOut (by kernel_rfl) (of_decide_eq_true (by kernel_rfl)) k0 bel lt0) trodAll_mk0), rfl, bel.frame _, fun h => by cases h⟩
noncomputable def mixWorld (os : Os) : World := { World.holding Tryz.prog os ⟨#[], #[], []⟩ with heap := (layAll Tryz.prog Rows.showBackRow.laid (World.holding Tryz.prog os ⟨#[], #[], []⟩).heap).modify 0 fun | .cells _ t frozen => .cells #[.iface 138 (.agg #[.pointer (some ⟨4, 61, none⟩)])] t frozen | o => o }
theorem laid_met (os : Os) : laidMetH Tryz.prog Rows.showBackRow.laid ((mixWorld os).forCall (fun _ _ => 0) ⟨#[], #[.agg #[.slice none 0 0, .slice none 0 0]], []⟩).memory := laidMetH_of_parts (laidMet_of_run' 8 (by kernel_rfl) (by kernel_rfl)) (by kernel_rfl)
theorem reads (os : Os) {H : Type} (enc : TypeId × Value → H) : ∃ places, DataW.whole enc Tryz.prog ((mixWorld os).forCall (fun _ _ => 0) ⟨#[], #[.agg #[.slice none 0 0, .slice none 0 0]], []⟩).memory Tryz.f4.params.toList Rows.showBackSpec.vars false #[(.agg #[.slice none 0 0, .slice none 0 0] : Value)].toList 8 = some ([.agg [.nil, .nil]], [], places) := ⟨[], by kernel_rfl⟩
set_option maxRecDepth 100000 in
theorem lifted (os : Os) (started : os.Started) (H : Type) (enc : TypeId × Value → H) (F : Stop.Interp) :
    ReturnsInHanded {} Tryz.checked os 4 .any ((OpenSpec.ofChange Rows.showBackSpec).preRow enc Tryz.prog Tryz.f4 Rows.showBackRow.domain false Rows.showBackRow.laid) (((OpenSpec.ofChange Rows.showBackSpec).at F).post enc Tryz.prog Tryz.f4 false true false false) := by
  obtain ⟨places, hx⟩ := reads os enc
  refine returnsInHanded_of_row (C := Tryz.checked) (s := (OpenSpec.ofChange Rows.showBackSpec)) own started (by kernel_rfl) Tryz.func4
    (witness_row_at (enc := enc) (C := Tryz.checked) false (mixWorld os) #[.agg #[.slice none 0 0, .slice none 0 0]] rfl (by kernel_rfl) (by kernel_rfl) (by kernel_rfl)
      (OpenSpec.preRow_of_cond 8 hx (by kernel_rfl) (fun k hk => by cases hk) (by kernel_rfl) (laid_met os))) ?_
  intro W base args ds gs before hval hW _ hcnd hsz hL _ _
  exact contract H enc W base args ds gs before hval hW hsz  hL
theorem said : Rows.ShowBackSaid :=
  OpenClaim.holds_of_cond 4 Tryz.f4 rfl rfl rfl rfl rfl rfl rfl ⟨rfl, rfl, rfl, rfl, rfl⟩ rfl rfl rfl rfl rfl (by kernel_rfl) Tryz.func4 (by kernel_rfl)
    (of_decide_eq_true (by kernel_rfl)) (by unfold Func.isWrapper; first | (rw [if_pos (by decide +kernel)]; kernel_rfl) | (rw [if_neg (by decide +kernel)]; exact ⟨rfl, rfl⟩))
    (fun os started H enc _ F => by rw [OpenClaim.pre_eq_preRow]; exact lifted os started H enc F)
theorem plain (f : FuncId) (fn : Func) (hf : Tryz.pinned.checked.prog.funcNamed "trammel/trammellaw5.ShowBack" = some f) (hfn : Tryz.pinned.checked.prog.funcs[f]? = some fn) :
    true = Tryz.pinned.checked.prog.looks [] ∧ ∀ (j : Nat) t, fn.params[j]? = some t → Tryz.pinned.checked.prog.wantsStandIn t = false := by
  obtain rfl : f = 4 := Option.some.inj ((show Tryz.prog.funcNamed "trammel/trammellaw5.ShowBack" = some 4 by kernel_rfl).symm.trans hf) |>.symm
  obtain rfl : fn = Tryz.f4 := (Option.some.inj (Tryz.func4.symm.trans hfn)).symm
  refine ⟨by kernel_rfl, fun j t ht => ?_⟩
  rw [Tryz.params4] at ht
  have hm := Array.mem_of_getElem? ht
  have hm2 : t ∈ ([25] : List Nat) := by simpa using hm
  simp only [List.mem_cons, List.not_mem_nil, or_false] at hm2
  subst hm2; exact (show Tryz.prog.wantsStandIn 25 = false by kernel_rfl)
theorem proved : Rows.ShowBackCardSaid :=
  Claim7.holds_tied_plain_at .later [] _ _ _ _ said (fun _ h => by cases h) (by kernel_rfl) (fun _ h => by cases h) showBack_row_tie rfl ⟨rfl, rfl⟩ (by kernel_rfl) rfl plain (by kernel_rfl)
end Go.Proofs.YtidlljookjicpaaGreatDoor.showBack
