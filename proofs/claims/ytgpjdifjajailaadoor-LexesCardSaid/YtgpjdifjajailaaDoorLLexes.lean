/- Lexes holds for every two texts. No condition but that the listed package variable holds what the program's text lays. -/
import Derived.Test.YtgpjdifjajailaaDoorLxV
import Derived.Test.YtgpjdifjajailaaDoorCards
import Derived.Test.YtgpjdifjajailaaDoorTie
import Derived.Test.YtgpjdifjajailaaDoorOpn
import Derived.Test.YtgpjdifjajailaaDoorHan
import Derived.WalkKit
import Derived.ProofKit
import Derived.Deep.DeepHandedRow
namespace Go.Proofs.YtgpjdifjajailaaDoor.lexes
open Go.ChangeShapes Go.WideShapes Go.ChangeAt Go.RowKit
open Go.ChangeMaps (open_string shut_string)
set_option linter.unusedVariables false
set_option linter.unusedSimpArgs false

theorem tabs {W : World} (h : laidMetH Tryd.prog Rows.lexesRow.laid W) : Hid (errTy W) := Lib.hid (errTy_of h (.head _))

set_option maxRecDepth 100000 in
set_option maxHeartbeats 4000000 in
theorem walk (s t : ByteArray) (w : World) (hs : s.size ≤ 140737488351232) (ht : t.size ≤ 140737488351232) (hg : Hid (errTy w)) :
    Calls Tryd.prog 3 #[.string s, .string t] w fun e w' => e = .returned (.bool true) ∧ Below w.heap.size w w' := by
  have hbd := lexR_bd s
  have hlen := lexR_len s
  have kT := Lib.hid fun (W : World) (h : errTy W) => tokens_any s W (by omega) h
  have kR := Lib.hid fun (W : World) => rtokens_any s W (by omega)
  have kK := Lib.hid fun (W : World) => rkeyword_any t W (by omega)
  generalize lexR s = R at hbd hlen kT kR
  obtain ⟨L, pl, er⟩ := R
  have hbd : 0 ≤ er ∧ er ≤ 202 := hbd
  have hlen : L.length ≤ 4096 := hlen
  have hlen' := Lib.hid hlen; clear hlen
  obtain ⟨kb, hkb⟩ : ∃ b, kwB t.data.toList = b := ⟨_, rfl⟩
  have hkb' := Lib.hid hkb; clear hkb
  have h0l := hgl hg.out
  go_enter Tryd.func3, Tryd.ntmps3
  go_wp2_with fail
  refine (kT.out _ hg.out).mono ?_
  rintro e w1 ⟨v1, rfl, ho1, hb1⟩
  have hB1 := Lib.hid hb1
  have hs1 := hb1.size
  have hg1 := Lib.hid (errTy_below hg.out hb1)
  have ho1' := Lib.hid ho1
  have hlt1 := Lib.hid (World.ownsRow.lt ho1)
  clear ho1 hb1
  go_wp2_with fail
  refine (kR.out _).mono ?_
  rintro e w2 ⟨v2, rfl, ho2, hb2⟩
  have hB2 := Lib.hid (belT hB1.out hb2)
  have hs2 := hb2.size
  have hg2 := Lib.hid (errTy_below hg1.out hb2)
  have ho1_2 := Lib.hid (ownK_below ho1'.out hb2)
  have ho2' := Lib.hid ho2
  clear ho2 hb2 ho1'
  go_wp2_with fail
  refine (same_any (l := L) _ (OwnK.rd ho1_2.out) (OwnK.rd ho2'.out) (by have := hlen'.out; omega)).mono ?_
  rintro e w3 ⟨rfl, hb3⟩
  have hB3 := Lib.hid (belT hB2.out hb3)
  have hs3 := hb3.size
  have hg3 := Lib.hid (errTy_below hg2.out hb3)
  have ho1_3 := Lib.hid (ownK_below ho1_2.out hb3)
  have ho2_3 := Lib.hid (ownK_below ho2'.out hb3)
  clear hb3 ho1_2 ho2'
  go_wp2_with (first | ((go_at_call 12; refine (num_any _ _ (by omega) (by omega)).mono ?_; rintro e w' ⟨rfl, rfl⟩)) | ((go_at_call 13; refine (keyword_any _ _).mono ?_; rintro e w' ⟨rfl, rfl⟩; rw [hkb'.out])) | ((go_at_call 14; refine (kK.out _).mono ?_; rintro e w' ⟨rfl, rfl⟩; rw [hkb'.out])))
  -- the first answer is written over
  rcases OwnK.cases ho1_3.out with ⟨rfl, hL⟩ | ⟨g, c, rfl, hg0, hgs, hsl, hfz⟩
  · refine (spoil_nil _).mono ?_
    rintro e w' ⟨rfl, rfl⟩
    go_wp2_with fail
    refine (kT.out _ hg3.out).mono ?_
    rintro e w5 ⟨v5, rfl, ho5, hb5⟩
    have hB5 := Lib.hid (belT hB3.out hb5)
    have hg5 := Lib.hid (errTy_below hg3.out hb5)
    have ho2_5 := Lib.hid (ownK_below ho2_3.out hb5)
    have ho5' := Lib.hid ho5
    clear hb5 ho5 hL
    go_wp2_with fail
    refine (same_any (l := L) _ (OwnK.rd ho5'.out) (OwnK.rd ho2_5.out) (by have := hlen'.out; omega)).mono ?_
    rintro e w6 ⟨rfl, hb6⟩
    have hB6 := Lib.hid (belT hB5.out hb6)
    have hg6 := Lib.hid (errTy_below hg5.out hb6)
    clear hb6
    go_wp2_with fail
    refine (awake_any _ hg6.out).mono ?_
    rintro e w7 ⟨rfl, hb7⟩
    go_wp2_with fail
    go_ret
    exact ⟨rfl, belT hB6.out hb7⟩
  · have hfar := Lib.hid (OwnK.far ho2_3.out (g := g))
    have hsl' := Lib.hid hsl; have hfz' := Lib.hid hfz
    have hgw1 : g < w1.heap.size := (hlt1.out g rfl).2
    clear hsl hfz
    refine (spoil_sl g c L _ hsl'.out hfz'.out (by have := hlen'.out; omega)).mono ?_
    rintro e w4 ⟨rfl, hb4, honly⟩
    have hrd2 := Lib.hid (RdK.only (OwnK.rd ho2_3.out) honly (hfar.out hgw1))
    have hg4 := Lib.hid (only_errTy hg3.out honly (by omega))
    have hB4 := Lib.hid (hB3.out.trans (hb4.mono hg0))
    clear hb4 honly
    go_wp2_with fail
    refine (kT.out _ hg4.out).mono ?_
    rintro e w5 ⟨v5, rfl, ho5, hb5⟩
    have hB5 := Lib.hid (belT hB4.out hb5)
    have hg5 := Lib.hid (errTy_below hg4.out hb5)
    have hrd5 := Lib.hid (hrd2.out.below hb5)
    have ho5' := Lib.hid ho5
    clear hb5 ho5
    go_wp2_with fail
    refine (same_any (l := L) _ (OwnK.rd ho5'.out) hrd5.out (by have := hlen'.out; omega)).mono ?_
    rintro e w6 ⟨rfl, hb6⟩
    have hB6 := Lib.hid (belT hB5.out hb6)
    have hg6 := Lib.hid (errTy_below hg5.out hb6)
    clear hb6
    go_wp2_with fail
    refine (awake_any _ hg6.out).mono ?_
    rintro e w7 ⟨rfl, hb7⟩
    go_wp2_with fail
    go_ret
    exact ⟨rfl, belT hB6.out hb7⟩
theorem own : ownKnob Tryd.prog.godebug = none := by kernel_rfl
theorem laidOut : laidOutB Tryd.prog = true := by kernel_rfl
set_option maxRecDepth 100000 in
theorem contract (H : Type) (enc : TypeId × Value → H) (W : World) (base : Nat) (args : Array Value) (ds gs : List (DataW H)) (before : List MemPlace)
    (hval0 : ∀ (j : Nat) t v, Tryd.f3.params[j]? = some t → args[j]? = some v → Value.okWide Tryd.prog W .any base t v)
    (hW : DataW.Whole enc Tryd.prog Tryd.f3.params.toList Rows.lexesSpec.vars false W args.toList ds gs before)
    (hsz0 : (DataW.weightsEach Tryd.prog (Tryd.f3.params.toList ++ Rows.lexesSpec.plain.varTypes Tryd.prog) (ds ++ gs)).all (· ≤ reachBytes) = true)
    (hL : laidMetH Tryd.prog Rows.lexesRow.laid W)
    : Calls Tryd.prog 3 args W fun e W' => ∃ v, e = .returned v ∧ Rows.lexesSpec.post enc Tryd.prog Tryd.f3 false true false false W args v W' := by
  have hval : ∀ (j : Nat) t v, Tryd.f3.params[j]? = some t → args[j]? = some v → Value.okWide Tryd.prog W .any base t v := hval0
  have hsz : (DataW.weightsEach Tryd.prog (Tryd.f3.params.toList ++ Rows.lexesSpec.plain.varTypes Tryd.prog) (ds ++ gs)).all (· ≤ reachBytes) = true := hsz0
  have hW' := hW
  obtain ⟨p, q, hA0, hV, rfl, hfz, hnd⟩ := hW
  have hA : DataW.TrodAll enc Tryd.prog W 0 (fun _ => true) true Tryd.f3.params.toList args.toList ds p := hA0
  rw [Tryd.params3] at hA hval hsz
  obtain ⟨v0, vs0, d0, ds0, p0, q0, hargs, rfl, rfl, h0, r0⟩ := trodAll_cons hA
  obtain ⟨v1, vs1, d1, ds1, p1, q1, rfl, rfl, rfl, h1, r1⟩ := trodAll_cons r0
  obtain ⟨rfl, rfl, rfl⟩ := trodAll_nil r1
  obtain rfl : args = #[v0, v1] := by cases args; simp_all
  obtain ⟨rfl, rfl⟩ := trodVars_none hV
  have k0 := h0
  have lt0 : ∀ x ∈ p0, x.block < W.heap.size := by obtain ⟨m, hm⟩ := k0; exact DataW.trod_lt m _ _ _ hm
  obtain ⟨a0, rfl, rfl, rfl, m0⟩ := open_string Tryd.underlying9 (hval 0 9 v0 rfl rfl) h0
  have w0 : a0.size ≤ 140737488351232 := by
    have := sized_string hsz (j := 0) (t := 9) rfl rfl
    simp [reachBytes] at this; omega
  have k1 := h1
  have lt1 : ∀ x ∈ p1, x.block < W.heap.size := by obtain ⟨m, hm⟩ := k1; exact DataW.trod_lt m _ _ _ hm
  obtain ⟨a1, rfl, rfl, rfl, m1⟩ := open_string Tryd.underlying9 (hval 1 9 v1 rfl rfl) h1
  have w1 : a1.size ≤ 140737488351232 := by
    have := sized_string hsz (j := 1) (t := 9) rfl rfl
    simp [reachBytes] at this; omega
  clear hA0 hval0
  refine (walk a0 a1 W w0 w1 (tabs hL)).mono fun e W' ⟨he, bel⟩ => ?_
  subst he
  exact ⟨_, rfl, _, _, _, [], _, [], hW', trodAll_mk1 (shut_bool Tryd.underlying4 _), (trodAll_cons_mk (Below.trod laidOut (by kernel_rfl) (of_decide_eq_true (by kernel_rfl)) k0 bel lt0) (trodAll_cons_mk (Below.trod laidOut (by kernel_rfl) (of_decide_eq_true (by kernel_rfl)) k1 bel lt1) trodAll_mk0)), rfl, bel.frame _, fun h => by cases h⟩
theorem laid_met (os : Os) : laidMetH Tryd.prog Rows.lexesRow.laid ((handleWorld os).forCall (fun _ _ => 0) ⟨#[], #[.string ByteArray.empty, .string ByteArray.empty], []⟩).memory := laidMetH_of_parts (laidMet_nil _ _) (by kernel_rfl)
theorem reads (os : Os) {H : Type} (enc : TypeId × Value → H) : ∃ places, DataW.whole enc Tryd.prog ((handleWorld os).forCall (fun _ _ => 0) ⟨#[], #[.string ByteArray.empty, .string ByteArray.empty], []⟩).memory Tryd.f3.params.toList Rows.lexesSpec.vars false #[(.string ByteArray.empty : Value), (.string ByteArray.empty : Value)].toList 8 = some ([.lit (.string []), .lit (.string [])], [], places) := ⟨[], by kernel_rfl⟩
set_option maxRecDepth 100000 in
theorem lifted (os : Os) (started : os.Started) (H : Type) (enc : TypeId × Value → H) (F : Stop.Interp) :
    ReturnsInHanded {} Tryd.checked os 3 .any ((OpenSpec.ofChange Rows.lexesSpec).preRow enc Tryd.prog Tryd.f3 Rows.lexesRow.domain false Rows.lexesRow.laid) (((OpenSpec.ofChange Rows.lexesSpec).at F).post enc Tryd.prog Tryd.f3 false true false false) := by
  obtain ⟨places, hx⟩ := reads os enc
  refine returnsInHanded_of_row (C := Tryd.checked) (s := (OpenSpec.ofChange Rows.lexesSpec)) own started (by kernel_rfl) Tryd.func3
    (witness_row_at (enc := enc) (C := Tryd.checked) false (handleWorld os) #[.string ByteArray.empty, .string ByteArray.empty] rfl (by kernel_rfl) (by kernel_rfl) (by kernel_rfl)
      (OpenSpec.preRow_of_cond 8 hx (by kernel_rfl) (fun k hk => by cases hk) (by kernel_rfl) (laid_met os))) ?_
  intro W base args ds gs before hval hW _ hcnd hsz hL _ _
  exact contract H enc W base args ds gs before hval hW hsz  hL
theorem said : Rows.LexesSaid :=
  OpenClaim.holds_of_cond 3 Tryd.f3 rfl rfl rfl rfl rfl rfl rfl ⟨rfl, rfl, rfl, rfl, rfl⟩ rfl rfl rfl rfl rfl (by kernel_rfl) Tryd.func3 (by kernel_rfl)
    (of_decide_eq_true (by kernel_rfl)) (by unfold Func.isWrapper; first | (rw [if_pos (by decide +kernel)]; kernel_rfl) | (rw [if_neg (by decide +kernel)]; exact ⟨rfl, rfl⟩))
    (fun os started H enc _ F => by rw [OpenClaim.pre_eq_preRow]; exact lifted os started H enc F)
theorem plain (f : FuncId) (fn : Func) (hf : Tryd.pinned.checked.prog.funcNamed "trammel/trammellaw2.Lexes" = some f) (hfn : Tryd.pinned.checked.prog.funcs[f]? = some fn) :
    true = Tryd.pinned.checked.prog.looks [] ∧ ∀ (j : Nat) t, fn.params[j]? = some t → Tryd.pinned.checked.prog.wantsStandIn t = false := by
  obtain rfl : f = 3 := Option.some.inj ((show Tryd.prog.funcNamed "trammel/trammellaw2.Lexes" = some 3 by kernel_rfl).symm.trans hf) |>.symm
  obtain rfl : fn = Tryd.f3 := (Option.some.inj (Tryd.func3.symm.trans hfn)).symm
  refine ⟨by kernel_rfl, fun j t ht => ?_⟩
  rw [Tryd.params3] at ht
  have hm := Array.mem_of_getElem? ht
  have hm2 : t ∈ ([9] : List Nat) := by simpa using hm
  simp only [List.mem_cons, List.not_mem_nil, or_false] at hm2
  subst hm2; exact (show Tryd.prog.wantsStandIn 9 = false by kernel_rfl)
theorem proved : Rows.LexesCardSaid :=
  Claim7.holds_tied_plain_at .later [] _ _ _ _ said (fun _ h => by cases h) (by kernel_rfl) (fun _ h => by cases h) lexes_row_tie rfl ⟨rfl, rfl⟩ (by kernel_rfl) rfl plain (by kernel_rfl)
end Go.Proofs.YtgpjdifjajailaaDoor.lexes
