/- LexParts holds for every two texts. No condition but that the listed package variable holds what the program's text lays. -/
import Derived.Test.YtgpjdifjajailaaDoorLxZ
import Derived.Test.YtgpjdifjajailaaDoorCards
import Derived.Test.YtgpjdifjajailaaDoorTie
import Derived.Test.YtgpjdifjajailaaDoorOpn
import Derived.Test.YtgpjdifjajailaaDoorHan
import Derived.WalkKit
import Derived.ProofKit
import Derived.Deep.DeepHandedRow
namespace Go.Proofs.YtgpjdifjajailaaDoor.lexParts
open Go.ChangeShapes Go.WideShapes Go.ChangeAt Go.RowKit
open Go.ChangeMaps (open_string shut_string)
set_option linter.unusedVariables false
set_option linter.unusedSimpArgs false

theorem tabs {W : World} (h : laidMetH Tryd.prog Rows.lexPartsRow.laid W) : Hid (errTy W) := Lib.hid (errTy_of h (.head _))
theorem take_sh {N : Nat} {L : List Tk} {k : Nat} (h : k < L.length) : (L.take (k + 1)).map (sh N) = (L.take k).map (sh N) ++ [sh N (L.getD k tk0)] := by
  rw [List.take_succ_eq_append_getElem h, List.map_append, List.getD_eq_getElem?_getD, List.getElem?_eq_getElem h]; rfl

set_option maxRecDepth 100000 in
set_option maxHeartbeats 8000000 in
theorem walk (s t : ByteArray) (w : World) (hs : s.size ≤ 140737488351232) (ht : t.size ≤ 140737488351232) (hg : Hid (errTy w)) :
    Calls Tryd.prog 5 #[.string s, .string t] w fun e w' => e = .returned (.bool true) ∧ Below w.heap.size w w' := by
  have hbA := lexR_bd s
  have hbB := lexR_bd t
  have hpA := lexR_place s
  have hpB := lexR_place t
  have hzA := lexR_size s
  have hzB := lexR_size t
  have hat := Lib.hid (lexR_at t)
  have hwh := nl_whole s t
  have hfar := Lib.hid (fun h => lexR_far (s ++ nlB ++ t) h)
  have hjn := Lib.hid (fun h => lexR_join s t h)
  have kA := Lib.hid fun (W : World) (h : errTy W) => tokens_any s W (by omega) h
  have kB := Lib.hid fun (W : World) (h : errTy W) => tokens_any t W (by omega) h
  have kC := Lib.hid fun (W : World) (h : errTy W) => tokens_any (s ++ nlB ++ t) W (by omega) h
  generalize lexR s = A at hbA hpA hzA hjn kA
  generalize lexR t = B at hbB hpB hzB hjn kB hat
  generalize lexR (s ++ nlB ++ t) = C at hfar hjn kC
  obtain ⟨LA, pA, eA⟩ := A
  obtain ⟨LB, pB, eB⟩ := B
  obtain ⟨LC, pC, eC⟩ := C
  simp only [] at hbA hbB hpA hpB hzA hzB
  rw [show s ++ nlB ++ t = s ++ (⟨#[10]⟩ : ByteArray) ++ t from rfl] at hwh hfar kC
  have hfar2 : Hid (4096 < (s ++ (⟨#[10]⟩ : ByteArray) ++ t).size → ((LC, pC, eC) : List Tk × Int × Int) = ([], 0, 200)) := Lib.hid hfar.out
  have hwh' := Lib.hid hwh
  clear hwh hfar
  have h0l := hgl hg.out
  go_enter Tryd.func5, Tryd.ntmps5
  go_wp2_with fail
  refine (awake_any _ hg.out).mono ?_
  rintro e w1 ⟨rfl, hb1⟩
  have hg1 := Lib.hid (errTy_below hg.out hb1)
  have hB1 := Lib.hid hb1
  clear hb1
  go_wp2_with fail
  refine (kA.out _ hg1.out).mono ?_
  rintro e w2 ⟨v1, rfl, ho1, hb2⟩
  have hg2 := Lib.hid (errTy_below hg1.out hb2)
  have hB2 := Lib.hid (belT hB1.out hb2)
  have ho1' := Lib.hid ho1
  clear hb2 ho1
  go_wp2_with fail
  refine (kB.out _ hg2.out).mono ?_
  rintro e w3 ⟨v2, rfl, ho2, hb3⟩
  have hg3 := Lib.hid (errTy_below hg2.out hb3)
  have hB3 := Lib.hid (belT hB2.out hb3)
  have ho1_3 := Lib.hid (ownK_below ho1'.out hb3)
  have ho2' := Lib.hid ho2
  clear hb3 ho2 ho1'
  go_wp2_with fail
  refine (kC.out _ hg3.out).mono ?_
  rintro e w4 ⟨v3, rfl, ho3, hb4⟩
  have hB4 := Lib.hid (belT hB3.out hb4)
  have ho1_4 := Lib.hid (ownK_below ho1_3.out hb4)
  have ho2_4 := Lib.hid (ownK_below ho2'.out hb4)
  have ho3' := Lib.hid ho3
  clear hb4 ho3 ho1_3 ho2'
  simp only [] at ho1_4 ho2_4 ho3'
  by_cases hbig : 4096 < s.size + 1 + t.size
  · have hC := hfar2.out (by rw [hwh'.out]; exact hbig)
    injection hC with hL hC
    injection hC with hp he
    subst hL hp he
    have hbig' : (4096 : Int) < (s.size : Int) + 1 + (t.size : Int) := by omega
    clear hfar2 hjn ho1_4 ho2_4 ho3'
    go_wp2_with ((go_at_call 12; refine (num_any _ _ (by omega) (by omega)).mono ?_; rintro e w' ⟨rfl, rfl⟩))
    go_ret
    exact ⟨rfl, hB4.out⟩
  have hbig' : ¬ (4096 : Int) < (s.size : Int) + 1 + (t.size : Int) := by omega
  have hC := hjn.out (by omega)
  unfold joinR at hC
  simp only [] at hC
  clear hfar2 hjn
  by_cases h1 : eA = 200
  · subst h1
    rw [if_pos rfl] at hC
    injection hC with hL hC
    injection hC with hp he
    subst hL hp he
    clear ho1_4 ho2_4 ho3'
    go_wp2_with ((go_at_call 12; refine (num_any _ _ (by omega) (by omega)).mono ?_; rintro e w' ⟨rfl, rfl⟩))
    go_ret
    exact ⟨rfl, hB4.out⟩
  rw [if_neg h1] at hC
  have h1b : (eA == 200) = false := by simpa using h1
  by_cases h2 : eB = 200
  · subst h2
    rw [if_pos rfl] at hC
    injection hC with hL hC
    injection hC with hp he
    subst hL hp he
    clear ho1_4 ho2_4 ho3' h1
    go_wp2_with ((go_at_call 12; refine (num_any _ _ (by omega) (by omega)).mono ?_; rintro e w' ⟨rfl, rfl⟩))
    go_ret
    exact ⟨rfl, hB4.out⟩
  rw [if_neg h2] at hC
  have h2b : (eB == 200) = false := by simpa using h2
  by_cases h3 : eA = 0
  case neg =>
    rw [if_neg h3] at hC
    injection hC with hL hC
    injection hC with hp he
    subst hL hp he
    have h3b : (eC == 0) = false := by simpa using h3
    have h3c : (eC != 0) = true := by simpa using h3
    clear ho1_4 ho2_4 ho3' h1 h2 h3
    go_wp2_with ((go_at_call 12; refine (num_any _ _ (by omega) (by omega)).mono ?_; rintro e w' ⟨rfl, rfl⟩))
    go_ret
    exact ⟨rfl, hB4.out⟩
  subst h3
  rw [if_pos rfl] at hC
  by_cases h4 : eB = 0
  case neg =>
    rw [if_neg h4] at hC
    injection hC with hL hC
    injection hC with hp he
    subst hL hp he
    have h4b : (eC == 0) = false := by simpa using h4
    have h4c : (eC != 0) = true := by simpa using h4
    clear ho1_4 ho2_4 ho3' h1 h2 h4
    go_wp2_with ((go_at_call 12; refine (num_any _ _ (by omega) (by omega)).mono ?_; rintro e w' ⟨rfl, rfl⟩))
    go_ret
    exact ⟨rfl, hB4.out⟩
  subst h4
  rw [if_pos rfl] at hC
  injection hC with hL hC
  injection hC with hp he
  subst hp he
  have hL' := Lib.hid hL
  clear hL h1 h2
  have hll : LA.length ≤ 5000 := by omega
  rcases OwnK.cases ho2_4.out with ⟨rfl, rfl⟩ | ⟨g, c, rfl, hg0, hgs, hsl, hfz⟩
  · have hL2 : Hid (LC = LA) := Lib.hid (by rw [hL'.out]; simp)
    go_wp2_with ((go_at_call 12; refine (num_any _ _ (by omega) (by omega)).mono ?_; rintro e w' ⟨rfl, rfl⟩))
    refine (copy_any _ ho1_4.out hll).mono ?_
    rintro e w5 ⟨v5, rfl, ho5, hb5⟩
    have hrd3 := Lib.hid ((OwnK.rd ho3'.out).below hb5)
    have hrd5 := Lib.hid (OwnK.rd ho5)
    have hB5 := Lib.hid (belT hB4.out hb5)
    clear hb5 ho5 ho1_4 ho2_4 ho3'
    go_wp2_with fail
    go_loopw [14, 15] (fun av i wr => av = v5 ∧ i = .int .i64 0 ∧ wr = w5) (fun _ _ _ => 0)
    case atStart => exact ⟨rfl, rfl, rfl⟩
    case round =>
      obtain ⟨rfl, rfl, rfl⟩ := hrel
      go_wp2_with ((go_at_call 12; refine (num_any _ _ (by omega) (by omega)).mono ?_; rintro e w' ⟨rfl, rfl⟩))
      refine (same_any (l := LC) _ hrd3.out (by rw [hL2.out]; exact hrd5.out) (by rw [hL2.out]; omega)).mono ?_
      rintro e w6 ⟨rfl, hb6⟩
      go_wp2_with fail
      go_ret
      exact ⟨rfl, belT hB5.out hb6⟩
  have hsl' := Lib.hid hsl
  clear hsl hfz hg0
  go_wp2_with ((go_at_call 12; refine (num_any _ _ (by omega) (by omega)).mono ?_; rintro e w' ⟨rfl, rfl⟩))
  refine (copy_any _ ho1_4.out hll).mono ?_
  rintro e w5 ⟨v5, rfl, ho5, hb5⟩
  have ho5' := Lib.hid ho5
  have hb5' := Lib.hid hb5
  have hrd3 := Lib.hid (OwnK.rd ho3'.out)
  clear hb5 ho5 ho1_4 ho2_4 ho3'
  go_wp2_with fail
  go_loopw [14, 15] (fun av i wr => ∃ k : Nat, k ≤ LB.length ∧ i = .int .i64 k ∧ Below w4.heap.size w4 wr ∧ Hid (OwnK w4.heap.size wr av (LA ++ (LB.take k).map (sh (s.size + 1))))) (fun _ i _ => LB.length - (intOf i).toNat)
  case atStart => exact ⟨0, by omega, rfl, hb5'.out, Lib.hid (by rw [List.take_zero, List.map_nil, List.append_nil]; exact ho5'.out)⟩
  case round =>
    obtain ⟨k, hk, rfl, hbw, hown⟩ := hrel
    have hws := hbw.size
    by_cases hlt : k < LB.length
    · have hT := (hsl'.out k hlt).below hbw hgs
      have hta := hat.out (LB.getD k tk0) (by rw [List.getD_eq_getElem?_getD, List.getElem?_eq_getElem hlt]; exact List.getElem_mem hlt)
      have htk := take_sh (N := s.size + 1) hlt
      have hlen : (LA ++ (LB.take k).map (sh (s.size + 1))).length ≤ 5000 := by
        rw [List.length_append, List.length_map, List.length_take]; omega
      have hrest : Hid (LA ++ (LB.take (k + 1)).map (sh (s.size + 1)) = LA ++ (LB.take k).map (sh (s.size + 1)) ++ [sh (s.size + 1) (LB.getD k tk0)]) := Lib.hid (by rw [htk, List.append_assoc])
      clear htk
      generalize LA ++ (LB.take k).map (sh (s.size + 1)) = PL at hown hlen hrest
      generalize LB.getD k tk0 = t' at hT hta hrest
      obtain ⟨kd, tx, nm, a⟩ := t'
      simp only [] at hta
      obtain ⟨g0, g1, g2, g3⟩ := hT
      have e0 : wr.cell? ⟨g, 0 + k * 4, none⟩ = some (.int .i64 kd) := g0
      have e1 : wr.cell? ⟨g, 0 + k * 4 + 1, none⟩ = some (.string (bs tx)) := g1
      have e2 : wr.cell? ⟨g, 0 + k * 4 + 2, none⟩ = some (.int .i64 nm) := g2
      have e3 : wr.cell? ⟨g, 0 + k * 4 + 3, none⟩ = some (.int .i64 a) := g3
      rw [Nat.zero_add] at e0 e1 e2 e3
      clear g0 g1 g2 g3
      have hlt' : (k : Int) < (LB.length : Int) := by omega
      have hk0 : (0 : Int) ≤ (k : Int) := by omega
      have hgr : g < wr.heap.size := by omega
      have hsh : Hid (sh (s.size + 1) ⟨kd, tx, nm, a⟩ = ⟨kd, tx, nm, a + (s.size : Int) + 1⟩) := Lib.hid (by unfold sh; simp only []; congr 1; omega)
      go_wp2_with (at_builtin; refine op_tk rfl (.tmp 133) (.tmp 135) (wr.alloc (.cells #[.int .i64 kd, .string (bs tx), .int .i64 nm, .int .i64 (a + (s.size : Int) + 1)] 35)) w4.heap.size (by simp; omega) _ PL ⟨kd, tx, nm, a + (s.size : Int) + 1⟩ rfl rfl (by show Value.slice (some ⟨wr.heap.size + 1, 0, none⟩) 1 1 = _; simp) (World.ownsRow.alloc hown.out _) hlen ?_; intro v' w7 hown7 hb7)
      have hB7 : Below w4.heap.size w4 w7 := (hbw.alloc hws _).trans hb7
      have hown7' := Lib.hid hown7
      clear hown7 hb7 hown e0 e1 e2 e3
      go_wp2_with fail
      go_roundw
      case rel => exact ⟨k + 1, by omega, by go_num, hB7, Lib.hid (by rw [hrest.out, hsh.out]; exact hown7'.out)⟩
      case measure => simp [intOf]; omega
    · have hL2 : Hid (LC = LA ++ (LB.take k).map (sh (s.size + 1))) := Lib.hid (by rw [hL'.out, List.take_of_length_le (by omega)])
      have hrd5 := Lib.hid (OwnK.rd hown.out)
      have hrd3' := Lib.hid (hrd3.out.below hbw)
      have hlen : (LA ++ (LB.take k).map (sh (s.size + 1))).length ≤ 5000 := by
        rw [List.length_append, List.length_map, List.length_take]; omega
      clear hown
      go_wp2_with ((go_at_call 12; refine (num_any _ _ (by omega) (by omega)).mono ?_; rintro e w' ⟨rfl, rfl⟩))
      refine (same_any (l := LC) _ hrd3'.out (by rw [hL2.out]; exact hrd5.out) (by rw [hL2.out]; omega)).mono ?_
      rintro e w6 ⟨rfl, hb6⟩
      go_wp2_with fail
      go_ret
      exact ⟨rfl, belT (belT hB4.out hbw) hb6⟩
theorem own : ownKnob Tryd.prog.godebug = none := by kernel_rfl
theorem laidOut : laidOutB Tryd.prog = true := by kernel_rfl
set_option maxRecDepth 100000 in
theorem contract (H : Type) (enc : TypeId × Value → H) (W : World) (base : Nat) (args : Array Value) (ds gs : List (DataW H)) (before : List MemPlace)
    (hval0 : ∀ (j : Nat) t v, Tryd.f5.params[j]? = some t → args[j]? = some v → Value.okWide Tryd.prog W .any base t v)
    (hW : DataW.Whole enc Tryd.prog Tryd.f5.params.toList Rows.lexPartsSpec.vars false W args.toList ds gs before)
    (hsz0 : (DataW.weightsEach Tryd.prog (Tryd.f5.params.toList ++ Rows.lexPartsSpec.plain.varTypes Tryd.prog) (ds ++ gs)).all (· ≤ reachBytes) = true)
    (hL : laidMetH Tryd.prog Rows.lexPartsRow.laid W)
    : Calls Tryd.prog 5 args W fun e W' => ∃ v, e = .returned v ∧ Rows.lexPartsSpec.post enc Tryd.prog Tryd.f5 false true false false W args v W' := by
  have hval : ∀ (j : Nat) t v, Tryd.f5.params[j]? = some t → args[j]? = some v → Value.okWide Tryd.prog W .any base t v := hval0
  have hsz : (DataW.weightsEach Tryd.prog (Tryd.f5.params.toList ++ Rows.lexPartsSpec.plain.varTypes Tryd.prog) (ds ++ gs)).all (· ≤ reachBytes) = true := hsz0
  have hW' := hW
  obtain ⟨p, q, hA0, hV, rfl, hfz, hnd⟩ := hW
  have hA : DataW.TrodAll enc Tryd.prog W 0 (fun _ => true) true Tryd.f5.params.toList args.toList ds p := hA0
  rw [Tryd.params5] at hA hval hsz
  obtain ⟨v0, vs0, d0, ds0, p0, q0, hargs, rfl, rfl, h0, r0⟩ := trodAll_cons hA
  obtain ⟨v1, vs1, d1, ds1, p1, q1, rfl, rfl, rfl, h1, r1⟩ := trodAll_cons r0
  obtain ⟨rfl, rfl, rfl⟩ := trodAll_nil r1
  obtain rfl : args = #[v0, v1] := by cases args; simp_all
  obtain ⟨rfl, rfl⟩ := trodVars_none hV
  have k0 := h0
  have lt0 : ∀ x ∈ p0, x.block < W.heap.size := by obtain ⟨m, hm⟩ := k0; exact DataW.trod_lt m _ _ _ hm
  obtain ⟨a0, rfl, rfl, rfl, m0⟩ := open_string Tryd.underlying9 (hval 0 9 v0 rfl rfl) h0
  have w0 : a0.size ≤ 140737488351232 := by
    have := sized_string hsz (j := 0) (t := 9) rfl rfl
    simp [reachBytes] at this; omega
  have k1 := h1
  have lt1 : ∀ x ∈ p1, x.block < W.heap.size := by obtain ⟨m, hm⟩ := k1; exact DataW.trod_lt m _ _ _ hm
  obtain ⟨a1, rfl, rfl, rfl, m1⟩ := open_string Tryd.underlying9 (hval 1 9 v1 rfl rfl) h1
  have w1 : a1.size ≤ 140737488351232 := by
    have := sized_string hsz (j := 1) (t := 9) rfl rfl
    simp [reachBytes] at this; omega
  clear hA0 hval0
  refine (walk a0 a1 W w0 w1 (tabs hL)).mono fun e W' ⟨he, bel⟩ => ?_
  subst he
  exact ⟨_, rfl, _, _, _, [], _, [], hW', trodAll_mk1 (shut_bool Tryd.underlying4 _), (trodAll_cons_mk (Below.trod laidOut (by kernel_rfl) (of_decide_eq_true (by kernel_rfl)) k0 bel lt0) (trodAll_cons_mk (Below.trod laidOut (by kernel_rfl) (of_decide_eq_true (by kernel_rfl)) k1 bel lt1) trodAll_mk0)), rfl, bel.frame _, fun h => by cases h⟩
theorem laid_met (os : Os) : laidMetH Tryd.prog Rows.lexPartsRow.laid ((handleWorld os).forCall (fun _ _ => 0) ⟨#[], #[.string ByteArray.empty, .string ByteArray.empty], []⟩).memory := laidMetH_of_parts (laidMet_nil _ _) (by kernel_rfl)
theorem reads (os : Os) {H : Type} (enc : TypeId × Value → H) : ∃ places, DataW.whole enc Tryd.prog ((handleWorld os).forCall (fun _ _ => 0) ⟨#[], #[.string ByteArray.empty, .string ByteArray.empty], []⟩).memory Tryd.f5.params.toList Rows.lexPartsSpec.vars false #[(.string ByteArray.empty : Value), (.string ByteArray.empty : Value)].toList 8 = some ([.lit (.string []), .lit (.string [])], [], places) := ⟨[], by kernel_rfl⟩
set_option maxRecDepth 100000 in
theorem lifted (os : Os) (started : os.Started) (H : Type) (enc : TypeId × Value → H) (F : Stop.Interp) :
    ReturnsInHanded {} Tryd.checked os 5 .any ((OpenSpec.ofChange Rows.lexPartsSpec).preRow enc Tryd.prog Tryd.f5 Rows.lexPartsRow.domain false Rows.lexPartsRow.laid) (((OpenSpec.ofChange Rows.lexPartsSpec).at F).post enc Tryd.prog Tryd.f5 false true false false) := by
  obtain ⟨places, hx⟩ := reads os enc
  refine returnsInHanded_of_row (C := Tryd.checked) (s := (OpenSpec.ofChange Rows.lexPartsSpec)) own started (by kernel_rfl) Tryd.func5
    (witness_row_at (enc := enc) (C := Tryd.checked) false (handleWorld os) #[.string ByteArray.empty, .string ByteArray.empty] rfl (by kernel_rfl) (by kernel_rfl) (by kernel_rfl)
      (OpenSpec.preRow_of_cond 8 hx (by kernel_rfl) (fun k hk => by cases hk) (by kernel_rfl) (laid_met os))) ?_
  intro W base args ds gs before hval hW _ hcnd hsz hL _ _
  exact contract H enc W base args ds gs before hval hW hsz  hL
theorem said : Rows.LexPartsSaid :=
  OpenClaim.holds_of_cond 5 Tryd.f5 rfl rfl rfl rfl rfl rfl rfl ⟨rfl, rfl, rfl, rfl, rfl⟩ rfl rfl rfl rfl rfl (by kernel_rfl) Tryd.func5 (by kernel_rfl)
    (of_decide_eq_true (by kernel_rfl)) (by unfold Func.isWrapper; first | (rw [if_pos (by decide +kernel)]; kernel_rfl) | (rw [if_neg (by decide +kernel)]; exact ⟨rfl, rfl⟩))
    (fun os started H enc _ F => by rw [OpenClaim.pre_eq_preRow]; exact lifted os started H enc F)
theorem plain (f : FuncId) (fn : Func) (hf : Tryd.pinned.checked.prog.funcNamed "trammel/trammellaw2.LexParts" = some f) (hfn : Tryd.pinned.checked.prog.funcs[f]? = some fn) :
    true = Tryd.pinned.checked.prog.looks [] ∧ ∀ (j : Nat) t, fn.params[j]? = some t → Tryd.pinned.checked.prog.wantsStandIn t = false := by
  obtain rfl : f = 5 := Option.some.inj ((show Tryd.prog.funcNamed "trammel/trammellaw2.LexParts" = some 5 by kernel_rfl).symm.trans hf) |>.symm
  obtain rfl : fn = Tryd.f5 := (Option.some.inj (Tryd.func5.symm.trans hfn)).symm
  refine ⟨by kernel_rfl, fun j t ht => ?_⟩
  rw [Tryd.params5] at ht
  have hm := Array.mem_of_getElem? ht
  have hm2 : t ∈ ([9] : List Nat) := by simpa using hm
  simp only [List.mem_cons, List.not_mem_nil, or_false] at hm2
  subst hm2; exact (show Tryd.prog.wantsStandIn 9 = false by kernel_rfl)
theorem proved : Rows.LexPartsCardSaid :=
  Claim7.holds_tied_plain_at .later [] _ _ _ _ said (fun _ h => by cases h) (by kernel_rfl) (fun _ h => by cases h) lexParts_row_tie rfl ⟨rfl, rfl⟩ (by kernel_rfl) rfl plain (by kernel_rfl)
end Go.Proofs.YtgpjdifjajailaaDoor.lexParts
