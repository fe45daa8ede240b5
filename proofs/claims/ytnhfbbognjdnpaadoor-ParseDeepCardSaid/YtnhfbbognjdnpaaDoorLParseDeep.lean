/- ParseDeep holds for every two numbers. No condition but that the listed package variable holds what the program's text lays. -/
import Derived.Test.YtnhfbbognjdnpaaDoorPrN
import Derived.Test.YtnhfbbognjdnpaaDoorAid
import Derived.Test.YtnhfbbognjdnpaaDoorCards
import Derived.Test.YtnhfbbognjdnpaaDoorTie
import Derived.Test.YtnhfbbognjdnpaaDoorOpn
import Derived.Test.YtnhfbbognjdnpaaDoorHan
import Derived.WalkKit
import Derived.ProofKit
import Derived.Deep.DeepHandedRow
namespace Go.Proofs.YtnhfbbognjdnpaaDoor.parseDeep
open Go.ChangeShapes Go.WideShapes Go.ChangeAt Go.RowKit
open Go.ChangeMaps (open_string shut_string)
set_option linter.unusedVariables false
set_option linter.unusedSimpArgs false

theorem tabs {W : World} (h : laidMetH Tryd.prog Rows.parseDeepRow.laid W) : Hid (errTy W) := Lib.hid (errTy_of h (.head _))
theorem sD_step (w n : Nat) : bs (sD w n) ++ bs (uD w) = bs (sD w (n + 1)) := by
  show _ = bs (sD w n ++ uD w)
  rw [bs_app]
theorem eD_step (n : Nat) : bs (eD 0 n) ++ (⟨#[41]⟩ : ByteArray) = bs (eD 0 (n + 1)) := by
  show _ = bs (eD 0 n ++ [41])
  rw [bs_app]; rfl
theorem eD_same (w n : Nat) (h : w ≠ 0) : bs (eD w n) = bs (eD w (n + 1)) := by
  show _ = bs (eD w n ++ (if w = 0 then [41] else []))
  rw [if_neg h, List.append_nil]
theorem sz_s (w n : Nat) (hn : n ≤ 63) : (bs (sD w n)).size ≤ 1100 := by
  rw [bs_sizeL, sD_eq, rD_len]
  have : uL w * n ≤ 17 * 63 := Nat.mul_le_mul (uL_le w) hn
  omega
theorem sz_e (w n : Nat) (hn : n ≤ 63) : (bs (eD w n)).size ≤ 70 := by
  rw [bs_sizeL, eD_eq, List.length_cons, cD_len]; split <;> omega
set_option maxRecDepth 100000 in
set_option maxHeartbeats 8000000 in
theorem walk (a0 a1 : Int) (w : World) (b0 : -9223372036854775808 ≤ a0 ∧ a0 ≤ 9223372036854775807) (b1 : -9223372036854775808 ≤ a1 ∧ a1 ≤ 9223372036854775807) (hg : Hid (errTy w)) :
    Calls Tryd.prog 8 #[.int .i64 a0, .int .i64 a1] w fun e w' => e = .returned (.bool true) ∧ Below w.heap.size w w' := by
  have hk0 := and63 a1
  obtain ⟨qi, hqi⟩ : ∃ m, a1 % 64 = m := ⟨_, rfl⟩
  rw [hqi] at hk0
  obtain ⟨q, rfl⟩ := Int.eq_ofNat_of_zero_le (show 0 ≤ qi by omega)
  have hq : q < 64 := by omega
  have hv0 := and3 a0
  obtain ⟨vi, hvi⟩ : ∃ m, a0 % 4 = m := ⟨_, rfl⟩
  rw [hvi] at hv0
  obtain ⟨v, rfl⟩ := Int.eq_ofNat_of_zero_le (show 0 ≤ vi by omega)
  have hv : v < 4 := by omega
  clear hqi hvi
  obtain ⟨m, hm⟩ : ∃ m, 1 + q = m := ⟨_, rfl⟩
  have hmi : (1 : Int) + (q : Int) = (m : Int) := by omega
  have hm1 : m ≤ 64 := by omega
  have hm' := Lib.hid hm
  clear hm
  have kA := Lib.hid (awake4_any w hg)
  obtain ⟨hPo, hPb⟩ := parse_deep v hv q (by omega)
  obtain ⟨x, hx⟩ : ∃ x, bs (sD v q ++ eD v q) = x := ⟨_, rfl⟩
  have hxe : Hid (bs (sD v q) ++ bs (eD v q) = x) := Lib.hid (by rw [← hx, bs_app])
  have hsz : x.size ≤ 2000 := by rw [← hx, deep_size]; have : uL v * q ≤ 17 * 63 := Nat.mul_le_mul (uL_le v) (by omega); split <;> omega
  rw [hx] at hPo hPb
  clear hx
  have hK := Lib.hid fun (os : List Or) (ns : List Nd) (h : parseV x = .ok (os, ns)) => parse_k h
  have kP := Lib.hid fun (W : World) (hb : Below w.heap.size w W) => Parse_any x W (by omega) (Lib.hid (errTy_below hg.out hb))
  generalize parseV x = R at kP hK hPo hPb
  have hPo := Lib.hid hPo
  have hPb := Lib.hid hPb
  go_enter Tryd.func8, Tryd.ntmps8
  go_wp2_with fail
  refine kA.out.mono ?_
  rintro e w1 ⟨rfl, hb1⟩
  have hB1 := Lib.hid hb1
  clear kA hb1
  go_wp2_with fail
  go_loopw [6, 7, 8] (fun sv ev iv wr => ∃ (j : Nat) (y z : ByteArray), j ≤ q ∧ iv = .int .i64 (j + 1 : Nat) ∧ sv = .string y ∧ ev = .string z ∧ wr = w1 ∧ Hid (y = bs (sD v j)) ∧ Hid (z = bs (eD v j))) (fun _ _ iv _ => q + 1 - (intOf iv).toNat)
  case atStart => exact ⟨0, _, _, by omega, rfl, rfl, rfl, rfl, Lib.hid rfl, Lib.hid rfl⟩
  case round =>
    obtain ⟨j, y, z, hj, rfl, rfl, rfl, rfl, hy, hz⟩ := hrel
    have hyz : y.size ≤ 1100 := by rw [hy.out]; exact sz_s v j (by omega)
    have hzz : z.size ≤ 70 := by rw [hz.out]; exact sz_e v j (by omega)
    push_cast
    by_cases hlt : j < q
    · have hji : (j : Int) + 1 < (m : Int) := by omega
      have hcase : v = 0 ∨ v = 1 ∨ v = 2 ∨ v = 3 := by omega
      rcases hcase with rfl | rfl | rfl | rfl
      · go_wp2_with fail
        go_roundw
        case rel => exact ⟨j + 1, _, _, by omega, by go_num, rfl, rfl, by first | trivial | rfl, Lib.hid (by rw [hy.out]; exact sD_step 0 j), Lib.hid (by rw [hz.out]; exact eD_step j)⟩
        case measure => simp [intOf]; omega
      · go_wp2_with fail
        go_roundw
        case rel => exact ⟨j + 1, _, _, by omega, by go_num, rfl, rfl, by first | trivial | rfl, Lib.hid (by rw [hy.out]; exact sD_step 1 j), Lib.hid (by rw [hz.out]; exact eD_same 1 j (by decide))⟩
        case measure => simp [intOf]; omega
      · go_wp2_with fail
        go_roundw
        case rel => exact ⟨j + 1, _, _, by omega, by go_num, rfl, rfl, by first | trivial | rfl, Lib.hid (by rw [hy.out]; exact sD_step 2 j), Lib.hid (by rw [hz.out]; exact eD_same 2 j (by decide))⟩
        case measure => simp [intOf]; omega
      · go_wp2_with fail
        go_roundw
        case rel => exact ⟨j + 1, _, _, by omega, by go_num, rfl, rfl, by first | trivial | rfl, Lib.hid (by rw [hy.out]; exact sD_step 3 j), Lib.hid (by rw [hz.out]; exact eD_same 3 j (by decide))⟩
        case measure => simp [intOf]; omega
    · obtain rfl : j = q := by omega
      have hji : ¬ (j : Int) + 1 < (m : Int) := by omega
      have hyx : y ++ z = x := by rw [hy.out, hz.out]; exact hxe.out
      have hpb := Lib.hid fun (h : 40 ≤ j) => hPb.out h
      rw [← hy.out] at hpb
      clear hxe
      by_cases h5 : j < 40
      · obtain ⟨ns, rfl⟩ := hPo.out h5
        have h5i : ¬ (40 : Int) < (m : Int) := by omega
        have hl0 := (hK.out _ _ rfl).l0
        have hnl : (0 : Int) < (ns.length : Int) := by omega
        have hl1 := (hK.out _ _ rfl).l1
        clear h5 hpb hPb hPo
        go_upto_region 17 with fail
        have hyx' := hyx
        go_wp2_with fail
        refine (kP.out _ hB1.out).mono ?_
        intro e w2 hpost
        obtain ⟨a, c, a2, c2, rfl, hb2, ho, hn⟩ := prp_ok hpost rfl
        have hB2 := Lib.hid (belT hB1.out hb2)
        clear hpost hb2 ho hn kP hK hyx hyx'
        go_wp2_with ((go_at_call 12; refine (num_any _ _ (by omega) (by omega)).mono ?_; rintro e w' ⟨rfl, rfl⟩))
        go_ret
        exact ⟨ret_b (by first | (simp; done) | (simp; omega)), belT hB2.out (by (repeat' (first | with_reducible exact Below.refl _ _ | with_reducible assumption | with_reducible apply Below.setCell | with_reducible apply Below.alloc | with_reducible apply Below.drew | with_reducible apply below_drewN | with_reducible exact Nat.le_refl _ | (simp; done) | (simp; omega) | omega | exact Nat.le_refl _)))⟩
      · obtain ⟨p, rfl, hp0, hp1⟩ := hpb.out (by omega)
        have h5i : (40 : Int) < (m : Int) := by omega
        clear h5 hpb hPb hPo
        go_upto_region 17 with fail
        go_wp2_with fail
        refine (kP.out _ hB1.out).mono ?_
        intro e w2 hpost
        obtain ⟨rfl, hb2⟩ := prp_no hpost rfl
        have hB2 := Lib.hid (belT hB1.out hb2)
        clear hpost hb2 kP hK hyx
        try dsimp only
        go_wp2_with ((go_at_call 12; refine (num_any _ _ (by omega) (by omega)).mono ?_; rintro e w' ⟨rfl, rfl⟩))
        go_ret
        exact ⟨ret_b (by first | (simp; done) | (simp; omega)), belT hB2.out (by (repeat' (first | with_reducible exact Below.refl _ _ | with_reducible assumption | with_reducible apply Below.setCell | with_reducible apply Below.alloc | with_reducible apply Below.drew | with_reducible apply below_drewN | with_reducible exact Nat.le_refl _ | (simp; done) | (simp; omega) | omega | exact Nat.le_refl _)))⟩
theorem own : ownKnob Tryd.prog.godebug = none := by kernel_rfl
theorem laidOut : laidOutB Tryd.prog = true := by kernel_rfl
set_option maxRecDepth 100000 in
theorem contract (H : Type) (enc : TypeId × Value → H) (W : World) (base : Nat) (args : Array Value) (ds gs : List (DataW H)) (before : List MemPlace)
    (hval0 : ∀ (j : Nat) t v, Tryd.f8.params[j]? = some t → args[j]? = some v → Value.okWide Tryd.prog W .any base t v)
    (hW : DataW.Whole enc Tryd.prog Tryd.f8.params.toList Rows.parseDeepSpec.vars false W args.toList ds gs before)
    (hsz0 : (DataW.weightsEach Tryd.prog (Tryd.f8.params.toList ++ Rows.parseDeepSpec.plain.varTypes Tryd.prog) (ds ++ gs)).all (· ≤ reachBytes) = true)
    (hL : laidMetH Tryd.prog Rows.parseDeepRow.laid W)
    : Calls Tryd.prog 8 args W fun e W' => ∃ v, e = .returned v ∧ Rows.parseDeepSpec.post enc Tryd.prog Tryd.f8 false true false false W args v W' := by
  have hval : ∀ (j : Nat) t v, Tryd.f8.params[j]? = some t → args[j]? = some v → Value.okWide Tryd.prog W .any base t v := hval0
  have hsz : (DataW.weightsEach Tryd.prog (Tryd.f8.params.toList ++ Rows.parseDeepSpec.plain.varTypes Tryd.prog) (ds ++ gs)).all (· ≤ reachBytes) = true := hsz0
  have hW' := hW
  obtain ⟨p, q, hA0, hV, rfl, hfz, hnd⟩ := hW
  have hA : DataW.TrodAll enc Tryd.prog W 0 (fun _ => true) true Tryd.f8.params.toList args.toList ds p := hA0
  rw [Tryd.params8] at hA hval hsz
  obtain ⟨v0, vs0, d0, ds0, p0, q0, hargs, rfl, rfl, h0, r0⟩ := trodAll_cons hA
  obtain ⟨v1, vs1, d1, ds1, p1, q1, rfl, rfl, rfl, h1, r1⟩ := trodAll_cons r0
  obtain ⟨rfl, rfl, rfl⟩ := trodAll_nil r1
  obtain rfl : args = #[v0, v1] := by cases args; simp_all
  obtain ⟨rfl, rfl⟩ := trodVars_none hV
  have k0 := h0
  have lt0 : ∀ x ∈ p0, x.block < W.heap.size := by obtain ⟨m, hm⟩ := k0; exact DataW.trod_lt m _ _ _ hm
  obtain ⟨a0, rfl, rfl, rfl, m0⟩ := open_int Tryd.underlying3 (hval 0 3 v0 rfl rfl) h0
  have k1 := h1
  have lt1 : ∀ x ∈ p1, x.block < W.heap.size := by obtain ⟨m, hm⟩ := k1; exact DataW.trod_lt m _ _ _ hm
  obtain ⟨a1, rfl, rfl, rfl, m1⟩ := open_int Tryd.underlying3 (hval 1 3 v1 rfl rfl) h1
  clear hA0 hval0
  refine (walk a0 a1 W (bd_i64 m0) (bd_i64 m1) (tabs hL)).mono fun e W' ⟨he, bel⟩ => ?_
  subst he
  exact ⟨_, rfl, _, _, _, [], _, [], hW', trodAll_mk1 (shut_bool Tryd.underlying4 _), (trodAll_cons_mk (Below.trod laidOut (by kernel_rfl) (of_decide_eq_true (by kernel_rfl)) k0 bel lt0) (trodAll_cons_mk (Below.trod laidOut (by kernel_rfl) (of_decide_eq_true (by kernel_rfl)) k1 bel lt1) trodAll_mk0)), rfl, bel.frame _, fun h => by cases h⟩
theorem laid_met (os : Os) : laidMetH Tryd.prog Rows.parseDeepRow.laid ((handleWorld os).forCall (fun _ _ => 0) ⟨#[], #[.int .i64 0, .int .i64 0], []⟩).memory := laidMetH_of_parts (laidMet_nil _ _) (by kernel_rfl)
theorem reads (os : Os) {H : Type} (enc : TypeId × Value → H) : ∃ places, DataW.whole enc Tryd.prog ((handleWorld os).forCall (fun _ _ => 0) ⟨#[], #[.int .i64 0, .int .i64 0], []⟩).memory Tryd.f8.params.toList Rows.parseDeepSpec.vars false #[(.int .i64 0 : Value), (.int .i64 0 : Value)].toList 8 = some ([.lit (.int .i64 0), .lit (.int .i64 0)], [], places) := ⟨[], by kernel_rfl⟩
set_option maxRecDepth 100000 in
theorem lifted (os : Os) (started : os.Started) (H : Type) (enc : TypeId × Value → H) (F : Stop.Interp) :
    ReturnsInHanded {} Tryd.checked os 8 .any ((OpenSpec.ofChange Rows.parseDeepSpec).preRow enc Tryd.prog Tryd.f8 Rows.parseDeepRow.domain false Rows.parseDeepRow.laid) (((OpenSpec.ofChange Rows.parseDeepSpec).at F).post enc Tryd.prog Tryd.f8 false true false false) := by
  obtain ⟨places, hx⟩ := reads os enc
  refine returnsInHanded_of_row (C := Tryd.checked) (s := (OpenSpec.ofChange Rows.parseDeepSpec)) own started (by kernel_rfl) Tryd.func8
    (witness_row_at (enc := enc) (C := Tryd.checked) false (handleWorld os) #[.int .i64 0, .int .i64 0] rfl (by kernel_rfl) (by kernel_rfl) (by kernel_rfl)
      (OpenSpec.preRow_of_cond 8 hx (by kernel_rfl) (fun k hk => by cases hk) (by kernel_rfl) (laid_met os))) ?_
  intro W base args ds gs before hval hW _ hcnd hsz hL _ _
  exact contract H enc W base args ds gs before hval hW hsz  hL
theorem said : Rows.ParseDeepSaid :=
  OpenClaim.holds_of_cond 8 Tryd.f8 rfl rfl rfl rfl rfl rfl rfl ⟨rfl, rfl, rfl, rfl, rfl⟩ rfl rfl rfl rfl rfl (by kernel_rfl) Tryd.func8 (by kernel_rfl)
    (of_decide_eq_true (by kernel_rfl)) (by unfold Func.isWrapper; first | (rw [if_pos (by decide +kernel)]; kernel_rfl) | (rw [if_neg (by decide +kernel)]; exact ⟨rfl, rfl⟩))
    (fun os started H enc _ F => by rw [OpenClaim.pre_eq_preRow]; exact lifted os started H enc F)
theorem plain (f : FuncId) (fn : Func) (hf : Tryd.pinned.checked.prog.funcNamed "trammel/trammellaw4.ParseDeep" = some f) (hfn : Tryd.pinned.checked.prog.funcs[f]? = some fn) :
    true = Tryd.pinned.checked.prog.looks [] ∧ ∀ (j : Nat) t, fn.params[j]? = some t → Tryd.pinned.checked.prog.wantsStandIn t = false := by
  obtain rfl : f = 8 := Option.some.inj ((show Tryd.prog.funcNamed "trammel/trammellaw4.ParseDeep" = some 8 by kernel_rfl).symm.trans hf) |>.symm
  obtain rfl : fn = Tryd.f8 := (Option.some.inj (Tryd.func8.symm.trans hfn)).symm
  refine ⟨by kernel_rfl, fun j t ht => ?_⟩
  rw [Tryd.params8] at ht
  have hm := Array.mem_of_getElem? ht
  have hm2 : t ∈ ([3] : List Nat) := by simpa using hm
  simp only [List.mem_cons, List.not_mem_nil, or_false] at hm2
  subst hm2; exact (show Tryd.prog.wantsStandIn 3 = false by kernel_rfl)
theorem proved : Rows.ParseDeepCardSaid :=
  Claim7.holds_tied_plain_at .later [] _ _ _ _ said (fun _ h => by cases h) (by kernel_rfl) (fun _ h => by cases h) parseDeep_row_tie rfl ⟨rfl, rfl⟩ (by kernel_rfl) rfl plain (by kernel_rfl)
end Go.Proofs.YtnhfbbognjdnpaaDoor.parseDeep
