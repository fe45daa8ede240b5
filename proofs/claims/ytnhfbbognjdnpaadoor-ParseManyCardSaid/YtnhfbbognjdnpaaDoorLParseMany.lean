/- ParseMany holds for every number. No condition but that the listed package variable holds what the program's text lays. -/
import Derived.Test.YtnhfbbognjdnpaaDoorPrM
import Derived.Test.YtnhfbbognjdnpaaDoorAid
import Derived.Test.YtnhfbbognjdnpaaDoorCards
import Derived.Test.YtnhfbbognjdnpaaDoorTie
import Derived.Test.YtnhfbbognjdnpaaDoorOpn
import Derived.Test.YtnhfbbognjdnpaaDoorHan
import Derived.WalkKit
import Derived.ProofKit
import Derived.Deep.DeepHandedRow
namespace Go.Proofs.YtnhfbbognjdnpaaDoor.parseMany
open Go.ChangeShapes Go.WideShapes Go.ChangeAt Go.RowKit
open Go.ChangeMaps (open_string shut_string)
set_option linter.unusedVariables false
set_option linter.unusedSimpArgs false

theorem tabs {W : World} (h : laidMetH Tryd.prog Rows.parseManyRow.laid W) : Hid (errTy W) := Lib.hid (errTy_of h (.head _))
theorem text_step (j : Nat) : bs (mS j) ++ (⟨#[32, 43, 32, 49]⟩ : ByteArray) = bs (mS (j + 1)) := by
  show _ = bs (mS j ++ [32, 43, 32, 49])
  rw [bs_app]; rfl
set_option maxRecDepth 100000 in
set_option maxHeartbeats 8000000 in
theorem walk (a0 : Int) (w : World) (b0 : -9223372036854775808 ≤ a0 ∧ a0 ≤ 9223372036854775807) (hg : Hid (errTy w)) :
    Calls Tryd.prog 9 #[.int .i64 a0] w fun e w' => e = .returned (.bool true) ∧ Below w.heap.size w w' := by
  have hk0 := and127 a0
  obtain ⟨qi, hqi⟩ : ∃ m, a0 % 128 = m := ⟨_, rfl⟩
  rw [hqi] at hk0
  obtain ⟨q, rfl⟩ := Int.eq_ofNat_of_zero_le (show 0 ≤ qi by omega)
  have hq : q < 128 := by omega
  clear hqi
  obtain ⟨m, hm⟩ : ∃ m, 200 + q = m := ⟨_, rfl⟩
  have hmi : (200 : Int) + (q : Int) = (m : Int) := by omega
  have hm1 : m ≤ 327 := by omega
  have hm' := Lib.hid hm
  clear hm
  have kA := Lib.hid (awake4_any w hg)
  obtain ⟨hPo, hPb⟩ := parse_many m (by omega)
  have hK := Lib.hid fun (os : List Or) (ns : List Nd) (h : parseV (bs (mS m)) = .ok (os, ns)) => parse_k h
  have hE := Lib.hid fun (x : PE) (h : parseV (bs (mS m)) = .error x) => parse_no h
  have hsz : (bs (mS m)).size ≤ 2000 := by rw [bs_sizeL, mS_len]; omega
  have kP := Lib.hid fun (W : World) (hb : Below w.heap.size w W) => Parse_any (bs (mS m)) W (by omega) (Lib.hid (errTy_below hg.out hb))
  generalize parseV (bs (mS m)) = R at kP hK hE hPo hPb
  have hPo := Lib.hid hPo
  have hPb := Lib.hid hPb
  go_enter Tryd.func9, Tryd.ntmps9
  go_wp2_with fail
  refine kA.out.mono ?_
  rintro e w1 ⟨rfl, hb1⟩
  have hB1 := Lib.hid hb1
  clear kA hb1
  go_wp2_with fail
  go_loopw [4, 5] (fun sv iv wr => ∃ (j : Nat) (y : ByteArray), j ≤ m ∧ iv = .int .i64 j ∧ sv = .string y ∧ wr = w1 ∧ Hid (y = bs (mS j))) (fun _ iv _ => m - (intOf iv).toNat)
  case atStart => exact ⟨0, _, by omega, rfl, rfl, rfl, Lib.hid rfl⟩
  case round =>
    obtain ⟨j, y, hj, rfl, rfl, rfl, hy⟩ := hrel
    have hyz : y.size ≤ 2000 := by rw [hy.out, bs_sizeL, mS_len]; omega
    by_cases hlt : j < m
    · have hji : (j : Int) < (m : Int) := by omega
      go_wp2_with fail
      go_roundw
      case rel => exact ⟨j + 1, _, by omega, by go_num, rfl, by first | trivial | rfl, Lib.hid (by rw [hy.out]; exact text_step j)⟩
      case measure => simp [intOf]; omega
    · obtain rfl : j = m := by omega
      obtain ⟨x, hx⟩ : ∃ x, y = x := ⟨_, rfl⟩
      have hyy := hy.out
      rw [hx] at hyy ⊢
      rw [← hyy] at kP hsz hE
      clear hx hyy hy
      have hxz : (x.size : Int) ≤ 2000 := by omega
      by_cases h5 : 2 * j + 1 ≤ 512
      · obtain ⟨ns, rfl, hns⟩ := hPo.out h5
        have h5i : ¬ (512 : Int) < 2 * (j : Int) + 1 := by omega
        have hnsi : (ns.length : Int) = 2 * (j : Int) + 1 := by omega
        have hns' := Lib.hid hns
        clear hns h5
        go_wp2_with fail
        refine (kP.out _ hB1.out).mono ?_
        intro e w2 hpost
        obtain ⟨a, c, a2, c2, rfl, hb2, ho, hn⟩ := prp_ok hpost rfl
        have hB2 := Lib.hid (belT hB1.out hb2)
        clear hpost hb2 ho hn kP hK hE hPo hPb
        go_wp2_with ((go_at_call 12; refine (num_any _ _ (by omega) (by omega)).mono ?_; rintro e w' ⟨rfl, rfl⟩))
        go_ret
        exact ⟨ret_b (by first | (simp; done) | (simp; omega)), belT hB2.out (by (repeat' (first | with_reducible exact Below.refl _ _ | with_reducible assumption | with_reducible apply Below.setCell | with_reducible apply Below.alloc | with_reducible apply Below.drew | with_reducible apply below_drewN | with_reducible exact Nat.le_refl _ | (simp; done) | (simp; omega) | omega | exact Nat.le_refl _)))⟩
      · obtain ⟨p, rfl, hp⟩ := hPb.out (by omega)
        have h5i : (512 : Int) < 2 * (j : Int) + 1 := by omega
        obtain ⟨_, x3, x4⟩ := hE.out _ rfl
        dsimp only at x3 x4
        clear h5
        go_wp2_with fail
        refine (kP.out _ hB1.out).mono ?_
        intro e w2 hpost
        obtain ⟨rfl, hb2⟩ := prp_no hpost rfl
        have hB2 := Lib.hid (belT hB1.out hb2)
        clear hpost hb2 kP hK hE hPo hPb
        try dsimp only
        go_wp2_with ((go_at_call 12; refine (num_any _ _ (by omega) (by omega)).mono ?_; rintro e w' ⟨rfl, rfl⟩))
        go_ret
        exact ⟨ret_b (by first | (simp; done) | (simp; omega)), belT hB2.out (by (repeat' (first | with_reducible exact Below.refl _ _ | with_reducible assumption | with_reducible apply Below.setCell | with_reducible apply Below.alloc | with_reducible apply Below.drew | with_reducible apply below_drewN | with_reducible exact Nat.le_refl _ | (simp; done) | (simp; omega) | omega | exact Nat.le_refl _)))⟩
theorem own : ownKnob Tryd.prog.godebug = none := by kernel_rfl
theorem laidOut : laidOutB Tryd.prog = true := by kernel_rfl
set_option maxRecDepth 100000 in
theorem contract (H : Type) (enc : TypeId × Value → H) (W : World) (base : Nat) (args : Array Value) (ds gs : List (DataW H)) (before : List MemPlace)
    (hval0 : ∀ (j : Nat) t v, Tryd.f9.params[j]? = some t → args[j]? = some v → Value.okWide Tryd.prog W .any base t v)
    (hW : DataW.Whole enc Tryd.prog Tryd.f9.params.toList Rows.parseManySpec.vars false W args.toList ds gs before)
    (hsz0 : (DataW.weightsEach Tryd.prog (Tryd.f9.params.toList ++ Rows.parseManySpec.plain.varTypes Tryd.prog) (ds ++ gs)).all (· ≤ reachBytes) = true)
    (hL : laidMetH Tryd.prog Rows.parseManyRow.laid W)
    : Calls Tryd.prog 9 args W fun e W' => ∃ v, e = .returned v ∧ Rows.parseManySpec.post enc Tryd.prog Tryd.f9 false true false false W args v W' := by
  have hval : ∀ (j : Nat) t v, Tryd.f9.params[j]? = some t → args[j]? = some v → Value.okWide Tryd.prog W .any base t v := hval0
  have hsz : (DataW.weightsEach Tryd.prog (Tryd.f9.params.toList ++ Rows.parseManySpec.plain.varTypes Tryd.prog) (ds ++ gs)).all (· ≤ reachBytes) = true := hsz0
  have hW' := hW
  obtain ⟨p, q, hA0, hV, rfl, hfz, hnd⟩ := hW
  have hA : DataW.TrodAll enc Tryd.prog W 0 (fun _ => true) true Tryd.f9.params.toList args.toList ds p := hA0
  rw [Tryd.params9] at hA hval hsz
  obtain ⟨v0, vs0, d0, ds0, p0, q0, hargs, rfl, rfl, h0, r0⟩ := trodAll_cons hA
  obtain ⟨rfl, rfl, rfl⟩ := trodAll_nil r0
  obtain rfl : args = #[v0] := by cases args; simp_all
  obtain ⟨rfl, rfl⟩ := trodVars_none hV
  have k0 := h0
  have lt0 : ∀ x ∈ p0, x.block < W.heap.size := by obtain ⟨m, hm⟩ := k0; exact DataW.trod_lt m _ _ _ hm
  obtain ⟨a0, rfl, rfl, rfl, m0⟩ := open_int Tryd.underlying3 (hval 0 3 v0 rfl rfl) h0
  clear hA0 hval0
  refine (walk a0 W (bd_i64 m0) (tabs hL)).mono fun e W' ⟨he, bel⟩ => ?_
  subst he
  exact ⟨_, rfl, _, _, _, [], _, [], hW', trodAll_mk1 (shut_bool Tryd.underlying4 _), (trodAll_cons_mk (Below.trod laidOut (by kernel_rfl) (of_decide_eq_true (by kernel_rfl)) k0 bel lt0) trodAll_mk0), rfl, bel.frame _, fun h => by cases h⟩
theorem laid_met (os : Os) : laidMetH Tryd.prog Rows.parseManyRow.laid ((handleWorld os).forCall (fun _ _ => 0) ⟨#[], #[.int .i64 0], []⟩).memory := laidMetH_of_parts (laidMet_nil _ _) (by kernel_rfl)
theorem reads (os : Os) {H : Type} (enc : TypeId × Value → H) : ∃ places, DataW.whole enc Tryd.prog ((handleWorld os).forCall (fun _ _ => 0) ⟨#[], #[.int .i64 0], []⟩).memory Tryd.f9.params.toList Rows.parseManySpec.vars false #[(.int .i64 0 : Value)].toList 8 = some ([.lit (.int .i64 0)], [], places) := ⟨[], by kernel_rfl⟩
set_option maxRecDepth 100000 in
theorem lifted (os : Os) (started : os.Started) (H : Type) (enc : TypeId × Value → H) (F : Stop.Interp) :
    ReturnsInHanded {} Tryd.checked os 9 .any ((OpenSpec.ofChange Rows.parseManySpec).preRow enc Tryd.prog Tryd.f9 Rows.parseManyRow.domain false Rows.parseManyRow.laid) (((OpenSpec.ofChange Rows.parseManySpec).at F).post enc Tryd.prog Tryd.f9 false true false false) := by
  obtain ⟨places, hx⟩ := reads os enc
  refine returnsInHanded_of_row (C := Tryd.checked) (s := (OpenSpec.ofChange Rows.parseManySpec)) own started (by kernel_rfl) Tryd.func9
    (witness_row_at (enc := enc) (C := Tryd.checked) false (handleWorld os) #[.int .i64 0] rfl (by kernel_rfl) (by kernel_rfl) (by kernel_rfl)
      (OpenSpec.preRow_of_cond 8 hx (by kernel_rfl) (fun k hk => by cases hk) (by kernel_rfl) (laid_met os))) ?_
  intro W base args ds gs before hval hW _ hcnd hsz hL _ _
  exact contract H enc W base args ds gs before hval hW hsz  hL
theorem said : Rows.ParseManySaid :=
  OpenClaim.holds_of_cond 9 Tryd.f9 rfl rfl rfl rfl rfl rfl rfl ⟨rfl, rfl, rfl, rfl, rfl⟩ rfl rfl rfl rfl rfl (by kernel_rfl) Tryd.func9 (by kernel_rfl)
    (of_decide_eq_true (by kernel_rfl)) (by unfold Func.isWrapper; first | (rw [if_pos (by decide +kernel)]; kernel_rfl) | (rw [if_neg (by decide +kernel)]; exact ⟨rfl, rfl⟩))
    (fun os started H enc _ F => by rw [OpenClaim.pre_eq_preRow]; exact lifted os started H enc F)
theorem plain (f : FuncId) (fn : Func) (hf : Tryd.pinned.checked.prog.funcNamed "trammel/trammellaw4.ParseMany" = some f) (hfn : Tryd.pinned.checked.prog.funcs[f]? = some fn) :
    true = Tryd.pinned.checked.prog.looks [] ∧ ∀ (j : Nat) t, fn.params[j]? = some t → Tryd.pinned.checked.prog.wantsStandIn t = false := by
  obtain rfl : f = 9 := Option.some.inj ((show Tryd.prog.funcNamed "trammel/trammellaw4.ParseMany" = some 9 by kernel_rfl).symm.trans hf) |>.symm
  obtain rfl : fn = Tryd.f9 := (Option.some.inj (Tryd.func9.symm.trans hfn)).symm
  refine ⟨by kernel_rfl, fun j t ht => ?_⟩
  rw [Tryd.params9] at ht
  have hm := Array.mem_of_getElem? ht
  have hm2 : t ∈ ([3] : List Nat) := by simpa using hm
  simp only [List.mem_cons, List.not_mem_nil, or_false] at hm2
  subst hm2; exact (show Tryd.prog.wantsStandIn 3 = false by kernel_rfl)
theorem proved : Rows.ParseManyCardSaid :=
  Claim7.holds_tied_plain_at .later [] _ _ _ _ said (fun _ h => by cases h) (by kernel_rfl) (fun _ h => by cases h) parseMany_row_tie rfl ⟨rfl, rfl⟩ (by kernel_rfl) rfl plain (by kernel_rfl)
end Go.Proofs.YtnhfbbognjdnpaaDoor.parseMany
