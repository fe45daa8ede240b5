/- LexNumbers holds for every two numbers. No condition but that the listed package variable holds what the program's text lays. -/
import Derived.Test.YtgpjdifjajailaaDoorLxX
import Derived.Test.YtgpjdifjajailaaDoorDecB
import Derived.Test.YtgpjdifjajailaaDoorAid
import Derived.Test.YtgpjdifjajailaaDoorCards
import Derived.Test.YtgpjdifjajailaaDoorTie
import Derived.Test.YtgpjdifjajailaaDoorOpn
import Derived.Test.YtgpjdifjajailaaDoorHan
import Derived.WalkKit
import Derived.ProofKit
import Derived.Deep.DeepHandedRow
namespace Go.Proofs.YtgpjdifjajailaaDoor.lexNumbers
open Go.ChangeShapes Go.WideShapes Go.ChangeAt Go.RowKit
open Go.ChangeMaps (open_string shut_string)
set_option linter.unusedVariables false
set_option linter.unusedSimpArgs false

theorem tabs {W : World} (h : laidMetH Tryd.prog Rows.lexNumbersRow.laid W) : Hid (errTy W) := Lib.hid (errTy_of h (.head _))
theorem app_one (l : List UInt8) (r : List UInt8) : bs l ++ bs r = bs (l ++ r) := by apply ba_ext; simp [bs]

set_option maxRecDepth 100000 in
set_option maxHeartbeats 4000000 in
theorem walk (a0 a1 : Int) (w : World) (b0 : -9223372036854775808 ≤ a0 ∧ a0 ≤ 9223372036854775807) (b1 : -9223372036854775808 ≤ a1 ∧ a1 ≤ 9223372036854775807) (hg : Hid (errTy w)) :
    Calls Tryd.prog 7 #[.int .i64 a0, .int .i64 a1] w fun e w' => e = .returned (.bool true) ∧ Below w.heap.size w w' := by
  obtain ⟨y, hy⟩ := Int.eq_ofNat_of_zero_le (show 0 ≤ a0 % 1073741824 by omega)
  obtain ⟨d, hd⟩ := Int.eq_ofNat_of_zero_le (show 0 ≤ a1 % 1024 by omega)
  have hyl : y ≤ 1073741823 := by omega
  have hdl : d ≤ 1023 := by omega
  have hm0 : bits .and .i64 a0 1073741823 = (y : Int) := by rw [show (1073741823 : Int) = ((2 ^ 30 - 1 : Nat) : Int) from rfl, and_mask a0 30 (by omega)]; exact hy
  have hm1 : bits .and .i64 a1 1023 = (d : Int) := by rw [and1023, hd]
  clear hy hd b0 b1
  have hlen := dd_le (y := y) (by omega)
  have hlen2 := dd_le (y := 1073741824 + d) (by omega)
  have e1 := app_one (Lib.decDigits y) [32]
  have e2 := app_one [32, 48] (Lib.decDigits y)
  have e3 := app_one (Lib.decDigits y) [97]
  have e5 := app_one (Lib.decDigits y) [95, 32]
  have k1 := fun (W : World) (h : errTy W) => tokens_any (bs (Lib.decDigits y ++ [32])) W (by rw [bs_size]; simp; omega) h
  rw [lexN1 hyl] at k1
  have k2 := fun (W : World) (h : errTy W) => tokens_any (bs ([32, 48] ++ Lib.decDigits y)) W (by rw [bs_size]; simp; omega) h
  rw [show [32, 48] ++ Lib.decDigits y = 32 :: 48 :: Lib.decDigits y from rfl, lexN2 hyl] at k2
  rw [show [32, 48] ++ Lib.decDigits y = 32 :: 48 :: Lib.decDigits y from rfl] at e2
  have k3 := fun (W : World) (h : errTy W) => tokens_any (bs (Lib.decDigits y ++ [97])) W (by rw [bs_size]; simp; omega) h
  rw [lexN3 hyl] at k3
  have k4 := fun (W : World) (h : errTy W) => tokens_any (bs (Lib.decDigits (1073741824 + d))) W (by rw [bs_size]; omega) h
  rw [lexN4 (by omega) (by omega)] at k4
  have k5 := fun (W : World) (h : errTy W) => tokens_any (bs (Lib.decDigits y ++ [95, 32])) W (by rw [bs_size]; simp; omega) h
  rw [lexN5 hyl] at k5
  have q1 := fun (W : World) => (show Calls Tryd.prog 17 #[.int .i64 (y : Int)] W fun e w' => e = .returned (.string (bs (Lib.decDigits y))) ∧ Below W.heap.size W w' from (dec_any (y : Int) W (by omega) (by omega)).mono fun e w' h => by unfold DecPost at h; rw [itoa_nat] at h; exact h)
  have q2 := fun (W : World) => (show Calls Tryd.prog 17 #[.int .i64 ((1073741824 : Int) + (d : Int))] W fun e w' => e = .returned (.string (bs (Lib.decDigits (1073741824 + d)))) ∧ Below W.heap.size W w' from (dec_any ((1073741824 : Int) + (d : Int)) W (by omega) (by omega)).mono fun e w' h => by unfold DecPost at h; rw [show (1073741824 : Int) + (d : Int) = ((1073741824 + d : Nat) : Int) by omega, itoa_nat] at h; exact h)
  have hsz : (bs (Lib.decDigits y)).size ≤ 11 := hlen
  generalize bs (Lib.decDigits y) = x at hsz e1 e2 e3 e5 q1
  generalize bs (Lib.decDigits (1073741824 + d)) = x4 at k4 q2
  generalize bs (Lib.decDigits y ++ [32]) = x1 at e1 k1
  generalize bs (32 :: 48 :: Lib.decDigits y) = x2 at e2 k2
  generalize bs (Lib.decDigits y ++ [97]) = x3 at e3 k3
  generalize bs (Lib.decDigits y ++ [95, 32]) = x5 at e5 k5
  have e1 : x ++ (⟨#[32]⟩ : ByteArray) = x1 := e1
  have e2 : (⟨#[32, 48]⟩ : ByteArray) ++ x = x2 := e2
  have e3 : x ++ (⟨#[97]⟩ : ByteArray) = x3 := e3
  have e5 : x ++ (⟨#[95, 32]⟩ : ByteArray) = x5 := e5
  have k1 := Lib.hid k1; have k2 := Lib.hid k2; have k3 := Lib.hid k3; have k4 := Lib.hid k4; have k5 := Lib.hid k5; have q1 := Lib.hid q1; have q2 := Lib.hid q2
  have h0l := hgl hg.out
  go_enter Tryd.func7, Tryd.ntmps7
  go_wp2_with fail
  refine (awake_any _ hg.out).mono ?_
  rintro e w1 ⟨rfl, hb1⟩
  have hg1 := Lib.hid (errTy_below hg.out hb1)
  have hB1 := Lib.hid hb1
  clear hb1
  go_wp2_with fail
  refine (q1.out _).mono ?_
  rintro e w2 ⟨rfl, hb2⟩
  have hg2 := Lib.hid (errTy_below hg1.out hb2)
  have hB2 := Lib.hid (belT hB1.out hb2)
  clear hb2
  go_wp2_with fail
  refine (k1.out _ hg2.out).mono ?_
  rintro e w3 ⟨vk1, rfl, hok1, hb3⟩
  have hg3 := Lib.hid (errTy_below hg2.out hb3)
  have hB3 := Lib.hid (belT hB2.out hb3)
  have r1 := Lib.hid (OwnK.rd hok1)
  clear hok1 hb3
  go_wp2_with fail
  refine (k2.out _ hg3.out).mono ?_
  rintro e w4 ⟨vk2, rfl, hok2, hb4⟩
  have hg4 := Lib.hid (errTy_below hg3.out hb4)
  have hB4 := Lib.hid (belT hB3.out hb4)
  have r2 := Lib.hid (r1.out.below hb4)
  clear hok2 hb4
  go_wp2_with fail
  refine (k3.out _ hg4.out).mono ?_
  rintro e w5 ⟨vk3, rfl, hok3, hb5⟩
  have hg5 := Lib.hid (errTy_below hg4.out hb5)
  have hB5 := Lib.hid (belT hB4.out hb5)
  have r3 := Lib.hid (r2.out.below hb5)
  clear hok3 hb5
  go_wp2_with fail
  refine (q2.out _).mono ?_
  rintro e w6 ⟨rfl, hb6⟩
  have hg6 := Lib.hid (errTy_below hg5.out hb6)
  have hB6 := Lib.hid (belT hB5.out hb6)
  have r3b := Lib.hid (r3.out.below hb6)
  clear hb6
  go_wp2_with fail
  refine (k4.out _ hg6.out).mono ?_
  rintro e w7 ⟨vk4, rfl, hok4, hb7⟩
  have hg7 := Lib.hid (errTy_below hg6.out hb7)
  have hB7 := Lib.hid (belT hB6.out hb7)
  have r4 := Lib.hid (r3b.out.below hb7)
  clear hok4 hb7
  go_wp2_with fail
  refine (k5.out _ hg7.out).mono ?_
  rintro e w8 ⟨vk5, rfl, hok5, hb8⟩
  have hg8 := Lib.hid (errTy_below hg7.out hb8)
  have hB8 := Lib.hid (belT hB7.out hb8)
  have r5 := Lib.hid (r4.out.below hb8)
  clear hok5 hb8
  go_wp2_with ((go_at_call 12; refine (num_any _ _ (by omega) (by omega)).mono ?_; rintro e w' ⟨rfl, rfl⟩))
  refine (same_any (l := [⟨1, [], (y : Int), 0⟩]) _ (r5.out.below (by (repeat' (first | with_reducible exact Below.refl _ _ | with_reducible assumption | with_reducible apply Below.setCell | with_reducible apply Below.alloc | with_reducible apply Below.drew | with_reducible apply below_drewN | with_reducible exact Nat.le_refl _ | (simp; done) | (simp; omega) | omega | exact Nat.le_refl _)))) (rd_new rfl rfl) (by simp)).mono ?_
  rintro e wz ⟨rfl, hbz⟩
  have hBz := Lib.hid (belT hB8.out (belT (by (repeat' (first | with_reducible exact Below.refl _ _ | with_reducible assumption | with_reducible apply Below.setCell | with_reducible apply Below.alloc | with_reducible apply Below.drew | with_reducible apply below_drewN | with_reducible exact Nat.le_refl _ | (simp; done) | (simp; omega) | omega | exact Nat.le_refl _))) hbz))
  clear hbz
  go_wp2_with ((go_at_call 12; refine (num_any _ _ (by omega) (by omega)).mono ?_; rintro e w' ⟨rfl, rfl⟩))
  go_ret
  exact ⟨rfl, hBz.out⟩
theorem own : ownKnob Tryd.prog.godebug = none := by kernel_rfl
theorem laidOut : laidOutB Tryd.prog = true := by kernel_rfl
set_option maxRecDepth 100000 in
theorem contract (H : Type) (enc : TypeId × Value → H) (W : World) (base : Nat) (args : Array Value) (ds gs : List (DataW H)) (before : List MemPlace)
    (hval0 : ∀ (j : Nat) t v, Tryd.f7.params[j]? = some t → args[j]? = some v → Value.okWide Tryd.prog W .any base t v)
    (hW : DataW.Whole enc Tryd.prog Tryd.f7.params.toList Rows.lexNumbersSpec.vars false W args.toList ds gs before)
    (hsz0 : (DataW.weightsEach Tryd.prog (Tryd.f7.params.toList ++ Rows.lexNumbersSpec.plain.varTypes Tryd.prog) (ds ++ gs)).all (· ≤ reachBytes) = true)
    (hL : laidMetH Tryd.prog Rows.lexNumbersRow.laid W)
    : Calls Tryd.prog 7 args W fun e W' => ∃ v, e = .returned v ∧ Rows.lexNumbersSpec.post enc Tryd.prog Tryd.f7 false true false false W args v W' := by
  have hval : ∀ (j : Nat) t v, Tryd.f7.params[j]? = some t → args[j]? = some v → Value.okWide Tryd.prog W .any base t v := hval0
  have hsz : (DataW.weightsEach Tryd.prog (Tryd.f7.params.toList ++ Rows.lexNumbersSpec.plain.varTypes Tryd.prog) (ds ++ gs)).all (· ≤ reachBytes) = true := hsz0
  have hW' := hW
  obtain ⟨p, q, hA0, hV, rfl, hfz, hnd⟩ := hW
  have hA : DataW.TrodAll enc Tryd.prog W 0 (fun _ => true) true Tryd.f7.params.toList args.toList ds p := hA0
  rw [Tryd.params7] at hA hval hsz
  obtain ⟨v0, vs0, d0, ds0, p0, q0, hargs, rfl, rfl, h0, r0⟩ := trodAll_cons hA
  obtain ⟨v1, vs1, d1, ds1, p1, q1, rfl, rfl, rfl, h1, r1⟩ := trodAll_cons r0
  obtain ⟨rfl, rfl, rfl⟩ := trodAll_nil r1
  obtain rfl : args = #[v0, v1] := by cases args; simp_all
  obtain ⟨rfl, rfl⟩ := trodVars_none hV
  have k0 := h0
  have lt0 : ∀ x ∈ p0, x.block < W.heap.size := by obtain ⟨m, hm⟩ := k0; exact DataW.trod_lt m _ _ _ hm
  obtain ⟨a0, rfl, rfl, rfl, m0⟩ := open_int Tryd.underlying3 (hval 0 3 v0 rfl rfl) h0
  have k1 := h1
  have lt1 : ∀ x ∈ p1, x.block < W.heap.size := by obtain ⟨m, hm⟩ := k1; exact DataW.trod_lt m _ _ _ hm
  obtain ⟨a1, rfl, rfl, rfl, m1⟩ := open_int Tryd.underlying3 (hval 1 3 v1 rfl rfl) h1
  clear hA0 hval0
  refine (walk a0 a1 W (bd_i64 m0) (bd_i64 m1) (tabs hL)).mono fun e W' ⟨he, bel⟩ => ?_
  subst he
  exact ⟨_, rfl, _, _, _, [], _, [], hW', trodAll_mk1 (shut_bool Tryd.underlying4 _), (trodAll_cons_mk (Below.trod laidOut (by kernel_rfl) (of_decide_eq_true (by kernel_rfl)) k0 bel lt0) (trodAll_cons_mk (Below.trod laidOut (by kernel_rfl) (of_decide_eq_true (by kernel_rfl)) k1 bel lt1) trodAll_mk0)), rfl, bel.frame _, fun h => by cases h⟩
theorem laid_met (os : Os) : laidMetH Tryd.prog Rows.lexNumbersRow.laid ((handleWorld os).forCall (fun _ _ => 0) ⟨#[], #[.int .i64 0, .int .i64 0], []⟩).memory := laidMetH_of_parts (laidMet_nil _ _) (by kernel_rfl)
theorem reads (os : Os) {H : Type} (enc : TypeId × Value → H) : ∃ places, DataW.whole enc Tryd.prog ((handleWorld os).forCall (fun _ _ => 0) ⟨#[], #[.int .i64 0, .int .i64 0], []⟩).memory Tryd.f7.params.toList Rows.lexNumbersSpec.vars false #[(.int .i64 0 : Value), (.int .i64 0 : Value)].toList 8 = some ([.lit (.int .i64 0), .lit (.int .i64 0)], [], places) := ⟨[], by kernel_rfl⟩
set_option maxRecDepth 100000 in
theorem lifted (os : Os) (started : os.Started) (H : Type) (enc : TypeId × Value → H) (F : Stop.Interp) :
    ReturnsInHanded {} Tryd.checked os 7 .any ((OpenSpec.ofChange Rows.lexNumbersSpec).preRow enc Tryd.prog Tryd.f7 Rows.lexNumbersRow.domain false Rows.lexNumbersRow.laid) (((OpenSpec.ofChange Rows.lexNumbersSpec).at F).post enc Tryd.prog Tryd.f7 false true false false) := by
  obtain ⟨places, hx⟩ := reads os enc
  refine returnsInHanded_of_row (C := Tryd.checked) (s := (OpenSpec.ofChange Rows.lexNumbersSpec)) own started (by kernel_rfl) Tryd.func7
    (witness_row_at (enc := enc) (C := Tryd.checked) false (handleWorld os) #[.int .i64 0, .int .i64 0] rfl (by kernel_rfl) (by kernel_rfl) (by kernel_rfl)
      (OpenSpec.preRow_of_cond 8 hx (by kernel_rfl) (fun k hk => by cases hk) (by kernel_rfl) (laid_met os))) ?_
  intro W base args ds gs before hval hW _ hcnd hsz hL _ _
  exact contract H enc W base args ds gs before hval hW hsz  hL
theorem said : Rows.LexNumbersSaid :=
  OpenClaim.holds_of_cond 7 Tryd.f7 rfl rfl rfl rfl rfl rfl rfl ⟨rfl, rfl, rfl, rfl, rfl⟩ rfl rfl rfl rfl rfl (by kernel_rfl) Tryd.func7 (by kernel_rfl)
    (of_decide_eq_true (by kernel_rfl)) (by unfold Func.isWrapper; first | (rw [if_pos (by decide +kernel)]; kernel_rfl) | (rw [if_neg (by decide +kernel)]; exact ⟨rfl, rfl⟩))
    (fun os started H enc _ F => by rw [OpenClaim.pre_eq_preRow]; exact lifted os started H enc F)
theorem plain (f : FuncId) (fn : Func) (hf : Tryd.pinned.checked.prog.funcNamed "trammel/trammellaw2.LexNumbers" = some f) (hfn : Tryd.pinned.checked.prog.funcs[f]? = some fn) :
    true = Tryd.pinned.checked.prog.looks [] ∧ ∀ (j : Nat) t, fn.params[j]? = some t → Tryd.pinned.checked.prog.wantsStandIn t = false := by
  obtain rfl : f = 7 := Option.some.inj ((show Tryd.prog.funcNamed "trammel/trammellaw2.LexNumbers" = some 7 by kernel_rfl).symm.trans hf) |>.symm
  obtain rfl : fn = Tryd.f7 := (Option.some.inj (Tryd.func7.symm.trans hfn)).symm
  refine ⟨by kernel_rfl, fun j t ht => ?_⟩
  rw [Tryd.params7] at ht
  have hm := Array.mem_of_getElem? ht
  have hm2 : t ∈ ([3] : List Nat) := by simpa using hm
  simp only [List.mem_cons, List.not_mem_nil, or_false] at hm2
  subst hm2; exact (show Tryd.prog.wantsStandIn 3 = false by kernel_rfl)
theorem proved : Rows.LexNumbersCardSaid :=
  Claim7.holds_tied_plain_at .later [] _ _ _ _ said (fun _ h => by cases h) (by kernel_rfl) (fun _ h => by cases h) lexNumbers_row_tie rfl ⟨rfl, rfl⟩ (by kernel_rfl) rfl plain (by kernel_rfl)
end Go.Proofs.YtgpjdifjajailaaDoor.lexNumbers
