/- LexNames holds for every two numbers. No condition but that the listed package variable holds what the program's text lays. -/
import Derived.Test.YtgpjdifjajailaaDoorLxV
import Derived.Test.YtgpjdifjajailaaDoorAid
import Derived.Laws.BytesArg
import Derived.Test.YtgpjdifjajailaaDoorCards
import Derived.Test.YtgpjdifjajailaaDoorTie
import Derived.Test.YtgpjdifjajailaaDoorOpn
import Derived.Test.YtgpjdifjajailaaDoorHan
import Derived.WalkKit
import Derived.ProofKit
import Derived.Deep.DeepHandedRow
namespace Go.Proofs.YtgpjdifjajailaaDoor.lexNames
open Go.ChangeShapes Go.WideShapes Go.ChangeAt Go.RowKit
open Go.ChangeMaps (open_string shut_string)
set_option linter.unusedVariables false
set_option linter.unusedSimpArgs false

theorem tabs {W : World} (h : laidMetH Tryd.prog Rows.lexNamesRow.laid W) : Hid (errTy W) := Lib.hid (errTy_of h (.head _))
def pat : List UInt8 := [97, 98, 122, 48, 57, 95]
def nm (m k : Nat) : List UInt8 := 113 :: (List.range k).map fun i => pat.getD ((m + i) % 6) 0
theorem nm_snoc (m k : Nat) : nm m (k + 1) = nm m k ++ [pat.getD ((m + k) % 6) 0] := by simp [nm, List.range_succ]
theorem nm_len (m k : Nat) : (nm m k).length = k + 1 := by simp [nm]
def good (m k : Nat) : Bool :=
  if 16 < (nm m k).length then decide (lexR (bs (43 :: nm m k)) = ([], 1, 201)) && decide (lexR (bs (43 :: (nm m k ++ [81]))) = ([], 1, 201))
  else decide (lexR (bs (43 :: nm m k)) = ([⟨3, [43], 0, 0⟩, ⟨0, nm m k, 0, 1⟩], 0, 0)) && decide (lexR (bs (43 :: (nm m k ++ [81]))) = ([], ((1 + (nm m k).length : Nat) : Int), 201))
theorem good_all : ∀ m < 6, ∀ k < 32, good m k = true := by decide +kernel
theorem good_long {m k : Nat} (hm : m < 6) (hk : k < 32) (h : 16 < k + 1) : lexR (bs (43 :: nm m k)) = ([], 1, 201) ∧ lexR (bs (43 :: (nm m k ++ [81]))) = ([], 1, 201) := by
  have := good_all m hm k hk
  unfold good at this
  rw [if_pos (by rw [nm_len]; exact h), Bool.and_eq_true, decide_eq_true_eq, decide_eq_true_eq] at this
  exact this
theorem good_short {m k : Nat} (hm : m < 6) (hk : k < 32) (h : ¬ 16 < k + 1) : lexR (bs (43 :: nm m k)) = ([⟨3, [43], 0, 0⟩, ⟨0, nm m k, 0, 1⟩], 0, 0) ∧ lexR (bs (43 :: (nm m k ++ [81]))) = ([], ((1 + (k + 1) : Nat) : Int), 201) := by
  have := good_all m hm k hk
  unfold good at this
  rw [if_neg (by rw [nm_len]; exact h), Bool.and_eq_true, decide_eq_true_eq, decide_eq_true_eq, nm_len] at this
  exact this
theorem one_str (W : World) (b : UInt8) : (convert 42 9 (.slice (some ⟨W.heap.size, 0, none⟩) 1 1)).run Tryd.prog (W.alloc (.cells #[.int .u8 (b.toNat : Int)] 5)) = .ok (.string (bs [b])) (W.alloc (.cells #[.int .u8 (b.toNat : Int)] 5)) := by
  have h := run_convert_bytes_arg (P := Tryd.prog) (W.alloc (.cells #[.int .u8 (b.toNat : Int)] 5)) 42 5 Tryd.underlying42 Tryd.underlying5 W.heap.size 0 1 1 [(b.toNat : Int)] rfl (by
    intro i hi
    obtain rfl : i = 0 := by omega
    simp) 9 Tryd.underlying9
  rw [h]
  simp [strOfNums, bs]
theorem app_bs (l : List UInt8) (b : UInt8) : bs l ++ bs [b] = bs (l ++ [b]) := by apply ba_ext; simp [bs]
theorem pre_bs (l : List UInt8) : (⟨#[43]⟩ : ByteArray) ++ bs l = bs (43 :: l) := by apply ba_ext; simp [bs]
theorem pat_ix (j : Nat) (hj : j < 6) (W : World) : (Instr.index 9 (.string ⟨#[97, 98, 122, 48, 57, 95]⟩) (.int .i64 (j : Int))).run Tryd.prog W = .ok (.int .u8 ((pat.getD j 0).toNat : Int)) W := by
  match j, hj with
  | 0, _ => exact (show (Instr.index 9 (.string ⟨#[97, 98, 122, 48, 57, 95]⟩) (.int .i64 0)).run Tryd.prog W = .ok (.int .u8 97) W by kernel_rfl)
  | 1, _ => exact (show (Instr.index 9 (.string ⟨#[97, 98, 122, 48, 57, 95]⟩) (.int .i64 1)).run Tryd.prog W = .ok (.int .u8 98) W by kernel_rfl)
  | 2, _ => exact (show (Instr.index 9 (.string ⟨#[97, 98, 122, 48, 57, 95]⟩) (.int .i64 2)).run Tryd.prog W = .ok (.int .u8 122) W by kernel_rfl)
  | 3, _ => exact (show (Instr.index 9 (.string ⟨#[97, 98, 122, 48, 57, 95]⟩) (.int .i64 3)).run Tryd.prog W = .ok (.int .u8 48) W by kernel_rfl)
  | 4, _ => exact (show (Instr.index 9 (.string ⟨#[97, 98, 122, 48, 57, 95]⟩) (.int .i64 4)).run Tryd.prog W = .ok (.int .u8 57) W by kernel_rfl)
  | 5, _ => exact (show (Instr.index 9 (.string ⟨#[97, 98, 122, 48, 57, 95]⟩) (.int .i64 5)).run Tryd.prog W = .ok (.int .u8 95) W by kernel_rfl)

set_option maxRecDepth 100000 in
set_option maxHeartbeats 4000000 in
theorem walk (a0 a1 : Int) (w : World) (b0 : -9223372036854775808 ≤ a0 ∧ a0 ≤ 9223372036854775807) (b1 : -9223372036854775808 ≤ a1 ∧ a1 ≤ 9223372036854775807) (hg : Hid (errTy w)) :
    Calls Tryd.prog 8 #[.int .i64 a0, .int .i64 a1] w fun e w' => e = .returned (.bool true) ∧ Below w.heap.size w w' := by
  obtain ⟨mi, hm0, hm1, he⟩ := umod_int a0 6 (by omega) (by omega)
  obtain ⟨m, rfl⟩ := Int.eq_ofNat_of_zero_le hm0
  have hm : m < 6 := by omega
  obtain ⟨n, hn⟩ := Int.eq_ofNat_of_zero_le (show 0 ≤ a1 % 32 by omega)
  have hn32 : n < 32 := by omega
  have hk31 : bits .and .i64 a1 31 = (n : Int) := by rw [and31, hn]
  clear hn b0 b1 hm0
  have h0l := hgl hg.out
  go_enter Tryd.func8, Tryd.ntmps8
  go_wp2_with fail
  refine (awake_any _ hg.out).mono ?_
  rintro e w1 ⟨rfl, hb1⟩
  have hs1 := hb1.size
  have hg1 := Lib.hid (errTy_below hg.out hb1)
  have hB1 := Lib.hid hb1
  clear hb1
  go_wp2_with fail
  go_loopw [5, 6] (fun sv i wr => ∃ k : Nat, k ≤ n ∧ i = .int .i64 k ∧ sv = .string (bs (nm m k)) ∧ Hid (Below w1.heap.size w1 wr)) (fun _ i _ => n - (intOf i).toNat)
  case atStart => exact ⟨0, by omega, rfl, rfl, Lib.hid (Below.refl _ _)⟩
  case round =>
    obtain ⟨k, hk, rfl, rfl, hbw⟩ := hrel
    have hws := hbw.out.size
    by_cases hlt : k < n
    · obtain ⟨j, hj⟩ : ∃ j : Nat, (m + k) % 6 = j := ⟨_, rfl⟩
      have hj6 : j < 6 := by omega
      have hsn := Lib.hid (nm_snoc m k)
      have hb : Hid (pat.getD ((m + k) % 6) 0 = pat.getD j 0) := Lib.hid (by rw [hj])
      have hjm : ((m : Int) + (k : Int)) % 6 = (j : Int) := by omega
      clear hj
      obtain ⟨b, hbe⟩ : ∃ b, pat.getD j 0 = b := ⟨_, rfl⟩
      have hix := fun W : World => pat_ix j hj6 W
      rw [hbe] at hix
      have hbe' := Lib.hid hbe; clear hbe
      have hst := one_str wr b
      have hap := app_bs (nm m k) b
      have hxu : (bs (nm m k)).size ≤ 40 := by rw [bs_size, nm_len]; omega
      have hbu : (bs [b]).size ≤ 1 := by rw [bs_size]; simp
      obtain ⟨x, hx⟩ : ∃ x, bs (nm m k) = x := ⟨_, rfl⟩
      obtain ⟨y, hy⟩ : ∃ y, bs [b] = y := ⟨_, rfl⟩
      obtain ⟨z, hz⟩ : ∃ z, bs (nm m k ++ [b]) = z := ⟨_, rfl⟩
      rw [hx] at hap hxu ⊢
      rw [hy] at hap hbu hst
      rw [hz] at hap
      have hz' := Lib.hid hz
      clear hx hy hz
      go_wp2_with fail
      go_roundw
      case rel => exact ⟨k + 1, by omega, by go_num, by rw [← hz'.out, hsn.out, hb.out, hbe'.out], Lib.hid (by have := hbw.out; (repeat' (first | with_reducible exact Below.refl _ _ | with_reducible assumption | with_reducible apply Below.setCell | with_reducible apply Below.alloc | with_reducible apply Below.drew | with_reducible apply below_drewN | with_reducible exact Nat.le_refl _ | (simp; done) | (simp; omega) | omega | exact Nat.le_refl _)))⟩
      case measure => simp [intOf]; omega
    · obtain rfl : k = n := by omega
      have hB2 := Lib.hid (belT hB1.out hbw.out)
      have hg2 := Lib.hid (errTy_below hg1.out hbw.out)
      have hpre := pre_bs (nm m k)
      have hap := app_bs (43 :: nm m k) 81
      rw [show bs [81] = ⟨#[81]⟩ from rfl, List.cons_append] at hap
      have hxs : (bs (nm m k)).size = k + 1 := by rw [bs_size, nm_len]
      have hyu : (bs (43 :: nm m k)).size ≤ 40 := by rw [bs_size]; simp [nm_len]; omega
      have hxu : (bs (nm m k)).size ≤ 40 := by rw [hxs]; omega
      have hnu : (nm m k).length ≤ 40 := by rw [nm_len]; omega
      by_cases h16 : 16 < k + 1
      · have k1 := Lib.hid fun (W : World) (h : errTy W) => tokens_any (bs (43 :: nm m k)) W (by rw [bs_size]; simp [nm_len]; omega) h
        rw [(good_long hm hn32 h16).1] at k1
        have k2 := Lib.hid fun (W : World) (h : errTy W) => tokens_any (bs (43 :: (nm m k ++ [81]))) W (by rw [bs_size]; simp [nm_len]; omega) h
        rw [(good_long hm hn32 h16).2] at k2
        have h16' : (16 : Int) < ((k + 1 : Nat) : Int) := by omega
        obtain ⟨x, hx⟩ : ∃ x, bs (nm m k) = x := ⟨_, rfl⟩
        rw [hx] at hpre hxs hxu ⊢
        obtain ⟨y, hy⟩ : ∃ y, bs (43 :: nm m k) = y := ⟨_, rfl⟩
        obtain ⟨z, hz⟩ : ∃ z, bs (43 :: (nm m k ++ [81])) = z := ⟨_, rfl⟩
        rw [hy] at hpre hyu hap k1
        rw [hz] at hap k2
        clear hy hz
        have hxs' : (16 : Int) < (x.size : Int) := by rw [hxs]; exact h16'
        clear hxs h16' h16 hx
        go_wp2_with fail
        refine (k1.out _ hg2.out).mono ?_
        rintro e w2 ⟨v1, rfl, ho1, hb2⟩
        have hg3 := Lib.hid (errTy_below hg2.out hb2)
        have hB3 := Lib.hid (belT hB2.out hb2)
        clear ho1 hb2
        go_wp2_with fail
        refine (k2.out _ hg3.out).mono ?_
        rintro e w3 ⟨v2, rfl, ho2, hb3⟩
        have hB4 := Lib.hid (belT hB3.out hb3)
        clear ho2 hb3
        go_wp2_with ((go_at_call 12; refine (num_any _ _ (by omega) (by omega)).mono ?_; rintro e w' ⟨rfl, rfl⟩))
        go_ret
        exact ⟨rfl, hB4.out⟩
      · have k1 := Lib.hid fun (W : World) (h : errTy W) => tokens_any (bs (43 :: nm m k)) W (by rw [bs_size]; simp [nm_len]; omega) h
        rw [(good_short hm hn32 h16).1] at k1
        have k2 := Lib.hid fun (W : World) (h : errTy W) => tokens_any (bs (43 :: (nm m k ++ [81]))) W (by rw [bs_size]; simp [nm_len]; omega) h
        rw [(good_short hm hn32 h16).2] at k2
        obtain ⟨x, hx⟩ : ∃ x, bs (nm m k) = x := ⟨_, rfl⟩
        rw [hx] at hpre hxs hxu ⊢
        obtain ⟨y, hy⟩ : ∃ y, bs (43 :: nm m k) = y := ⟨_, rfl⟩
        obtain ⟨z, hz⟩ : ∃ z, bs (43 :: (nm m k ++ [81])) = z := ⟨_, rfl⟩
        rw [hy] at hpre hyu hap k1
        rw [hz] at hap k2
        clear hy hz
        have hxs' : ¬ (16 : Int) < (x.size : Int) := by rw [hxs]; omega
        have hxs2 := Lib.hid hxs
        have hxz : (x.size : Int) = ((k + 1 : Nat) : Int) := by rw [hxs]
        have hx2 := Lib.hid hx
        clear hxs h16 hx
        go_wp2_with fail
        refine (k1.out _ hg2.out).mono ?_
        rintro e w2 ⟨v1, rfl, ho1, hb2⟩
        have hg3 := Lib.hid (errTy_below hg2.out hb2)
        have hB3 := Lib.hid (belT hB2.out hb2)
        have r1 := Lib.hid (OwnK.rd ho1)
        clear ho1 hb2
        go_wp2_with fail
        refine (k2.out _ hg3.out).mono ?_
        rintro e w3 ⟨v2, rfl, ho2, hb3⟩
        have hB4 := Lib.hid (belT hB3.out hb3)
        have r1b := Lib.hid (r1.out.below hb3)
        clear ho2 hb3 r1
        have hlit : (tkL [⟨3, [43], 0, 0⟩, ⟨0, nm m k, 0, 1⟩]) = [.int .i64 3, .string ⟨#[43]⟩, .int .i64 0, .int .i64 0, .int .i64 0, .string x, .int .i64 0, .int .i64 1] := by
          simp only [tkL, List.flatMap_cons, List.flatMap_nil, tk4, List.cons_append, List.nil_append, hx2.out]; rfl
        have hlit' := Lib.hid hlit; clear hlit
        go_wp2_with ((go_at_call 12; refine (num_any _ _ (by omega) (by omega)).mono ?_; rintro e w' ⟨rfl, rfl⟩))
        refine (same_any (l := [⟨3, [43], 0, 0⟩, ⟨0, nm m k, 0, 1⟩]) _ (r1b.out.below (by (repeat' (first | with_reducible exact Below.refl _ _ | with_reducible assumption | with_reducible apply Below.setCell | with_reducible apply Below.alloc | with_reducible apply Below.drew | with_reducible apply below_drewN | with_reducible exact Nat.le_refl _ | (simp; done) | (simp; omega) | omega | exact Nat.le_refl _)))) (rd_new (by rw [hlit'.out]) rfl) (by simp)).mono ?_
        rintro e w4 ⟨rfl, hb4⟩
        have hB5 := Lib.hid (belT hB4.out (belT (by (repeat' (first | with_reducible exact Below.refl _ _ | with_reducible assumption | with_reducible apply Below.setCell | with_reducible apply Below.alloc | with_reducible apply Below.drew | with_reducible apply below_drewN | with_reducible exact Nat.le_refl _ | (simp; done) | (simp; omega) | omega | exact Nat.le_refl _))) hb4))
        clear hb4
        go_wp2_with ((go_at_call 12; refine (num_any _ _ (by omega) (by omega)).mono ?_; rintro e w' ⟨rfl, rfl⟩))
        go_ret
        exact ⟨rfl, hB5.out⟩
theorem own : ownKnob Tryd.prog.godebug = none := by kernel_rfl
theorem laidOut : laidOutB Tryd.prog = true := by kernel_rfl
set_option maxRecDepth 100000 in
theorem contract (H : Type) (enc : TypeId × Value → H) (W : World) (base : Nat) (args : Array Value) (ds gs : List (DataW H)) (before : List MemPlace)
    (hval0 : ∀ (j : Nat) t v, Tryd.f8.params[j]? = some t → args[j]? = some v → Value.okWide Tryd.prog W .any base t v)
    (hW : DataW.Whole enc Tryd.prog Tryd.f8.params.toList Rows.lexNamesSpec.vars false W args.toList ds gs before)
    (hsz0 : (DataW.weightsEach Tryd.prog (Tryd.f8.params.toList ++ Rows.lexNamesSpec.plain.varTypes Tryd.prog) (ds ++ gs)).all (· ≤ reachBytes) = true)
    (hL : laidMetH Tryd.prog Rows.lexNamesRow.laid W)
    : Calls Tryd.prog 8 args W fun e W' => ∃ v, e = .returned v ∧ Rows.lexNamesSpec.post enc Tryd.prog Tryd.f8 false true false false W args v W' := by
  have hval : ∀ (j : Nat) t v, Tryd.f8.params[j]? = some t → args[j]? = some v → Value.okWide Tryd.prog W .any base t v := hval0
  have hsz : (DataW.weightsEach Tryd.prog (Tryd.f8.params.toList ++ Rows.lexNamesSpec.plain.varTypes Tryd.prog) (ds ++ gs)).all (· ≤ reachBytes) = true := hsz0
  have hW' := hW
  obtain ⟨p, q, hA0, hV, rfl, hfz, hnd⟩ := hW
  have hA : DataW.TrodAll enc Tryd.prog W 0 (fun _ => true) true Tryd.f8.params.toList args.toList ds p := hA0
  rw [Tryd.params8] at hA hval hsz
  obtain ⟨v0, vs0, d0, ds0, p0, q0, hargs, rfl, rfl, h0, r0⟩ := trodAll_cons hA
  obtain ⟨v1, vs1, d1, ds1, p1, q1, rfl, rfl, rfl, h1, r1⟩ := trodAll_cons r0
  obtain ⟨rfl, rfl, rfl⟩ := trodAll_nil r1
  obtain rfl : args = #[v0, v1] := by cases args; simp_all
  obtain ⟨rfl, rfl⟩ := trodVars_none hV
  have k0 := h0
  have lt0 : ∀ x ∈ p0, x.block < W.heap.size := by obtain ⟨m, hm⟩ := k0; exact DataW.trod_lt m _ _ _ hm
  obtain ⟨a0, rfl, rfl, rfl, m0⟩ := open_int Tryd.underlying3 (hval 0 3 v0 rfl rfl) h0
  have k1 := h1
  have lt1 : ∀ x ∈ p1, x.block < W.heap.size := by obtain ⟨m, hm⟩ := k1; exact DataW.trod_lt m _ _ _ hm
  obtain ⟨a1, rfl, rfl, rfl, m1⟩ := open_int Tryd.underlying3 (hval 1 3 v1 rfl rfl) h1
  clear hA0 hval0
  refine (walk a0 a1 W (bd_i64 m0) (bd_i64 m1) (tabs hL)).mono fun e W' ⟨he, bel⟩ => ?_
  subst he
  exact ⟨_, rfl, _, _, _, [], _, [], hW', trodAll_mk1 (shut_bool Tryd.underlying4 _), (trodAll_cons_mk (Below.trod laidOut (by kernel_rfl) (of_decide_eq_true (by kernel_rfl)) k0 bel lt0) (trodAll_cons_mk (Below.trod laidOut (by kernel_rfl) (of_decide_eq_true (by kernel_rfl)) k1 bel lt1) trodAll_mk0)), rfl, bel.frame _, fun h => by cases h⟩
theorem laid_met (os : Os) : laidMetH Tryd.prog Rows.lexNamesRow.laid ((handleWorld os).forCall (fun _ _ => 0) ⟨#[], #[.int .i64 0, .int .i64 0], []⟩).memory := laidMetH_of_parts (laidMet_nil _ _) (by kernel_rfl)
theorem reads (os : Os) {H : Type} (enc : TypeId × Value → H) : ∃ places, DataW.whole enc Tryd.prog ((handleWorld os).forCall (fun _ _ => 0) ⟨#[], #[.int .i64 0, .int .i64 0], []⟩).memory Tryd.f8.params.toList Rows.lexNamesSpec.vars false #[(.int .i64 0 : Value), (.int .i64 0 : Value)].toList 8 = some ([.lit (.int .i64 0), .lit (.int .i64 0)], [], places) := ⟨[], by kernel_rfl⟩
set_option maxRecDepth 100000 in
theorem lifted (os : Os) (started : os.Started) (H : Type) (enc : TypeId × Value → H) (F : Stop.Interp) :
    ReturnsInHanded {} Tryd.checked os 8 .any ((OpenSpec.ofChange Rows.lexNamesSpec).preRow enc Tryd.prog Tryd.f8 Rows.lexNamesRow.domain false Rows.lexNamesRow.laid) (((OpenSpec.ofChange Rows.lexNamesSpec).at F).post enc Tryd.prog Tryd.f8 false true false false) := by
  obtain ⟨places, hx⟩ := reads os enc
  refine returnsInHanded_of_row (C := Tryd.checked) (s := (OpenSpec.ofChange Rows.lexNamesSpec)) own started (by kernel_rfl) Tryd.func8
    (witness_row_at (enc := enc) (C := Tryd.checked) false (handleWorld os) #[.int .i64 0, .int .i64 0] rfl (by kernel_rfl) (by kernel_rfl) (by kernel_rfl)
      (OpenSpec.preRow_of_cond 8 hx (by kernel_rfl) (fun k hk => by cases hk) (by kernel_rfl) (laid_met os))) ?_
  intro W base args ds gs before hval hW _ hcnd hsz hL _ _
  exact contract H enc W base args ds gs before hval hW hsz  hL
theorem said : Rows.LexNamesSaid :=
  OpenClaim.holds_of_cond 8 Tryd.f8 rfl rfl rfl rfl rfl rfl rfl ⟨rfl, rfl, rfl, rfl, rfl⟩ rfl rfl rfl rfl rfl (by kernel_rfl) Tryd.func8 (by kernel_rfl)
    (of_decide_eq_true (by kernel_rfl)) (by unfold Func.isWrapper; first | (rw [if_pos (by decide +kernel)]; kernel_rfl) | (rw [if_neg (by decide +kernel)]; exact ⟨rfl, rfl⟩))
    (fun os started H enc _ F => by rw [OpenClaim.pre_eq_preRow]; exact lifted os started H enc F)
theorem plain (f : FuncId) (fn : Func) (hf : Tryd.pinned.checked.prog.funcNamed "trammel/trammellaw2.LexNames" = some f) (hfn : Tryd.pinned.checked.prog.funcs[f]? = some fn) :
    true = Tryd.pinned.checked.prog.looks [] ∧ ∀ (j : Nat) t, fn.params[j]? = some t → Tryd.pinned.checked.prog.wantsStandIn t = false := by
  obtain rfl : f = 8 := Option.some.inj ((show Tryd.prog.funcNamed "trammel/trammellaw2.LexNames" = some 8 by kernel_rfl).symm.trans hf) |>.symm
  obtain rfl : fn = Tryd.f8 := (Option.some.inj (Tryd.func8.symm.trans hfn)).symm
  refine ⟨by kernel_rfl, fun j t ht => ?_⟩
  rw [Tryd.params8] at ht
  have hm := Array.mem_of_getElem? ht
  have hm2 : t ∈ ([3] : List Nat) := by simpa using hm
  simp only [List.mem_cons, List.not_mem_nil, or_false] at hm2
  subst hm2; exact (show Tryd.prog.wantsStandIn 3 = false by kernel_rfl)
theorem proved : Rows.LexNamesCardSaid :=
  Claim7.holds_tied_plain_at .later [] _ _ _ _ said (fun _ h => by cases h) (by kernel_rfl) (fun _ h => by cases h) lexNames_row_tie rfl ⟨rfl, rfl⟩ (by kernel_rfl) rfl plain (by kernel_rfl)
end Go.Proofs.YtgpjdifjajailaaDoor.lexNames
