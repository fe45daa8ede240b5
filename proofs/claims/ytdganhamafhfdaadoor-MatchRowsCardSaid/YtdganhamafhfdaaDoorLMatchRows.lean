/- MatchRows holds for every two rows. No condition but that the listed package variables hold what the program's text lays. -/
import Derived.Test.YtdganhamafhfdaaDoorCards
import Derived.Test.YtdganhamafhfdaaDoorTie
import Derived.Test.YtdganhamafhfdaaDoorOpn
import Derived.Test.YtdganhamafhfdaaDoorCrd
import Derived.WalkKit
import Derived.ProofKit
import Derived.Deep.DeepHandedRow
import Derived.Test.YtdganhamafhfdaaDoorEqA
import Derived.Test.YtdganhamafhfdaaDoorTyI
import Derived.Test.YtdganhamafhfdaaDoorAid
namespace Go.Proofs.YtdganhamafhfdaaDoor.matchRows
open Go.ChangeShapes Go.WideShapes Go.ChangeAt Go.RowKit
open Go.ChangeMaps (open_string shut_string)
set_option linter.unusedVariables false
set_option linter.unusedSimpArgs false

theorem tabs {W : World} (h : laidMetH Tryd.prog Rows.matchRowsRow.laid W) : Hid (TabW W) := by
  have hm : ("internal/strconv.uint64pow10", (Rows.laid_internal_strconv_uint64pow10 : DataW Unit)) ∈ Rows.matchRowsRow.laid := .tail _ (.tail _ (.head _))
  rw [show (Rows.laid_internal_strconv_uint64pow10 : DataW Unit) = Lib.tabData .u64 Lib.pow10Tab from by kernel_rfl] at hm
  exact Lib.hid (tabIs_of_mem gPow (t := 211) (e := 166) (n := 20) (by kernel_rfl) Tryd.underlying211 Tryd.underlying166 (by kernel_rfl) (by kernel_rfl) h hm)

def rT (r : Rw) : List Ty := [bsT 0, bsT 0, fnT 0 1 r]
theorem rT_fl (r : Rw) : rT r = fl 0 (.fn (.base 0) r (.base 0)) := rfl
theorem rT_may (r : Rw) : tyV (rT r) = r.may := by
  cases h : r.may
  · refine tyV_node (rT r) 2 (by show 2 < 3; omega) ?_
    show (if (3 : Int) = 3 then decide ((0 : Int) = 0) && mayR r.a r.b r.c r.d r.t else _) = false
    rw [if_pos rfl, show mayR r.a r.b r.c r.d r.t = false from h]; rfl
  · rw [rT_fl]
    exact fl_may (by unfold TT.ok; rw [h]; rfl) (by simp [TT.sz])
theorem rT_no {a b : Rw} (h : (a.may && b.may) = false) : instV (rT a) (rT b) = false ∧ instE (rT a) (rT b) = 1100 := by
  unfold instV instE
  rw [rT_may, rT_may, h]; exact ⟨rfl, rfl⟩
def leK (a b : Rw) : Nat → Bool
  | 0 => true
  | 1 => decide (a.a ≤ b.a)
  | 2 => decide (a.a ≤ b.a) && decide (a.b ≤ b.b)
  | 3 => decide (a.a ≤ b.a) && decide (a.b ≤ b.b) && decide (a.c ≤ b.c)
  | _ => decide (a.a ≤ b.a) && decide (a.b ≤ b.b) && decide (a.c ≤ b.c) && decide (a.d ≤ b.d)
def leW (q0 q1 q2 q3 : Bool) : Nat → Bool
  | 0 => true
  | 1 => q0
  | 2 => q0 && q1
  | 3 => q0 && q1 && q2
  | _ => q0 && q1 && q2 && q3
theorem lw0 (q0 q1 q2 q3 : Bool) : leW q0 q1 q2 q3 0 = true := rfl
theorem lw1 (q0 q1 q2 q3 : Bool) : leW q0 q1 q2 q3 1 = q0 := rfl
theorem lw2 (q0 q1 q2 q3 : Bool) : leW q0 q1 q2 q3 2 = (q0 && q1) := rfl
theorem lw3 (q0 q1 q2 q3 : Bool) : leW q0 q1 q2 q3 3 = (q0 && q1 && q2) := rfl
theorem lw4 (q0 q1 q2 q3 : Bool) : leW q0 q1 q2 q3 4 = (q0 && q1 && q2 && q3) := rfl
theorem rT_yes {a b : Rw} (h : (a.may && b.may) = true) : instV (rT a) (rT b) = (if a.t < 0 then rwQ a.a a.b a.c a.d a.t b.a b.b b.c b.d b.t else leK a b 4) ∧ instE (rT a) (rT b) = 0 := by
  unfold instV instE
  rw [rT_may, rT_may, h]
  refine ⟨?_, rfl⟩
  rw [Bool.and_eq_true] at h
  have ha : treeOf (rT a) = .fn (.base 0) a (.base 0) := by rw [rT_fl]; exact treeOf_fl (by unfold TT.ok; rw [h.1]; rfl)
  have hb : treeOf (rT b) = .fn (.base 0) b (.base 0) := by rw [rT_fl]; exact treeOf_fl (by unfold TT.ok; rw [h.2]; rfl)
  rw [ha, hb, Bool.true_and]
  have hm : (mtT (.fn (.base 0) a (.base 0)) (.fn (.base 0) b (.base 0)) MS.none).isSome = (mtR a b MS.none).isSome := by
    show (((mtT (.base 0) (.base 0) MS.none).bind (mtR a b)).bind (mtT (.base 0) (.base 0))).isSome = _
    have e : ∀ m, mtT (.base 0) (.base 0) m = some m := fun m => rfl
    rw [e, Option.bind_some]
    cases mtR a b MS.none with
    | none => rfl
    | some m => rw [Option.bind_some, e]
  unfold instT
  rw [hm]
  unfold mtR
  by_cases ht : a.t < 0
  · rw [if_pos ht, if_pos ht]
    have e : rwQ a.a a.b a.c a.d a.t b.a b.b b.c b.d b.t = decide (a = b) := by
      obtain ⟨_, _, _, _, _⟩ := a
      obtain ⟨_, _, _, _, _⟩ := b
      unfold rwQ
      rw [Bool.eq_iff_iff]
      simp [Rw.mk.injEq, and_assoc]
    rw [e]
    by_cases hab : a = b
    · rw [if_pos hab, decide_eq_true hab]; rfl
    · rw [if_neg hab, decide_eq_false hab]; rfl
  · rw [if_neg ht, if_neg ht]
    have e : leK a b 4 = geR b a := by
      unfold leK geR
      rw [Bool.eq_iff_iff]
      simp [and_assoc]
    rw [e]
    cases geR b a
    · rw [if_neg (by decide)]; rfl
    · rw [if_pos rfl]; rfl
set_option maxRecDepth 100000 in
set_option maxHeartbeats 8000000 in
theorem walk (a0 a1 a2 a3 a4 b0 b1 b2 b3 b4 : Int) (w : World) (h0 : -9223372036854775808 ≤ a0 ∧ a0 ≤ 9223372036854775807) (h1 : -9223372036854775808 ≤ a1 ∧ a1 ≤ 9223372036854775807) (h2 : -9223372036854775808 ≤ a2 ∧ a2 ≤ 9223372036854775807) (h3 : -9223372036854775808 ≤ a3 ∧ a3 ≤ 9223372036854775807) (h4 : -9223372036854775808 ≤ a4 ∧ a4 ≤ 9223372036854775807)
    (g0 : -9223372036854775808 ≤ b0 ∧ b0 ≤ 9223372036854775807) (g1 : -9223372036854775808 ≤ b1 ∧ b1 ≤ 9223372036854775807) (g2 : -9223372036854775808 ≤ b2 ∧ b2 ≤ 9223372036854775807) (g3 : -9223372036854775808 ≤ b3 ∧ b3 ≤ 9223372036854775807) (g4 : -9223372036854775808 ≤ b4 ∧ b4 ≤ 9223372036854775807) (hT : Hid (TabW w)) :
    Calls Tryd.prog 15 #[.agg #[.int .i64 a0, .int .i64 a1, .int .i64 a2, .int .i64 a3, .int .i64 a4], .agg #[.int .i64 b0, .int .i64 b1, .int .i64 b2, .int .i64 b3, .int .i64 b4]] w fun e w' => e = .returned (.bool true) ∧ Below w.heap.size w w' := by
  have hno := Lib.hid (rT_no (a := ⟨a0, a1, a2, a3, a4⟩) (b := ⟨b0, b1, b2, b3, b4⟩))
  have hyes := Lib.hid (rT_yes (a := ⟨a0, a1, a2, a3, a4⟩) (b := ⟨b0, b1, b2, b3, b4⟩))
  obtain ⟨ok, hok⟩ : ∃ q, (Rw.may ⟨a0, a1, a2, a3, a4⟩ && Rw.may ⟨b0, b1, b2, b3, b4⟩) = q := ⟨_, rfl⟩
  rw [hok] at hno hyes
  have hok := Lib.hid hok
  have hrin : ∀ (x0 x1 x2 x3 x4 y0 y1 y2 y3 y4 : Int) (W : World), (Op.equalIn 10000 27 (.agg #[.int .i64 x0, .int .i64 x1, .int .i64 x2, .int .i64 x3, .int .i64 x4]) (.agg #[.int .i64 y0, .int .i64 y1, .int .i64 y2, .int .i64 y3, .int .i64 y4])).run Tryd.prog W = .ok (rwQ x0 x1 x2 x3 x4 y0 y1 y2 y3 y4) W := fun x0 x1 x2 x3 x4 y0 y1 y2 y3 y4 W => row_in 9997 x0 x1 x2 x3 x4 y0 y1 y2 y3 y4 W
  go_enter Tryd.func15, Tryd.ntmps15
  go_wp2_with fail
  refine (awake11_any _ (Lib.hid (tab_keep hT.out (show Below w.heap.size w _ from by (repeat' (first | with_reducible exact Below.refl _ _ | with_reducible assumption | with_reducible apply Below.setCell | with_reducible apply Below.alloc | with_reducible apply Below.drew | with_reducible apply below_drewN | with_reducible exact Nat.le_refl _ | (simp; done) | (simp; omega) | omega | exact Nat.le_refl _))) (Nat.le_refl _)))).mono ?_
  rintro e w1 ⟨rfl, hb1⟩
  have hX := Lib.hid (show RowAt w1 w.heap.size ⟨a0, a1, a2, a3, a4⟩ from RowAt.below (by exact RowAt.alloc _ (row_lit _ _ _ ⟨a0, a1, a2, a3, a4⟩ rfl)) hb1)
  have hY := Lib.hid (show RowAt w1 (w.heap.size + 1) ⟨b0, b1, b2, b3, b4⟩ from RowAt.below (by exact row_lit _ _ _ ⟨b0, b1, b2, b3, b4⟩ (by simp)) hb1)
  have hB := Lib.hid (belT (show Below w.heap.size w _ from by (repeat' (first | with_reducible exact Below.refl _ _ | with_reducible assumption | with_reducible apply Below.setCell | with_reducible apply Below.alloc | with_reducible apply Below.drew | with_reducible apply below_drewN | with_reducible exact Nat.le_refl _ | (simp; done) | (simp; omega) | omega | exact Nat.le_refl _))) hb1)
  clear hb1
  obtain ⟨x0, x1, x2, x3, x4, x5⟩ := hX.out
  obtain ⟨y0, y1, y2, y3, y4, y5⟩ := hY.out
  simp only [] at x1 x2 x3 x4 x5 y1 y2 y3 y4 y5
  have z0 : w.heap.size < w1.heap.size + 1 := by omega
  have z1 : w.heap.size + 1 < w1.heap.size + 1 + 1 := by omega
  have z2 : w.heap.size + 1 < w1.heap.size + 1 + 1 + 1 := by omega
  go_wp2_with fail
  clear x0 x1 x2 x3 x4 x5 y0 y1 y2 y3 y4 y5 z0 z1 z2
  refine (instance_any _ _ _ _ _ _ (rT ⟨a0, a1, a2, a3, a4⟩) (rT ⟨b0, b1, b2, b3, b4⟩) _ (Lib.hid (by exact TyArg.alloc _ (TyArg.alloc _ (TyArg.alloc _ (tyArg_lit _ _ _ _ _ _ (by simp) rfl rfl))))) (Lib.hid (by exact TyArg.alloc _ (tyArg_lit _ _ _ _ _ _ (by simp) rfl rfl))) (by omega) (by omega)).mono ?_
  rintro e w2 ⟨rfl, hb⟩
  have hX := Lib.hid (RowAt.below (by exact RowAt.alloc _ (RowAt.alloc _ (RowAt.alloc _ (RowAt.alloc _ (RowAt.alloc _ hX.out))))) hb)
  have hY := Lib.hid (RowAt.below (by exact RowAt.alloc _ (RowAt.alloc _ (RowAt.alloc _ (RowAt.alloc _ (RowAt.alloc _ hY.out))))) hb)
  have hB := Lib.hid (belT (belA _ (belA _ (belA _ (belA _ (belA _ hB.out))))) hb)
  clear hb
  cases ok
  · obtain ⟨e1, e2⟩ := hno.out rfl
    rw [e1, e2]
    clear e1 e2 hno hyes hX hY
    go_wp2_with ((go_at_call 24; refine (num_any _ _ (by omega) (by omega)).mono ?_; rintro e w' ⟨rfl, rfl⟩))
    go_ret
    exact ⟨rfl, hB.out⟩
  · obtain ⟨e1, e2⟩ := hyes.out rfl
    rw [e1, e2]
    clear e1 e2 hno hyes
    obtain ⟨x0, x1, x2, x3, x4, x5⟩ := hX.out
    obtain ⟨y0, y1, y2, y3, y4, y5⟩ := hY.out
    simp only [] at x1 x2 x3 x4 x5 y1 y2 y3 y4 y5 ⊢
    by_cases ht : a4 < 0
    · rw [if_pos ht]
      obtain ⟨q, hq⟩ : ∃ q, rwQ a0 a1 a2 a3 a4 b0 b1 b2 b3 b4 = q := ⟨_, rfl⟩
      rw [hq]
      go_wp2_with ((go_at_call 24; refine (num_any _ _ (by omega) (by omega)).mono ?_; rintro e w' ⟨rfl, rfl⟩))
      go_ret
      exact ⟨rfl, hB.out⟩
    · rw [if_neg ht]
      obtain ⟨q0, hq0⟩ : ∃ q, decide (a0 ≤ b0) = q := ⟨_, rfl⟩
      obtain ⟨q1, hq1⟩ : ∃ q, decide (a1 ≤ b1) = q := ⟨_, rfl⟩
      obtain ⟨q2, hq2⟩ : ∃ q, decide (a2 ≤ b2) = q := ⟨_, rfl⟩
      obtain ⟨q3, hq3⟩ : ∃ q, decide (a3 ≤ b3) = q := ⟨_, rfl⟩
      have hle : leK ⟨a0, a1, a2, a3, a4⟩ ⟨b0, b1, b2, b3, b4⟩ 4 = (q0 && q1 && q2 && q3) := by unfold leK; simp only []; rw [hq0, hq1, hq2, hq3]
      rw [hle]
      clear hle
      go_wp2_with ((go_at_call 24; refine (num_any _ _ (by omega) (by omega)).mono ?_; rintro e w' ⟨rfl, rfl⟩))
      clear x0 x1 x2 x3 x4 x5 y0 y1 y2 y3 y4 y5
      go_loopw [10, 11] (fun want i wr => ∃ (k : Nat) (z : Int), k ≤ 4 ∧ i = .int .i64 z ∧ z = k ∧ Hid (Below w2.heap.size w2 wr) ∧ want = .bool (leW q0 q1 q2 q3 k)) (fun _ i _ => 4 - (intOf i).toNat)
      case atStart => exact ⟨0, 0, by omega, rfl, rfl, Lib.hid (Below.refl _ _), rfl⟩
      case round =>
        obtain ⟨k, z, hk, rfl, hz, hbw, rfl⟩ := hrel
        obtain ⟨x0, x1, x2, x3, x4, x5⟩ := hX.out.below hbw.out
        obtain ⟨y0, y1, y2, y3, y4, y5⟩ := hY.out.below hbw.out
        simp only [] at x1 x2 x3 x4 x5 y1 y2 y3 y4 y5
        have hk5 : k = 0 ∨ k = 1 ∨ k = 2 ∨ k = 3 ∨ k = 4 := by omega
        rcases hk5 with rfl | rfl | rfl | rfl | rfl
        · obtain rfl : z = 0 := by omega
          clear hz
          rw [lw0]
          cases q0
          all_goals (try simp only [Bool.and_true, Bool.and_false, Bool.true_and, Bool.false_and, Bool.and_self])
          all_goals (go_wp2_with fail; go_quiet (fail); go_wp2_with fail; go_roundw)
          all_goals first | exact ⟨1, 1, by omega, rfl, rfl, Lib.hid (by have hbw := hbw.out; (repeat' (first | with_reducible exact Below.refl _ _ | with_reducible assumption | with_reducible apply Below.setCell | with_reducible apply Below.alloc | with_reducible apply Below.drew | with_reducible apply below_drewN | with_reducible exact Nat.le_refl _ | (simp; done) | (simp; omega) | omega | exact Nat.le_refl _))), rfl⟩ | (simp [intOf]; done) | (simp [intOf]; omega)
        · obtain rfl : z = 1 := by omega
          clear hz
          rw [lw1]
          cases q0 <;> cases q1
          all_goals (try simp only [Bool.and_true, Bool.and_false, Bool.true_and, Bool.false_and, Bool.and_self])
          all_goals (go_wp2_with fail; go_quiet (fail); go_wp2_with fail; go_roundw)
          all_goals first | exact ⟨2, 2, by omega, rfl, rfl, Lib.hid (by have hbw := hbw.out; (repeat' (first | with_reducible exact Below.refl _ _ | with_reducible assumption | with_reducible apply Below.setCell | with_reducible apply Below.alloc | with_reducible apply Below.drew | with_reducible apply below_drewN | with_reducible exact Nat.le_refl _ | (simp; done) | (simp; omega) | omega | exact Nat.le_refl _))), rfl⟩ | (simp [intOf]; done) | (simp [intOf]; omega)
        · obtain rfl : z = 2 := by omega
          clear hz
          rw [lw2]
          cases q0 <;> cases q1 <;> cases q2
          all_goals (try simp only [Bool.and_true, Bool.and_false, Bool.true_and, Bool.false_and, Bool.and_self])
          all_goals (go_wp2_with fail; go_quiet (fail); go_wp2_with fail; go_roundw)
          all_goals first | exact ⟨3, 3, by omega, rfl, rfl, Lib.hid (by have hbw := hbw.out; (repeat' (first | with_reducible exact Below.refl _ _ | with_reducible assumption | with_reducible apply Below.setCell | with_reducible apply Below.alloc | with_reducible apply Below.drew | with_reducible apply below_drewN | with_reducible exact Nat.le_refl _ | (simp; done) | (simp; omega) | omega | exact Nat.le_refl _))), rfl⟩ | (simp [intOf]; done) | (simp [intOf]; omega)
        · obtain rfl : z = 3 := by omega
          clear hz
          rw [lw3]
          cases q0 <;> cases q1 <;> cases q2 <;> cases q3
          all_goals (try simp only [Bool.and_true, Bool.and_false, Bool.true_and, Bool.false_and, Bool.and_self])
          all_goals (go_wp2_with fail; go_quiet (fail); go_wp2_with fail; go_roundw)
          all_goals first | exact ⟨4, 4, by omega, rfl, rfl, Lib.hid (by have hbw := hbw.out; (repeat' (first | with_reducible exact Below.refl _ _ | with_reducible assumption | with_reducible apply Below.setCell | with_reducible apply Below.alloc | with_reducible apply Below.drew | with_reducible apply below_drewN | with_reducible exact Nat.le_refl _ | (simp; done) | (simp; omega) | omega | exact Nat.le_refl _))), rfl⟩ | (simp [intOf]; done) | (simp [intOf]; omega)
        · obtain rfl : z = 4 := by omega
          clear hz
          rw [lw4]
          generalize (q0 && q1 && q2 && q3) = Q
          go_wp2_with fail
          go_ret
          exact ⟨ret_bb (by simp), belT hB.out hbw.out⟩
theorem own : ownKnob Tryd.prog.godebug = none := by kernel_rfl
theorem laidOut : laidOutB Tryd.prog = true := by kernel_rfl
set_option maxRecDepth 100000 in
theorem contract (H : Type) (enc : TypeId × Value → H) (W : World) (base : Nat) (args : Array Value) (ds gs : List (DataW H)) (before : List MemPlace)
    (hval0 : ∀ (j : Nat) t v, Tryd.f15.params[j]? = some t → args[j]? = some v → Value.okWide Tryd.prog W .any base t v)
    (hW : DataW.Whole enc Tryd.prog Tryd.f15.params.toList Rows.matchRowsSpec.vars false W args.toList ds gs before)
    (hsz0 : (DataW.weightsEach Tryd.prog (Tryd.f15.params.toList ++ Rows.matchRowsSpec.plain.varTypes Tryd.prog) (ds ++ gs)).all (· ≤ reachBytes) = true)
    (hL : laidMetH Tryd.prog Rows.matchRowsRow.laid W)
    : Calls Tryd.prog 15 args W fun e W' => ∃ v, e = .returned v ∧ Rows.matchRowsSpec.post enc Tryd.prog Tryd.f15 false true false false W args v W' := by
  have hval : ∀ (j : Nat) t v, Tryd.f15.params[j]? = some t → args[j]? = some v → Value.okWide Tryd.prog W .any base t v := hval0
  have hsz : (DataW.weightsEach Tryd.prog (Tryd.f15.params.toList ++ Rows.matchRowsSpec.plain.varTypes Tryd.prog) (ds ++ gs)).all (· ≤ reachBytes) = true := hsz0
  have hW' := hW
  obtain ⟨p, q, hA0, hV, rfl, hfz, hnd⟩ := hW
  have hA : DataW.TrodAll enc Tryd.prog W 0 (fun _ => true) true Tryd.f15.params.toList args.toList ds p := hA0
  rw [Tryd.params15] at hA hval hsz
  obtain ⟨v0, vs0, d0, ds0, p0, q0, hargs, rfl, rfl, h0, r0⟩ := trodAll_cons hA
  obtain ⟨v1, vs1, d1, ds1, p1, q1, rfl, rfl, rfl, h1, r1⟩ := trodAll_cons r0
  obtain ⟨rfl, rfl, rfl⟩ := trodAll_nil r1
  obtain rfl : args = #[v0, v1] := by cases args; simp_all
  obtain ⟨rfl, rfl⟩ := trodVars_none hV
  have k0 := h0
  have lt0 : ∀ x ∈ p0, x.block < W.heap.size := by obtain ⟨m, hm⟩ := k0; exact DataW.trod_lt m _ _ _ hm
  obtain ⟨cs0_0, rfl, fit0_0⟩ := open_struct Tryd.underlying27 (f := 6) (by kernel_rfl : flat Tryd.prog 6 27 = some [.i .i64, .i .i64, .i .i64, .i .i64, .i .i64]) (hval 0 27 v0 rfl rfl) h0 (sized_of hsz (j := 0) (t := 27) rfl rfl)
  obtain ⟨_, cs0_1, rfl, ⟨a0_0, rfl, b0_0⟩, fit0_1⟩ := fit_i fit0_0
  obtain ⟨_, cs0_2, rfl, ⟨a0_1, rfl, b0_1⟩, fit0_2⟩ := fit_i fit0_1
  obtain ⟨_, cs0_3, rfl, ⟨a0_2, rfl, b0_2⟩, fit0_3⟩ := fit_i fit0_2
  obtain ⟨_, cs0_4, rfl, ⟨a0_3, rfl, b0_3⟩, fit0_4⟩ := fit_i fit0_3
  obtain ⟨_, cs0_5, rfl, ⟨a0_4, rfl, b0_4⟩, fit0_5⟩ := fit_i fit0_4
  obtain rfl := fit_nil fit0_5
  have k1 := h1
  have lt1 : ∀ x ∈ p1, x.block < W.heap.size := by obtain ⟨m, hm⟩ := k1; exact DataW.trod_lt m _ _ _ hm
  obtain ⟨cs1_0, rfl, fit1_0⟩ := open_struct Tryd.underlying27 (f := 6) (by kernel_rfl : flat Tryd.prog 6 27 = some [.i .i64, .i .i64, .i .i64, .i .i64, .i .i64]) (hval 1 27 v1 rfl rfl) h1 (sized_of hsz (j := 1) (t := 27) rfl rfl)
  obtain ⟨_, cs1_1, rfl, ⟨a1_0, rfl, b1_0⟩, fit1_1⟩ := fit_i fit1_0
  obtain ⟨_, cs1_2, rfl, ⟨a1_1, rfl, b1_1⟩, fit1_2⟩ := fit_i fit1_1
  obtain ⟨_, cs1_3, rfl, ⟨a1_2, rfl, b1_2⟩, fit1_3⟩ := fit_i fit1_2
  obtain ⟨_, cs1_4, rfl, ⟨a1_3, rfl, b1_3⟩, fit1_4⟩ := fit_i fit1_3
  obtain ⟨_, cs1_5, rfl, ⟨a1_4, rfl, b1_4⟩, fit1_5⟩ := fit_i fit1_4
  obtain rfl := fit_nil fit1_5
  clear hA0 hval0
  refine (walk a0_0 a0_1 a0_2 a0_3 a0_4 a1_0 a1_1 a1_2 a1_3 a1_4 W (bd_i64 b0_0) (bd_i64 b0_1) (bd_i64 b0_2) (bd_i64 b0_3) (bd_i64 b0_4) (bd_i64 b1_0) (bd_i64 b1_1) (bd_i64 b1_2) (bd_i64 b1_3) (bd_i64 b1_4) (tabs hL)).mono fun e W' ⟨he, bel⟩ => ?_
  subst he
  exact ⟨_, rfl, _, _, _, [], _, [], hW', trodAll_mk1 (shut_bool Tryd.underlying4 _), (trodAll_cons_mk (Below.trod laidOut (by kernel_rfl) (of_decide_eq_true (by kernel_rfl)) k0 bel lt0) (trodAll_cons_mk (Below.trod laidOut (by kernel_rfl) (of_decide_eq_true (by kernel_rfl)) k1 bel lt1) trodAll_mk0)), rfl, bel.frame _, fun h => by cases h⟩
noncomputable def laidWorld (os : Os) : World := { World.holding Tryd.prog os ⟨#[], #[], []⟩ with heap := layAll Tryd.prog Rows.matchRowsRow.laid (World.holding Tryd.prog os ⟨#[], #[], []⟩).heap }
theorem laid_met (os : Os) : laidMet Tryd.prog Rows.matchRowsRow.laid ((laidWorld os).forCall (fun _ _ => 0) ⟨#[], #[.agg #[.int .i64 0, .int .i64 0, .int .i64 0, .int .i64 0, .int .i64 0], .agg #[.int .i64 0, .int .i64 0, .int .i64 0, .int .i64 0, .int .i64 0]], []⟩).memory := laidMet_of_run' 8 (by kernel_rfl) (by kernel_rfl)
theorem reads (os : Os) {H : Type} (enc : TypeId × Value → H) : ∃ places, DataW.whole enc Tryd.prog ((laidWorld os).forCall (fun _ _ => 0) ⟨#[], #[.agg #[.int .i64 0, .int .i64 0, .int .i64 0, .int .i64 0, .int .i64 0], .agg #[.int .i64 0, .int .i64 0, .int .i64 0, .int .i64 0, .int .i64 0]], []⟩).memory Tryd.f15.params.toList Rows.matchRowsSpec.vars false #[(.agg #[.int .i64 0, .int .i64 0, .int .i64 0, .int .i64 0, .int .i64 0] : Value), (.agg #[.int .i64 0, .int .i64 0, .int .i64 0, .int .i64 0, .int .i64 0] : Value)].toList 8 = some ([.agg [.agg [.lit (.int .i64 0), .lit (.int .i64 0), .lit (.int .i64 0), .lit (.int .i64 0)], .lit (.int .i64 0)], .agg [.agg [.lit (.int .i64 0), .lit (.int .i64 0), .lit (.int .i64 0), .lit (.int .i64 0)], .lit (.int .i64 0)]], [], places) := ⟨[], by kernel_rfl⟩
set_option maxRecDepth 100000 in
theorem lifted (os : Os) (started : os.Started) (H : Type) (enc : TypeId × Value → H) (F : Stop.Interp) :
    ReturnsInHanded {} Tryd.checked os 15 .any ((OpenSpec.ofChange Rows.matchRowsSpec).preRow enc Tryd.prog Tryd.f15 Rows.matchRowsRow.domain false Rows.matchRowsRow.laid) (((OpenSpec.ofChange Rows.matchRowsSpec).at F).post enc Tryd.prog Tryd.f15 false true false false) := by
  obtain ⟨places, hx⟩ := reads os enc
  refine returnsInHanded_of_row (C := Tryd.checked) (s := (OpenSpec.ofChange Rows.matchRowsSpec)) own started (by kernel_rfl) Tryd.func15
    (witness_row_at (enc := enc) (C := Tryd.checked) false (laidWorld os) #[.agg #[.int .i64 0, .int .i64 0, .int .i64 0, .int .i64 0, .int .i64 0], .agg #[.int .i64 0, .int .i64 0, .int .i64 0, .int .i64 0, .int .i64 0]] rfl (by kernel_rfl) (by kernel_rfl) (by kernel_rfl)
      (OpenSpec.preRow_of_cond 8 hx (by kernel_rfl) (fun k hk => by cases hk) (by kernel_rfl) (laid_met os))) ?_
  intro W base args ds gs before hval hW _ hcnd hsz hL _ _
  exact contract H enc W base args ds gs before hval hW hsz  hL
theorem said : Rows.MatchRowsSaid :=
  OpenClaim.holds_of_cond 15 Tryd.f15 rfl rfl rfl rfl rfl rfl rfl ⟨rfl, rfl, rfl, rfl, rfl⟩ rfl rfl rfl rfl rfl (by kernel_rfl) Tryd.func15 (by kernel_rfl)
    (of_decide_eq_true (by kernel_rfl)) (by unfold Func.isWrapper; first | (rw [if_pos (by decide +kernel)]; kernel_rfl) | (rw [if_neg (by decide +kernel)]; exact ⟨rfl, rfl⟩))
    (fun os started H enc _ F => by rw [OpenClaim.pre_eq_preRow]; exact lifted os started H enc F)
theorem plain (f : FuncId) (fn : Func) (hf : Tryd.pinned.checked.prog.funcNamed "trammel/trammellaw11.MatchRows" = some f) (hfn : Tryd.pinned.checked.prog.funcs[f]? = some fn) :
    true = Tryd.pinned.checked.prog.looks [] ∧ ∀ (j : Nat) t, fn.params[j]? = some t → Tryd.pinned.checked.prog.wantsStandIn t = false := by
  obtain rfl : f = 15 := Option.some.inj ((show Tryd.prog.funcNamed "trammel/trammellaw11.MatchRows" = some 15 by kernel_rfl).symm.trans hf) |>.symm
  obtain rfl : fn = Tryd.f15 := (Option.some.inj (Tryd.func15.symm.trans hfn)).symm
  refine ⟨by kernel_rfl, fun j t ht => ?_⟩
  rw [Tryd.params15] at ht
  have hm := Array.mem_of_getElem? ht
  have hm2 : t ∈ ([27] : List Nat) := by simpa using hm
  simp only [List.mem_cons, List.not_mem_nil, or_false] at hm2
  subst hm2; exact (show Tryd.prog.wantsStandIn 27 = false by kernel_rfl)
theorem proved : Rows.MatchRowsCardSaid :=
  Claim7.holds_tied_plain_at .later [] _ _ _ _ said (fun _ h => by cases h) (by kernel_rfl) (fun _ h => by cases h) matchRows_row_tie rfl ⟨rfl, rfl⟩ (by kernel_rfl) rfl plain (by kernel_rfl)
end Go.Proofs.YtdganhamafhfdaaDoor.matchRows
