/- TargetFuel holds for every slice of target nodes and every two numbers. No condition. -/
import Derived.Test.YtnjalpcmjkahkaaRmW
import Derived.Test.YtnjalpcmjkahkaaRows
import Derived.WalkKit
import Derived.ProofKit
import Derived.OpenShut
import Derived.ShutString
import Derived.ChangeOld
import Derived.Below
import Derived.SizedLaws
import Derived.Carry
import Derived.Lib.SmallJoins
namespace Go.Proofs.Ytnjalpcmjkahkaa.targetFuel
open Go.ChangeShapes Go.WideShapes Go.ChangeAt Go.RowKit
open Go.ChangeMaps (open_string shut_string)
set_option linter.unusedVariables false
set_option linter.unusedSimpArgs false

theorem more {ts : List Tg} {k d : Int} (hk : 0 ≤ k ∧ k < 1024) (hd : 0 ≤ d ∧ d < 1024) (hm : mayV ts = true) : ∃ o1 o2 i p1 p2 j, runV ts k = (((o1, o2), i), 0) ∧ runV ts (k + d) = (((p1, p2), j), 0) ∧ ((i : Int) ≤ k ∧ i ≤ j) ∧ (o1 = 4 ∨ (p1 = o1 ∧ p2 = o2 ∧ j = i)) ∧ j ≤ 4096 := by
  unfold runV
  rw [if_pos ⟨hm, by omega, by omega⟩, if_pos ⟨hm, by omega, by omega⟩]
  obtain ⟨h1, h2, h3, h4⟩ := rRun_more ts (furV ts) k.toNat d.toNat 0 (.ev [] ((ts.length : Int) - 1) .nil)
  have h5 := (rRun_more ts (furV ts) (k + d).toNat 0 0 (.ev [] ((ts.length : Int) - 1) .nil)).2.1
  rw [show k.toNat + d.toNat = (k + d).toNat by omega] at h3 h4
  generalize rRun ts (furV ts) k.toNat 0 (.ev [] ((ts.length : Int) - 1) .nil) = X at *
  generalize rRun ts (furV ts) (k + d).toNat 0 (.ev [] ((ts.length : Int) - 1) .nil) = Y at *
  obtain ⟨⟨o1, o2⟩, i⟩ := X
  obtain ⟨⟨p1, p2⟩, j⟩ := Y
  refine ⟨o1, o2, i, p1, p2, j, rfl, rfl, ⟨by dsimp only at h2; omega, h3⟩, ?_, by dsimp only at h5; omega⟩
  rcases h4 with h4 | h4
  · left; injection h4
  · right
    injection h4 with h5 h6
    injection h5 with h5 h7
    exact ⟨h5, h7, h6⟩
theorem none_ {ts : List Tg} {k : Int} (hm : mayV ts = false) : runV ts k = (((0, 0), 0), 2100) := by
  unfold runV; rw [if_neg (by rw [hm]; simp)]

set_option maxHeartbeats 2000000 in
set_option maxRecDepth 100000 in
theorem walk (p : Option Addr) (n c : Nat) (ts : List Tg) (a1 a2 : Int) (w : World) (w0 : TArg w p n ts) (hl : n * 72 ≤ 140737488351232) (b1 : -9223372036854775808 ≤ a1 ∧ a1 ≤ 9223372036854775807) (b2 : -9223372036854775808 ≤ a2 ∧ a2 ≤ 9223372036854775807) :
    Calls Try.prog 4 #[.slice p n c, .int .i64 a1, .int .i64 a2] w fun e w' => e = .returned (.bool true) ∧ Below w.heap.size w w' := by
  have hk := and1023 a1
  have hk2 := and1023 a2
  obtain ⟨k, hk0⟩ : ∃ k, a1 % 1024 = k := ⟨_, rfl⟩
  obtain ⟨d, hd0⟩ : ∃ d, a2 % 1024 = d := ⟨_, rfl⟩
  rw [hk0] at hk
  rw [hd0] at hk2
  have hkb : 0 ≤ k ∧ k < 1024 := by omega
  have hdb : 0 ≤ d ∧ d < 1024 := by omega
  have wk : IntKind.i64.wrap (k + d) = k + d := IntWalk.i64_in _ (by omega)
  clear hk0 hd0 b1 b2
  have w0' := Lib.hid w0; clear w0
  cases hm : mayV ts with
  | false =>
    have hv1 := none_ (k := k) hm
    have hv2 := none_ (k := k + d) hm
    have hr1 := Lib.hid fun (W : World) (hb : Below w.heap.size w W) => Run_arg p n c ts W k (Lib.hid (w0'.out.below hb (Nat.le_refl _))) (by omega) (by omega)
    have hr2 := Lib.hid fun (W : World) (hb : Below w.heap.size w W) => Run_arg p n c ts W (k + d) (Lib.hid (w0'.out.below hb (Nat.le_refl _))) (by omega) (by omega)
    rw [hv1] at hr1
    rw [hv2] at hr2
    clear hv1 hv2 hm
    go_enter Try.func4, Try.ntmps4
    go_wp2_with fail
    refine (awake21_any _).mono ?_
    rintro e w1 ⟨rfl, hb1⟩
    go_wp2_with fail
    refine (hr1.out _ hb1).mono ?_
    rintro e w2 ⟨rfl, hb2⟩
    have hW2 := Lib.hid (belT hb1 hb2)
    rw [show runR (((0, 0), 0), 2100) = .tuple #[.agg #[.int .i64 0, .int .i64 0], .int .i64 0, .int .i64 2100] from rfl]
    go_wp2_with fail
    refine (hr2.out _ (belT hW2.out (by (repeat' (first | with_reducible exact Below.refl _ _ | with_reducible assumption | with_reducible apply Below.setCell | with_reducible apply Below.alloc | with_reducible apply Below.drew | with_reducible apply below_drewN | with_reducible exact Nat.le_refl _ | (simp; done) | (simp; omega) | omega | exact Nat.le_refl _))))).mono ?_
    rintro e w3 ⟨rfl, hb3⟩
    rw [show runR (((0, 0), 0), 2100) = .tuple #[.agg #[.int .i64 0, .int .i64 0], .int .i64 0, .int .i64 2100] from rfl]
    have o0 : w3.cell? ⟨w2.heap.size, 0, none⟩ = some (.int .i64 0) := carry hb3 (by simp) (by simp [go_sem])
    have o1 : w3.cell? ⟨w2.heap.size, 1, none⟩ = some (.int .i64 0) := carry hb3 (by simp) (by simp [go_sem])
    have hl : w2.heap.size < w3.heap.size := Nat.lt_of_lt_of_le (by simp) hb3.size
    have hW3 := Lib.hid (belT (belT hW2.out (show Below w2.heap.size w2 _ from by (repeat' (first | with_reducible exact Below.refl _ _ | with_reducible assumption | with_reducible apply Below.setCell | with_reducible apply Below.alloc | with_reducible apply Below.drew | with_reducible apply below_drewN | with_reducible exact Nat.le_refl _ | (simp; done) | (simp; omega) | omega | exact Nat.le_refl _)))) hb3)
    clear hb1 hb2 hb3 hr1 hr2
    go_wp2_with ((go_at_call 10; refine (num_any _ _ (by omega) (by omega)).mono ?_; rintro e w' ⟨rfl, rfl⟩))
    go_ret
    exact ⟨rfl, belT hW3.out (by (repeat' (first | with_reducible exact Below.refl _ _ | with_reducible assumption | with_reducible apply Below.setCell | with_reducible apply Below.alloc | with_reducible apply Below.drew | with_reducible apply below_drewN | with_reducible exact Nat.le_refl _ | (simp; done) | (simp; omega) | omega | exact Nat.le_refl _)))⟩
  | true =>
    obtain ⟨o1, o2, i, p1, p2, j, hv1, hv2, ⟨hi, hij⟩, ho, hj4⟩ := more hkb hdb hm
    have hr1 := Lib.hid fun (W : World) (hb : Below w.heap.size w W) => Run_arg p n c ts W k (Lib.hid (w0'.out.below hb (Nat.le_refl _))) (by omega) (by omega)
    have hr2 := Lib.hid fun (W : World) (hb : Below w.heap.size w W) => Run_arg p n c ts W (k + d) (Lib.hid (w0'.out.below hb (Nat.le_refl _))) (by omega) (by omega)
    rw [hv1] at hr1
    rw [hv2] at hr2
    have hik : decide (k < (i : Int)) = false := decide_eq_false (by omega)
    have hji : decide ((j : Int) < (i : Int)) = false := decide_eq_false (by omega)
    clear hv1 hv2 hm
    go_enter Try.func4, Try.ntmps4
    go_wp2_with fail
    refine (awake21_any _).mono ?_
    rintro e w1 ⟨rfl, hb1⟩
    go_wp2_with fail
    refine (hr1.out _ hb1).mono ?_
    rintro e w2 ⟨rfl, hb2⟩
    have hW2 := Lib.hid (belT hb1 hb2)
    rw [show runR (((o1, o2), i), 0) = .tuple #[.agg #[.int .i64 o1, .int .i64 o2], .int .i64 i, .int .i64 0] from rfl]
    go_wp2_with fail
    refine (hr2.out _ (belT hW2.out (by (repeat' (first | with_reducible exact Below.refl _ _ | with_reducible assumption | with_reducible apply Below.setCell | with_reducible apply Below.alloc | with_reducible apply Below.drew | with_reducible apply below_drewN | with_reducible exact Nat.le_refl _ | (simp; done) | (simp; omega) | omega | exact Nat.le_refl _))))).mono ?_
    rintro e w3 ⟨rfl, hb3⟩
    rw [show runR (((p1, p2), j), 0) = .tuple #[.agg #[.int .i64 p1, .int .i64 p2], .int .i64 j, .int .i64 0] from rfl]
    have c0 : w3.cell? ⟨w2.heap.size, 0, none⟩ = some (.int .i64 o1) := carry hb3 (by simp) (by simp [go_sem])
    have c1 : w3.cell? ⟨w2.heap.size, 1, none⟩ = some (.int .i64 o2) := carry hb3 (by simp) (by simp [go_sem])
    have hl : w2.heap.size < w3.heap.size := Nat.lt_of_lt_of_le (by simp) hb3.size
    have hW3 := Lib.hid (belT (belT hW2.out (show Below w2.heap.size w2 _ from by (repeat' (first | with_reducible exact Below.refl _ _ | with_reducible assumption | with_reducible apply Below.setCell | with_reducible apply Below.alloc | with_reducible apply Below.drew | with_reducible apply below_drewN | with_reducible exact Nat.le_refl _ | (simp; done) | (simp; omega) | omega | exact Nat.le_refl _)))) hb3)
    clear hb1 hb2 hb3 hr1 hr2
    rcases ho with rfl | ⟨rfl, rfl, rfl⟩
    · go_wp2_with ((go_at_call 10; refine (num_any _ _ (by omega) (by omega)).mono ?_; rintro e w' ⟨rfl, rfl⟩))
      go_ret
      exact ⟨rfl, belT hW3.out (by (repeat' (first | with_reducible exact Below.refl _ _ | with_reducible assumption | with_reducible apply Below.setCell | with_reducible apply Below.alloc | with_reducible apply Below.drew | with_reducible apply below_drewN | with_reducible exact Nat.le_refl _ | (simp; done) | (simp; omega) | omega | exact Nat.le_refl _)))⟩
    · by_cases h4 : p1 = 4
      · subst h4
        go_wp2_with ((go_at_call 10; refine (num_any _ _ (by omega) (by omega)).mono ?_; rintro e w' ⟨rfl, rfl⟩))
        go_ret
        exact ⟨rfl, belT hW3.out (by (repeat' (first | with_reducible exact Below.refl _ _ | with_reducible assumption | with_reducible apply Below.setCell | with_reducible apply Below.alloc | with_reducible apply Below.drew | with_reducible apply below_drewN | with_reducible exact Nat.le_refl _ | (simp; done) | (simp; omega) | omega | exact Nat.le_refl _)))⟩
      · have h4b : (p1 == 4) = false := by rw [beq_eq_false_iff_ne]; exact h4
        go_wp2_with ((go_at_call 10; refine (num_any _ _ (by omega) (by omega)).mono ?_; rintro e w' ⟨rfl, rfl⟩))
        go_ret
        exact ⟨rfl, belT hW3.out (by (repeat' (first | with_reducible exact Below.refl _ _ | with_reducible assumption | with_reducible apply Below.setCell | with_reducible apply Below.alloc | with_reducible apply Below.drew | with_reducible apply below_drewN | with_reducible exact Nat.le_refl _ | (simp; done) | (simp; omega) | omega | exact Nat.le_refl _)))⟩

theorem own : ownKnob Try.prog.godebug = none := by kernel_rfl
theorem laidOut : laidOutB Try.prog = true := by kernel_rfl
set_option maxRecDepth 100000 in
theorem lifted (os : Os) (started : os.Started) (H : Type) (enc : TypeId × Value → H) :
    ReturnsInHanded {} Try.checked os 4 .any (Rows.targetFuelSpec.pre6 enc Try.prog Try.f4 Rows.targetFuelRow.domain false) (Rows.targetFuelSpec.post enc Try.prog Try.f4 false true false false) := by
  refine returnsInHanded_of_change_sized (C := Try.checked) own started (by kernel_rfl) Try.func4
    (ChangeSpec.witness6 (enc := enc) (C := Try.checked) false ⟨#[], #[.slice none 0 0, .int .i64 0, .int .i64 0], []⟩ 8 (by kernel_rfl) (by kernel_rfl) (by kernel_rfl) (by kernel_rfl)) ?_
  intro W base args ds gs before hval0 hW hcnd hsz0 _
  have hval : ∀ (j : Nat) t v, Try.f4.params[j]? = some t → args[j]? = some v → Value.okWide Try.prog W .any base t v := hval0
  have hsz : (DataW.weightsEach Try.prog (Try.f4.params.toList ++ Rows.targetFuelSpec.plain.varTypes Try.prog) (ds ++ gs)).all (· ≤ reachBytes) = true := hsz0
  have hW' := hW
  obtain ⟨p, q, hA0, hV, rfl, hfz, hnd⟩ := hW
  have hA : DataW.TrodAll enc Try.prog W 0 (fun _ => true) true Try.f4.params.toList args.toList ds p := hA0
  rw [Try.params4] at hA hval hsz
  obtain ⟨v0, vs0, d0, ds0, p0, q0, hargs, rfl, rfl, h0, r0⟩ := trodAll_cons hA
  obtain ⟨v1, vs1, d1, ds1, p1, q1, rfl, rfl, rfl, h1, r1⟩ := trodAll_cons r0
  obtain ⟨v2, vs2, d2, ds2, p2, q2, rfl, rfl, rfl, h2, r2⟩ := trodAll_cons r1
  obtain ⟨rfl, rfl, rfl⟩ := trodAll_nil r2
  obtain rfl : args = #[v0, v1, v2] := by cases args; simp_all
  obtain ⟨rfl, rfl⟩ := trodVars_none hV
  obtain ⟨a0, n0, c0, rfl⟩ := okWide_slice Try.underlying22 (hval 0 22 v0 rfl rfl)
  have k0 := h0
  have lt0 : ∀ x ∈ p0, x.block < W.heap.size := by obtain ⟨m, hm⟩ := k0; exact DataW.trod_lt m _ _ _ hm
  have hzT0 : n0 * 72 ≤ 140737488351232 := by
    obtain ⟨fu, hf⟩ := h0
    simp only [Value.cells] at hf
    rcases slice_len Try.underlying22 hf with h0 | ⟨el, sp, hd, hel⟩
    · omega
    · have := sized_slice hsz (j := 0) (t := 22) (e := 37) rfl (by rw [hd]; rfl) Try.underlying22
      rw [show Try.prog.bytesOf 37 = 72 from by kernel_rfl, Nat.add_mul] at this
      simp only [reachBytes] at this
      omega
  obtain ⟨t0, w0⟩ : ∃ ts, TArg W a0 n0 ts := by
    obtain ⟨fu, hf⟩ := h0
    simp only [Value.cells] at hf
    rcases int_rows (K := 9) Try.underlying22 Try.underlying37 (by kernel_rfl) (by kernel_rfl) (by kernel_rfl) (by decide) (by intro j f h; have hj : j < 9 := (Array.getElem?_eq_some_iff.1 h).1; have hjs : j = 0 ∨ j = 1 ∨ j = 2 ∨ j = 3 ∨ j = 4 ∨ j = 5 ∨ j = 6 ∨ j = 7 ∨ j = 8 := (by omega); rcases hjs with rfl | rfl | rfl | rfl | rfl | rfl | rfl | rfl | rfl <;> (simp at h; subst h; exact Try.underlying3)) hf with h0 | ⟨b, off, rfl, hc⟩
    · exact ⟨[], by rw [h0]; rfl, .inl h0⟩
    · by_cases h0 : n0 = 0
      · exact ⟨[], by rw [h0]; rfl, .inl h0⟩
      obtain ⟨ts, hts, hs⟩ := sl_of_cells W b off n0 hc
      have hb := World.block_lt_of_cell? _ _ (hs 0 (by omega)).1
      exact ⟨ts, hts, .inr ⟨b, off, rfl, hs, hb⟩⟩
  obtain ⟨a1, rfl, rfl, rfl, m1⟩ := open_int Try.underlying3 (hval 1 3 v1 rfl rfl) h1
  have w1 : -9223372036854775808 ≤ a1 ∧ a1 ≤ 9223372036854775807 := by simpa [Lit.wf, IntKind.min, IntKind.max, IntKind.signed, IntKind.bits] using m1
  obtain ⟨a2, rfl, rfl, rfl, m2⟩ := open_int Try.underlying3 (hval 2 3 v2 rfl rfl) h2
  have w2 : -9223372036854775808 ≤ a2 ∧ a2 ≤ 9223372036854775807 := by simpa [Lit.wf, IntKind.min, IntKind.max, IntKind.signed, IntKind.bits] using m2
  clear hA0 hval0
  refine (walk a0 n0 c0 t0 a1 a2 W w0 hzT0 w1 w2).mono fun e W' ⟨he, bel⟩ => ?_
  subst he
  exact ⟨_, rfl, _, _, _, [], _, [], hW', trodAll_mk1 (shut_bool Try.underlying4 _), (trodAll_cons_mk (Below.trod laidOut (by kernel_rfl) (of_decide_eq_true (by kernel_rfl)) k0 bel lt0) (trodAll_cons_mk (shut_int Try.underlying3 m1) (trodAll_cons_mk (shut_int Try.underlying3 m2) trodAll_mk0))), rfl, bel.frame _, fun h => by cases h⟩
theorem over : Rows.targetFuelRow.holds Try.pinned (OpenSpec.ofChange Rows.targetFuelSpec) :=
  OpenClaim.holds_of_wide 4 Try.f4 rfl rfl rfl rfl rfl rfl rfl ⟨rfl, rfl, rfl, rfl, rfl⟩ rfl rfl rfl rfl rfl (by kernel_rfl) Try.func4 (by kernel_rfl)
    (of_decide_eq_true (by kernel_rfl)) (by unfold Func.isWrapper; first | (rw [if_pos (by decide +kernel)]; kernel_rfl) | (rw [if_neg (by decide +kernel)]; exact ⟨rfl, rfl⟩))
    (fun os started H enc _ => lifted os started H enc)
theorem proved : Rows.TargetFuelSaid := over
end Go.Proofs.Ytnjalpcmjkahkaa.targetFuel
