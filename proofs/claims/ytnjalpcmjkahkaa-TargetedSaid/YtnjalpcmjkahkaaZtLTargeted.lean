/- Targeted holds for every slice of target nodes and every number. No condition. -/
import Derived.Test.YtnjalpcmjkahkaaZt45
import Derived.Test.YtnjalpcmjkahkaaRows
import Derived.WalkKit
import Derived.ProofKit
import Derived.OpenShut
import Derived.ShutString
import Derived.ChangeOld
import Derived.Below
import Derived.SizedLaws
import Derived.Carry
import Derived.Lib.SmallJoins
set_option maxRecDepth 100000
set_option maxHeartbeats 8000000
namespace Go.Proofs.Ytnjalpcmjkahkaa.targeted
open Go.ChangeShapes Go.WideShapes Go.ChangeAt Go.RowKit
open Go.ChangeMaps (open_string shut_string)
set_option linter.unusedVariables false
set_option linter.unusedSimpArgs false
theorem walk (p : Option Addr) (n c : Nat) (ts : List Tg) (fuel : Int) (w : World) (w0 : TArg w p n ts) (hl : n * 72 ≤ 140737488351232) (b1 : -9223372036854775808 ≤ fuel ∧ fuel ≤ 9223372036854775807) :
  Calls Try.prog 3 #[.slice p n c, .int .i64 fuel] w fun e w' => e = .returned (.bool true) ∧ Below w.heap.size w w' := by
 have hE := runV_err ts fuel
 have hn := Lib.hid w0.1
 have w0' := Lib.hid w0; clear w0
 have hra := Lib.hid fun (T cp : Nat) (W : World) (h : Hid (TgSl W T 0 ts)) (hT : T < W.heap.size) => Run_any T 0 cp ts W fuel h hT (by rw [hn.out]; omega) b1
 have hrb := Lib.hid fun (W : World) (h : Hid (TArg W p n ts)) => RunT_arg p n c ts W fuel h (by omega)
 obtain ⟨⟨⟨⟨o1, o2⟩, j⟩, e⟩, hV⟩ : ∃ x, runV ts fuel = x := ⟨_, rfl⟩
 rw [hV] at hra hrb hE
 dsimp only at hE
 have hrr : runR (((o1, o2), j), e) = .tuple #[.agg #[.int .i64 o1, .int .i64 o2], .int .i64 j, .int .i64 e] := rfl
 unfold RunP at hra hrb
 rw [hrr] at hra hrb
 clear hV hrr b1
 go_enter Try.func3, Try.ntmps3
 go_wp2_with fail
 refine (lend_arg p n c ts _ w0' hl).mono ?_
 rintro e1 w1 ⟨g, cap, rfl, hcap, hg, hg1, hsl, hb1⟩
 have hsl1 := Lib.hid hsl; clear hsl
 have hslT := Lib.hid (tgSl_app hsl1.out).1
 go_wp2_with fail
 refine (hra.out g cap _ hslT hg1).mono ?_
 rintro e2 w2 ⟨rfl, hb2⟩
 have hg2 : g < w2.heap.size := by have := hb2.size; omega
 go_wp2_with fail
 have hb22 : Below w2.heap.size w2 (w2.alloc (.cells #[.int .i64 o1, .int .i64 o2] 25)) := below_alc _ _
 have hA2 : Hid (TArg (w2.alloc (.cells #[.int .i64 o1, .int .i64 o2] 25)) p n ts) := Lib.hid (w0'.out.below (belT hb1 (belT hb2 hb22)) (Nat.le_refl _))
 refine (hrb.out _ hA2).mono ?_
 rintro e3 w3 ⟨rfl, hb3⟩
 have a0 : w3.cell? ⟨w2.heap.size, 0, none⟩ = some (.int .i64 o1) := carry hb3 (by simp) (by simp [go_sem])
 have a1 : w3.cell? ⟨w2.heap.size, 1, none⟩ = some (.int .i64 o2) := carry hb3 (by simp) (by simp [go_sem])
 have al : w2.heap.size < w3.heap.size := Nat.lt_of_lt_of_le (by simp) hb3.size
 have hb23 := Lib.hid (belT hb22 hb3)
 clear hb3 hb22 hra hrb
 go_wp2_with fail
 refine (num_any _ _ (by omega) (by omega)).mono ?_
 rintro e4 w' ⟨rfl, rfl⟩
 go_wp2_with fail
 have hb34 := below_alc w3 (.cells #[.int .i64 o1, .int .i64 o2] 25)
 have hb24 := belT hb2 (belT hb23.out hb34)
 refine (kept_arg p n c g cap ts _ (Lib.hid (w0'.out.below (belT hb1 hb24) (Nat.le_refl _))) hl hcap (Lib.hid (hsl1.out.below hb24 hg1)) (Nat.lt_of_lt_of_le hg1 hb24.size)).mono ?_
 rintro e5 w5 ⟨rfl, hb5⟩
 go_wp2_with fail
 refine (awake21_any _).mono ?_
 rintro e6 w6 ⟨rfl, hb6⟩
 go_wp2_with fail
 go_ret
 exact ⟨rfl, belT hb1 (belT hb24 (belT hb5 hb6))⟩
theorem own : ownKnob Try.prog.godebug = none := by kernel_rfl
theorem laidOut : laidOutB Try.prog = true := by kernel_rfl
theorem lifted (os : Os) (started : os.Started) (H : Type) (enc : TypeId × Value → H) :
  ReturnsInHanded {} Try.checked os 3 .any (Rows.targetedSpec.pre6 enc Try.prog Try.f3 Rows.targetedRow.domain false) (Rows.targetedSpec.post enc Try.prog Try.f3 false true false false) := by
 refine returnsInHanded_of_change_sized (C := Try.checked) own started (by kernel_rfl) Try.func3
  (ChangeSpec.witness6 (enc := enc) (C := Try.checked) false ⟨#[], #[.slice none 0 0, .int .i64 0], []⟩ 8 (by kernel_rfl) (by kernel_rfl) (by kernel_rfl) (by kernel_rfl)) ?_
 intro W base args ds gs before hval0 hW hcnd hsz0 _
 have hval : ∀ (j : Nat) t v, Try.f3.params[j]? = some t → args[j]? = some v → Value.okWide Try.prog W .any base t v := hval0
 have hsz : (DataW.weightsEach Try.prog (Try.f3.params.toList ++ Rows.targetedSpec.plain.varTypes Try.prog) (ds ++ gs)).all (· ≤ reachBytes) = true := hsz0
 have hW' := hW
 obtain ⟨p, q, hA0, hV, rfl, hfz, hnd⟩ := hW
 have hA : DataW.TrodAll enc Try.prog W 0 (fun _ => true) true Try.f3.params.toList args.toList ds p := hA0
 rw [Try.params3] at hA hval hsz
 obtain ⟨v0, vs0, d0, ds0, p0, q0, hargs, rfl, rfl, h0, r0⟩ := trodAll_cons hA
 obtain ⟨v1, vs1, d1, ds1, p1, q1, rfl, rfl, rfl, h1, r1⟩ := trodAll_cons r0
 obtain ⟨rfl, rfl, rfl⟩ := trodAll_nil r1
 obtain rfl : args = #[v0, v1] := by cases args; simp_all
 obtain ⟨rfl, rfl⟩ := trodVars_none hV
 obtain ⟨a0, n0, c0, rfl⟩ := okWide_slice Try.underlying22 (hval 0 22 v0 rfl rfl)
 have k0 := h0
 have lt0 : ∀ x ∈ p0, x.block < W.heap.size := by obtain ⟨m, hm⟩ := k0; exact DataW.trod_lt m _ _ _ hm
 have hzT0 : n0 * 72 ≤ 140737488351232 := by
  obtain ⟨fu, hf⟩ := h0
  simp only [Value.cells] at hf
  rcases slice_len Try.underlying22 hf with h0 | ⟨el, sp, hd, hel⟩
  ·omega
  ·have := sized_slice hsz (j := 0) (t := 22) (e := 37) rfl (by rw [hd]; rfl) Try.underlying22
   rw [show Try.prog.bytesOf 37 = 72 from by kernel_rfl, Nat.add_mul] at this
   simp only [reachBytes] at this
   omega
 obtain ⟨t0, w0⟩ : ∃ ts, TArg W a0 n0 ts := by
  obtain ⟨fu, hf⟩ := h0
  simp only [Value.cells] at hf
  rcases int_rows (K := 9) Try.underlying22 Try.underlying37 (by kernel_rfl) (by kernel_rfl) (by kernel_rfl) (by decide) (by intro j f h; have hj : j < 9 := (Array.getElem?_eq_some_iff.1 h).1; have hjs : j = 0 ∨ j = 1 ∨ j = 2 ∨ j = 3 ∨ j = 4 ∨ j = 5 ∨ j = 6 ∨ j = 7 ∨ j = 8 := (by omega); rcases hjs with rfl | rfl | rfl | rfl | rfl | rfl | rfl | rfl | rfl <;> (simp at h; subst h; exact Try.underlying3)) hf with h0 | ⟨b, off, rfl, hc⟩
  ·exact ⟨[], by rw [h0]; rfl, .inl h0⟩
  ·by_cases h0 : n0 = 0
   ·exact ⟨[], by rw [h0]; rfl, .inl h0⟩
   obtain ⟨ts, hts, hs⟩ := sl_of_cells W b off n0 hc
   have hb := World.block_lt_of_cell? _ _ (hs 0 (by omega)).1
   exact ⟨ts, hts, .inr ⟨b, off, rfl, hs, hb⟩⟩
 obtain ⟨a1, rfl, rfl, rfl, m1⟩ := open_int Try.underlying3 (hval 1 3 v1 rfl rfl) h1
 have w1 : -9223372036854775808 ≤ a1 ∧ a1 ≤ 9223372036854775807 := by simpa [Lit.wf, IntKind.min, IntKind.max, IntKind.signed, IntKind.bits] using m1
 clear hA0 hval0
 refine (walk a0 n0 c0 t0 a1 W w0 hzT0 w1).mono fun e W' ⟨he, bel⟩ => ?_
 subst he
 exact ⟨_, rfl, _, _, _, [], _, [], hW', trodAll_mk1 (shut_bool Try.underlying4 _), (trodAll_cons_mk (Below.trod laidOut (by kernel_rfl) (of_decide_eq_true (by kernel_rfl)) k0 bel lt0) (trodAll_cons_mk (shut_int Try.underlying3 m1) trodAll_mk0)), rfl, bel.frame _, fun h => by cases h⟩
theorem over : Rows.targetedRow.holds Try.pinned (OpenSpec.ofChange Rows.targetedSpec) :=
 OpenClaim.holds_of_wide 3 Try.f3 rfl rfl rfl rfl rfl rfl rfl ⟨rfl, rfl, rfl, rfl, rfl⟩ rfl rfl rfl rfl rfl (by kernel_rfl) Try.func3 (by kernel_rfl)
  (of_decide_eq_true (by kernel_rfl)) (by unfold Func.isWrapper; first | (rw [if_pos (by decide +kernel)]; kernel_rfl) | (rw [if_neg (by decide +kernel)]; exact ⟨rfl, rfl⟩))
  (fun os started H enc _ => lifted os started H enc)
theorem proved : Rows.TargetedSaid := over
end Go.Proofs.Ytnjalpcmjkahkaa.targeted
