/- Targets holds for every slice of target nodes. No condition. -/
import Derived.Test.YtohgiapngmocgaaTgO
import Derived.Test.YtohgiapngmocgaaRows
import Derived.WalkKit
import Derived.ProofKit
import Derived.OpenShut
import Derived.ShutString
import Derived.ChangeOld
import Derived.Below
import Derived.SizedLaws
import Derived.Carry
import Derived.Lib.SmallJoins
namespace Go.Proofs.Ytohgiapngmocgaa.targets
open Go.ChangeShapes Go.WideShapes Go.ChangeAt Go.RowKit
open Go.ChangeMaps (open_string shut_string)
set_option linter.unusedVariables false

set_option maxHeartbeats 1000000 in
set_option maxRecDepth 100000 in
theorem walk (p : Option Addr) (n c : Nat) (ts : List Tg) (w : World) (w0 : TArg w p n ts) (hl : n * 72 ≤ 140737488351232) :
    Calls Try.prog 3 #[.slice p n c] w fun e w' => e = .returned (.bool true) ∧ Below w.heap.size w w' := by
  have hE : 0 ≤ namE ts ∧ namE ts ≤ 1900 := by unfold namE; split <;> omega
  have hn := Lib.hid w0.1
  have w0' := Lib.hid w0; clear w0
  go_enter Try.func3, Try.ntmps3
  go_wp2_with fail
  refine (lend_arg p n c ts _ w0' hl).mono ?_
  rintro e w1 ⟨g, cap, rfl, hcap, hg, hg1, hsl, hb1⟩
  have hsl1 := Lib.hid hsl; clear hsl
  have hslT := Lib.hid (tgSl_app hsl1.out).1
  have hlt : ts.length ≤ 140737488351232 := by rw [hn.out]; omega
  go_wp2_with fail
  refine (Names_any g 0 cap ts _ hslT hg1 hlt).mono ?_
  rintro e w2 ⟨rfl, hb2⟩
  have hg2 : g < w2.heap.size := by have := hb2.size; omega
  have hA2 : Hid (TArg w2 p n ts) := Lib.hid (w0'.out.below (belT hb1 hb2) (Nat.le_refl _))
  go_wp2_with fail
  refine (rNames_arg p n c ts _ hA2 (by omega)).mono ?_
  rintro e w3 ⟨rfl, hb3⟩
  have hsl3 := Lib.hid ((hslT.out.below hb2 hg1).below hb3 hg2)
  have hg3 : g < w3.heap.size := by have := hb3.size; omega
  go_wp2_with fail
  refine (num_any _ _ (by omega) (by omega)).mono ?_
  rintro e w' ⟨rfl, rfl⟩
  go_wp2_with fail
  refine (may_any g 0 cap ts _ hsl3 hg3 hlt).mono ?_
  rintro e w4 ⟨rfl, hb4⟩
  have hb14 := belT hb1 (belT hb2 (belT hb3 hb4))
  have hA4 : Hid (TArg w4 p n ts) := Lib.hid (w0'.out.below hb14 (Nat.le_refl _))
  go_wp2_with fail
  refine (rmay_arg p n c ts _ hA4 (by omega)).mono ?_
  rintro e w5 ⟨rfl, hb5⟩
  have hb25 := belT hb2 (belT hb3 (belT hb4 hb5))
  have hA5 : Hid (TArg w5 p n ts) := Lib.hid (w0'.out.below (belT hb1 hb25) (Nat.le_refl _))
  have hsl5 := Lib.hid (hsl1.out.below hb25 hg1)
  have hg5 : g < w5.heap.size := by have := hb25.size; omega
  go_wp2_with fail
  refine (kept_arg p n c g cap ts _ hA5 hl hcap hsl5 hg5).mono ?_
  rintro e w6 ⟨rfl, hb6⟩
  go_wp2_with fail
  refine (awake_any _).mono ?_
  rintro e w7 ⟨rfl, hb7⟩
  go_wp2_with fail
  go_ret
  exact ⟨rfl, belT hb1 (belT hb25 (belT hb6 hb7))⟩

theorem own : ownKnob Try.prog.godebug = none := by kernel_rfl
theorem laidOut : laidOutB Try.prog = true := by kernel_rfl
set_option maxRecDepth 100000 in
theorem lifted (os : Os) (started : os.Started) (H : Type) (enc : TypeId × Value → H) :
    ReturnsInHanded {} Try.checked os 3 .any (Rows.targetsSpec.pre6 enc Try.prog Try.f3 Rows.targetsRow.domain false) (Rows.targetsSpec.post enc Try.prog Try.f3 false true false false) := by
  refine returnsInHanded_of_change_sized (C := Try.checked) own started (by kernel_rfl) Try.func3
    (ChangeSpec.witness6 (enc := enc) (C := Try.checked) false ⟨#[], #[.slice none 0 0], []⟩ 8 (by kernel_rfl) (by kernel_rfl) (by kernel_rfl) (by kernel_rfl)) ?_
  intro W base args ds gs before hval0 hW hcnd hsz0 _
  have hval : ∀ (j : Nat) t v, Try.f3.params[j]? = some t → args[j]? = some v → Value.okWide Try.prog W .any base t v := hval0
  have hsz : (DataW.weightsEach Try.prog (Try.f3.params.toList ++ Rows.targetsSpec.plain.varTypes Try.prog) (ds ++ gs)).all (· ≤ reachBytes) = true := hsz0
  have hW' := hW
  obtain ⟨p, q, hA0, hV, rfl, hfz, hnd⟩ := hW
  have hA : DataW.TrodAll enc Try.prog W 0 (fun _ => true) true Try.f3.params.toList args.toList ds p := hA0
  rw [Try.params3] at hA hval hsz
  obtain ⟨v0, vs0, d0, ds0, p0, q0, hargs, rfl, rfl, h0, r0⟩ := trodAll_cons hA
  obtain ⟨rfl, rfl, rfl⟩ := trodAll_nil r0
  obtain rfl : args = #[v0] := by cases args; simp_all
  obtain ⟨rfl, rfl⟩ := trodVars_none hV
  obtain ⟨a0, n0, c0, rfl⟩ := okWide_slice Try.underlying22 (hval 0 22 v0 rfl rfl)
  have k0 := h0
  have lt0 : ∀ x ∈ p0, x.block < W.heap.size := by obtain ⟨m, hm⟩ := k0; exact DataW.trod_lt m _ _ _ hm
  have hsz0 : n0 * 72 ≤ 140737488351232 := by
    obtain ⟨fu, hf⟩ := h0
    simp only [Value.cells] at hf
    rcases slice_len Try.underlying22 hf with h0 | ⟨el, sp, hd, hel⟩
    · omega
    · have := sized_slice hsz (j := 0) (t := 22) (e := 34) rfl (by rw [hd]; rfl) Try.underlying22
      rw [show Try.prog.bytesOf 34 = 72 from by kernel_rfl, Nat.add_mul] at this
      simp only [reachBytes] at this
      omega
  obtain ⟨t0, w0⟩ : ∃ ts, TArg W a0 n0 ts := by
    obtain ⟨fu, hf⟩ := h0
    simp only [Value.cells] at hf
    rcases int_rows (K := 9) Try.underlying22 Try.underlying34 (by kernel_rfl) (by kernel_rfl) (by kernel_rfl) (by decide) (by intro j f h; have hj : j < 9 := (Array.getElem?_eq_some_iff.1 h).1; have hjs : j = 0 ∨ j = 1 ∨ j = 2 ∨ j = 3 ∨ j = 4 ∨ j = 5 ∨ j = 6 ∨ j = 7 ∨ j = 8 := (by omega); rcases hjs with rfl | rfl | rfl | rfl | rfl | rfl | rfl | rfl | rfl <;> (simp at h; subst h; exact Try.underlying3)) hf with h0 | ⟨b, off, rfl, hc⟩
    · exact ⟨[], by rw [h0]; rfl, .inl h0⟩
    · by_cases h0 : n0 = 0
      · exact ⟨[], by rw [h0]; rfl, .inl h0⟩
      obtain ⟨ts, hts, hs⟩ := sl_of_cells W b off n0 hc
      have hb := World.block_lt_of_cell? _ _ (hs 0 (by omega)).1
      exact ⟨ts, hts, .inr ⟨b, off, rfl, hs, hb⟩⟩
  clear hA0 hval0
  refine (walk a0 n0 c0 t0 W w0 hsz0).mono fun e W' ⟨he, bel⟩ => ?_
  subst he
  exact ⟨_, rfl, _, _, _, [], _, [], hW', trodAll_mk1 (shut_bool Try.underlying4 _), (trodAll_cons_mk (Below.trod laidOut (by kernel_rfl) (of_decide_eq_true (by kernel_rfl)) k0 bel lt0) trodAll_mk0), rfl, bel.frame _, fun h => by cases h⟩
theorem over : Rows.targetsRow.holds Try.pinned (OpenSpec.ofChange Rows.targetsSpec) :=
  OpenClaim.holds_of_wide 3 Try.f3 rfl rfl rfl rfl rfl rfl rfl ⟨rfl, rfl, rfl, rfl, rfl⟩ rfl rfl rfl rfl rfl (by kernel_rfl) Try.func3 (by kernel_rfl)
    (of_decide_eq_true (by kernel_rfl)) (by unfold Func.isWrapper; first | (rw [if_pos (by decide +kernel)]; kernel_rfl) | (rw [if_neg (by decide +kernel)]; exact ⟨rfl, rfl⟩))
    (fun os started H enc _ => lifted os started H enc)
theorem proved : Rows.TargetsSaid := over
end Go.Proofs.Ytohgiapngmocgaa.targets
