/- SourceWalk holds for every text. No condition. -/
import Derived.Test.YtbbhnohecbhjmaaSrcE
import Derived.Test.YtbbhnohecbhjmaaRows
import Derived.WalkKit
import Derived.ProofKit
import Derived.OpenShut
import Derived.ShutString
import Derived.ChangeOld
import Derived.Below
import Derived.SizedLaws
namespace Go.Proofs.Ytbbhnohecbhjmaa.sourceWalk
open Go.ChangeShapes Go.WideShapes Go.ChangeAt Go.RowKit
open Go.ChangeMaps (open_string shut_string)
set_option linter.unusedVariables false

set_option maxHeartbeats 400000 in
theorem walk (a0 : ByteArray) (w0 : a0.size ≤ 140737488351232) (w : World) :
    Calls Try.prog 7 #[.string a0] w fun e w' => e = .returned (.bool true) ∧ Below w.heap.size w w' := by
  have hs : a0.size ≤ 1125899906842624 := by omega
  go_enter Try.func7, Try.ntmps7
  go_wp2_with fail
  refine (awake_any _).mono ?_
  rintro e w' ⟨rfl, rfl⟩
  go_wp2_with fail
  refine (valid_any _ _ hs).mono ?_
  rintro e w' ⟨rfl, rfl⟩
  obtain ⟨⟨b, v⟩, hbv⟩ : ∃ p, vaV a0 = p := ⟨_, rfl⟩
  rw [hbv]
  have hbv' := Lib.hid hbv; clear hbv
  simp only []
  go_wp2_with fail
  go_loop [5] (fun i => ∃ k : Nat, k ≤ a0.size ∧ i = .int .i64 k ∧ Hid (vaAt a0 k = vaV a0)) (fun i => a0.size - (intOf i).toNat)
  case atStart => exact ⟨0, by omega, rfl, Lib.hid (vaV_eq a0).symm⟩
  case round =>
    obtain ⟨k, hk, rfl, hv⟩ := hrel
    by_cases hlt : k < a0.size
    · go_wp2_with fail
      refine (width_any _ _ _ hs (by omega) (by omega)).mono ?_
      rintro e w' ⟨rfl, rfl⟩
      have hw := widF_bd a0 k
      by_cases hz : widF a0 k = 0
      · have hx : vaV a0 = ((k : Int), false) := by rw [← hv.out, vaAt_bad hlt hz]
        rw [hbv'.out] at hx
        injection hx with hx1 hx2
        have he : wdE a0 k = 100 := by unfold wdE; rw [wd_in hlt, hz]; rfl
        rw [he, wd_in hlt, hx1, hx2]
        clear he hz hx1 hx2 hw
        go_wp2_with (go_at_call 12; refine (num_any _ _ (by omega) (by omega)).mono ?_; rintro e w' ⟨rfl, rfl⟩)
        go_ret
        exact ⟨rfl, Below.refl _ _⟩
      · have he : wdE a0 k = 0 := by unfold wdE; rw [wd_in hlt, if_pos (by omega)]
        obtain ⟨n, hn⟩ := Int.eq_ofNat_of_zero_le hw.1
        have hst := Lib.hid (vaAt_step hlt hz)
        rw [he, wd_in hlt]
        rw [hn] at hw hst ⊢
        have hn1 : 1 ≤ n := by omega
        have hn' := Lib.hid hn; clear hn hz he
        go_wp2_with (go_at_call 12; refine (num_any _ _ (by omega) (by omega)).mono ?_; rintro e w' ⟨rfl, rfl⟩)
        go_round
        case rel => exact ⟨k + n, by omega, by go_num, Lib.hid (by rw [← hv.out, hst.out]; simp)⟩
        case measure => simp [intOf]; omega
    · have hx : vaV a0 = (0, true) := by rw [← hv.out, vaAt_end (by omega)]
      rw [hbv'.out] at hx
      injection hx with hx1 hx2
      subst hx1 hx2
      go_wp2
      go_ret
      exact ⟨rfl, Below.refl _ _⟩

theorem own : ownKnob Try.prog.godebug = none := by kernel_rfl
theorem laidOut : laidOutB Try.prog = true := by kernel_rfl
set_option maxRecDepth 100000 in
theorem lifted (os : Os) (started : os.Started) (H : Type) (enc : TypeId × Value → H) :
    ReturnsInHanded {} Try.checked os 7 .any (Rows.sourceWalkSpec.pre6 enc Try.prog Try.f7 Rows.sourceWalkRow.domain false) (Rows.sourceWalkSpec.post enc Try.prog Try.f7 false true false false) := by
  refine returnsInHanded_of_change_sized (C := Try.checked) own started (by kernel_rfl) Try.func7
    (ChangeSpec.witness6 (enc := enc) (C := Try.checked) false ⟨#[], #[.string ByteArray.empty], []⟩ 8 (by kernel_rfl) (by kernel_rfl) (by kernel_rfl) (by kernel_rfl)) ?_
  intro W base args ds gs before hval0 hW hcnd hsz0 _
  have hval : ∀ (j : Nat) t v, Try.f7.params[j]? = some t → args[j]? = some v → Value.okWide Try.prog W .any base t v := hval0
  have hsz : (DataW.weightsEach Try.prog (Try.f7.params.toList ++ Rows.sourceWalkSpec.plain.varTypes Try.prog) (ds ++ gs)).all (· ≤ reachBytes) = true := hsz0
  have hW' := hW
  obtain ⟨p, q, hA0, hV, rfl, hfz, hnd⟩ := hW
  have hA : DataW.TrodAll enc Try.prog W 0 (fun _ => true) true Try.f7.params.toList args.toList ds p := hA0
  rw [Try.params7] at hA hval hsz
  obtain ⟨v0, vs0, d0, ds0, p0, q0, hargs, rfl, rfl, h0, r0⟩ := trodAll_cons hA
  obtain ⟨rfl, rfl, rfl⟩ := trodAll_nil r0
  obtain rfl : args = #[v0] := by cases args; simp_all
  obtain ⟨rfl, rfl⟩ := trodVars_none hV
  obtain ⟨a0, rfl, rfl, rfl, m0⟩ := open_string Try.underlying9 (hval 0 9 v0 rfl rfl) h0
  have w0 : a0.size ≤ 140737488351232 := by
    have := sized_string hsz (j := 0) (t := 9) rfl rfl
    simp [reachBytes] at this; omega
  clear hA0 hval0
  refine (walk a0 w0 W).mono fun e W' ⟨he, bel⟩ => ?_
  subst he
  exact ⟨_, rfl, _, _, _, [], [], [], hW', trodAll_mk1 (shut_bool Try.underlying4 _), (trodAll_cons_mk (shut_string Try.underlying9 m0) trodAll_mk0), rfl, bel.frame _, fun h => by cases h⟩
theorem over : Rows.sourceWalkRow.holds Try.pinned (OpenSpec.ofChange Rows.sourceWalkSpec) :=
  OpenClaim.holds_of_wide 7 Try.f7 rfl rfl rfl rfl rfl rfl rfl ⟨rfl, rfl, rfl, rfl, rfl⟩ rfl rfl rfl rfl rfl (by kernel_rfl) Try.func7 (by kernel_rfl)
    (of_decide_eq_true (by kernel_rfl)) (by unfold Func.isWrapper; first | (rw [if_pos (by decide +kernel)]; kernel_rfl) | (rw [if_neg (by decide +kernel)]; exact ⟨rfl, rfl⟩))
    (fun os started H enc _ => lifted os started H enc)
theorem proved : Rows.SourceWalkSaid := over
end Go.Proofs.Ytbbhnohecbhjmaa.sourceWalk
