/- TargetForms holds for every two numbers. No condition. -/
import Derived.Test.YtohgiapngmocgaaTfA
import Derived.Test.YtohgiapngmocgaaRows
import Derived.WalkKit
import Derived.ProofKit
import Derived.OpenShut
import Derived.ShutString
import Derived.ChangeOld
import Derived.Below
import Derived.SizedLaws
import Derived.Carry
import Derived.Lib.SmallJoins
namespace Go.Proofs.Ytohgiapngmocgaa.targetForms
open Go.ChangeShapes Go.WideShapes Go.ChangeAt Go.RowKit
open Go.ChangeMaps (open_string shut_string)
set_option linter.unusedVariables false

theorem badT (d : Int) (hd : 0 ≤ d) : okT ⟨2, 0, 0, 0, 1 + (1 + d), 0, 0, 0, 0⟩ = false := by
  have h : numT 2 (1 + (1 + d)) = false := by
    unfold numT
    refine decide_eq_false ?_
    rintro ⟨_, h, _⟩
    have := h rfl
    omega
  unfold okT
  rw [h]
  simp only [Bool.and_false, Bool.false_and]
theorem bad15 (d : Int) (hd : 0 ≤ d) : Hid (mayV (ts0 ++ [⟨2, 0, 0, 0, 1 + (1 + d), 0, 0, 0, 0⟩]) = false) :=
  Lib.hid (mayV_node _ 7 (Nat.lt_succ_self 7) (badT d hd))

set_option maxHeartbeats 1000000 in
set_option maxRecDepth 100000 in
theorem case15 (a0 a1 d : Int) (hd : 0 ≤ d ∧ d < 1024) (hk : bits .and .i64 a1 1023 = d) (he : (IntKind.u64.wrap a0).tmod 16 = 15) (w : World) :
    Calls Try.prog 4 #[.int .i64 a0, .int .i64 a1] w fun e w' => e = .returned (.bool true) ∧ Below w.heap.size w w' := by
  have hbad := bad15 d hd.1
  obtain ⟨i0, hi, hz0, hz1, hz2⟩ := info_parts infoT
  go_enter Try.func4, Try.ntmps4
  go_wp2_with fail
  refine (awake_any _).mono ?_
  rintro e w1 ⟨rfl, hb1⟩
  go_wp2_with fail
  have hsl0 := lit_sl w1 ts0 34 w1.heap.size rfl rfl
  refine (may_any w1.heap.size 0 7 ts0 _ (Lib.hid hsl0) (by simp) (by decide)).mono ?_
  rintro e w2 ⟨rfl, hb2⟩
  rw [show mayV ts0 = true from by decide +kernel]
  obtain ⟨hc2, hf2⟩ := bcell hb2
  have hg2 : w1.heap.size < w2.heap.size := by have := hb2.size; (try simp at this); omega
  have hsl2 := hsl0.below hb2 (by simp)
  clear hsl2
  have hblk : w2.heap[w1.heap.size]? = some (.cells (rowT ts0).toArray 34 (0, 0)) := by
    rw [hb2.block _ (by simp)]; exact heap_alloc_last w1 _
  obtain ⟨tz, htz⟩ : ∃ tz, ts0 = tz := ⟨_, rfl⟩
  have hlz : Hid ((rowT tz).length = 7 * 9 ∧ tz.length = 7) := Lib.hid (by rw [← htz]; exact ⟨rfl, rfl⟩)
  rw [htz] at hblk hbad
  have hbad' := hbad; clear hbad
  have htz' := Lib.hid htz; clear htz hsl0
  have hown : (w2.alloc (.cells (rowT [⟨2, 0, 0, 0, 1 + (1 + d), 0, 0, 0, 0⟩]).toArray 34)).ownsRow w1.heap.size 34 9 (.slice (some ⟨w1.heap.size, 0, none⟩) 7 7) 7 (rowT tz) :=
    World.ownsRow.alloc (w := w2) ⟨hlz.out.1, .inr ⟨w1.heap.size, 7, (rowT tz).toArray, rfl, Nat.le_refl _, hblk, Nat.le_refl _, by decide, by simp [hlz.out.1], List.take_of_length_le (Nat.le_of_eq hlz.out.1)⟩⟩ _
  have hown' := Lib.hid hown; clear hown hblk
  have hnews : Hid (∀ j u, (rowT [⟨2, 0, 0, 0, 1 + (1 + d), 0, 0, 0, 0⟩])[j]? = some u → (w2.alloc (.cells (rowT [⟨2, 0, 0, 0, 1 + (1 + d), 0, 0, 0, 0⟩]).toArray 34)).cell? ((⟨w2.heap.size, 0, none⟩ : Addr).add j) = some u) := Lib.hid (by
    intro j u hj
    have e : (⟨w2.heap.size, 0, none⟩ : Addr).add j = ⟨w2.heap.size, j, none⟩ := by simp [Addr.add]; try omega
    rw [e, World.cell?_alloc_new]
    simpa using hj)
  have hb12 : Below w.heap.size w w2 := belT hb1 (belT (by (repeat' (first | with_reducible exact Below.refl _ _ | with_reducible assumption | with_reducible apply Below.setCell | with_reducible apply Below.alloc | with_reducible apply Below.drew | with_reducible apply below_drewN | exact Nat.le_refl _ | (simp; done) | (simp; omega)))) hb2)
  have hb1s := hb1.size
  have hb12s := hb12.size
  go_wp2_with (at_builtin; refine wpList_append_own (w := w2.alloc (.cells (rowT [⟨2, 0, 0, 0, 1 + (1 + d), 0, 0, 0, 0⟩]).toArray 34)) rfl (.tmp 28) (.tmp 32) 22 rfl w1.heap.size 34 i0 zT 9 72 Try.underlying22 hi hz0 hz1 hz2 rfl (by decide) _ 7 (rowT tz) rfl hown'.out ⟨w2.heap.size, 0, none⟩ 1 1 (rowT [⟨2, 0, 0, 0, 1 + (1 + d), 0, 0, 0, 0⟩]) rfl (rowT_len _) hnews.out (rowT_one _) (by unfold maxLen; omega) (by omega) (by simp; omega) ?_)
  intro v' w3 hown3 hgr _
  have hbel : Below w.heap.size w w3 := (hb12.alloc (by omega) _).grown hgr (by simp; omega) (by
    intro k hk; simp [Value.ownBlock] at hk; omega)
  rw [← rowT_app] at hown3
  generalize tz ++ [(⟨2, 0, 0, 0, 1 + (1 + d), 0, 0, 0, 0⟩ : Tg)] = us at hown3 hbad'
  obtain ⟨g, cap, hv, hbg, hgl, hcap, hul, hsl⟩ := owns_sl hown3 (by omega)
  have hsl' := Lib.hid hsl
  rw [← hul] at hv
  have hl' : us.length ≤ 140737488351232 := by rw [hul]; decide
  clear hown3 hgr hsl hown' hnews hul
  rw [hv]
  clear hv
  go_wp2_with fail
  refine (Names_any g 0 cap us _ hsl' hgl hl').mono ?_
  rintro e w4 ⟨rfl, hb4⟩
  rw [(bad_end hbad'.out).1, (bad_end hbad'.out).2]
  have hg4 : g < w4.heap.size := by have := hb4.size; omega
  have hsl4 := Lib.hid (hsl'.out.below hb4 hgl)
  go_wp2_with fail
  refine (may_any g 0 cap us _ hsl4 hg4 hl').mono ?_
  rintro e w5 ⟨rfl, hb5⟩
  rw [hbad'.out]
  go_wp2_with (go_at_call 9; refine (num_any _ _ (by omega) (by omega)).mono ?_; rintro e w' ⟨rfl, rfl⟩)
  go_ret
  exact ⟨rfl, belT (belT hbel hb4) hb5⟩

theorem walk (a0 a1 : Int) (_ : -9223372036854775808 ≤ a0 ∧ a0 ≤ 9223372036854775807) (_ : -9223372036854775808 ≤ a1 ∧ a1 ≤ 9223372036854775807) (w : World) :
    Calls Try.prog 4 #[.int .i64 a0, .int .i64 a1] w fun e w' => e = .returned (.bool true) ∧ Below w.heap.size w w' := by
  obtain ⟨m, hm0, hm1, he⟩ := umod_u a0 16 (by decide)
  have hk := and1023 a1
  have hd : 0 ≤ a1 % 1024 ∧ a1 % 1024 < 1024 := by omega
  generalize a1 % 1024 = d at hk hd
  have hcs : m = 0 ∨ m = 1 ∨ m = 2 ∨ m = 3 ∨ m = 4 ∨ m = 5 ∨ m = 6 ∨ m = 7 ∨ m = 8 ∨ m = 9 ∨ m = 10 ∨ m = 11 ∨ m = 12 ∨ m = 13 ∨ m = 14 ∨ m = 15 := (by omega); rcases hcs with rfl | rfl | rfl | rfl | rfl | rfl | rfl | rfl | rfl | rfl | rfl | rfl | rfl | rfl | rfl | rfl
  · exact case0 a0 a1 d hd hk he w
  · exact case1 a0 a1 d hd hk he w
  · exact case2 a0 a1 d hd hk he w
  · exact case3 a0 a1 d hd hk he w
  · exact case4 a0 a1 d hd hk he w
  · exact case5 a0 a1 d hd hk he w
  · exact case6 a0 a1 d hd hk he w
  · exact case7 a0 a1 d hd hk he w
  · exact case8 a0 a1 d hd hk he w
  · exact case9 a0 a1 d hd hk he w
  · exact case10 a0 a1 d hd hk he w
  · exact case11 a0 a1 d hd hk he w
  · exact case12 a0 a1 d hd hk he w
  · exact case13 a0 a1 d hd hk he w
  · exact case14 a0 a1 d hd hk he w
  · exact case15 a0 a1 d hd hk he w

theorem own : ownKnob Try.prog.godebug = none := by kernel_rfl
theorem laidOut : laidOutB Try.prog = true := by kernel_rfl
set_option maxRecDepth 100000 in
theorem lifted (os : Os) (started : os.Started) (H : Type) (enc : TypeId × Value → H) :
    ReturnsInHanded {} Try.checked os 4 .any (Rows.targetFormsSpec.pre6 enc Try.prog Try.f4 Rows.targetFormsRow.domain false) (Rows.targetFormsSpec.post enc Try.prog Try.f4 false true false false) := by
  refine returnsInHanded_of_change_sized (C := Try.checked) own started (by kernel_rfl) Try.func4
    (ChangeSpec.witness6 (enc := enc) (C := Try.checked) false ⟨#[], #[.int .i64 0, .int .i64 0], []⟩ 8 (by kernel_rfl) (by kernel_rfl) (by kernel_rfl) (by kernel_rfl)) ?_
  intro W base args ds gs before hval0 hW hcnd hsz0 _
  have hval : ∀ (j : Nat) t v, Try.f4.params[j]? = some t → args[j]? = some v → Value.okWide Try.prog W .any base t v := hval0
  have hsz : (DataW.weightsEach Try.prog (Try.f4.params.toList ++ Rows.targetFormsSpec.plain.varTypes Try.prog) (ds ++ gs)).all (· ≤ reachBytes) = true := hsz0
  have hW' := hW
  obtain ⟨p, q, hA0, hV, rfl, hfz, hnd⟩ := hW
  have hA : DataW.TrodAll enc Try.prog W 0 (fun _ => true) true Try.f4.params.toList args.toList ds p := hA0
  rw [Try.params4] at hA hval hsz
  obtain ⟨v0, vs0, d0, ds0, p0, q0, hargs, rfl, rfl, h0, r0⟩ := trodAll_cons hA
  obtain ⟨v1, vs1, d1, ds1, p1, q1, rfl, rfl, rfl, h1, r1⟩ := trodAll_cons r0
  obtain ⟨rfl, rfl, rfl⟩ := trodAll_nil r1
  obtain rfl : args = #[v0, v1] := by cases args; simp_all
  obtain ⟨rfl, rfl⟩ := trodVars_none hV
  obtain ⟨a0, rfl, rfl, rfl, m0⟩ := open_int Try.underlying3 (hval 0 3 v0 rfl rfl) h0
  have w0 : -9223372036854775808 ≤ a0 ∧ a0 ≤ 9223372036854775807 := by simpa [Lit.wf, IntKind.min, IntKind.max, IntKind.signed, IntKind.bits] using m0
  obtain ⟨a1, rfl, rfl, rfl, m1⟩ := open_int Try.underlying3 (hval 1 3 v1 rfl rfl) h1
  have w1 : -9223372036854775808 ≤ a1 ∧ a1 ≤ 9223372036854775807 := by simpa [Lit.wf, IntKind.min, IntKind.max, IntKind.signed, IntKind.bits] using m1
  clear hA0 hval0
  refine (walk a0 a1 w0 w1 W).mono fun e W' ⟨he, bel⟩ => ?_
  subst he
  exact ⟨_, rfl, _, _, _, [], _, [], hW', trodAll_mk1 (shut_bool Try.underlying4 _), (trodAll_cons_mk (shut_int Try.underlying3 m0) (trodAll_cons_mk (shut_int Try.underlying3 m1) trodAll_mk0)), rfl, bel.frame _, fun h => by cases h⟩
theorem over : Rows.targetFormsRow.holds Try.pinned (OpenSpec.ofChange Rows.targetFormsSpec) :=
  OpenClaim.holds_of_wide 4 Try.f4 rfl rfl rfl rfl rfl rfl rfl ⟨rfl, rfl, rfl, rfl, rfl⟩ rfl rfl rfl rfl rfl (by kernel_rfl) Try.func4 (by kernel_rfl)
    (of_decide_eq_true (by kernel_rfl)) (by unfold Func.isWrapper; first | (rw [if_pos (by decide +kernel)]; kernel_rfl) | (rw [if_neg (by decide +kernel)]; exact ⟨rfl, rfl⟩))
    (fun os started H enc _ => lifted os started H enc)
theorem proved : Rows.TargetFormsSaid := over
end Go.Proofs.Ytohgiapngmocgaa.targetForms
