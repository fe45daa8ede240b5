/- SchemeForms holds for every two numbers. No condition. -/
import Derived.Test.YtjhmdobmbajcgaaRows
import Derived.WalkKit
import Derived.ProofKit
import Derived.OpenShut
import Derived.ShutString
import Derived.ChangeOld
import Derived.Below
import Derived.SizedLaws
import Derived.Carry
import Derived.Lib.SmallJoins
import Derived.Test.YtjhmdobmbajcgaaFmM
import Derived.Test.YtjhmdobmbajcgaaAid
import Derived.Deep.RegionHeld3
namespace Go.Proofs.Ytjhmdobmbajcgaa.schemeForms
open Go.ChangeShapes Go.WideShapes Go.ChangeAt Go.RowKit
open Go.ChangeMaps (open_string shut_string)
set_option linter.unusedVariables false
set_option linter.unusedSimpArgs false

set_option maxRecDepth 100000 in
set_option maxHeartbeats 8000000 in
theorem walk (a0 a1 : Int) (_ : -9223372036854775808 ≤ a0 ∧ a0 ≤ 9223372036854775807) (_ : -9223372036854775808 ≤ a1 ∧ a1 ≤ 9223372036854775807) (w : World) :
    Calls Try.prog 9 #[.int .i64 a0, .int .i64 a1] w fun e w' => e = .returned (.bool true) ∧ Below w.heap.size w w' := by
  obtain ⟨m, hm0, hm1, he⟩ := umod_u a0 9 (by decide)
  have hk := and1023 a1
  have hd : 0 ≤ a1 % 1024 ∧ a1 % 1024 < 1024 := by omega
  generalize a1 % 1024 = d0 at hk hd
  go_enter Try.func9, Try.ntmps9
  go_wp2_with fail
  refine (awake12_any _).mono ?_
  rintro e w1 ⟨rfl, hb1⟩
  go_wp2_with fail
  have hFm := fm_lit w1
  have hsz1 := hb1.size
  refine (take2_any _ _ _ _ _ _ _ _ _ _ _ _ _ _ _ [1, 2] [3] fT [fX w1.heap.size, fX w1.heap.size] [fR] _ (Lib.hid hFm.ks) (Lib.hid hFm.ms) (Lib.hid hFm.ty) (Lib.hid hFm.tp) (Lib.hid hFm.rw) (Lib.hid (wf_small rfl)) (Lib.hid (wf_small rfl)) (by omega) (by omega) (by omega) (by omega) (by omega)).mono ?_
  rintro e w2 ⟨v1, rfl, hv1, hb2⟩
  rw [fm_ok]
  have hFm2 := Lib.hid (hFm.below hb2)
  have hB2 : Hid (Below w.heap.size w w2) := Lib.hid (belT (show Below w.heap.size w _ from by have := hb1; (repeat' (first | with_reducible exact Below.refl _ _ | with_reducible assumption | with_reducible apply Below.setCell | with_reducible apply Below.alloc | with_reducible apply Below.drew | with_reducible apply below_drewN | with_reducible exact Nat.le_refl _ | (simp; done) | (simp; omega) | omega | exact Nat.le_refl _))) hb2)
  obtain ⟨q1, n1, c1, rfl⟩ := ownT_sl hv1
  clear hFm hb2 hv1 hb1
  have hFm3 := Lib.hid (hFm2.out.below (below_alc w2 (.cells #[.slice q1 n1 c1] 25)))
  have hB3 := Lib.hid (belA (.cells #[.slice q1 n1 c1] 25) hB2.out)
  clear hFm2 hB2
  go_upto_region 9 with fail
  generalize (w2.alloc (.cells #[.slice q1 n1 c1] 25)) = W at hFm3 hB3 ⊢
  obtain ⟨x0, x1, x2, x3⟩ := hFm3.out.sc
  obtain ⟨y0, y1⟩ := hFm3.out.bx
  have i0 : W.cell? ⟨w1.heap.size + 1 + 1, 0, none⟩ = some (.int .i64 1) := isArg_get hFm3.out.ks (j := 0) (by simp)
  have i1 : W.cell? ⟨w1.heap.size + 1 + 1, 1, none⟩ = some (.int .i64 2) := isArg_get hFm3.out.ks (j := 1) (by simp)
  have i2 : W.cell? ⟨w1.heap.size + 1 + 1 + 1, 0, none⟩ = some (.int .i64 3) := isArg_get hFm3.out.ms (j := 0) (by simp)
  have f20 := hFm3.out.f20
  have f21 := hFm3.out.f21
  have f30 := hFm3.out.f30
  have f42 := hFm3.out.f42
  have f71 := hFm3.out.f71
  have t71 := tp_cell1 hFm3.out
  have z4 := hFm3.out.sc.1
  obtain ⟨iT, hiT, hzT0, hzT1, hzT2⟩ := info_parts infoTp
  have hown := Lib.hid (fm_own hFm3.out (.cells #[.slice (some ⟨w1.heap.size + 1 + 1 + 1 + 1 + 1, 0, none⟩) 1 1] 25))
  have hnews : Hid (∀ j u, ([.slice (some ⟨w1.heap.size + 1 + 1 + 1 + 1 + 1, 0, none⟩) 1 1] : List Value)[j]? = some u → (W.alloc (.cells #[.slice (some ⟨w1.heap.size + 1 + 1 + 1 + 1 + 1, 0, none⟩) 1 1] 25)).cell? ((⟨W.heap.size, 0, none⟩ : Addr).add j) = some u) := Lib.hid (by
    intro j u hj
    have e : (⟨W.heap.size, 0, none⟩ : Addr).add j = ⟨W.heap.size, j, none⟩ := by simp [Addr.add]; try omega
    rw [e, World.cell?_alloc_new]
    simpa using hj)
  go_upto_block 0 with fail
  go_cut [9, 10] (fun s9 s10 wx => Mid12 w w1.heap.size s9 s10 wx)
  case first =>
    have hcs : m = 0 ∨ m = 1 ∨ m = 2 ∨ m = 3 ∨ m = 4 ∨ m = 5 ∨ m = 6 ∨ m = 7 ∨ m = 8 := (by omega); rcases hcs with rfl | rfl | rfl | rfl | rfl | rfl | rfl | rfl | rfl
    · go_wp2_with fail; go_meet; exact mid0 (d := 1 + d0) hFm3.out hsz1 hB3.out (by omega)
    · go_wp2_with fail; go_meet; exact mid1 hFm3.out hsz1 hB3.out
    · go_wp2_with fail; go_meet; exact mid2 (d := 1 + d0) hFm3.out hsz1 hB3.out (by omega)
    · go_wp2_with fail; go_meet; exact mid3 hFm3.out hsz1 hB3.out
    · go_wp2_with (at_builtin; refine wpList_append_own (w := W.alloc (.cells #[.slice (some ⟨w1.heap.size + 1 + 1 + 1 + 1 + 1, 0, none⟩) 1 1] 25)) rfl (.tmp 78) (.tmp 80) 57 rfl w1.heap.size 25 iT (.agg #[.slice none 0 0]) 1 24 Try.underlying57 hiT hzT0 hzT1 hzT2 rfl (by decide) _ 2 [.slice (some ⟨w1.heap.size + 1 + 1 + 1 + 1 + 1, 0, none⟩) 1 1, .slice (some ⟨w1.heap.size + 1 + 1 + 1 + 1 + 1, 0, none⟩) 1 1] rfl hown.out ⟨W.heap.size, 0, none⟩ 1 1 [.slice (some ⟨w1.heap.size + 1 + 1 + 1 + 1 + 1, 0, none⟩) 1 1] rfl rfl hnews.out (by intro u hu; simp at hu; subst hu; rfl) (by unfold maxLen; omega) (by omega) (by simp; omega) ?_)
      intro v' w3 ho hgr _
      go_wp2_with fail
      go_meet
      exact mid4 hFm3.out hsz1 hB3.out hgr ho
    · go_wp2_with fail; go_meet; exact mid5 hFm3.out hsz1 hB3.out
    · go_wp2_with fail; go_meet; exact mid6 (d := 1 + d0) hFm3.out hsz1 hB3.out (by omega)
    · go_wp2_with fail; go_meet; exact mid7 hFm3.out hsz1 hB3.out
    · go_wp2_with fail; go_meet; exact mid8 (d := 1 + d0) hFm3.out hsz1 hB3.out (by omega)
  case rest =>
    obtain ⟨a1, n1', d1, a2, n2', d2, a3, n3', d3, a9, n9, d9, a10, n10, d10, ks, ms, ts, xs, rs, ⟨rfl, rfl, hsc⟩, ⟨k1, k2, k3, k4, k5⟩, ⟨k6, k7⟩, ⟨l1, l2, l3, l4, l5⟩, hno, hBc⟩ := hcut
    have hE := noTk hno
    have hBc := Lib.hid hBc
    have hk1 := Lib.hid k1
    have hk2 := Lib.hid k2
    have hk3 := Lib.hid k3
    have hk4 := Lib.hid k4
    have hk5 := Lib.hid k5
    have hk6 := Lib.hid k6
    have hk7 := Lib.hid k7
    have hE := Lib.hid hE
    clear k1 k2 k3 k4 k5 k6 k7 hno x0 x1 x2 x3 y0 y1 i0 i1 i2 f20 f21 f30 f42 f71 t71 z4 hown hnews
    obtain ⟨x0, x1, x2, x3⟩ := hsc
    go_wp2_with fail
    refine (take2_any _ _ _ _ _ _ _ _ _ _ _ _ _ _ _ ks ms ts xs rs _ hk1 hk2 hk3 hk4 hk5 hk6 hk7 (by omega) (by omega) (by omega) (by omega) (by omega)).mono ?_
    rintro e w3 ⟨v3, rfl, hv3, hb3⟩
    rw [hE.out.1] at hv3
    rw [hE.out.2]
    have hB3 := Lib.hid (belT hBc.out hb3)
    obtain ⟨q3, m3, g3, rfl⟩ := ownT_sl hv3
    obtain rfl : m3 = 0 := hv3.arg.1
    clear hb3 hv3 x0 x1 x2 x3
    go_wp2_with ((go_at_call 19; refine (num_any _ _ (by omega) (by omega)).mono ?_; rintro e w' ⟨rfl, rfl⟩))
    go_ret
    exact ⟨rfl, belA _ hB3.out⟩
theorem own : ownKnob Try.prog.godebug = none := by kernel_rfl
theorem laidOut : laidOutB Try.prog = true := by kernel_rfl
set_option maxRecDepth 100000 in
theorem lifted (os : Os) (started : os.Started) (H : Type) (enc : TypeId × Value → H) :
    ReturnsInHanded {} Try.checked os 9 .any (Rows.schemeFormsSpec.pre6 enc Try.prog Try.f9 Rows.schemeFormsRow.domain false) (Rows.schemeFormsSpec.post enc Try.prog Try.f9 false true false false) := by
  refine returnsInHanded_of_change_sized (C := Try.checked) own started (by kernel_rfl) Try.func9
    (ChangeSpec.witness6 (enc := enc) (C := Try.checked) false ⟨#[], #[.int .i64 0, .int .i64 0], []⟩ 8 (by kernel_rfl) (by kernel_rfl) (by kernel_rfl) (by kernel_rfl)) ?_
  intro W base args ds gs before hval0 hW hcnd hsz0 _
  have hval : ∀ (j : Nat) t v, Try.f9.params[j]? = some t → args[j]? = some v → Value.okWide Try.prog W .any base t v := hval0
  have hsz : (DataW.weightsEach Try.prog (Try.f9.params.toList ++ Rows.schemeFormsSpec.plain.varTypes Try.prog) (ds ++ gs)).all (· ≤ reachBytes) = true := hsz0
  have hW' := hW
  obtain ⟨p, q, hA0, hV, rfl, hfz, hnd⟩ := hW
  have hA : DataW.TrodAll enc Try.prog W 0 (fun _ => true) true Try.f9.params.toList args.toList ds p := hA0
  rw [Try.params9] at hA hval hsz
  obtain ⟨v0, vs0, d0, ds0, p0, q0, hargs, rfl, rfl, h0, r0⟩ := trodAll_cons hA
  obtain ⟨v1, vs1, d1, ds1, p1, q1, rfl, rfl, rfl, h1, r1⟩ := trodAll_cons r0
  obtain ⟨rfl, rfl, rfl⟩ := trodAll_nil r1
  obtain rfl : args = #[v0, v1] := by cases args; simp_all
  obtain ⟨rfl, rfl⟩ := trodVars_none hV
  obtain ⟨a0, rfl, rfl, rfl, m0⟩ := open_int Try.underlying3 (hval 0 3 v0 rfl rfl) h0
  have w0 : -9223372036854775808 ≤ a0 ∧ a0 ≤ 9223372036854775807 := by simpa [Lit.wf, IntKind.min, IntKind.max, IntKind.signed, IntKind.bits] using m0
  obtain ⟨a1, rfl, rfl, rfl, m1⟩ := open_int Try.underlying3 (hval 1 3 v1 rfl rfl) h1
  have w1 : -9223372036854775808 ≤ a1 ∧ a1 ≤ 9223372036854775807 := by simpa [Lit.wf, IntKind.min, IntKind.max, IntKind.signed, IntKind.bits] using m1
  clear hA0 hval0
  refine (walk a0 a1 w0 w1 W).mono fun e W' ⟨he, bel⟩ => ?_
  subst he
  exact ⟨_, rfl, _, _, _, [], _, [], hW', trodAll_mk1 (shut_bool Try.underlying4 _), (trodAll_cons_mk (shut_int Try.underlying3 m0) (trodAll_cons_mk (shut_int Try.underlying3 m1) trodAll_mk0)), rfl, bel.frame _, fun h => by cases h⟩
theorem over : Rows.schemeFormsRow.holds Try.pinned (OpenSpec.ofChange Rows.schemeFormsSpec) :=
  OpenClaim.holds_of_wide 9 Try.f9 rfl rfl rfl rfl rfl rfl rfl ⟨rfl, rfl, rfl, rfl, rfl⟩ rfl rfl rfl rfl rfl (by kernel_rfl) Try.func9 (by kernel_rfl)
    (of_decide_eq_true (by kernel_rfl)) (by unfold Func.isWrapper; first | (rw [if_pos (by decide +kernel)]; kernel_rfl) | (rw [if_neg (by decide +kernel)]; exact ⟨rfl, rfl⟩))
    (fun os started H enc _ => lifted os started H enc)
theorem proved : Rows.SchemeFormsSaid := over
end Go.Proofs.Ytjhmdobmbajcgaa.schemeForms
