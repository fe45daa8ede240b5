/- SchemeKeeps holds for every type and all numbers. No condition. -/
import Derived.Test.YtjhmdobmbajcgaaRows
import Derived.WalkKit
import Derived.ProofKit
import Derived.OpenShut
import Derived.ShutString
import Derived.ChangeOld
import Derived.Below
import Derived.SizedLaws
import Derived.Carry
import Derived.Lib.SmallJoins
import Derived.Test.YtjhmdobmbajcgaaTkE
import Derived.Test.YtjhmdobmbajcgaaVrD
import Derived.Deep.RegionHeld3
namespace Go.Proofs.Ytjhmdobmbajcgaa.schemeKeeps
open Go.ChangeShapes Go.WideShapes Go.ChangeAt Go.RowKit
open Go.ChangeMaps (open_string shut_string)
set_option linter.unusedVariables false
set_option linter.unusedSimpArgs false

theorem s_go {W0 W W' : World} {g h : Nat} {v1 v2 v3 v4 : Value} (hg : g < W0.heap.size) (hh : h < W0.heap.size) (k : W.cell? ⟨g, 0, none⟩ = some v1 ∧ W.cell? ⟨g, 1, none⟩ = some v2 ∧ W.cell? ⟨g, 2, none⟩ = some v3 ∧ W.cell? ⟨h, 0, none⟩ = some v4 ∧ Below W0.heap.size W0 W) (hb : Below W.heap.size W W') :
    W'.cell? ⟨g, 0, none⟩ = some v1 ∧ W'.cell? ⟨g, 1, none⟩ = some v2 ∧ W'.cell? ⟨g, 2, none⟩ = some v3 ∧ W'.cell? ⟨h, 0, none⟩ = some v4 ∧ Below W0.heap.size W0 W' := by
  obtain ⟨k1, k2, k3, k4, k5⟩ := k
  have := k5.size
  exact ⟨carry hb (by omega) k1, carry hb (by omega) k2, carry hb (by omega) k3, carry hb (by omega) k4, belT k5 hb⟩
theorem s_bel {W0 W : World} {g h : Nat} {v1 v2 v3 v4 : Value} (k : W.cell? ⟨g, 0, none⟩ = some v1 ∧ W.cell? ⟨g, 1, none⟩ = some v2 ∧ W.cell? ⟨g, 2, none⟩ = some v3 ∧ W.cell? ⟨h, 0, none⟩ = some v4 ∧ Below W0.heap.size W0 W) : Below W0.heap.size W0 W := k.2.2.2.2
set_option maxRecDepth 100000 in
set_option maxHeartbeats 8000000 in
theorem walk {H : Type} {enc : TypeId × Value → H} (p0 : Option Addr) (n0 c0 : Nat) (p1 : Option Addr) (n1 c1 : Nat) (p2 : Option Addr) (n2 c2 : Nat) (w : World)
    (f0 : ∃ fuel y, DataW.trod enc Try.prog w 0 (fun _ => true) true fuel 23 [.slice p0 n0 c0] = some y ∧ ∀ x ∈ DataW.weights Try.prog 23 y.1, x ≤ reachBytes)
    (f1 : ∃ fuel y, DataW.trod enc Try.prog w 0 (fun _ => true) true fuel 54 [.slice p1 n1 c1] = some y ∧ ∀ x ∈ DataW.weights Try.prog 54 y.1, x ≤ reachBytes)
    (f2 : ∃ fuel y, DataW.trod enc Try.prog w 0 (fun _ => true) true fuel 54 [.slice p2 n2 c2] = some y ∧ ∀ x ∈ DataW.weights Try.prog 54 y.1, x ≤ reachBytes) :
    Calls Try.prog 10 #[.agg #[.slice p0 n0 c0], .slice p1 n1 c1, .slice p2 n2 c2] w fun e w' => e = .returned (.bool true) ∧ Below w.heap.size w w' := by
  obtain ⟨_, _, t, t'⟩ := f0
  obtain ⟨hl0, ts, hT⟩ := ty_open t t'
  clear t t'
  obtain ⟨_, _, t, t'⟩ := f1
  obtain ⟨hl1, ks, hK, _⟩ := is_open t t'
  clear t t'
  obtain ⟨_, _, t, t'⟩ := f2
  obtain ⟨hl2, ms, hM, _⟩ := is_open t t'
  clear t t'
  have hT := Lib.hid hT
  have hK := Lib.hid hK
  have hM := Lib.hid hM
  go_enter Try.func10, Try.ntmps10
  go_wp2_with fail
  refine (awake12_any _).mono ?_
  rintro e w1 ⟨rfl, hb1⟩
  have hX1 : Hid (BoxAt w1 w.heap.size (.slice p0 n0 c0)) := Lib.hid (BoxAt.below (by exact box_lit _ _ _ _ rfl) hb1)
  have hT1 := Lib.hid ((hT.out.alloc _).below hb1)
  have hK1 := Lib.hid ((hK.out.alloc _).below hb1)
  have hM1 := Lib.hid ((hM.out.alloc _).below hb1)
  have hB1 := Lib.hid (belT (belA _ (Below.refl w.heap.size w)) hb1)
  clear hb1
  obtain ⟨x0, x1⟩ := hX1.out
  go_wp2_with fail
  clear x0 x1
  refine (close_any p0 p1 p2 n0 c0 n1 c1 n2 c2 ts ks ms _ hT1 hK1 hM1 (by omega) (by omega) (by omega)).mono ?_
  rintro e w2 hp
  unfold CloPost at hp
  cases htv : tyV ts
  · rw [htv, if_neg (by decide)] at hp
    obtain ⟨rfl, hb2⟩ := hp
    have hB2 := Lib.hid (belT hB1.out hb2)
    clear hb2 htv
    go_wp2_with ((go_at_call 19; refine (num_any _ _ (by omega) (by omega)).mono ?_; rintro e w' ⟨rfl, rfl⟩))
    go_ret
    exact ⟨rfl, belA _ hB2.out⟩
  · rw [htv, if_pos rfl] at hp
    obtain ⟨v1, v2, v3, rfl, hv1, hv2, hv3, _, hb2⟩ := hp
    obtain ⟨a1, m1, d1, rfl⟩ := ownI_sl hv1
    obtain ⟨a2, m2, d2, rfl⟩ := ownI_sl hv2
    obtain ⟨a3, m3, d3, rfl⟩ := ownT_sl hv3
    have hX2 := Lib.hid (hX1.out.below hb2)
    have hT2 := Lib.hid (hT1.out.below hb2)
    have hK2 := Lib.hid (hK1.out.below hb2)
    have hM2 := Lib.hid (hM1.out.below hb2)
    have hI1 := Lib.hid hv1.arg
    have hI2 := Lib.hid hv2.arg
    have hI3 := Lib.hid hv3.arg
    have hB2 := Lib.hid (belT hB1.out hb2)
    have t1 := tvs_len (treeOf ts) []
    have t2 := rvs_len (treeOf ts) []
    have hsz := (tyV_of htv).2.2.2.1
    have w1l := woI_len (tvs (treeOf ts) []) ks
    have w2l := woI_len (rvs (treeOf ts) []) ms
    simp only [List.length_nil] at t1 t2
    have hm1 : m1 ≤ 256 := by have := hI1.out.1; omega
    have hm2 : m2 ≤ 256 := by have := hI2.out.1; omega
    have hm3 : m3 ≤ 256 := by have := hI3.out.1; have := (tyV_le htv).2; omega
    clear hv1 hv2 hv3 hb2 w1l w2l
    obtain ⟨x0, x1⟩ := hX2.out
    have x2 : w.heap.size < w2.heap.size + 1 := by omega
    go_wp2_with ((go_at_call 19; refine (num_any _ _ (by omega) (by omega)).mono ?_; rintro e w' ⟨rfl, rfl⟩))
    clear x0 x1 x2
    refine (varsOf_any p0 n0 c0 ts _ (Lib.hid (hT2.out.alloc _)) htv).mono ?_
    rintro e w3 ⟨u1, u2, rfl, hu1, hu2, _, hb3⟩
    obtain ⟨b1, q1, e1, rfl⟩ := ownI_sl hu1
    obtain ⟨b2, q2, e2, rfl⟩ := ownI_sl hu2
    have hX3 := Lib.hid ((hX2.out.alloc _).below hb3)
    have hT3 := Lib.hid ((hT2.out.alloc _).below hb3)
    have hK3 := Lib.hid ((hK2.out.alloc _).below hb3)
    have hM3 := Lib.hid ((hM2.out.alloc _).below hb3)
    have hS3 := Lib.hid (show ScAt w3 w2.heap.size (.slice a1 m1 d1) (.slice a2 m2 d2) (.slice a3 m3 d3) from ScAt.below (by exact sc_lit _ _ _ _ _ _ rfl) hb3)
    have hI1 := Lib.hid ((hI1.out.alloc _).below hb3)
    have hI2 := Lib.hid ((hI2.out.alloc _).below hb3)
    have hI3 := Lib.hid ((hI3.out.alloc _).below hb3)
    have hU1 := Lib.hid hu1.arg
    have hU2 := Lib.hid hu2.arg
    have hB3 := Lib.hid (belT (belA _ hB2.out) hb3)
    have hq1 : q1 ≤ 256 := by have := hU1.out.1; omega
    have hq2 : q2 ≤ 256 := by have := hU2.out.1; omega
    have kT := Lib.hid fun (W : World) (hb : Below w3.heap.size w3 W) => sameType_any a3 p0 m3 n0 d3 c0 ts ts W (Lib.hid (hI3.out.below hb)) (Lib.hid (hT3.out.below hb)) (by omega)
    have kL1 := Lib.hid fun (W : World) (hb : Below w3.heap.size w3 W) => less_any b1 p1 q1 e1 n1 c1 _ ks W (Lib.hid (hU1.out.below hb)) (Lib.hid (hK3.out.below hb)) (by omega) (by omega)
    have kL2 := Lib.hid fun (W : World) (hb : Below w3.heap.size w3 W) => less_any b2 p2 q2 e2 n2 c2 _ ms W (Lib.hid (hU2.out.below hb)) (Lib.hid (hM3.out.below hb)) (by omega) (by omega)
    have kI1 := Lib.hid fun (W : World) (a : Option Addr) (n c : Nat) (hb : Below w3.heap.size w3 W) (ha : IsArg W a n (woI (tvs (treeOf ts) []) ks)) => sameInts_any a1 a m1 n d1 c _ _ W (Lib.hid (hI1.out.below hb)) (Lib.hid ha) (by omega)
    have kI2 := Lib.hid fun (W : World) (a : Option Addr) (n c : Nat) (hb : Below w3.heap.size w3 W) (ha : IsArg W a n (woI (rvs (treeOf ts) []) ms)) => sameInts_any a2 a m2 n d2 c _ _ W (Lib.hid (hI2.out.below hb)) (Lib.hid ha) (by omega)
    rw [decide_eq_true rfl] at kT kI1 kI2
    generalize woI (tvs (treeOf ts) []) ks = L1 at kL1 kI1
    generalize woI (rvs (treeOf ts) []) ms = L2 at kL2 kI2
    have hst := Lib.hid (show w3.cell? ⟨w2.heap.size, 0, none⟩ = some (.slice a1 m1 d1) ∧ w3.cell? ⟨w2.heap.size, 1, none⟩ = some (.slice a2 m2 d2) ∧ w3.cell? ⟨w2.heap.size, 2, none⟩ = some (.slice a3 m3 d3) ∧ w3.cell? ⟨w.heap.size, 0, none⟩ = some (.slice p0 n0 c0) ∧ Below w3.heap.size w3 w3 from ⟨hS3.out.2.1, hS3.out.2.2.1, hS3.out.2.2.2, hX3.out.2, Below.refl _ _⟩)
    have hg1 := Lib.hid hS3.out.1
    have hg2 := Lib.hid hX3.out.1
    clear hu1 hu2 hb3 htv t1 t2 hsz hX1 hT1 hK1 hM1 hX2 hT2 hK2 hM2 hI1 hI2 hI3 hU1 hU2 hX3 hT3 hK3 hM3 hS3 hB1 hB2
    go_upto_region 7 with fail
    go_region_held3 (fun W => W.cell? ⟨w2.heap.size, 0, none⟩ = some (.slice a1 m1 d1) ∧ W.cell? ⟨w2.heap.size, 1, none⟩ = some (.slice a2 m2 d2) ∧ W.cell? ⟨w2.heap.size, 2, none⟩ = some (.slice a3 m3 d3) ∧ W.cell? ⟨w.heap.size, 0, none⟩ = some (.slice p0 n0 c0) ∧ Below w3.heap.size w3 W)
      (repeat (first | with_reducible exact hS11.out | with_reducible exact hS10.out | with_reducible exact hS9.out | with_reducible exact hS8.out | with_reducible exact hS7.out | with_reducible exact hst.out | with_reducible refine s_go hg1.out hg2.out ?_ ((Below.refl _ _).drew)))
      ((first
        | (go_at_call 18; refine (kT.out _ (s_bel (by assumption))).mono ?_; rintro e w7 ⟨rfl, hb7⟩; have hS7 := Lib.hid (s_go hg1.out hg2.out (by assumption) hb7))
        | (go_at_call 34; have hh := hS8; clear hh; refine (kL2.out _ (s_bel (by assumption))).mono ?_; rintro e w10 ⟨v10, rfl, hv10, hb10⟩; have hS10 := Lib.hid (s_go hg1.out hg2.out (by assumption) hb10); obtain ⟨a10, n10, c10, rfl⟩ := ownI_sl hv10)
        | (go_at_call 34; refine (kL1.out _ (s_bel (by assumption))).mono ?_; rintro e w8 ⟨v8, rfl, hv8, hb8⟩; have hS8 := Lib.hid (s_go hg1.out hg2.out (by assumption) hb8); obtain ⟨a8, n8, c8, rfl⟩ := ownI_sl hv8)
        | (go_at_call 33; have hh := hS10; clear hh; refine (kI2.out _ _ _ _ (s_bel (by assumption)) hv10.arg).mono ?_; rintro e w11 ⟨rfl, hb11⟩; have hS11 := Lib.hid (s_go hg1.out hg2.out (by assumption) hb11))
        | (go_at_call 33; refine (kI1.out _ _ _ _ (s_bel (by assumption)) hv8.arg).mono ?_; rintro e w9 ⟨rfl, hb9⟩; have hS9 := Lib.hid (s_go hg1.out hg2.out (by assumption) hb9))))
    go_wp2_with fail
    go_ret
    exact ⟨rfl, belT hB3.out (s_bel (by assumption))⟩
theorem own : ownKnob Try.prog.godebug = none := by kernel_rfl
theorem laidOut : laidOutB Try.prog = true := by kernel_rfl
set_option maxRecDepth 100000 in
theorem lifted (os : Os) (started : os.Started) (H : Type) (enc : TypeId × Value → H) :
    ReturnsInHanded {} Try.checked os 10 .any (Rows.schemeKeepsSpec.pre6 enc Try.prog Try.f10 Rows.schemeKeepsRow.domain false) (Rows.schemeKeepsSpec.post enc Try.prog Try.f10 false true false false) := by
  refine returnsInHanded_of_change_sized (C := Try.checked) own started (by kernel_rfl) Try.func10
    (ChangeSpec.witness6 (enc := enc) (C := Try.checked) false ⟨#[], #[.agg #[.slice none 0 0], .slice none 0 0, .slice none 0 0], []⟩ 8 (by kernel_rfl) (by kernel_rfl) (by kernel_rfl) (by kernel_rfl)) ?_
  intro W base args ds gs before hval0 hW hcnd hsz0 _
  have hval : ∀ (j : Nat) t v, Try.f10.params[j]? = some t → args[j]? = some v → Value.okWide Try.prog W .any base t v := hval0
  have hsz : (DataW.weightsEach Try.prog (Try.f10.params.toList ++ Rows.schemeKeepsSpec.plain.varTypes Try.prog) (ds ++ gs)).all (· ≤ reachBytes) = true := hsz0
  have hW' := hW
  obtain ⟨p, q, hA0, hV, rfl, hfz, hnd⟩ := hW
  have hA : DataW.TrodAll enc Try.prog W 0 (fun _ => true) true Try.f10.params.toList args.toList ds p := hA0
  rw [Try.params10] at hA hval hsz
  obtain ⟨v0, vs0, d0, ds0, p0, q0, hargs, rfl, rfl, h0, r0⟩ := trodAll_cons hA
  obtain ⟨v1, vs1, d1, ds1, p1, q1, rfl, rfl, rfl, h1, r1⟩ := trodAll_cons r0
  obtain ⟨v2, vs2, d2, ds2, p2, q2, rfl, rfl, rfl, h2, r2⟩ := trodAll_cons r1
  obtain ⟨rfl, rfl, rfl⟩ := trodAll_nil r2
  obtain rfl : args = #[v0, v1, v2] := by cases args; simp_all
  obtain ⟨rfl, rfl⟩ := trodVars_none hV
  have k0 := h0
  have lt0 : ∀ x ∈ p0, x.block < W.heap.size := by obtain ⟨m, hm⟩ := k0; exact DataW.trod_lt m _ _ _ hm
  obtain ⟨cs0, rfl, fit0⟩ := open_struct Try.underlying25 (f := 6) (by kernel_rfl : flat Try.prog 6 25 = some [.sl 23]) (hval 0 25 v0 rfl rfl) h0 (sized_of hsz (j := 0) (t := 25) rfl rfl)
  obtain ⟨_, cr0, rfl, ⟨a0, n0, c0, fu0, y0, rfl, f0, g0⟩, fitb0⟩ := fit_i fit0
  obtain rfl := fit_nil fitb0
  obtain ⟨a1, n1, c1, rfl⟩ := okWide_slice Try.underlying54 (hval 1 54 v1 rfl rfl)
  have k1 := h1
  have lt1 : ∀ x ∈ p1, x.block < W.heap.size := by obtain ⟨m, hm⟩ := k1; exact DataW.trod_lt m _ _ _ hm
  have f1 : ∃ fuel y, DataW.trod enc Try.prog W 0 (fun _ => true) true fuel 54 [.slice a1 n1 c1] = some y ∧ ∀ x ∈ DataW.weights Try.prog 54 y.1, x ≤ reachBytes := by obtain ⟨fu, hf⟩ := h1; exact ⟨fu, _, by simpa [Value.cells] using hf, sized_of hsz (j := 1) (t := 54) rfl rfl⟩
  obtain ⟨a2, n2, c2, rfl⟩ := okWide_slice Try.underlying54 (hval 2 54 v2 rfl rfl)
  have k2 := h2
  have lt2 : ∀ x ∈ p2, x.block < W.heap.size := by obtain ⟨m, hm⟩ := k2; exact DataW.trod_lt m _ _ _ hm
  have f2 : ∃ fuel y, DataW.trod enc Try.prog W 0 (fun _ => true) true fuel 54 [.slice a2 n2 c2] = some y ∧ ∀ x ∈ DataW.weights Try.prog 54 y.1, x ≤ reachBytes := by obtain ⟨fu, hf⟩ := h2; exact ⟨fu, _, by simpa [Value.cells] using hf, sized_of hsz (j := 2) (t := 54) rfl rfl⟩
  clear hA0 hval0
  refine (walk a0 n0 c0 a1 n1 c1 a2 n2 c2 W ⟨_, _, f0, g0⟩ f1 f2).mono fun e W' ⟨he, bel⟩ => ?_
  subst he
  exact ⟨_, rfl, _, _, _, [], _, [], hW', trodAll_mk1 (shut_bool Try.underlying4 _), (trodAll_cons_mk (Below.trod laidOut (by kernel_rfl) (of_decide_eq_true (by kernel_rfl)) k0 bel lt0) (trodAll_cons_mk (Below.trod laidOut (by kernel_rfl) (of_decide_eq_true (by kernel_rfl)) k1 bel lt1) (trodAll_cons_mk (Below.trod laidOut (by kernel_rfl) (of_decide_eq_true (by kernel_rfl)) k2 bel lt2) trodAll_mk0))), rfl, bel.frame _, fun h => by cases h⟩
theorem over : Rows.schemeKeepsRow.holds Try.pinned (OpenSpec.ofChange Rows.schemeKeepsSpec) :=
  OpenClaim.holds_of_wide 10 Try.f10 rfl rfl rfl rfl rfl rfl rfl ⟨rfl, rfl, rfl, rfl, rfl⟩ rfl rfl rfl rfl rfl (by kernel_rfl) Try.func10 (by kernel_rfl)
    (of_decide_eq_true (by kernel_rfl)) (by unfold Func.isWrapper; first | (rw [if_pos (by decide +kernel)]; kernel_rfl) | (rw [if_neg (by decide +kernel)]; exact ⟨rfl, rfl⟩))
    (fun os started H enc _ => lifted os started H enc)
theorem proved : Rows.SchemeKeepsSaid := over
end Go.Proofs.Ytjhmdobmbajcgaa.schemeKeeps
