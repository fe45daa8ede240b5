/- SchemeTakes holds for every type and row. No condition. -/
import Derived.Test.YtjhmdobmbajcgaaRows
import Derived.WalkKit
import Derived.ProofKit
import Derived.OpenShut
import Derived.ShutString
import Derived.ChangeOld
import Derived.Below
import Derived.SizedLaws
import Derived.Carry
import Derived.Lib.SmallJoins
import Derived.Test.YtjhmdobmbajcgaaTkE
import Derived.Test.YtjhmdobmbajcgaaStP
import Derived.Test.YtjhmdobmbajcgaaRcB
import Derived.Deep.RegionHeld3
namespace Go.Proofs.Ytjhmdobmbajcgaa.schemeTakes
open Go.ChangeShapes Go.WideShapes Go.ChangeAt Go.RowKit
open Go.ChangeMaps (open_string shut_string)
set_option linter.unusedVariables false
set_option linter.unusedSimpArgs false

def StK (g h k : Nat) (W0 W : World) : Prop := (g < W.heap.size ∧ h < W.heap.size ∧ k < W.heap.size) ∧ Below W0.heap.size W0 W
theorem st_go {g h k : Nat} {W0 W W' : World} {v1 v2 : Value} {ra rb rc rd rt : Int} (H : W.cell? ⟨g, 0, none⟩ = some v1 ∧ W.cell? ⟨h, 0, none⟩ = some v2 ∧ W.cell? ⟨k, 0, none⟩ = some (.int .i64 ra) ∧ W.cell? ⟨k, 1, none⟩ = some (.int .i64 rb) ∧ W.cell? ⟨k, 2, none⟩ = some (.int .i64 rc) ∧ W.cell? ⟨k, 3, none⟩ = some (.int .i64 rd) ∧ W.cell? ⟨k, 4, none⟩ = some (.int .i64 rt) ∧ StK g h (k) W0 W) (hb : Below W.heap.size W W') : W'.cell? ⟨g, 0, none⟩ = some v1 ∧ W'.cell? ⟨h, 0, none⟩ = some v2 ∧ W'.cell? ⟨k, 0, none⟩ = some (.int .i64 ra) ∧ W'.cell? ⟨k, 1, none⟩ = some (.int .i64 rb) ∧ W'.cell? ⟨k, 2, none⟩ = some (.int .i64 rc) ∧ W'.cell? ⟨k, 3, none⟩ = some (.int .i64 rd) ∧ W'.cell? ⟨k, 4, none⟩ = some (.int .i64 rt) ∧ StK g h (k) W0 W' := by
  obtain ⟨h1, h2, h3, h4, h5, h6, h7, ⟨k1, k2, k3⟩, k4⟩ := H
  have := hb.size
  exact ⟨carry hb k1 h1, carry hb k2 h2, carry hb k3 h3, carry hb k3 h4, carry hb k3 h5, carry hb k3 h6, carry hb k3 h7, ⟨by omega, by omega, by omega⟩, belT k4 hb⟩
theorem st_bel {g h k : Nat} {W0 W : World} {v1 v2 : Value} {ra rb rc rd rt : Int} (H : W.cell? ⟨g, 0, none⟩ = some v1 ∧ W.cell? ⟨h, 0, none⟩ = some v2 ∧ W.cell? ⟨k, 0, none⟩ = some (.int .i64 ra) ∧ W.cell? ⟨k, 1, none⟩ = some (.int .i64 rb) ∧ W.cell? ⟨k, 2, none⟩ = some (.int .i64 rc) ∧ W.cell? ⟨k, 3, none⟩ = some (.int .i64 rd) ∧ W.cell? ⟨k, 4, none⟩ = some (.int .i64 rt) ∧ StK g h (k) W0 W) : Below W0.heap.size W0 W := H.2.2.2.2.2.2.2.2
set_option maxRecDepth 100000 in
set_option maxHeartbeats 8000000 in
theorem walk {H : Type} {enc : TypeId × Value → H} (p0 : Option Addr) (n0 c0 : Nat) (ra rb rc rd rt : Int) (w : World)
    (f0 : ∃ fuel y, DataW.trod enc Try.prog w 0 (fun _ => true) true fuel 23 [.slice p0 n0 c0] = some y ∧ ∀ x ∈ DataW.weights Try.prog 23 y.1, x ≤ reachBytes)
    (b0 : -9223372036854775808 ≤ ra ∧ ra ≤ 9223372036854775807) (b1 : -9223372036854775808 ≤ rb ∧ rb ≤ 9223372036854775807) (b2 : -9223372036854775808 ≤ rc ∧ rc ≤ 9223372036854775807) (b3 : -9223372036854775808 ≤ rd ∧ rd ≤ 9223372036854775807) (b4 : -9223372036854775808 ≤ rt ∧ rt ≤ 9223372036854775807) :
    Calls Try.prog 11 #[.agg #[.slice p0 n0 c0], .agg #[.int .i64 ra, .int .i64 rb, .int .i64 rc, .int .i64 rd, .int .i64 rt]] w fun e w' => e = .returned (.bool true) ∧ Below w.heap.size w w' := by
  obtain ⟨_, _, t, t'⟩ := f0
  obtain ⟨hl0, ts, hT⟩ := ty_open t t'
  clear t t' b0 b1 b2 b3 b4
  have hT := Lib.hid hT
  have hl0' : n0 ≤ 140737488351232 := by omega
  go_enter Try.func11, Try.ntmps11
  go_wp2_with fail
  refine (awake12_any _).mono ?_
  rintro e w1 ⟨rfl, hb1⟩
  have hX1 : Hid (BoxAt w1 w.heap.size (.slice p0 n0 c0)) := Lib.hid (BoxAt.below (by exact BoxAt.alloc _ (box_lit _ _ _ _ rfl)) hb1)
  have hR1 : Hid (RowAt w1 (w.heap.size + 1) ⟨ra, rb, rc, rd, rt⟩) := Lib.hid (RowAt.below (by exact row_lit _ _ _ ⟨ra, rb, rc, rd, rt⟩ (by simp)) hb1)
  have hT1 := Lib.hid (TyArg.below (by exact TyArg.alloc _ (TyArg.alloc _ hT.out)) hb1)
  have hB1 := Lib.hid (belT (belA _ (belA _ (Below.refl w.heap.size w))) hb1)
  clear hb1
  go_wp2_with fail
  refine (close_any _ _ _ _ _ _ _ _ _ stT [] [] _ (Lib.hid (by exact TyArg.alloc _ (tyArg_lit _ _ _ _ _ _ rfl rfl rfl))) (Lib.hid (isArg_nil _ _)) (Lib.hid (isArg_nil _ _)) (by omega) (by omega) (by omega)).mono ?_
  rintro e w2 hp
  unfold CloPost at hp
  rw [sa.1, sa.2.1, sa.2.2, if_pos rfl] at hp
  obtain ⟨v1, v2, v3, rfl, hv1, hv2, hv3, _, hb2⟩ := hp
  have hX2 := Lib.hid (BoxAt.below (by exact BoxAt.alloc _ (BoxAt.alloc _ hX1.out)) hb2)
  have hR2 := Lib.hid (RowAt.below (by exact RowAt.alloc _ (RowAt.alloc _ hR1.out)) hb2)
  have hT2 := Lib.hid (TyArg.below (by exact TyArg.alloc _ (TyArg.alloc _ hT1.out)) hb2)
  have hB2 := Lib.hid (belT (belA _ (belA _ hB1.out)) hb2)
  obtain ⟨a1, m1, d1, rfl⟩ := ownI_sl hv1
  obtain ⟨a2, m2, d2, rfl⟩ := ownI_sl hv2
  obtain ⟨a3, m3, d3, rfl⟩ := ownT_sl hv3
  have hI1 := Lib.hid hv1.arg
  have hI2 := Lib.hid hv2.arg
  have hT3 := Lib.hid hv3.arg
  have hm1 : m1 = 1 := hv1.arg.1
  have hm2 : m2 = 1 := hv2.arg.1
  have hm3 : m3 = 3 := hv3.arg.1
  subst hm1 hm2 hm3
  clear hv1 hv2 hv3 hb2
  obtain ⟨x0, x1⟩ := hX2.out
  obtain ⟨r0, r1, r2, r3, r4, r5⟩ := hR2.out
  have z0 : w.heap.size < w2.heap.size + 1 := by omega
  have z1 : w.heap.size + 1 < w2.heap.size + 1 := by omega
  have z2 : w.heap.size + 1 < w2.heap.size + 1 + 1 := by omega
  go_wp2_with fail
  refine (take2_any _ _ _ _ _ _ _ _ _ _ _ _ _ _ _ [4] [4] stT [⟨p0, n0, c0, ts⟩] [⟨ra, rb, rc, rd, rt⟩] _ (Lib.hid (by exact IsArg.alloc _ (IsArg.alloc _ (IsArg.alloc _ hI1.out)))) (Lib.hid (by exact IsArg.alloc _ (IsArg.alloc _ (IsArg.alloc _ hI2.out)))) (Lib.hid (by exact TyArg.alloc _ (TyArg.alloc _ (TyArg.alloc _ hT3.out)))) (Lib.hid (by exact TpArg.alloc _ (tpArg_one _ _ _ ⟨p0, n0, c0, ts⟩ (by simp) ⟨hT2.out.alloc _, hl0'⟩))) (Lib.hid (by exact rwArg_one _ _ _ ⟨ra, rb, rc, rd, rt⟩ (by simp))) (Lib.hid (wf_small rfl)) (Lib.hid (wf_small rfl)) (by omega) (by omega) (by omega) (by omega) (by omega)).mono ?_
  rintro e w3 ⟨v4, rfl, hv4, hb3⟩
  clear x0 x1 r0 r1 r2 r3 r4 r5 z0 z1 z2
  have hX3 := Lib.hid (BoxAt.below (by exact BoxAt.alloc _ (BoxAt.alloc _ (BoxAt.alloc _ hX2.out))) hb3)
  have hR3 := Lib.hid (RowAt.below (by exact RowAt.alloc _ (RowAt.alloc _ (RowAt.alloc _ hR2.out))) hb3)
  have hT3 := Lib.hid (TyArg.below (by exact TyArg.alloc _ (TyArg.alloc _ (TyArg.alloc _ hT2.out))) hb3)
  have hB3 := Lib.hid (belT (belA _ (belA _ (belA _ hB2.out))) hb3)
  obtain ⟨a4, n4, c4, rfl⟩ := ownT_sl hv4
  have hA4 := Lib.hid hv4.arg
  have hE := tkE_bd [4] [⟨p0, n0, c0, ts⟩] [4] [⟨ra, rb, rc, rd, rt⟩] stT
  have hno := Lib.hid (st_no (x := ⟨p0, n0, c0, ts⟩) (r := ⟨ra, rb, rc, rd, rt⟩))
  have hyes := Lib.hid (st_yes (x := ⟨p0, n0, c0, ts⟩) (r := ⟨ra, rb, rc, rd, rt⟩))
  generalize tkE [4] [⟨p0, n0, c0, ts⟩] [4] [⟨ra, rb, rc, rd, rt⟩] stT = E at hE hno hyes ⊢
  generalize tkT [4] [⟨p0, n0, c0, ts⟩] [4] [⟨ra, rb, rc, rd, rt⟩] stT = L at hA4 hno hyes
  clear hv4 hb3 hI1 hI2 hX2 hR2 hT2 hB2 hX1 hR1 hT1 hB1
  obtain ⟨x0, x1⟩ := hX3.out
  have z0 : w.heap.size < w3.heap.size + 1 := by omega
  go_wp2_with ((go_at_call 19; refine (num_any _ _ (by omega) (by omega)).mono ?_; rintro e w' ⟨rfl, rfl⟩))
  clear x0 x1 z0
  have hY3 : Hid (BoxAt (w3.alloc (.cells #[.slice a4 n4 c4] 25)) w3.heap.size (.slice a4 n4 c4)) := Lib.hid (box_lit _ _ _ _ rfl)
  refine (rTyMay_any p0 n0 c0 ts _ (Lib.hid (hT3.out.alloc _)) hl0').mono ?_
  rintro e w4 ⟨rfl, hb4⟩
  have hX4 := Lib.hid (BoxAt.below (hX3.out.alloc _) hb4)
  have hR4 := Lib.hid (RowAt.below (hR3.out.alloc _) hb4)
  have hT4 := Lib.hid (TyArg.below (hT3.out.alloc _) hb4)
  have hY4 := Lib.hid (hY3.out.below hb4)
  have hA4 := Lib.hid (TyArg.below (hA4.out.alloc _) hb4)
  have hB4 := Lib.hid (belT (belA _ hB3.out) hb4)
  clear hb4 hX3 hR3 hT3 hY3 hB3
  cases hty : tyV ts
  · obtain ⟨rfl, rfl⟩ := hno.out (by show ((tyV ts && _) && _) = false; rw [hty]; rfl)
    obtain rfl : n4 = 0 := hA4.out.1
    obtain ⟨x0, x1⟩ := hY4.out
    go_wp2_with ((go_at_call 19; refine (num_any _ _ (by omega) (by omega)).mono ?_; rintro e w' ⟨rfl, rfl⟩))
    go_ret
    exact ⟨rfl, hB4.out⟩
  · obtain ⟨x0, x1⟩ := hX4.out
    obtain ⟨y0, y1⟩ := hY4.out
    obtain ⟨r0, r1, r2, r3, r4, r5⟩ := hR4.out
    go_wp2_with fail
    refine (rrowMay_r ⟨ra, rb, rc, rd, rt⟩ _).mono ?_
    rintro e w5 ⟨rfl, hb5⟩
    clear x0 x1 y0 y1 r0 r1 r2 r3 r4 r5
    have hX5 := Lib.hid (hX4.out.below hb5)
    have hR5 := Lib.hid (hR4.out.below hb5)
    have hT5 := Lib.hid (hT4.out.below hb5)
    have hY5 := Lib.hid (hY4.out.below hb5)
    have hA5 := Lib.hid (hA4.out.below hb5)
    have hB5 := Lib.hid (belT hB4.out hb5)
    clear hb5 hX4 hR4 hT4 hY4 hA4 hB4
    have hn0 : n0 = ts.length := hT5.out.1
    cases hrm : Rw.may ⟨ra, rb, rc, rd, rt⟩
    · obtain ⟨rfl, rfl⟩ := hno.out (by show ((tyV ts && Rw.may _) && _) = false; rw [hty, hrm]; rfl)
      obtain rfl : n4 = 0 := hA5.out.1
      obtain ⟨x0, x1⟩ := hY5.out
      go_wp2_with ((go_at_call 19; refine (num_any _ _ (by omega) (by omega)).mono ?_; rintro e w' ⟨rfl, rfl⟩))
      go_ret
      exact ⟨rfl, hB5.out⟩
    · by_cases hsz : 2 * ts.length + 1 ≤ 256
      · obtain ⟨rfl, rfl⟩ := hyes.out hty hrm hsz
        have hne : ts ≠ [] := by rintro rfl; simp [tyV] at hty
        have hsm : n0 ≤ 127 := by omega
        have hn4 : n4 = (arwL ts ⟨ra, rb, rc, rd, rt⟩ ts).length := hA5.out.1
        have hn4' : n4 ≤ 256 := by rw [hn4]; unfold arwL; simp; omega
        have kA := Lib.hid fun (W : World) (hb : Below w5.heap.size w5 W) => arrow_any p0 n0 c0 ⟨ra, rb, rc, rd, rt⟩ p0 n0 c0 ts ts W (Lib.hid (hT5.out.below hb)) (Lib.hid (hT5.out.below hb)) hne hty hty
        unfold rwV ArPost at kA
        have kS := Lib.hid fun (W : World) (a : Option Addr) (n c : Nat) (hb : Below w5.heap.size w5 W) (ha : TyArg W a n (arwL ts ⟨ra, rb, rc, rd, rt⟩ ts)) => sameType_any a4 a n4 n c4 c _ _ W (Lib.hid (hA5.out.below hb)) (Lib.hid ha) (by omega)
        rw [decide_eq_true rfl] at kS
        generalize arwL ts ⟨ra, rb, rc, rd, rt⟩ ts = L at kA kS
        clear hn4 hno hyes hA5 hT5
        obtain ⟨q0, q1, q2, q3, q4, q5⟩ := hR5.out
        have hst := Lib.hid (show w5.cell? ⟨w.heap.size, 0, none⟩ = some (.slice p0 n0 c0) ∧ w5.cell? ⟨w3.heap.size, 0, none⟩ = some (.slice a4 n4 c4) ∧ w5.cell? ⟨w.heap.size + 1, 0, none⟩ = some (.int .i64 ra) ∧ w5.cell? ⟨w.heap.size + 1, 1, none⟩ = some (.int .i64 rb) ∧ w5.cell? ⟨w.heap.size + 1, 2, none⟩ = some (.int .i64 rc) ∧ w5.cell? ⟨w.heap.size + 1, 3, none⟩ = some (.int .i64 rd) ∧ w5.cell? ⟨w.heap.size + 1, 4, none⟩ = some (.int .i64 rt) ∧ StK w.heap.size w3.heap.size (w.heap.size + 1) w5 w5 from ⟨hX5.out.2, hY5.out.2, q1, q2, q3, q4, q5, ⟨hX5.out.1, hY5.out.1, q0⟩, Below.refl _ _⟩)
        clear q0 q1 q2 q3 q4 q5
        have hsz' : ¬ (256 : Int) < 2 * (n0 : Int) + 1 := by omega
        clear hn0
        obtain ⟨x0, x1⟩ := hX5.out
        go_upto_region 10 with ((go_at_call 19; refine (num_any _ _ (by omega) (by omega)).mono ?_; rintro e w' ⟨rfl, rfl⟩))
        clear x0 x1
        go_region_held3 (fun W => W.cell? ⟨w.heap.size, 0, none⟩ = some (.slice p0 n0 c0) ∧ W.cell? ⟨w3.heap.size, 0, none⟩ = some (.slice a4 n4 c4) ∧ W.cell? ⟨w.heap.size + 1, 0, none⟩ = some (.int .i64 ra) ∧ W.cell? ⟨w.heap.size + 1, 1, none⟩ = some (.int .i64 rb) ∧ W.cell? ⟨w.heap.size + 1, 2, none⟩ = some (.int .i64 rc) ∧ W.cell? ⟨w.heap.size + 1, 3, none⟩ = some (.int .i64 rd) ∧ W.cell? ⟨w.heap.size + 1, 4, none⟩ = some (.int .i64 rt) ∧ StK w.heap.size w3.heap.size (w.heap.size + 1) w5 W)
          (repeat (first | with_reducible assumption | with_reducible exact hS9.out | with_reducible exact hS8.out | with_reducible exact hst.out | with_reducible refine st_go ?_ ((Below.refl _ _).drew)))
          ((first
            | (go_at_call 19; refine (num_any _ _ (by omega) (by omega)).mono ?_; rintro e w' ⟨rfl, rfl⟩)
            | (go_at_call 37; refine (kA.out _ (st_bel (by assumption))).mono ?_; rintro e w8 ⟨v8, rfl, hv8, hb8⟩; have hS8 := Lib.hid (st_go (by assumption) hb8); obtain ⟨a8, n8, c8, rfl⟩ := ownT_sl hv8)
            | (go_at_call 18; have hh := hS8; clear hh; refine (kS.out _ _ _ _ (st_bel (by assumption)) hv8.arg).mono ?_; rintro e w9 ⟨rfl, hb9⟩; have hS9 := Lib.hid (st_go (by assumption) hb9))))
        go_wp2_with fail
        go_ret
        exact ⟨rfl, belT hB5.out (st_bel (by assumption))⟩
      · obtain ⟨rfl, rfl⟩ := hno.out (by show ((tyV ts && Rw.may _) && _) = false; rw [hty, hrm]; simpa using hsz)
        obtain rfl : n4 = 0 := hA5.out.1
        have hsz' : (256 : Int) < 2 * (n0 : Int) + 1 := by omega
        obtain ⟨x0, x1⟩ := hY5.out
        obtain ⟨y0, y1⟩ := hX5.out
        go_wp2_with ((go_at_call 19; refine (num_any _ _ (by omega) (by omega)).mono ?_; rintro e w' ⟨rfl, rfl⟩))
        go_ret
        exact ⟨rfl, hB5.out⟩
theorem own : ownKnob Try.prog.godebug = none := by kernel_rfl
theorem laidOut : laidOutB Try.prog = true := by kernel_rfl
set_option maxRecDepth 100000 in
theorem lifted (os : Os) (started : os.Started) (H : Type) (enc : TypeId × Value → H) :
    ReturnsInHanded {} Try.checked os 11 .any (Rows.schemeTakesSpec.pre6 enc Try.prog Try.f11 Rows.schemeTakesRow.domain false) (Rows.schemeTakesSpec.post enc Try.prog Try.f11 false true false false) := by
  refine returnsInHanded_of_change_sized (C := Try.checked) own started (by kernel_rfl) Try.func11
    (ChangeSpec.witness6 (enc := enc) (C := Try.checked) false ⟨#[], #[.agg #[.slice none 0 0], .agg #[.int .i64 0, .int .i64 0, .int .i64 0, .int .i64 0, .int .i64 0]], []⟩ 8 (by kernel_rfl) (by kernel_rfl) (by kernel_rfl) (by kernel_rfl)) ?_
  intro W base args ds gs before hval0 hW hcnd hsz0 _
  have hval : ∀ (j : Nat) t v, Try.f11.params[j]? = some t → args[j]? = some v → Value.okWide Try.prog W .any base t v := hval0
  have hsz : (DataW.weightsEach Try.prog (Try.f11.params.toList ++ Rows.schemeTakesSpec.plain.varTypes Try.prog) (ds ++ gs)).all (· ≤ reachBytes) = true := hsz0
  have hW' := hW
  obtain ⟨p, q, hA0, hV, rfl, hfz, hnd⟩ := hW
  have hA : DataW.TrodAll enc Try.prog W 0 (fun _ => true) true Try.f11.params.toList args.toList ds p := hA0
  rw [Try.params11] at hA hval hsz
  obtain ⟨v0, vs0, d0, ds0, p0, q0, hargs, rfl, rfl, h0, r0⟩ := trodAll_cons hA
  obtain ⟨v1, vs1, d1, ds1, p1, q1, rfl, rfl, rfl, h1, r1⟩ := trodAll_cons r0
  obtain ⟨rfl, rfl, rfl⟩ := trodAll_nil r1
  obtain rfl : args = #[v0, v1] := by cases args; simp_all
  obtain ⟨rfl, rfl⟩ := trodVars_none hV
  have k0 := h0
  have lt0 : ∀ x ∈ p0, x.block < W.heap.size := by obtain ⟨m, hm⟩ := k0; exact DataW.trod_lt m _ _ _ hm
  obtain ⟨cs0, rfl, fit0⟩ := open_struct Try.underlying25 (f := 6) (by kernel_rfl : flat Try.prog 6 25 = some [.sl 23]) (hval 0 25 v0 rfl rfl) h0 (sized_of hsz (j := 0) (t := 25) rfl rfl)
  obtain ⟨_, cr0, rfl, ⟨a0, n0, c0, fu0, y0, rfl, f0, g0⟩, fitb0⟩ := fit_i fit0
  obtain rfl := fit_nil fitb0
  have k1 := h1
  have lt1 : ∀ x ∈ p1, x.block < W.heap.size := by obtain ⟨m, hm⟩ := k1; exact DataW.trod_lt m _ _ _ hm
  obtain ⟨cs1, rfl, fit1⟩ := open_struct Try.underlying28 (f := 6) (by kernel_rfl : flat Try.prog 6 28 = some [.i .i64, .i .i64, .i .i64, .i .i64, .i .i64]) (hval 1 28 v1 rfl rfl) h1 (sized_of hsz (j := 1) (t := 28) rfl rfl)
  obtain ⟨_, cr1_0, rfl, ⟨a1_0, rfl, b1_0⟩, fit1_0⟩ := fit_i fit1
  obtain ⟨_, cr1_1, rfl, ⟨a1_1, rfl, b1_1⟩, fit1_1⟩ := fit_i fit1_0
  obtain ⟨_, cr1_2, rfl, ⟨a1_2, rfl, b1_2⟩, fit1_2⟩ := fit_i fit1_1
  obtain ⟨_, cr1_3, rfl, ⟨a1_3, rfl, b1_3⟩, fit1_3⟩ := fit_i fit1_2
  obtain ⟨_, cr1_4, rfl, ⟨a1_4, rfl, b1_4⟩, fit1_4⟩ := fit_i fit1_3
  obtain rfl := fit_nil fit1_4
  clear hA0 hval0
  refine (walk a0 n0 c0 a1_0 a1_1 a1_2 a1_3 a1_4 W ⟨_, _, f0, g0⟩ (bd_i64 b1_0) (bd_i64 b1_1) (bd_i64 b1_2) (bd_i64 b1_3) (bd_i64 b1_4)).mono fun e W' ⟨he, bel⟩ => ?_
  subst he
  exact ⟨_, rfl, _, _, _, [], _, [], hW', trodAll_mk1 (shut_bool Try.underlying4 _), (trodAll_cons_mk (Below.trod laidOut (by kernel_rfl) (of_decide_eq_true (by kernel_rfl)) k0 bel lt0) (trodAll_cons_mk (Below.trod laidOut (by kernel_rfl) (of_decide_eq_true (by kernel_rfl)) k1 bel lt1) trodAll_mk0)), rfl, bel.frame _, fun h => by cases h⟩
theorem over : Rows.schemeTakesRow.holds Try.pinned (OpenSpec.ofChange Rows.schemeTakesSpec) :=
  OpenClaim.holds_of_wide 11 Try.f11 rfl rfl rfl rfl rfl rfl rfl ⟨rfl, rfl, rfl, rfl, rfl⟩ rfl rfl rfl rfl rfl (by kernel_rfl) Try.func11 (by kernel_rfl)
    (of_decide_eq_true (by kernel_rfl)) (by unfold Func.isWrapper; first | (rw [if_pos (by decide +kernel)]; kernel_rfl) | (rw [if_neg (by decide +kernel)]; exact ⟨rfl, rfl⟩))
    (fun os started H enc _ => lifted os started H enc)
theorem proved : Rows.SchemeTakesSaid := over
end Go.Proofs.Ytjhmdobmbajcgaa.schemeTakes
