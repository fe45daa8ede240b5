/- Types holds for every two types and every row. No condition but that the listed package variables hold what the program's text lays. -/
import Derived.Test.YtdganhamafhfdaaDoorCards
import Derived.Test.YtdganhamafhfdaaDoorTie
import Derived.Test.YtdganhamafhfdaaDoorOpn
import Derived.Test.YtdganhamafhfdaaDoorCrd
import Derived.WalkKit
import Derived.ProofKit
import Derived.Deep.DeepHandedRow
import Derived.Test.YtdganhamafhfdaaDoorEqA
import Derived.Test.YtdganhamafhfdaaDoorTyI
import Derived.Test.YtdganhamafhfdaaDoorRsv
import Derived.Deep.RegionHeld3
namespace Go.Proofs.YtdganhamafhfdaaDoor.types
open Go.ChangeShapes Go.WideShapes Go.ChangeAt Go.RowKit
open Go.ChangeMaps (open_string shut_string)
set_option linter.unusedVariables false
set_option linter.unusedSimpArgs false

theorem tabs {W : World} (h : laidMetH Tryd.prog Rows.typesRow.laid W) : Hid (TabW W) := by
  have hm : ("internal/strconv.uint64pow10", (Rows.laid_internal_strconv_uint64pow10 : DataW Unit)) ∈ Rows.typesRow.laid := .tail _ (.tail _ (.head _))
  rw [show (Rows.laid_internal_strconv_uint64pow10 : DataW Unit) = Lib.tabData .u64 Lib.pow10Tab from by kernel_rfl] at hm
  exact Lib.hid (tabIs_of_mem gPow (t := 211) (e := 166) (n := 20) (by kernel_rfl) Tryd.underlying211 Tryd.underlying166 (by kernel_rfl) (by kernel_rfl) h hm)

def vA (ts : List Ty) : List Int := if tyV ts then tvs (treeOf ts) [] else []
def vB (ts : List Ty) : List Int := if tyV ts then rvs (treeOf ts) [] else []
theorem vA_len (ts : List Ty) : (vA ts).length ≤ 256 := by
  unfold vA
  split
  · rename_i h
    have h1 := (tvs_len (treeOf ts) []).2
    have h2 := tyV_le h
    have h3 := (tyV_of h).2.2.2.1
    simp only [List.length_nil] at h1
    omega
  · simp
theorem vB_len (ts : List Ty) : (vB ts).length ≤ 256 := by
  unfold vB
  split
  · rename_i h
    have h1 := (rvs_len (treeOf ts) []).2
    have h2 := tyV_le h
    have h3 := (tyV_of h).2.2.2.1
    simp only [List.length_nil] at h1
    omega
  · simp
theorem txE_02 (ts : List Ty) : txE ts = 0 ∨ txE ts = 700 := by unfold txE; split <;> simp
theorem funE_02 (us : List Ty) (r : Rw) (bs : List Ty) : funE us r bs = 0 ∨ funE us r bs = 700 := by unfold funE; split <;> simp
theorem funT_len (us : List Ty) (r : Rw) (bs : List Ty) : (funT us r bs).length ≤ 256 := by
  unfold funT
  split
  · rename_i h
    have h1 := (arw_V h).2.2.2.2
    have h2 := tyV_le (arw_V h).2.2.1
    omega
  · simp
theorem varsU {ts : List Ty} {w w' : World} {e : Ending} (h : VarsPost ts w e w') : ∃ v1 v2, e = .returned (.tuple #[v1, v2, .int .i64 (txE ts)]) ∧ OwnI w.heap.size w' v1 (vA ts) ∧ OwnI w.heap.size w' v2 (vB ts) ∧ (∀ k, v1.ownBlock = some k → ¬ v2.ownBlock = some k) ∧ Below w.heap.size w w' := by
  unfold VarsPost at h
  unfold vA vB txE
  cases hv : tyV ts
  · rw [hv, if_neg (by decide)] at h
    obtain ⟨rfl, hb⟩ := h
    exact ⟨_, _, rfl, OwnI.nil _ _, OwnI.nil _ _, fun k hk => by simp [Value.ownBlock] at hk, hb⟩
  · rw [hv, if_pos rfl] at h
    exact h
def StK (g1 g2 g3 g4 : Nat) (W0 W : World) : Prop := (g1 < W.heap.size ∧ g2 < W.heap.size ∧ g3 < W.heap.size ∧ g4 < W.heap.size) ∧ Below W0.heap.size W0 W
theorem st_go {g1 g2 g3 g4 : Nat} {W0 W W' : World} {v1 v2 v3 v4 : Value} (H : W.cell? ⟨g1, 0, none⟩ = some v1 ∧ W.cell? ⟨g2, 0, none⟩ = some v2 ∧ W.cell? ⟨g3, 0, none⟩ = some v3 ∧ W.cell? ⟨g4, 0, none⟩ = some v4 ∧ StK g1 g2 g3 g4 W0 W) (hb : Below W.heap.size W W') : W'.cell? ⟨g1, 0, none⟩ = some v1 ∧ W'.cell? ⟨g2, 0, none⟩ = some v2 ∧ W'.cell? ⟨g3, 0, none⟩ = some v3 ∧ W'.cell? ⟨g4, 0, none⟩ = some v4 ∧ StK g1 g2 g3 g4 W0 W' := by
  obtain ⟨h1, h2, h3, h4, ⟨k1, k2, k3, k4⟩, k5⟩ := H
  have := hb.size
  exact ⟨carry hb k1 h1, carry hb k2 h2, carry hb k3 h3, carry hb k4 h4, ⟨by omega, by omega, by omega, by omega⟩, belT k5 hb⟩
theorem st_bel {g1 g2 g3 g4 : Nat} {W0 W : World} {v1 v2 v3 v4 : Value} (H : W.cell? ⟨g1, 0, none⟩ = some v1 ∧ W.cell? ⟨g2, 0, none⟩ = some v2 ∧ W.cell? ⟨g3, 0, none⟩ = some v3 ∧ W.cell? ⟨g4, 0, none⟩ = some v4 ∧ StK g1 g2 g3 g4 W0 W) : Below W0.heap.size W0 W := H.2.2.2.2.2
set_option maxRecDepth 100000 in
set_option maxHeartbeats 8000000 in
theorem walk {H : Type} {enc : TypeId × Value → H} (p0 : Option Addr) (n0 c0 : Nat) (p1 : Option Addr) (n1 c1 : Nat) (r0 r1 r2 r3 r4 : Int) (w : World)
    (f0 : ∃ fuel y, DataW.trod enc Tryd.prog w 0 (fun _ => true) true fuel 22 [.slice p0 n0 c0] = some y ∧ ∀ x ∈ DataW.weights Tryd.prog 22 y.1, x ≤ reachBytes)
    (f1 : ∃ fuel y, DataW.trod enc Tryd.prog w 0 (fun _ => true) true fuel 22 [.slice p1 n1 c1] = some y ∧ ∀ x ∈ DataW.weights Tryd.prog 22 y.1, x ≤ reachBytes) (hr0 : -9223372036854775808 ≤ r0 ∧ r0 ≤ 9223372036854775807) (hr1 : -9223372036854775808 ≤ r1 ∧ r1 ≤ 9223372036854775807) (hr2 : -9223372036854775808 ≤ r2 ∧ r2 ≤ 9223372036854775807) (hr3 : -9223372036854775808 ≤ r3 ∧ r3 ≤ 9223372036854775807) (hr4 : -9223372036854775808 ≤ r4 ∧ r4 ≤ 9223372036854775807) (hT : Hid (TabW w)) :
    Calls Tryd.prog 3 #[.agg #[.slice p0 n0 c0], .agg #[.slice p1 n1 c1], .agg #[.int .i64 r0, .int .i64 r1, .int .i64 r2, .int .i64 r3, .int .i64 r4]] w fun e w' => e = .returned (.bool true) ∧ Below w.heap.size w w' := by
  obtain ⟨_, _, t, t'⟩ := f0
  obtain ⟨hl0, ts, hA⟩ := ty_open t t'
  clear t t'
  obtain ⟨_, _, t, t'⟩ := f1
  obtain ⟨hl1, us, hU⟩ := ty_open t t'
  clear t t' hr0 hr1 hr2 hr3 hr4
  have hA := Lib.hid hA
  have hU := Lib.hid hU
  go_enter Tryd.func3, Tryd.ntmps3
  go_wp2_with fail
  refine (copyType_any _ _ _ ts _ (Lib.hid (by exact TyArg.alloc _ (TyArg.alloc _ (TyArg.alloc _ hA.out)))) (by omega)).mono ?_
  rintro e w1 ⟨v7, rfl, hv7, hb1⟩
  obtain ⟨a7, n7, c7, rfl⟩ := ownT_sl hv7
  have hF3 := Lib.hid ((show BoxAt w1 w.heap.size (.slice p0 n0 c0) from BoxAt.below (by exact BoxAt.alloc _ (BoxAt.alloc _ (box_lit _ _ _ _ rfl))) hb1).alloc (.cells #[.slice a7 n7 c7] 24))
  have hF4 := Lib.hid ((show BoxAt w1 (w.heap.size + 1) (.slice p1 n1 c1) from BoxAt.below (by exact BoxAt.alloc _ (box_lit _ _ _ _ (by simp))) hb1).alloc (.cells #[.slice a7 n7 c7] 24))
  have hF5 := Lib.hid ((show RowAt w1 (w.heap.size + 1 + 1) ⟨r0, r1, r2, r3, r4⟩ from RowAt.below (by exact row_lit _ _ _ ⟨r0, r1, r2, r3, r4⟩ (by simp)) hb1).alloc (.cells #[.slice a7 n7 c7] 24))
  have hA := Lib.hid ((show TyArg w1 p0 n0 ts from TyArg.below (by exact TyArg.alloc _ (TyArg.alloc _ (TyArg.alloc _ hA.out))) hb1).alloc (.cells #[.slice a7 n7 c7] 24))
  have hU := Lib.hid ((show TyArg w1 p1 n1 us from TyArg.below (by exact TyArg.alloc _ (TyArg.alloc _ (TyArg.alloc _ hU.out))) hb1).alloc (.cells #[.slice a7 n7 c7] 24))
  have hC := Lib.hid (hv7.arg.alloc (.cells #[.slice a7 n7 c7] 24))
  have hF7 := Lib.hid (box_lit w1 24 w1.heap.size (.slice a7 n7 c7) rfl)
  have hB := Lib.hid (belA (.cells #[.slice a7 n7 c7] 24) (belT (show Below w.heap.size w _ from by (repeat' (first | with_reducible exact Below.refl _ _ | with_reducible assumption | with_reducible apply Below.setCell | with_reducible apply Below.alloc | with_reducible apply Below.drew | with_reducible apply below_drewN | with_reducible exact Nat.le_refl _ | (simp; done) | (simp; omega) | omega | exact Nat.le_refl _))) hb1))
  obtain rfl : n7 = n0 := by have h1 := hC.out.1; have h2 := hA.out.1; omega
  clear hv7 hb1
  go_upto_region 2 with fail
  generalize hW1 : (w1.alloc (.cells #[.slice a7 n7 c7] 24)) = W1 at hF3 hF4 hF5 hA hU hC hF7 hB ⊢
  clear hW1
  generalize w1.heap.size = G at hF7 ⊢
  have hT1 := Lib.hid (tab_keep hT.out hB.out (Nat.le_refl _))
  obtain ⟨x0, x1⟩ := hF7.out
  go_wp2_with fail
  clear x0 x1
  refine (tyText_any a7 n7 c7 ts _ hC (by omega) hT1).mono ?_
  rintro e w2 ⟨rfl, hD⟩
  have hD2 := Lib.hid hD
  clear hD
  obtain ⟨x0, x1⟩ := hF3.out.below hD2.out
  go_wp2_with fail
  clear x0 x1
  refine (rTypeText_any p0 n7 c0 ts _ (Lib.hid (hA.out.below hD2.out)) (by omega)).mono ?_
  rintro e w3 ⟨rfl, hD⟩
  have hD3 := Lib.hid (belT hD2.out hD)
  clear hD
  obtain ⟨x0, x1⟩ := hF7.out.below hD3.out
  go_wp2_with fail
  clear x0 x1
  refine (vars_any a7 n7 c7 ts _ (Lib.hid (hC.out.below hD3.out)) (by omega)).mono ?_
  rintro e w4 hp
  obtain ⟨va, vb, rfl, hva, hvb, hne, hD⟩ := varsU hp
  obtain ⟨a8, n8, c8, rfl⟩ := ownI_sl hva
  obtain ⟨a9, n9, c9, rfl⟩ := ownI_sl hvb
  have hD4 := Lib.hid (belT hD3.out hD)
  have s34 := Lib.hid hD.size
  have hva := Lib.hid hva; have hvb := Lib.hid hvb; have hne := Lib.hid hne
  rename_i z1 z2 z3
  clear z1 z2 z3 hD hp
  obtain ⟨x0, x1⟩ := hF3.out.below hD4.out
  go_wp2_with fail
  clear x0 x1
  refine (typeVars_any p0 n7 c0 ts _ (Lib.hid (hA.out.below hD4.out)) (by omega)).mono ?_
  rintro e w5 hp
  obtain ⟨ua, ub, rfl, hua, hub, _, hD⟩ := varsU hp
  obtain ⟨a10, n10, c10, rfl⟩ := ownI_sl hua
  obtain ⟨a11, n11, c11, rfl⟩ := ownI_sl hub
  have hD5 := Lib.hid (belT hD4.out hD)
  have s35 : Hid (w3.heap.size ≤ w5.heap.size) := Lib.hid (by have h1 := s34.out; have h2 := hD.size; omega)
  have hva := Lib.hid (hva.out.below hD); have hvb := Lib.hid (hvb.out.below hD)
  have hua := Lib.hid hua.arg; have hub := Lib.hid hub.arg
  rename_i z1 z2 z3
  clear z1 z2 z3 hD hp
  obtain ⟨x0, x1⟩ := hF7.out.below hD5.out
  obtain ⟨y0, y1⟩ := hF4.out.below hD5.out
  obtain ⟨z0, z1, z2, z3, z4, z5⟩ := hF5.out.below hD5.out
  simp only [] at z1 z2 z3 z4 z5
  go_wp2_with fail
  clear x0 x1 y0 y1 z0 z1 z2 z3 z4 z5
  refine (fun_any _ _ _ ⟨r0, r1, r2, r3, r4⟩ _ _ _ ts us _ (Lib.hid (hC.out.below hD5.out)) (Lib.hid (hU.out.below hD5.out)) (by omega) (by omega)).mono ?_
  rintro e w6 ⟨v12, rfl, hv12, hD⟩
  obtain ⟨a12, n12, c12, rfl⟩ := ownT_sl hv12
  have s56 : Hid (w5.heap.size ≤ (w6.alloc (.cells #[.slice a12 n12 c12] 24)).heap.size) := Lib.hid (by have h1 := hD.size; simp; omega)
  have hD6 := Lib.hid (belA (.cells #[.slice a12 n12 c12] 24) (belT hD5.out hD))
  have hva := Lib.hid ((hva.out.below hD).below (below_alc w6 (.cells #[.slice a12 n12 c12] 24))); have hvb := Lib.hid ((hvb.out.below hD).below (below_alc w6 (.cells #[.slice a12 n12 c12] 24)))
  have hua := Lib.hid ((hua.out.below hD).alloc (.cells #[.slice a12 n12 c12] 24)); have hub := Lib.hid ((hub.out.below hD).alloc (.cells #[.slice a12 n12 c12] 24))
  have hv12 := Lib.hid (hv12.below (below_alc w6 (.cells #[.slice a12 n12 c12] 24)))
  have hF8 := Lib.hid (box_lit w6 24 w6.heap.size (.slice a12 n12 c12) rfl)
  rename_i z1
  clear z1 hD
  go_upto_region 7 with fail
  generalize hW6 : (w6.alloc (.cells #[.slice a12 n12 c12] 24)) = W6 at hD6 s56 hva hvb hua hub hv12 hF8 ⊢
  clear hW6
  generalize w6.heap.size = G8 at hF8 ⊢
  obtain ⟨x0, x1⟩ := hF3.out.below hD6.out
  obtain ⟨y0, y1⟩ := hF4.out.below hD6.out
  obtain ⟨z0, z1, z2, z3, z4, z5⟩ := hF5.out.below hD6.out
  simp only [] at z1 z2 z3 z4 z5
  go_wp2_with fail
  clear x0 x1 y0 y1 z0 z1 z2 z3 z4 z5
  refine (makeFun_any _ _ _ ⟨r0, r1, r2, r3, r4⟩ _ _ _ ts us _ (Lib.hid (hA.out.below hD6.out)) (Lib.hid (hU.out.below hD6.out)) (by omega) (by omega)).mono ?_
  rintro e w7 ⟨v13, rfl, hv13, hD⟩
  obtain ⟨a13, n13, c13, rfl⟩ := ownT_sl hv13
  have s57 : Hid (w5.heap.size ≤ (w7.alloc (.cells #[.slice a13 n13 c13] 24)).heap.size) := Lib.hid (by have h1 := hD.size; have h2 := s56.out; simp; omega)
  have hD7 := Lib.hid (belA (.cells #[.slice a13 n13 c13] 24) (belT hD6.out hD))
  have hva := Lib.hid ((hva.out.below hD).below (below_alc w7 (.cells #[.slice a13 n13 c13] 24))); have hvb := Lib.hid ((hvb.out.below hD).below (below_alc w7 (.cells #[.slice a13 n13 c13] 24)))
  have hua := Lib.hid ((hua.out.below hD).alloc (.cells #[.slice a13 n13 c13] 24)); have hub := Lib.hid ((hub.out.below hD).alloc (.cells #[.slice a13 n13 c13] 24))
  have hv12 := Lib.hid ((hv12.out.below hD).below (below_alc w7 (.cells #[.slice a13 n13 c13] 24)))
  have hM := Lib.hid (hv13.arg.alloc (.cells #[.slice a13 n13 c13] 24))
  have hF8 := Lib.hid ((hF8.out.below hD).alloc (.cells #[.slice a13 n13 c13] 24))
  have hF9 := Lib.hid (box_lit w7 24 w7.heap.size (.slice a13 n13 c13) rfl)
  clear hv13 hD
  go_upto_region 8 with fail
  generalize hW7 : (w7.alloc (.cells #[.slice a13 n13 c13] 24)) = W7 at hD7 s57 hva hvb hua hub hv12 hM hF8 hF9 ⊢
  clear hW7
  generalize w7.heap.size = G9 at hF9 ⊢
  have hE := txE_02 ts
  have hE2 := funE_02 ts ⟨r0, r1, r2, r3, r4⟩ us
  have hm8 : n8 = (vA ts).length := hva.out.arg.1
  have hm9 : n9 = (vB ts).length := hvb.out.arg.1
  have hm12 : n12 = (funT ts ⟨r0, r1, r2, r3, r4⟩ us).length := hv12.out.arg.1
  have hl8 := vA_len ts
  have hl9 := vB_len ts
  have hl12 := funT_len ts ⟨r0, r1, r2, r3, r4⟩ us
  have k1 := Lib.hid fun (W : World) (hb : Below W7.heap.size W7 W) => sameInts_any a8 a10 n8 n10 c8 c10 _ _ W (Lib.hid (hva.out.arg.below hb)) (Lib.hid (hua.out.below hb)) (by omega)
  have k2 := Lib.hid fun (W : World) (hb : Below W7.heap.size W7 W) => sameInts_any a9 a11 n9 n11 c9 c11 _ _ W (Lib.hid (hvb.out.arg.below hb)) (Lib.hid (hub.out.below hb)) (by omega)
  have k3 := Lib.hid fun (W : World) (hb : Below W7.heap.size W7 W) => sameType_any a12 a13 n12 n13 c12 c13 _ _ W (Lib.hid (hv12.out.arg.below hb)) (Lib.hid (hM.out.below hb)) (by omega)
  have k4 := Lib.hid fun (W : World) (hb : Below W7.heap.size W7 W) => tyMay_any a7 n7 c7 ts W (Lib.hid (hC.out.below (hD7.out.trans (hb.mono hD7.out.size)))) (by omega)
  have k5 := Lib.hid fun (W : World) (hb : Below W7.heap.size W7 W) => rTyMay_any p0 n7 c0 ts W (Lib.hid (hA.out.below (hD7.out.trans (hb.mono hD7.out.size)))) (by omega)
  rw [decide_eq_true rfl] at k1
  rw [decide_eq_true rfl] at k2
  rw [decide_eq_true rfl] at k3
  have hB12 := Lib.hid (show W1.heap.size ≤ w5.heap.size from hD5.out.size)
  have hB8 := Lib.hid (show W1.heap.size ≤ w3.heap.size from hD3.out.size)
  generalize txV ts = S
  generalize txE ts = E at hE ⊢
  generalize funE ts ⟨r0, r1, r2, r3, r4⟩ us = E2 at hE2 ⊢
  generalize vA ts = LA at hva hua hm8 hl8 k1
  generalize vB ts = LB at hvb hub hm9 hl9 k2
  generalize funT ts ⟨r0, r1, r2, r3, r4⟩ us = F at hv12 hM hm12 hl12 k3
  have hq : (S.toList == S.toList) = true := beq_self_eq_true _
  obtain ⟨x0, x1⟩ := hF8.out
  obtain ⟨y0, y1⟩ := hF9.out
  obtain ⟨z0, z1⟩ := hF7.out.below hD7.out
  obtain ⟨u0, u1⟩ := hF3.out.below hD7.out
  have hst := Lib.hid (show W7.cell? ⟨G8, 0, none⟩ = some (.slice a12 n12 c12) ∧ W7.cell? ⟨G9, 0, none⟩ = some (.slice a13 n13 c13) ∧ W7.cell? ⟨G, 0, none⟩ = some (.slice a7 n7 c7) ∧ W7.cell? ⟨w.heap.size, 0, none⟩ = some (.slice p0 n7 c0) ∧ StK G8 G9 G w.heap.size W7 W7 from ⟨x1, y1, z1, u1, ⟨x0, y0, z0, u0⟩, Below.refl _ _⟩)
  clear x0 x1 y0 y1 z0 z1 u0 u1
  have kn1 := Lib.hid fun (W : World) => num_any E W (by omega) (by omega)
  have kn2 := Lib.hid fun (W : World) => num_any E2 W (by omega) (by omega)
  have hl8h := Lib.hid hl8; have hl9h := Lib.hid hl9; have hl12h := Lib.hid hl12; have hm8h := Lib.hid hm8; have hm9h := Lib.hid hm9; have hm12h := Lib.hid hm12; have hl0h := Lib.hid hl0; have hl1h := Lib.hid hl1
  clear hl8 hl9 hl12 hm8 hm9 hm12 hl0 hl1 hE hE2
  generalize tyV ts = qv at k4 k5
  cases qv
  all_goals
    go_region_held3 (fun W => W.cell? ⟨G8, 0, none⟩ = some (.slice a12 n12 c12) ∧ W.cell? ⟨G9, 0, none⟩ = some (.slice a13 n13 c13) ∧ W.cell? ⟨G, 0, none⟩ = some (.slice a7 n7 c7) ∧ W.cell? ⟨w.heap.size, 0, none⟩ = some (.slice p0 n7 c0) ∧ StK G8 G9 G w.heap.size W7 W)
      (repeat (first | with_reducible assumption | with_reducible exact hS12.out | with_reducible exact hS11.out | with_reducible exact hS10.out | with_reducible exact hS9.out | with_reducible exact hS8.out | with_reducible exact hst.out | with_reducible refine st_go ?_ ((Below.refl _ _).drew)))
      ((first
        | (go_at_call 24; (first | with_reducible refine (kn1.out _).mono ?_ | with_reducible refine (kn2.out _).mono ?_); rintro e w' ⟨rfl, rfl⟩)
        | (go_at_call 25; have hh := hS8; clear hh; refine (k2.out _ (st_bel (by assumption))).mono ?_; rintro e w9 ⟨rfl, hb9⟩; have hS9 := Lib.hid (st_go (by assumption) hb9))
        | (go_at_call 25; refine (k1.out _ (st_bel (by assumption))).mono ?_; rintro e w8 ⟨rfl, hb8⟩; have hS8 := Lib.hid (st_go (by assumption) hb8))
        | (go_at_call 26; have hh := hS9; clear hh; refine (k3.out _ (st_bel (by assumption))).mono ?_; rintro e w10 ⟨rfl, hb10⟩; have hS10 := Lib.hid (st_go (by assumption) hb10))
        | (go_at_call 27; have hh := hS10; clear hh; refine (k4.out _ (st_bel (by assumption))).mono ?_; rintro e w11 ⟨rfl, hb11⟩; have hS11 := Lib.hid (st_go (by assumption) hb11))
        | (go_at_call 28; have hh := hS11; clear hh; refine (k5.out _ (st_bel (by assumption))).mono ?_; rintro e w12 ⟨rfl, hb12⟩; have hS12 := Lib.hid (st_go (by assumption) hb12))))
    have hD12 := Lib.hid (st_bel hS12.out)
    have hX12 := Lib.hid (hD7.out.trans (hD12.out.mono hD7.out.size))
    have hv12c := Lib.hid (hv12.out.below hD12.out)
    have hvac := Lib.hid (hva.out.below hD12.out)
    have hvbc := Lib.hid (hvb.out.below hD12.out)
    obtain ⟨x0, x1⟩ := hF8.out.below hD12.out
    have hz12 := Lib.hid hX12.out.size
    have hz12b := Lib.hid hD12.out.size
    clear hb8 hb9 hb10 hb11 hb12 hS8 hS9 hS10 hS11 hS12 hst k1 k2 k3 k4 k5 kn1 kn2 hF8 hF9 hM hua hub
    go_wp2_with fail
    clear x0 x1
    refine (spoilType_any w5.heap.size _ F _ hv12c (by have := hl12h.out; omega)).mono ?_
    rintro e w13 ⟨rfl, hb⟩
    have hX13 := Lib.hid (hX12.out.trans ((bar_belO hb hv12c.out (by have h1 := s57.out; have h2 := hz12b.out; omega)).mono hB12.out))
    have s13 : Hid (w3.heap.size ≤ w13.heap.size) := Lib.hid (by have h1 := s57.out; have h2 := hz12b.out; have h3 := s35.out; have h4 := hb.size; omega)
    have hva13 := Lib.hid (ownI_barT hb hv12c.out hvac.out)
    have hvb13 := Lib.hid (ownI_barT hb hv12c.out hvbc.out)
    clear hb
    go_wp2_with fail
    refine (spoilInts_any w3.heap.size _ LA _ hva13 (by have := hl8h.out; omega)).mono ?_
    rintro e w14 ⟨rfl, hb⟩
    have hX14 := Lib.hid (hX13.out.trans ((bar_belI hb hva13.out s13.out).mono hB8.out))
    have s14 : Hid (w3.heap.size ≤ w14.heap.size) := Lib.hid (by have h1 := s13.out; have h4 := hb.size; omega)
    have hvb14 := Lib.hid (hb.own hvb13.out fun k hk hk' => hne.out k hk' hk)
    clear hb
    go_wp2_with fail
    refine (spoilInts_any w3.heap.size _ LB _ (Lib.hid hvb14.out) (by have := hl9h.out; omega)).mono ?_
    rintro e w15 ⟨rfl, hb⟩
    have hX15 := Lib.hid (hX14.out.trans ((bar_belI hb hvb14.out s14.out).mono hB8.out))
    clear hb
    obtain ⟨x0, x1⟩ := hF7.out.below hX15.out
    obtain ⟨y0, y1⟩ := hF3.out.below hX15.out
    go_wp2_with fail
    clear x0 x1 y0 y1
    refine (sameType_any a7 p0 n7 n7 c7 c0 ts ts _ (Lib.hid (hC.out.below hX15.out)) (Lib.hid (hA.out.below hX15.out)) (by have := hl0h.out; omega)).mono ?_
    rintro e w16 ⟨rfl, hb⟩
    rw [decide_eq_true rfl]
    have hX16 := Lib.hid (belT hX15.out hb)
    clear hb
    go_wp2_with fail
    refine (awake7_any _ (Lib.hid (tab_keep hT1.out hX16.out (Nat.le_refl _)))).mono ?_
    rintro e w17 ⟨rfl, hb⟩
    have hX17 := Lib.hid (belT hX16.out hb)
    clear hb
    go_wp2_with fail
    go_ret
    exact ⟨rfl, belT hB.out hX17.out⟩
theorem own : ownKnob Tryd.prog.godebug = none := by kernel_rfl
theorem laidOut : laidOutB Tryd.prog = true := by kernel_rfl
set_option maxRecDepth 100000 in
theorem contract (H : Type) (enc : TypeId × Value → H) (W : World) (base : Nat) (args : Array Value) (ds gs : List (DataW H)) (before : List MemPlace)
    (hval0 : ∀ (j : Nat) t v, Tryd.f3.params[j]? = some t → args[j]? = some v → Value.okWide Tryd.prog W .any base t v)
    (hW : DataW.Whole enc Tryd.prog Tryd.f3.params.toList Rows.typesSpec.vars false W args.toList ds gs before)
    (hsz0 : (DataW.weightsEach Tryd.prog (Tryd.f3.params.toList ++ Rows.typesSpec.plain.varTypes Tryd.prog) (ds ++ gs)).all (· ≤ reachBytes) = true)
    (hL : laidMetH Tryd.prog Rows.typesRow.laid W)
    : Calls Tryd.prog 3 args W fun e W' => ∃ v, e = .returned v ∧ Rows.typesSpec.post enc Tryd.prog Tryd.f3 false true false false W args v W' := by
  have hval : ∀ (j : Nat) t v, Tryd.f3.params[j]? = some t → args[j]? = some v → Value.okWide Tryd.prog W .any base t v := hval0
  have hsz : (DataW.weightsEach Tryd.prog (Tryd.f3.params.toList ++ Rows.typesSpec.plain.varTypes Tryd.prog) (ds ++ gs)).all (· ≤ reachBytes) = true := hsz0
  have hW' := hW
  obtain ⟨p, q, hA0, hV, rfl, hfz, hnd⟩ := hW
  have hA : DataW.TrodAll enc Tryd.prog W 0 (fun _ => true) true Tryd.f3.params.toList args.toList ds p := hA0
  rw [Tryd.params3] at hA hval hsz
  obtain ⟨v0, vs0, d0, ds0, p0, q0, hargs, rfl, rfl, h0, r0⟩ := trodAll_cons hA
  obtain ⟨v1, vs1, d1, ds1, p1, q1, rfl, rfl, rfl, h1, r1⟩ := trodAll_cons r0
  obtain ⟨v2, vs2, d2, ds2, p2, q2, rfl, rfl, rfl, h2, r2⟩ := trodAll_cons r1
  obtain ⟨rfl, rfl, rfl⟩ := trodAll_nil r2
  obtain rfl : args = #[v0, v1, v2] := by cases args; simp_all
  obtain ⟨rfl, rfl⟩ := trodVars_none hV
  have k0 := h0
  have lt0 : ∀ x ∈ p0, x.block < W.heap.size := by obtain ⟨m, hm⟩ := k0; exact DataW.trod_lt m _ _ _ hm
  obtain ⟨cs0_0, rfl, fit0_0⟩ := open_struct Tryd.underlying24 (f := 6) (by kernel_rfl : flat Tryd.prog 6 24 = some [.sl 22]) (hval 0 24 v0 rfl rfl) h0 (sized_of hsz (j := 0) (t := 24) rfl rfl)
  obtain ⟨_, cs0_1, rfl, ⟨a0_0, n0_0, c0_0, fu0_0, y0_0, rfl, f0_0, g0_0⟩, fit0_1⟩ := fit_i fit0_0
  obtain rfl := fit_nil fit0_1
  have k1 := h1
  have lt1 : ∀ x ∈ p1, x.block < W.heap.size := by obtain ⟨m, hm⟩ := k1; exact DataW.trod_lt m _ _ _ hm
  obtain ⟨cs1_0, rfl, fit1_0⟩ := open_struct Tryd.underlying24 (f := 6) (by kernel_rfl : flat Tryd.prog 6 24 = some [.sl 22]) (hval 1 24 v1 rfl rfl) h1 (sized_of hsz (j := 1) (t := 24) rfl rfl)
  obtain ⟨_, cs1_1, rfl, ⟨a1_0, n1_0, c1_0, fu1_0, y1_0, rfl, f1_0, g1_0⟩, fit1_1⟩ := fit_i fit1_0
  obtain rfl := fit_nil fit1_1
  have k2 := h2
  have lt2 : ∀ x ∈ p2, x.block < W.heap.size := by obtain ⟨m, hm⟩ := k2; exact DataW.trod_lt m _ _ _ hm
  obtain ⟨cs2_0, rfl, fit2_0⟩ := open_struct Tryd.underlying27 (f := 6) (by kernel_rfl : flat Tryd.prog 6 27 = some [.i .i64, .i .i64, .i .i64, .i .i64, .i .i64]) (hval 2 27 v2 rfl rfl) h2 (sized_of hsz (j := 2) (t := 27) rfl rfl)
  obtain ⟨_, cs2_1, rfl, ⟨a2_0, rfl, b2_0⟩, fit2_1⟩ := fit_i fit2_0
  obtain ⟨_, cs2_2, rfl, ⟨a2_1, rfl, b2_1⟩, fit2_2⟩ := fit_i fit2_1
  obtain ⟨_, cs2_3, rfl, ⟨a2_2, rfl, b2_2⟩, fit2_3⟩ := fit_i fit2_2
  obtain ⟨_, cs2_4, rfl, ⟨a2_3, rfl, b2_3⟩, fit2_4⟩ := fit_i fit2_3
  obtain ⟨_, cs2_5, rfl, ⟨a2_4, rfl, b2_4⟩, fit2_5⟩ := fit_i fit2_4
  obtain rfl := fit_nil fit2_5
  clear hA0 hval0
  refine (walk a0_0 n0_0 c0_0 a1_0 n1_0 c1_0 a2_0 a2_1 a2_2 a2_3 a2_4 W ⟨_, _, f0_0, g0_0⟩ ⟨_, _, f1_0, g1_0⟩ (bd_i64 b2_0) (bd_i64 b2_1) (bd_i64 b2_2) (bd_i64 b2_3) (bd_i64 b2_4) (tabs hL)).mono fun e W' ⟨he, bel⟩ => ?_
  subst he
  exact ⟨_, rfl, _, _, _, [], _, [], hW', trodAll_mk1 (shut_bool Tryd.underlying4 _), (trodAll_cons_mk (Below.trod laidOut (by kernel_rfl) (of_decide_eq_true (by kernel_rfl)) k0 bel lt0) (trodAll_cons_mk (Below.trod laidOut (by kernel_rfl) (of_decide_eq_true (by kernel_rfl)) k1 bel lt1) (trodAll_cons_mk (Below.trod laidOut (by kernel_rfl) (of_decide_eq_true (by kernel_rfl)) k2 bel lt2) trodAll_mk0))), rfl, bel.frame _, fun h => by cases h⟩
noncomputable def laidWorld (os : Os) : World := { World.holding Tryd.prog os ⟨#[], #[], []⟩ with heap := layAll Tryd.prog Rows.typesRow.laid (World.holding Tryd.prog os ⟨#[], #[], []⟩).heap }
theorem laid_met (os : Os) : laidMet Tryd.prog Rows.typesRow.laid ((laidWorld os).forCall (fun _ _ => 0) ⟨#[], #[.agg #[.slice none 0 0], .agg #[.slice none 0 0], .agg #[.int .i64 0, .int .i64 0, .int .i64 0, .int .i64 0, .int .i64 0]], []⟩).memory := laidMet_of_run' 8 (by kernel_rfl) (by kernel_rfl)
theorem reads (os : Os) {H : Type} (enc : TypeId × Value → H) : ∃ places, DataW.whole enc Tryd.prog ((laidWorld os).forCall (fun _ _ => 0) ⟨#[], #[.agg #[.slice none 0 0], .agg #[.slice none 0 0], .agg #[.int .i64 0, .int .i64 0, .int .i64 0, .int .i64 0, .int .i64 0]], []⟩).memory Tryd.f3.params.toList Rows.typesSpec.vars false #[(.agg #[.slice none 0 0] : Value), (.agg #[.slice none 0 0] : Value), (.agg #[.int .i64 0, .int .i64 0, .int .i64 0, .int .i64 0, .int .i64 0] : Value)].toList 8 = some ([.agg [.nil], .agg [.nil], .agg [.agg [.lit (.int .i64 0), .lit (.int .i64 0), .lit (.int .i64 0), .lit (.int .i64 0)], .lit (.int .i64 0)]], [], places) := ⟨[], by kernel_rfl⟩
set_option maxRecDepth 100000 in
theorem lifted (os : Os) (started : os.Started) (H : Type) (enc : TypeId × Value → H) (F : Stop.Interp) :
    ReturnsInHanded {} Tryd.checked os 3 .any ((OpenSpec.ofChange Rows.typesSpec).preRow enc Tryd.prog Tryd.f3 Rows.typesRow.domain false Rows.typesRow.laid) (((OpenSpec.ofChange Rows.typesSpec).at F).post enc Tryd.prog Tryd.f3 false true false false) := by
  obtain ⟨places, hx⟩ := reads os enc
  refine returnsInHanded_of_row (C := Tryd.checked) (s := (OpenSpec.ofChange Rows.typesSpec)) own started (by kernel_rfl) Tryd.func3
    (witness_row_at (enc := enc) (C := Tryd.checked) false (laidWorld os) #[.agg #[.slice none 0 0], .agg #[.slice none 0 0], .agg #[.int .i64 0, .int .i64 0, .int .i64 0, .int .i64 0, .int .i64 0]] rfl (by kernel_rfl) (by kernel_rfl) (by kernel_rfl)
      (OpenSpec.preRow_of_cond 8 hx (by kernel_rfl) (fun k hk => by cases hk) (by kernel_rfl) (laid_met os))) ?_
  intro W base args ds gs before hval hW _ hcnd hsz hL _ _
  exact contract H enc W base args ds gs before hval hW hsz  hL
theorem said : Rows.TypesSaid :=
  OpenClaim.holds_of_cond 3 Tryd.f3 rfl rfl rfl rfl rfl rfl rfl ⟨rfl, rfl, rfl, rfl, rfl⟩ rfl rfl rfl rfl rfl (by kernel_rfl) Tryd.func3 (by kernel_rfl)
    (of_decide_eq_true (by kernel_rfl)) (by unfold Func.isWrapper; first | (rw [if_pos (by decide +kernel)]; kernel_rfl) | (rw [if_neg (by decide +kernel)]; exact ⟨rfl, rfl⟩))
    (fun os started H enc _ F => by rw [OpenClaim.pre_eq_preRow]; exact lifted os started H enc F)
theorem plain (f : FuncId) (fn : Func) (hf : Tryd.pinned.checked.prog.funcNamed "trammel/trammellaw7.Types" = some f) (hfn : Tryd.pinned.checked.prog.funcs[f]? = some fn) :
    true = Tryd.pinned.checked.prog.looks [] ∧ ∀ (j : Nat) t, fn.params[j]? = some t → Tryd.pinned.checked.prog.wantsStandIn t = false := by
  obtain rfl : f = 3 := Option.some.inj ((show Tryd.prog.funcNamed "trammel/trammellaw7.Types" = some 3 by kernel_rfl).symm.trans hf) |>.symm
  obtain rfl : fn = Tryd.f3 := (Option.some.inj (Tryd.func3.symm.trans hfn)).symm
  refine ⟨by kernel_rfl, fun j t ht => ?_⟩
  rw [Tryd.params3] at ht
  have hm := Array.mem_of_getElem? ht
  have hm2 : t ∈ ([24, 27] : List Nat) := by simpa using hm
  simp only [List.mem_cons, List.not_mem_nil, or_false] at hm2
  rcases hm2 with rfl | rfl
  · exact (show Tryd.prog.wantsStandIn 24 = false by kernel_rfl)
  · exact (show Tryd.prog.wantsStandIn 27 = false by kernel_rfl)
theorem proved : Rows.TypesCardSaid :=
  Claim7.holds_tied_plain_at .later [] _ _ _ _ said (fun _ h => by cases h) (by kernel_rfl) (fun _ h => by cases h) types_row_tie rfl ⟨rfl, rfl⟩ (by kernel_rfl) rfl plain (by kernel_rfl)
end Go.Proofs.YtdganhamafhfdaaDoor.types
