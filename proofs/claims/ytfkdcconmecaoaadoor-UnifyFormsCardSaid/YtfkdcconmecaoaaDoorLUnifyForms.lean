/- UnifyForms holds for every two numbers. No condition but that the listed package variables hold what the program's text lays. -/
import Derived.Test.YtfkdcconmecaoaaDoorCards
import Derived.Test.YtfkdcconmecaoaaDoorTie
import Derived.Test.YtfkdcconmecaoaaDoorOpn
import Derived.Test.YtfkdcconmecaoaaDoorCrd
import Derived.WalkKit
import Derived.ProofKit
import Derived.Deep.DeepHandedRow
import Derived.Test.YtfkdcconmecaoaaDoorErs
import Derived.MakeChecks
import Derived.Test.YtfkdcconmecaoaaDoorUgP
import Derived.Test.YtfkdcconmecaoaaDoorUfC
import Derived.Test.YtfkdcconmecaoaaDoorMmA
import Derived.Test.YtfkdcconmecaoaaDoorAid
import Derived.Deep.RegionHeld3
import Derived.BigQuiet
namespace Go.Proofs.YtfkdcconmecaoaaDoor.unifyForms
open Go.ChangeShapes Go.WideShapes Go.ChangeAt Go.RowKit
open Go.ChangeMaps (open_string shut_string)
set_option linter.unusedVariables false
set_option linter.unusedSimpArgs false

theorem tabs {W : World} (h : laidMetH Tryd.prog Rows.unifyFormsRow.laid W) : Hid (∃ a0 a1 a2, SenB W.heap.size a0 a1 a2 W) := by
  rw [Go.MakeChecks.laidMetH_plain _ _ _ (by kernel_rfl)] at h
  exact Lib.hid (sen_of_laid h)
set_option maxRecDepth 100000 in
set_option maxHeartbeats 8000000 in
theorem walk (z x : Int) (w : World) (hz : -9223372036854775808 ≤ z ∧ z ≤ 9223372036854775807) (hx : -9223372036854775808 ≤ x ∧ x ≤ 9223372036854775807) (hS : Hid (∃ a0 a1 a2, SenB w.heap.size a0 a1 a2 w)) :
    Calls Tryd.prog 7 #[.int .i64 z, .int .i64 x] w fun e w' => e = .returned (.bool true) ∧ Below w.heap.size w w' := by
  obtain ⟨a0, a1, a2, hE⟩ := hS.out
  have hE := Lib.hid hE
  obtain ⟨x', hx'⟩ : ∃ u, x % 1024 = u := ⟨_, rfl⟩
  have hand : bits .and .i64 x 1023 = x' := by rw [and1023, hx']
  obtain ⟨d, hd⟩ : ∃ u, 1 + x' = u := ⟨_, rfl⟩
  have hdw : IntKind.i64.wrap (1 + x') = d := by rw [← hd]; exact IntWalk.i64_in _ (by omega)
  have hdb : 1 ≤ d ∧ d ≤ 1024 := by omega
  obtain ⟨j, hj⟩ : ∃ j : Nat, d % 8 = (j : Int) := ⟨(d % 8).toNat, by omega⟩
  have hj8 : j < 8 := by omega
  obtain ⟨p, hp⟩ : ∃ u, d % 4 = u := ⟨_, rfl⟩
  have hpj : p = (j : Int) % 4 := by omega
  have hp0 : (0 : Int) ≤ p := by omega
  have hp4 : p < 4 := by omega
  have hand3 : bits .and .i64 d 3 = p := by rw [and3, hp]
  have hand7 : bits .and .i64 d 7 = (j : Int) := by rw [and7, hj]
  obtain ⟨y, hy⟩ : ∃ u, 1 + (j : Int) = u := ⟨_, rfl⟩
  have hyw : IntKind.i64.wrap (1 + (j : Int)) = y := by rw [← hy]; exact IntWalk.i64_in _ (by omega)
  have hneg : IntKind.i64.wrap (-d) = -d := IntWalk.i64_in _ (by omega)
  have hadd : IntKind.i64.wrap (4095 + d) = 4095 + d := IntWalk.i64_in _ (by omega)
  obtain ⟨k0, hk0, hk9, hk⟩ := umod_int z 9 (by omega) (by omega)
  obtain ⟨k, rfl⟩ : ∃ k : Nat, k0 = (k : Int) := ⟨k0.toNat, by omega⟩
  have hk9' : k < 9 := by omega
  have hc0 : ([Value.int .i64 0, Value.int .i64 0, Value.int .i64 0, Value.int .i64 0, Value.int .i64 (-1)] : List Value)[j % 4]? = some (.int .i64 0) := by
    have h4 : j % 4 = 0 ∨ j % 4 = 1 ∨ j % 4 = 2 ∨ j % 4 = 3 := by omega
    rcases h4 with e | e | e | e <;> rw [e] <;> rfl
  clear hx' hd hj hp
  go_enter Tryd.func7, Tryd.ntmps7
  go_wp2_with fail
  refine (awake10_any a0 a1 a2 _ (Lib.hid (hE.out.up (show Below w.heap.size w _ from by (repeat' (first | with_reducible exact Below.refl _ _ | with_reducible assumption | with_reducible apply Below.setCell | with_reducible apply Below.alloc | with_reducible apply Below.drew | with_reducible apply below_drewN | with_reducible exact Nat.le_refl _ | (simp; done) | (simp; omega) | omega | exact Nat.le_refl _)))))).mono ?_
  rintro e w1 ⟨rfl, hb1⟩
  have hBl := Lib.hid (belT (show Below w.heap.size w _ from by (repeat' (first | with_reducible exact Below.refl _ _ | with_reducible assumption | with_reducible apply Below.setCell | with_reducible apply Below.alloc | with_reducible apply Below.drew | with_reducible apply below_drewN | with_reducible exact Nat.le_refl _ | (simp; done) | (simp; omega) | omega | exact Nat.le_refl _))) hb1)
  clear hb1
  go_upto_region 9 with fail
  obtain ⟨w2, hw2⟩ : ∃ W, FmWorld w1 j y = W := ⟨_, rfl⟩
  have hF := Lib.hid (fm_mk w1 hj8 hy)
  rw [hw2] at hF
  unfold FmWorld at hw2
  rw [hw2]
  have hBl := Lib.hid (belT hBl.out hF.out.2)
  have hF := Lib.hid hF.out.1
  clear hw2 hc0
  obtain ⟨x0, x1⟩ := hF.out.b6
  go_wp2_with fail
  clear x0 x1
  refine (unify_go a0 a1 a2 _ _ _ _ _ _ tN [] 5 (by omega) _ (Lib.hid hF.out.tn) (Lib.hid (tyArg_nil _ _)) (by omega) (by omega) (Lib.hid (hE.out.up hBl.out)) _ (Lib.hid ug_e1)).mono ?_
  rintro e w3 ⟨hP, hb⟩
  obtain rfl : e = .returned (.tuple #[.slice none 0 0, .int .i64 1000]) := hP.1
  have hF := Lib.hid (hF.out.below hb)
  have hBl := Lib.hid (belT hBl.out hb)
  clear hb hP
  obtain ⟨x0, x1⟩ := hF.out.b6
  go_wp2_with fail
  clear x0 x1
  refine (unify_go a0 a1 a2 _ _ _ _ _ _ tN tN (-d) (by omega) _ (Lib.hid hF.out.tn) (Lib.hid hF.out.tn) (by omega) (by omega) (Lib.hid (hE.out.up hBl.out)) _ (Lib.hid (ug_e2 hdb.1))).mono ?_
  rintro e w4 ⟨hP, hb⟩
  obtain rfl : e = .returned (.tuple #[.slice none 0 0, .int .i64 1000]) := hP.1
  have hF := Lib.hid (hF.out.below hb)
  have hBl := Lib.hid (belT hBl.out hb)
  clear hb hP
  obtain ⟨x0, x1⟩ := hF.out.b6
  go_wp2_with fail
  clear x0 x1
  refine (unify_go a0 a1 a2 _ _ _ _ _ _ tN tN (4095 + d) (by omega) _ (Lib.hid hF.out.tn) (Lib.hid hF.out.tn) (by omega) (by omega) (Lib.hid (hE.out.up hBl.out)) _ (Lib.hid (ug_e3 hdb.1))).mono ?_
  rintro e w5 ⟨hP, hb⟩
  obtain rfl : e = .returned (.tuple #[.slice none 0 0, .int .i64 1000]) := hP.1
  have hF := Lib.hid (hF.out.below hb)
  have hBl := Lib.hid (belT hBl.out hb)
  clear hb hP
  go_wp2_with fail
  refine wp_region_held_drew (S := (fun W => W.cell? ⟨w1.heap.size + 1, 0, none⟩ = some (.slice (some ⟨w1.heap.size, 0, none⟩) 1 1) ∧ W.cell? ⟨w1.heap.size + 1 + 1 + 1, 0, none⟩ = some (.slice (some ⟨w1.heap.size + 1 + 1, 0, none⟩) 1 1) ∧ W.cell? ⟨w1.heap.size + 1 + 1 + 1 + 1, 0, none⟩ = some (.int .i64 0) ∧ W.cell? ⟨w1.heap.size + 1 + 1 + 1 + 1, 1, none⟩ = some (.int .i64 0) ∧ W.cell? ⟨w1.heap.size + 1 + 1 + 1 + 1, 2, none⟩ = some (.int .i64 0) ∧ W.cell? ⟨w1.heap.size + 1 + 1 + 1 + 1, 3, none⟩ = some (.int .i64 0) ∧ W.cell? ⟨w1.heap.size + 1 + 1 + 1 + 1, 4, none⟩ = some (.int .i64 (-1)) ∧ W.cell? ⟨w1.heap.size + 1 + 1 + 1 + 1 + 1, 0, none⟩ = some (.int .i64 (rJ j).a) ∧ W.cell? ⟨w1.heap.size + 1 + 1 + 1 + 1 + 1, 1, none⟩ = some (.int .i64 (rJ j).b) ∧ W.cell? ⟨w1.heap.size + 1 + 1 + 1 + 1 + 1, 2, none⟩ = some (.int .i64 (rJ j).c) ∧ W.cell? ⟨w1.heap.size + 1 + 1 + 1 + 1 + 1, 3, none⟩ = some (.int .i64 (rJ j).d) ∧ W.cell? ⟨w1.heap.size + 1 + 1 + 1 + 1 + 1, 4, none⟩ = some (.int .i64 (rJ j).t) ∧ Below w5.heap.size w5 W)) (by kernel_rfl) (FmW.cells hF.out ((Below.refl _ _).drew)) (fun hHeld => ?_)
  have hB := Lib.hid (show Below w5.heap.size w5 w5.drew from (Below.refl _ _).drew)
  generalize w5.drew = wd66 at hHeld hB ⊢
  refine rg_take 0 (some 66) (v := ?v1) rfl rfl (by kernel_rfl) (by kernel_rfl) (by kernel_rfl) (fun _ _ _ h => h) (by rfl) ?hy1 (by assumption) ?_
  case hy1 => intro W hSW; (try dsimp only at hSW); go_simp; (try with_reducible rfl)
  try simp only [Act.put, List.setIfInBounds_toArray, List.set_cons_zero, List.set_cons_succ]
  refine rg_take 1 (some 67) (v := ?v2) rfl rfl (by kernel_rfl) (by kernel_rfl) (by kernel_rfl) (fun _ _ _ h => h) (by rfl) ?hy2 (by assumption) ?_
  case hy2 => intro W hSW; (try dsimp only at hSW); go_simp; (try with_reducible rfl)
  try simp only [Act.put, List.setIfInBounds_toArray, List.set_cons_zero, List.set_cons_succ]
  refine rg_take 2 (some 68) (v := ?v3) rfl rfl (by kernel_rfl) (by kernel_rfl) (by kernel_rfl) (fun _ _ _ h => h) (by rfl) ?hy3 (by assumption) ?_
  case hy3 => intro W hSW; (try dsimp only at hSW); go_simp; (try with_reducible rfl)
  try simp only [Act.put, List.setIfInBounds_toArray, List.set_cons_zero, List.set_cons_succ]
  refine rg_take 3 (some 69) (v := ?v4) rfl rfl (by kernel_rfl) (by kernel_rfl) (by kernel_rfl) (fun _ _ _ h => h) (by rfl) ?hy4 (by assumption) ?_
  case hy4 => intro W hSW; (try dsimp only at hSW); go_simp; (try with_reducible rfl)
  try simp only [Act.put, List.setIfInBounds_toArray, List.set_cons_zero, List.set_cons_succ]
  refine rg_take 4 (some 70) (v := ?v5) rfl rfl (by kernel_rfl) (by kernel_rfl) (by kernel_rfl) (fun _ _ _ h => h) (by rfl) ?hy5 (by assumption) ?_
  case hy5 => intro W hSW; (try dsimp only at hSW); go_simp; (try with_reducible rfl)
  try simp only [Act.put, List.setIfInBounds_toArray, List.set_cons_zero, List.set_cons_succ]
  refine rg_take 6 (some 72) (v := ?v6) rfl rfl (by kernel_rfl) (by kernel_rfl) (by kernel_rfl) (fun _ _ _ h => h) (by rfl) ?hy6 (by assumption) ?_
  case hy6 => intro W hSW; (try dsimp only at hSW); go_simp; (try with_reducible rfl)
  try simp only [Act.put, List.setIfInBounds_toArray, List.set_cons_zero, List.set_cons_succ]
  refine rg_take 7 (some 73) (v := ?v7) rfl rfl (by kernel_rfl) (by kernel_rfl) (by kernel_rfl) (fun _ _ _ h => h) (by rfl) ?hy7 (by assumption) ?_
  case hy7 => intro W hSW; (try dsimp only at hSW); go_simp; (try with_reducible rfl)
  try simp only [Act.put, List.setIfInBounds_toArray, List.set_cons_zero, List.set_cons_succ]
  refine rg_take 8 (some 74) (v := ?v8) rfl rfl (by kernel_rfl) (by kernel_rfl) (by kernel_rfl) (fun _ _ _ h => h) (by rfl) ?hy8 (by assumption) ?_
  case hy8 => intro W hSW; (try dsimp only at hSW); go_simp; (try with_reducible rfl)
  try simp only [Act.put, List.setIfInBounds_toArray, List.set_cons_zero, List.set_cons_succ]
  refine rg_take 10 (some 76) (v := ?v9) rfl rfl (by kernel_rfl) (by kernel_rfl) (by kernel_rfl) (fun _ _ _ h => h) (by rfl) ?hy9 (by assumption) ?_
  case hy9 => intro W hSW; (try dsimp only at hSW); go_simp; (try with_reducible rfl)
  try simp only [Act.put, List.setIfInBounds_toArray, List.set_cons_zero, List.set_cons_succ]
  refine rg_take 11 (some 77) (v := ?v10) rfl rfl (by kernel_rfl) (by kernel_rfl) (by kernel_rfl) (fun _ _ _ h => h) (by rfl) ?hy10 (by assumption) ?_
  case hy10 => intro W hSW; (try dsimp only at hSW); go_simp; (try with_reducible rfl)
  try simp only [Act.put, List.setIfInBounds_toArray, List.set_cons_zero, List.set_cons_succ]
  refine rg_take 12 (some 78) (v := ?v11) rfl rfl (by kernel_rfl) (by kernel_rfl) (by kernel_rfl) (fun _ _ _ h => h) (by rfl) ?hy11 (by assumption) ?_
  case hy11 => intro W hSW; (try dsimp only at hSW); go_simp; (try with_reducible rfl)
  try simp only [Act.put, List.setIfInBounds_toArray, List.set_cons_zero, List.set_cons_succ]
  refine rg_take 15 (some 81) (v := ?v12) rfl rfl (by kernel_rfl) (by kernel_rfl) (by kernel_rfl) (fun _ _ _ h => h) (by rfl) ?hy12 (by assumption) ?_
  case hy12 => intro W hSW; (try dsimp only at hSW); go_simp; (try with_reducible rfl)
  try simp only [Act.put, List.setIfInBounds_toArray, List.set_cons_zero, List.set_cons_succ]
  refine rg_take 20 (some 86) (v := ?v13) rfl rfl (by kernel_rfl) (by kernel_rfl) (by kernel_rfl) (fun _ _ _ h => h) (by rfl) ?hy13 (by assumption) ?_
  case hy13 => intro W hSW; (try dsimp only at hSW); go_simp; (try with_reducible rfl)
  try simp only [Act.put, List.setIfInBounds_toArray, List.set_cons_zero, List.set_cons_succ]
  refine rg_take 24 (some 90) (v := ?v14) rfl rfl (by kernel_rfl) (by kernel_rfl) (by kernel_rfl) (fun _ _ _ h => h) (by rfl) ?hy14 (by assumption) ?_
  case hy14 => intro W hSW; (try dsimp only at hSW); go_simp; (try with_reducible rfl)
  try simp only [Act.put, List.setIfInBounds_toArray, List.set_cons_zero, List.set_cons_succ]
  refine rg_take 25 (some 91) (v := ?v15) rfl rfl (by kernel_rfl) (by kernel_rfl) (by kernel_rfl) (fun _ _ _ h => h) (by rfl) ?hy15 (by assumption) ?_
  case hy15 => intro W hSW; (try dsimp only at hSW); go_simp; (try with_reducible rfl)
  try simp only [Act.put, List.setIfInBounds_toArray, List.set_cons_zero, List.set_cons_succ]
  refine rg_take 26 (some 92) (v := ?v16) rfl rfl (by kernel_rfl) (by kernel_rfl) (by kernel_rfl) (fun _ _ _ h => h) (by rfl) ?hy16 (by assumption) ?_
  case hy16 => intro W hSW; (try dsimp only at hSW); go_simp; (try with_reducible rfl)
  try simp only [Act.put, List.setIfInBounds_toArray, List.set_cons_zero, List.set_cons_succ]
  refine rg_take 27 (some 93) (v := ?v17) rfl rfl (by kernel_rfl) (by kernel_rfl) (by kernel_rfl) (fun _ _ _ h => h) (by rfl) ?hy17 (by assumption) ?_
  case hy17 => intro W hSW; (try dsimp only at hSW); go_simp; (try with_reducible rfl)
  try simp only [Act.put, List.setIfInBounds_toArray, List.set_cons_zero, List.set_cons_succ]
  refine rg_one 5 rfl (by kernel_rfl) (by rfl) (fun K hK => ?_)
  go_simp
  (go_at_call 18; refine (fun10_any _ _ _ rwP _ _ _ tN tN _ (Lib.hid (hF.out.tn.below hB.out)) (Lib.hid (hF.out.tn.below hB.out)) (by intro h; cases h) (by kernel_rfl) (by kernel_rfl)).mono ?_; rintro e w71 ⟨vv, rfl, hv, hb⟩; obtain ⟨a71, n71, c71, rfl⟩ := ownT_sl hv; have hv := hv.arg)
  have t71 := Lib.hid hv
  refine hK.out _ _ (FmW.cells hF.out (belT hB.out hb)) (fun hHeld => ?_)
  have hB := Lib.hid (belT hB.out hb)
  clear hK K hb hv
  try simp only [Act.put, List.setIfInBounds_toArray, List.set_cons_zero, List.set_cons_succ]
  refine rg_one 9 rfl (by kernel_rfl) (by rfl) (fun K hK => ?_)
  go_simp
  (go_at_call 18; refine (fun10_any _ _ _ rwP _ _ _ tN tN _ (Lib.hid (hF.out.tn.below hB.out)) (Lib.hid (hF.out.tn.below hB.out)) (by intro h; cases h) (by kernel_rfl) (by kernel_rfl)).mono ?_; rintro e w75 ⟨vv, rfl, hv, hb⟩; obtain ⟨a75, n75, c75, rfl⟩ := ownT_sl hv; have hv := hv.arg)
  have t75 := Lib.hid hv
  have t71 := Lib.hid (t71.out.below hb)
  refine hK.out _ _ (FmW.cells hF.out (belT hB.out hb)) (fun hHeld => ?_)
  have hB := Lib.hid (belT hB.out hb)
  clear hK K hb hv
  try simp only [Act.put, List.setIfInBounds_toArray, List.set_cons_zero, List.set_cons_succ]
  refine rg_one 13 rfl (by kernel_rfl) (by rfl) (fun K hK => ?_)
  go_simp
  (go_at_call 18; refine (fun10_any _ _ _ (rJ j) _ _ _ tN tN _ (Lib.hid (hF.out.tn.below hB.out)) (Lib.hid (hF.out.tn.below hB.out)) (by intro h; cases h) (by kernel_rfl) (by kernel_rfl)).mono ?_; rintro e w79 ⟨vv, rfl, hv, hb⟩; obtain ⟨a79, n79, c79, rfl⟩ := ownT_sl hv; have hv := hv.arg)
  have t79 := Lib.hid hv
  have t71 := Lib.hid (t71.out.below hb)
  have t75 := Lib.hid (t75.out.below hb)
  refine hK.out _ _ (FmW.cells hF.out (belT hB.out hb)) (fun hHeld => ?_)
  have hB := Lib.hid (belT hB.out hb)
  clear hK K hb hv
  try simp only [Act.put, List.setIfInBounds_toArray, List.set_cons_zero, List.set_cons_succ]
  refine rg_one 14 rfl (by kernel_rfl) (by rfl) (fun K hK => ?_)
  go_simp
  (go_at_call 16; refine (v10_any 0 _).mono ?_; rintro e w80 ⟨g80, hg80, rfl, hv, hb⟩)
  have t80 := Lib.hid hv
  have v80 : tyV [vrT 0] = true := (by kernel_rfl)
  have t71 := Lib.hid (t71.out.below hb)
  have t75 := Lib.hid (t75.out.below hb)
  have t79 := Lib.hid (t79.out.below hb)
  refine hK.out _ _ (FmW.cells hF.out (belT hB.out hb)) (fun hHeld => ?_)
  have hB := Lib.hid (belT hB.out hb)
  clear hK K hb hv
  try simp only [Act.put, List.setIfInBounds_toArray, List.set_cons_zero, List.set_cons_succ]
  refine rg_one 16 rfl (by kernel_rfl) (by rfl) (fun K hK => ?_)
  go_simp
  (go_at_call 16; refine (v10_any 0 _).mono ?_; rintro e w82 ⟨g82, hg82, rfl, hv, hb⟩)
  have t82 := Lib.hid hv
  have v82 : tyV [vrT 0] = true := (by kernel_rfl)
  have t71 := Lib.hid (t71.out.below hb)
  have t75 := Lib.hid (t75.out.below hb)
  have t79 := Lib.hid (t79.out.below hb)
  have t80 := Lib.hid (t80.out.below hb)
  refine hK.out _ _ (FmW.cells hF.out (belT hB.out hb)) (fun hHeld => ?_)
  have hB := Lib.hid (belT hB.out hb)
  clear hK K hb hv
  try simp only [Act.put, List.setIfInBounds_toArray, List.set_cons_zero, List.set_cons_succ]
  refine rg_one 17 rfl (by kernel_rfl) (by rfl) (fun K hK => ?_)
  go_simp
  (go_at_call 18; refine (fun10_any _ _ _ rwP _ _ _ [vrT 0] [vrT 0] _ t80 t82 (by intro h; cases h) v80 v82).mono ?_; rintro e w83 ⟨vv, rfl, hv, hb⟩; obtain ⟨a83, n83, c83, rfl⟩ := ownT_sl hv; have hv := hv.arg)
  have t83 := Lib.hid hv
  have t71 := Lib.hid (t71.out.below hb)
  have t75 := Lib.hid (t75.out.below hb)
  have t79 := Lib.hid (t79.out.below hb)
  have t80 := Lib.hid (t80.out.below hb)
  have t82 := Lib.hid (t82.out.below hb)
  refine hK.out _ _ (FmW.cells hF.out (belT hB.out hb)) (fun hHeld => ?_)
  have hB := Lib.hid (belT hB.out hb)
  clear hK K hb hv
  try simp only [Act.put, List.setIfInBounds_toArray, List.set_cons_zero, List.set_cons_succ]
  refine rg_one 18 rfl (by kernel_rfl) (by rfl) (fun K hK => ?_)
  go_simp
  (go_at_call 16; refine (v10_any 0 _).mono ?_; rintro e w84 ⟨g84, hg84, rfl, hv, hb⟩)
  have t84 := Lib.hid hv
  have t71 := Lib.hid (t71.out.below hb)
  have t75 := Lib.hid (t75.out.below hb)
  have t79 := Lib.hid (t79.out.below hb)
  have t80 := Lib.hid (t80.out.below hb)
  have t82 := Lib.hid (t82.out.below hb)
  have t83 := Lib.hid (t83.out.below hb)
  refine hK.out _ _ (FmW.cells hF.out (belT hB.out hb)) (fun hHeld => ?_)
  have hB := Lib.hid (belT hB.out hb)
  clear hK K hb hv
  try simp only [Act.put, List.setIfInBounds_toArray, List.set_cons_zero, List.set_cons_succ]
  refine rg_one 19 rfl (by kernel_rfl) (by rfl) (fun K hK => ?_)
  go_simp
  (go_at_call 16; refine (v10_any 0 _).mono ?_; rintro e w85 ⟨g85, hg85, rfl, hv, hb⟩)
  have t85 := Lib.hid hv
  have v85 : tyV [vrT 0] = true := (by kernel_rfl)
  have t71 := Lib.hid (t71.out.below hb)
  have t75 := Lib.hid (t75.out.below hb)
  have t79 := Lib.hid (t79.out.below hb)
  have t80 := Lib.hid (t80.out.below hb)
  have t82 := Lib.hid (t82.out.below hb)
  have t83 := Lib.hid (t83.out.below hb)
  have t84 := Lib.hid (t84.out.below hb)
  refine hK.out _ _ (FmW.cells hF.out (belT hB.out hb)) (fun hHeld => ?_)
  have hB := Lib.hid (belT hB.out hb)
  clear hK K hb hv
  try simp only [Act.put, List.setIfInBounds_toArray, List.set_cons_zero, List.set_cons_succ]
  refine rg_one 21 rfl (by kernel_rfl) (by rfl) (fun K hK => ?_)
  go_simp
  (go_at_call 16; refine (v10_any 1 _).mono ?_; rintro e w87 ⟨g87, hg87, rfl, hv, hb⟩)
  have t87 := Lib.hid hv
  have v87 : tyV [vrT 1] = true := (by kernel_rfl)
  have t71 := Lib.hid (t71.out.below hb)
  have t75 := Lib.hid (t75.out.below hb)
  have t79 := Lib.hid (t79.out.below hb)
  have t80 := Lib.hid (t80.out.below hb)
  have t82 := Lib.hid (t82.out.below hb)
  have t83 := Lib.hid (t83.out.below hb)
  have t84 := Lib.hid (t84.out.below hb)
  have t85 := Lib.hid (t85.out.below hb)
  refine hK.out _ _ (FmW.cells hF.out (belT hB.out hb)) (fun hHeld => ?_)
  have hB := Lib.hid (belT hB.out hb)
  clear hK K hb hv
  try simp only [Act.put, List.setIfInBounds_toArray, List.set_cons_zero, List.set_cons_succ]
  refine rg_one 22 rfl (by kernel_rfl) (by rfl) (fun K hK => ?_)
  go_simp
  (go_at_call 18; refine (fun10_any _ _ _ rwP _ _ _ [vrT 0] [vrT 1] _ t85 t87 (by intro h; cases h) v85 v87).mono ?_; rintro e w88 ⟨vv, rfl, hv, hb⟩; obtain ⟨a88, n88, c88, rfl⟩ := ownT_sl hv; have hv := hv.arg)
  have t88 := Lib.hid hv
  have t71 := Lib.hid (t71.out.below hb)
  have t75 := Lib.hid (t75.out.below hb)
  have t79 := Lib.hid (t79.out.below hb)
  have t80 := Lib.hid (t80.out.below hb)
  have t82 := Lib.hid (t82.out.below hb)
  have t83 := Lib.hid (t83.out.below hb)
  have t84 := Lib.hid (t84.out.below hb)
  have t85 := Lib.hid (t85.out.below hb)
  have t87 := Lib.hid (t87.out.below hb)
  refine hK.out _ _ (FmW.cells hF.out (belT hB.out hb)) (fun hHeld => ?_)
  have hB := Lib.hid (belT hB.out hb)
  clear hK K hb hv
  try simp only [Act.put, List.setIfInBounds_toArray, List.set_cons_zero, List.set_cons_succ]
  refine rg_one 23 rfl (by kernel_rfl) (by rfl) (fun K hK => ?_)
  go_simp
  (go_at_call 16; refine (v10_any 0 _).mono ?_; rintro e w89 ⟨g89, hg89, rfl, hv, hb⟩)
  have t89 := Lib.hid hv
  have v89 : tyV [vrT 0] = true := (by kernel_rfl)
  have t71 := Lib.hid (t71.out.below hb)
  have t75 := Lib.hid (t75.out.below hb)
  have t79 := Lib.hid (t79.out.below hb)
  have t80 := Lib.hid (t80.out.below hb)
  have t82 := Lib.hid (t82.out.below hb)
  have t83 := Lib.hid (t83.out.below hb)
  have t84 := Lib.hid (t84.out.below hb)
  have t85 := Lib.hid (t85.out.below hb)
  have t87 := Lib.hid (t87.out.below hb)
  have t88 := Lib.hid (t88.out.below hb)
  refine hK.out _ _ (FmW.cells hF.out (belT hB.out hb)) (fun hHeld => ?_)
  have hB := Lib.hid (belT hB.out hb)
  clear hK K hb hv
  try simp only [Act.put, List.setIfInBounds_toArray, List.set_cons_zero, List.set_cons_succ]
  refine rg_one 28 rfl (by kernel_rfl) (by rfl) (fun K hK => ?_)
  go_simp
  (go_at_call 18; refine (fun10_any _ _ _ rwO _ _ _ tN tN _ (Lib.hid (hF.out.tn.below hB.out)) (Lib.hid (hF.out.tn.below hB.out)) (by intro h; cases h) (by kernel_rfl) (by kernel_rfl)).mono ?_; rintro e w94 ⟨vv, rfl, hv, hb⟩; obtain ⟨a94, n94, c94, rfl⟩ := ownT_sl hv; have hv := hv.arg)
  have t94 := Lib.hid hv
  have v94 : tyV (arwL tN rwO tN) = true := (by kernel_rfl)
  have t71 := Lib.hid (t71.out.below hb)
  have t75 := Lib.hid (t75.out.below hb)
  have t79 := Lib.hid (t79.out.below hb)
  have t80 := Lib.hid (t80.out.below hb)
  have t82 := Lib.hid (t82.out.below hb)
  have t83 := Lib.hid (t83.out.below hb)
  have t84 := Lib.hid (t84.out.below hb)
  have t85 := Lib.hid (t85.out.below hb)
  have t87 := Lib.hid (t87.out.below hb)
  have t88 := Lib.hid (t88.out.below hb)
  have t89 := Lib.hid (t89.out.below hb)
  refine hK.out _ _ (FmW.cells hF.out (belT hB.out hb)) (fun hHeld => ?_)
  have hB := Lib.hid (belT hB.out hb)
  clear hK K hb hv
  try simp only [Act.put, List.setIfInBounds_toArray, List.set_cons_zero, List.set_cons_succ]
  refine rg_one 29 rfl (by kernel_rfl) (by rfl) (fun K hK => ?_)
  go_simp
  (go_at_call 18; refine (fun10_any _ _ _ rwO _ _ _ [vrT 0] (arwL tN rwO tN) _ t89 t94 (by intro h; cases h) v89 v94).mono ?_; rintro e w95 ⟨vv, rfl, hv, hb⟩; obtain ⟨a95, n95, c95, rfl⟩ := ownT_sl hv; have hv := hv.arg)
  have t95 := Lib.hid hv
  have t71 := Lib.hid (t71.out.below hb)
  have t75 := Lib.hid (t75.out.below hb)
  have t79 := Lib.hid (t79.out.below hb)
  have t80 := Lib.hid (t80.out.below hb)
  have t82 := Lib.hid (t82.out.below hb)
  have t83 := Lib.hid (t83.out.below hb)
  have t84 := Lib.hid (t84.out.below hb)
  have t85 := Lib.hid (t85.out.below hb)
  have t87 := Lib.hid (t87.out.below hb)
  have t88 := Lib.hid (t88.out.below hb)
  have t89 := Lib.hid (t89.out.below hb)
  have t94 := Lib.hid (t94.out.below hb)
  refine hK.out _ _ (FmW.cells hF.out (belT hB.out hb)) (fun hHeld => ?_)
  have hB := Lib.hid (belT hB.out hb)
  clear hK K hb hv
  try simp only [Act.put, List.setIfInBounds_toArray, List.set_cons_zero, List.set_cons_succ]
  have hL := Lib.hid (tsAt_lit w95 24 w95.heap.size rfl [.slice (some ⟨w1.heap.size, 0, none⟩) 1 1, .slice (some ⟨w1.heap.size, 0, none⟩) 1 1, .slice a71 n71 c71, .slice a75 n75 c75, .slice a79 n79 c79, .slice a83 n83 c83, .slice (some ⟨g84, 0, none⟩) 1 1, .slice a88 n88 c88, .slice a95 n95 c95] (asL (rJ j)) #[.slice (some ⟨w1.heap.size, 0, none⟩) 1 1, .slice (some ⟨w1.heap.size, 0, none⟩) 1 1, .slice a71 n71 c71, .slice a75 n75 c75, .slice a79 n79 c79, .slice a83 n83 c83, .slice (some ⟨g84, 0, none⟩) 1 1, .slice a88 n88 c88, .slice a95 n95 c95] rfl rfl (fun k hk => by
    have hk : k < 9 := hk
    have hc : k = 0 ∨ k = 1 ∨ k = 2 ∨ k = 3 ∨ k = 4 ∨ k = 5 ∨ k = 6 ∨ k = 7 ∨ k = 8 := by omega
    rcases hc with rfl | rfl | rfl | rfl | rfl | rfl | rfl | rfl | rfl
    · exact ⟨_, _, _, rfl, hF.out.tn.below hB.out, by omega⟩
    · exact ⟨_, _, _, rfl, hF.out.tn.below hB.out, by omega⟩
    · exact ⟨_, _, _, rfl, t71.out, by rw [t71.out.1]; simp [arwL, tN, tT]⟩
    · exact ⟨_, _, _, rfl, t75.out, by rw [t75.out.1]; simp [arwL, tN, tT]⟩
    · exact ⟨_, _, _, rfl, t79.out, by rw [t79.out.1]; simp [arwL, tN, tT]⟩
    · exact ⟨_, _, _, rfl, t83.out, by rw [t83.out.1]; simp [arwL, tN, tT]⟩
    · exact ⟨_, _, _, rfl, t84.out, by rw [t84.out.1]; simp [arwL, tN, tT]⟩
    · exact ⟨_, _, _, rfl, t88.out, by rw [t88.out.1]; simp [arwL, tN, tT]⟩
    · exact ⟨_, _, _, rfl, t95.out, by rw [t95.out.1]; simp [arwL, tN, tT]⟩))
  refine rg_one 30 rfl (by kernel_rfl) (by rfl) (fun K hK => ?_)
  go_simp
  refine hK.out _ _ (FmW.cells hF.out (belT hB.out (below_alc _ _))) (fun hHeld => ?_)
  have hB := Lib.hid (belT hB.out (below_alc w95 (.cells #[.slice (some ⟨w1.heap.size, 0, none⟩) 1 1, .slice (some ⟨w1.heap.size, 0, none⟩) 1 1, .slice a71 n71 c71, .slice a75 n75 c75, .slice a79 n79 c79, .slice a83 n83 c83, .slice (some ⟨g84, 0, none⟩) 1 1, .slice a88 n88 c88, .slice a95 n95 c95] 24)))
  obtain ⟨w6, hwe⟩ : ∃ W, w95.alloc (.cells #[.slice (some ⟨w1.heap.size, 0, none⟩) 1 1, .slice (some ⟨w1.heap.size, 0, none⟩) 1 1, .slice a71 n71 c71, .slice a75 n75 c75, .slice a79 n79 c79, .slice a83 n83 c83, .slice (some ⟨g84, 0, none⟩) 1 1, .slice a88 n88 c88, .slice a95 n95 c95] 24) = W := ⟨_, rfl⟩
  rw [hwe] at hL hB hHeld ⊢
  clear hK K hwe t71 t75 t79 t80 t82 t83 t84 t85 t87 t88 t89 t94 t95
  try simp only [Act.put, List.setIfInBounds_toArray, List.set_cons_zero, List.set_cons_succ]
  refine rg_take 31 (some 16) (v := ?v18) rfl rfl (by kernel_rfl) (by kernel_rfl) (by kernel_rfl) (fun _ _ _ h => h) (by rfl) ?hy18 (by assumption) ?_
  case hy18 => intro W hSW; (try dsimp only at hSW); go_simp; (try with_reducible rfl)
  try simp only [Act.put, List.setIfInBounds_toArray, List.set_cons_zero, List.set_cons_succ]
  refine wpAnyH_done (by kernel_rfl) ?_ _
  have hF := Lib.hid (hF.out.below hB.out)
  have hBl := Lib.hid (belT hBl.out hB.out)
  clear hB hHeld
  have hAs := Lib.hid hL.out
  clear hL
  go_wp2_with fail
  refine wp_region_held_drew (S := (fun W => W.cell? ⟨w1.heap.size + 1, 0, none⟩ = some (.slice (some ⟨w1.heap.size, 0, none⟩) 1 1) ∧ W.cell? ⟨w1.heap.size + 1 + 1 + 1, 0, none⟩ = some (.slice (some ⟨w1.heap.size + 1 + 1, 0, none⟩) 1 1) ∧ W.cell? ⟨w1.heap.size + 1 + 1 + 1 + 1, 0, none⟩ = some (.int .i64 0) ∧ W.cell? ⟨w1.heap.size + 1 + 1 + 1 + 1, 1, none⟩ = some (.int .i64 0) ∧ W.cell? ⟨w1.heap.size + 1 + 1 + 1 + 1, 2, none⟩ = some (.int .i64 0) ∧ W.cell? ⟨w1.heap.size + 1 + 1 + 1 + 1, 3, none⟩ = some (.int .i64 0) ∧ W.cell? ⟨w1.heap.size + 1 + 1 + 1 + 1, 4, none⟩ = some (.int .i64 (-1)) ∧ W.cell? ⟨w1.heap.size + 1 + 1 + 1 + 1 + 1, 0, none⟩ = some (.int .i64 (rJ j).a) ∧ W.cell? ⟨w1.heap.size + 1 + 1 + 1 + 1 + 1, 1, none⟩ = some (.int .i64 (rJ j).b) ∧ W.cell? ⟨w1.heap.size + 1 + 1 + 1 + 1 + 1, 2, none⟩ = some (.int .i64 (rJ j).c) ∧ W.cell? ⟨w1.heap.size + 1 + 1 + 1 + 1 + 1, 3, none⟩ = some (.int .i64 (rJ j).d) ∧ W.cell? ⟨w1.heap.size + 1 + 1 + 1 + 1 + 1, 4, none⟩ = some (.int .i64 (rJ j).t) ∧ Below w6.heap.size w6 W)) (by kernel_rfl) (FmW.cells hF.out ((Below.refl _ _).drew)) (fun hHeld => ?_)
  have hB := Lib.hid (show Below w6.heap.size w6 w6.drew from (Below.refl _ _).drew)
  generalize w6.drew = wd97 at hHeld hB ⊢
  have hAs := Lib.hid (hAs.out.below hB.out)
  refine rg_take 0 (some 97) (v := ?v19) rfl rfl (by kernel_rfl) (by kernel_rfl) (by kernel_rfl) (fun _ _ _ h => h) (by rfl) ?hy19 (by assumption) ?_
  case hy19 => intro W hSW; (try dsimp only at hSW); go_simp; (try with_reducible rfl)
  try simp only [Act.put, List.setIfInBounds_toArray, List.set_cons_zero, List.set_cons_succ]
  refine rg_take 1 (some 98) (v := ?v20) rfl rfl (by kernel_rfl) (by kernel_rfl) (by kernel_rfl) (fun _ _ _ h => h) (by rfl) ?hy20 (by assumption) ?_
  case hy20 => intro W hSW; (try dsimp only at hSW); go_simp; (try with_reducible rfl)
  try simp only [Act.put, List.setIfInBounds_toArray, List.set_cons_zero, List.set_cons_succ]
  refine rg_take 2 (some 99) (v := ?v21) rfl rfl (by kernel_rfl) (by kernel_rfl) (by kernel_rfl) (fun _ _ _ h => h) (by rfl) ?hy21 (by assumption) ?_
  case hy21 => intro W hSW; (try dsimp only at hSW); go_simp; (try with_reducible rfl)
  try simp only [Act.put, List.setIfInBounds_toArray, List.set_cons_zero, List.set_cons_succ]
  refine rg_take 3 (some 100) (v := ?v22) rfl rfl (by kernel_rfl) (by kernel_rfl) (by kernel_rfl) (fun _ _ _ h => h) (by rfl) ?hy22 (by assumption) ?_
  case hy22 => intro W hSW; (try dsimp only at hSW); go_simp; (try with_reducible rfl)
  try simp only [Act.put, List.setIfInBounds_toArray, List.set_cons_zero, List.set_cons_succ]
  refine rg_take 5 (some 102) (v := ?v23) rfl rfl (by kernel_rfl) (by kernel_rfl) (by kernel_rfl) (fun _ _ _ h => h) (by rfl) ?hy23 (by assumption) ?_
  case hy23 => intro W hSW; (try dsimp only at hSW); go_simp; (try with_reducible rfl)
  try simp only [Act.put, List.setIfInBounds_toArray, List.set_cons_zero, List.set_cons_succ]
  refine rg_take 6 (some 103) (v := ?v24) rfl rfl (by kernel_rfl) (by kernel_rfl) (by kernel_rfl) (fun _ _ _ h => h) (by rfl) ?hy24 (by assumption) ?_
  case hy24 => intro W hSW; (try dsimp only at hSW); go_simp; (try with_reducible rfl)
  try simp only [Act.put, List.setIfInBounds_toArray, List.set_cons_zero, List.set_cons_succ]
  refine rg_take 7 (some 104) (v := ?v25) rfl rfl (by kernel_rfl) (by kernel_rfl) (by kernel_rfl) (fun _ _ _ h => h) (by rfl) ?hy25 (by assumption) ?_
  case hy25 => intro W hSW; (try dsimp only at hSW); go_simp; (try with_reducible rfl)
  try simp only [Act.put, List.setIfInBounds_toArray, List.set_cons_zero, List.set_cons_succ]
  refine rg_take 9 (some 106) (v := ?v26) rfl rfl (by kernel_rfl) (by kernel_rfl) (by kernel_rfl) (fun _ _ _ h => h) (by rfl) ?hy26 (by assumption) ?_
  case hy26 => intro W hSW; (try dsimp only at hSW); go_simp; (try with_reducible rfl)
  try simp only [Act.put, List.setIfInBounds_toArray, List.set_cons_zero, List.set_cons_succ]
  refine rg_take 10 (some 107) (v := ?v27) rfl rfl (by kernel_rfl) (by kernel_rfl) (by kernel_rfl) (fun _ _ _ h => h) (by rfl) ?hy27 (by assumption) ?_
  case hy27 => intro W hSW; (try dsimp only at hSW); go_simp; (try with_reducible rfl)
  try simp only [Act.put, List.setIfInBounds_toArray, List.set_cons_zero, List.set_cons_succ]
  refine rg_take 11 (some 108) (v := ?v28) rfl rfl (by kernel_rfl) (by kernel_rfl) (by kernel_rfl) (fun _ _ _ h => h) (by rfl) ?hy28 (by assumption) ?_
  case hy28 => intro W hSW; (try dsimp only at hSW); go_simp; (try with_reducible rfl)
  try simp only [Act.put, List.setIfInBounds_toArray, List.set_cons_zero, List.set_cons_succ]
  refine rg_take 13 (some 110) (v := ?v29) rfl rfl (by kernel_rfl) (by kernel_rfl) (by kernel_rfl) (fun _ _ _ h => h) (by rfl) ?hy29 (by assumption) ?_
  case hy29 => intro W hSW; (try dsimp only at hSW); go_simp; (try with_reducible rfl)
  try simp only [Act.put, List.setIfInBounds_toArray, List.set_cons_zero, List.set_cons_succ]
  refine rg_take 14 (some 111) (v := ?v30) rfl rfl (by kernel_rfl) (by kernel_rfl) (by kernel_rfl) (fun _ _ _ h => h) (by rfl) ?hy30 (by assumption) ?_
  case hy30 => intro W hSW; (try dsimp only at hSW); go_simp; (try with_reducible rfl)
  try simp only [Act.put, List.setIfInBounds_toArray, List.set_cons_zero, List.set_cons_succ]
  refine rg_take 15 (some 112) (v := ?v31) rfl rfl (by kernel_rfl) (by kernel_rfl) (by kernel_rfl) (fun _ _ _ h => h) (by rfl) ?hy31 (by assumption) ?_
  case hy31 => intro W hSW; (try dsimp only at hSW); go_simp; (try with_reducible rfl)
  try simp only [Act.put, List.setIfInBounds_toArray, List.set_cons_zero, List.set_cons_succ]
  refine rg_take 17 (some 114) (v := ?v32) rfl rfl (by kernel_rfl) (by kernel_rfl) (by kernel_rfl) (fun _ _ _ h => h) (by rfl) ?hy32 (by assumption) ?_
  case hy32 => intro W hSW; (try dsimp only at hSW); go_simp; (try with_reducible rfl)
  try simp only [Act.put, List.setIfInBounds_toArray, List.set_cons_zero, List.set_cons_succ]
  refine rg_take 18 (some 115) (v := ?v33) rfl rfl (by kernel_rfl) (by kernel_rfl) (by kernel_rfl) (fun _ _ _ h => h) (by rfl) ?hy33 (by assumption) ?_
  case hy33 => intro W hSW; (try dsimp only at hSW); go_simp; (try with_reducible rfl)
  try simp only [Act.put, List.setIfInBounds_toArray, List.set_cons_zero, List.set_cons_succ]
  refine rg_take 19 (some 116) (v := ?v34) rfl rfl (by kernel_rfl) (by kernel_rfl) (by kernel_rfl) (fun _ _ _ h => h) (by rfl) ?hy34 (by assumption) ?_
  case hy34 => intro W hSW; (try dsimp only at hSW); go_simp; (try with_reducible rfl)
  try simp only [Act.put, List.setIfInBounds_toArray, List.set_cons_zero, List.set_cons_succ]
  refine rg_take 22 (some 119) (v := ?v35) rfl rfl (by kernel_rfl) (by kernel_rfl) (by kernel_rfl) (fun _ _ _ h => h) (by rfl) ?hy35 (by assumption) ?_
  case hy35 => intro W hSW; (try dsimp only at hSW); go_simp; (try with_reducible rfl)
  try simp only [Act.put, List.setIfInBounds_toArray, List.set_cons_zero, List.set_cons_succ]
  refine rg_take 23 (some 120) (v := ?v36) rfl rfl (by kernel_rfl) (by kernel_rfl) (by kernel_rfl) (fun _ _ _ h => h) (by rfl) ?hy36 (by assumption) ?_
  case hy36 => intro W hSW; (try dsimp only at hSW); go_simp; (try with_reducible rfl)
  try simp only [Act.put, List.setIfInBounds_toArray, List.set_cons_zero, List.set_cons_succ]
  refine rg_take 26 (some 123) (v := ?v37) rfl rfl (by kernel_rfl) (by kernel_rfl) (by kernel_rfl) (fun _ _ _ h => h) (by rfl) ?hy37 (by assumption) ?_
  case hy37 => intro W hSW; (try dsimp only at hSW); go_simp; (try with_reducible rfl)
  try simp only [Act.put, List.setIfInBounds_toArray, List.set_cons_zero, List.set_cons_succ]
  refine rg_take 28 (some 125) (v := ?v38) rfl rfl (by kernel_rfl) (by kernel_rfl) (by kernel_rfl) (fun _ _ _ h => h) (by rfl) ?hy38 (by assumption) ?_
  case hy38 => intro W hSW; (try dsimp only at hSW); go_simp; (try with_reducible rfl)
  try simp only [Act.put, List.setIfInBounds_toArray, List.set_cons_zero, List.set_cons_succ]
  refine rg_take 29 (some 126) (v := ?v39) rfl rfl (by kernel_rfl) (by kernel_rfl) (by kernel_rfl) (fun _ _ _ h => h) (by rfl) ?hy39 (by assumption) ?_
  case hy39 => intro W hSW; (try dsimp only at hSW); go_simp; (try with_reducible rfl)
  try simp only [Act.put, List.setIfInBounds_toArray, List.set_cons_zero, List.set_cons_succ]
  refine rg_take 32 (some 129) (v := ?v40) rfl rfl (by kernel_rfl) (by kernel_rfl) (by kernel_rfl) (fun _ _ _ h => h) (by rfl) ?hy40 (by assumption) ?_
  case hy40 => intro W hSW; (try dsimp only at hSW); go_simp; (try with_reducible rfl)
  try simp only [Act.put, List.setIfInBounds_toArray, List.set_cons_zero, List.set_cons_succ]
  refine rg_take 33 (some 130) (v := ?v41) rfl rfl (by kernel_rfl) (by kernel_rfl) (by kernel_rfl) (fun _ _ _ h => h) (by rfl) ?hy41 (by assumption) ?_
  case hy41 => intro W hSW; (try dsimp only at hSW); go_simp; (try with_reducible rfl)
  try simp only [Act.put, List.setIfInBounds_toArray, List.set_cons_zero, List.set_cons_succ]
  refine rg_take 34 (some 131) (v := ?v42) rfl rfl (by kernel_rfl) (by kernel_rfl) (by kernel_rfl) (fun _ _ _ h => h) (by rfl) ?hy42 (by assumption) ?_
  case hy42 => intro W hSW; (try dsimp only at hSW); go_simp; (try with_reducible rfl)
  try simp only [Act.put, List.setIfInBounds_toArray, List.set_cons_zero, List.set_cons_succ]
  refine rg_take 35 (some 132) (v := ?v43) rfl rfl (by kernel_rfl) (by kernel_rfl) (by kernel_rfl) (fun _ _ _ h => h) (by rfl) ?hy43 (by assumption) ?_
  case hy43 => intro W hSW; (try dsimp only at hSW); go_simp; (try with_reducible rfl)
  try simp only [Act.put, List.setIfInBounds_toArray, List.set_cons_zero, List.set_cons_succ]
  refine rg_take 36 (some 133) (v := ?v44) rfl rfl (by kernel_rfl) (by kernel_rfl) (by kernel_rfl) (fun _ _ _ h => h) (by rfl) ?hy44 (by assumption) ?_
  case hy44 => intro W hSW; (try dsimp only at hSW); go_simp; (try with_reducible rfl)
  try simp only [Act.put, List.setIfInBounds_toArray, List.set_cons_zero, List.set_cons_succ]
  refine rg_one 4 rfl (by kernel_rfl) (by rfl) (fun K hK => ?_)
  go_simp
  (go_at_call 18; refine (fun10_any _ _ _ rwP _ _ _ tN tN _ (Lib.hid (hF.out.tn.below hB.out)) (Lib.hid (hF.out.tn.below hB.out)) (by intro h; cases h) (by kernel_rfl) (by kernel_rfl)).mono ?_; rintro e w101 ⟨vv, rfl, hv, hb⟩; obtain ⟨a101, n101, c101, rfl⟩ := ownT_sl hv; have hv := hv.arg)
  have t101 := Lib.hid hv
  refine hK.out _ _ (FmW.cells hF.out (belT hB.out hb)) (fun hHeld => ?_)
  have hB := Lib.hid (belT hB.out hb)
  have hAs := Lib.hid (hAs.out.below hb)
  clear hK K hb hv
  try simp only [Act.put, List.setIfInBounds_toArray, List.set_cons_zero, List.set_cons_succ]
  refine rg_one 8 rfl (by kernel_rfl) (by rfl) (fun K hK => ?_)
  go_simp
  (go_at_call 18; refine (fun10_any _ _ _ rwP _ _ _ tT tN _ (Lib.hid (hF.out.tt.below hB.out)) (Lib.hid (hF.out.tn.below hB.out)) (by intro h; cases h) (by kernel_rfl) (by kernel_rfl)).mono ?_; rintro e w105 ⟨vv, rfl, hv, hb⟩; obtain ⟨a105, n105, c105, rfl⟩ := ownT_sl hv; have hv := hv.arg)
  have t105 := Lib.hid hv
  have t101 := Lib.hid (t101.out.below hb)
  refine hK.out _ _ (FmW.cells hF.out (belT hB.out hb)) (fun hHeld => ?_)
  have hB := Lib.hid (belT hB.out hb)
  have hAs := Lib.hid (hAs.out.below hb)
  clear hK K hb hv
  try simp only [Act.put, List.setIfInBounds_toArray, List.set_cons_zero, List.set_cons_succ]
  refine rg_one 12 rfl (by kernel_rfl) (by rfl) (fun K hK => ?_)
  go_simp
  (go_at_call 18; refine (fun10_any _ _ _ rwP _ _ _ tN tT _ (Lib.hid (hF.out.tn.below hB.out)) (Lib.hid (hF.out.tt.below hB.out)) (by intro h; cases h) (by kernel_rfl) (by kernel_rfl)).mono ?_; rintro e w109 ⟨vv, rfl, hv, hb⟩; obtain ⟨a109, n109, c109, rfl⟩ := ownT_sl hv; have hv := hv.arg)
  have t109 := Lib.hid hv
  have t101 := Lib.hid (t101.out.below hb)
  have t105 := Lib.hid (t105.out.below hb)
  refine hK.out _ _ (FmW.cells hF.out (belT hB.out hb)) (fun hHeld => ?_)
  have hB := Lib.hid (belT hB.out hb)
  have hAs := Lib.hid (hAs.out.below hb)
  clear hK K hb hv
  try simp only [Act.put, List.setIfInBounds_toArray, List.set_cons_zero, List.set_cons_succ]
  refine rg_one 16 rfl (by kernel_rfl) (by rfl) (fun K hK => ?_)
  go_simp
  (go_at_call 18; refine (fun10_any _ _ _ rwP _ _ _ tN tN _ (Lib.hid (hF.out.tn.below hB.out)) (Lib.hid (hF.out.tn.below hB.out)) (by intro h; cases h) (by kernel_rfl) (by kernel_rfl)).mono ?_; rintro e w113 ⟨vv, rfl, hv, hb⟩; obtain ⟨a113, n113, c113, rfl⟩ := ownT_sl hv; have hv := hv.arg)
  have t113 := Lib.hid hv
  have t101 := Lib.hid (t101.out.below hb)
  have t105 := Lib.hid (t105.out.below hb)
  have t109 := Lib.hid (t109.out.below hb)
  refine hK.out _ _ (FmW.cells hF.out (belT hB.out hb)) (fun hHeld => ?_)
  have hB := Lib.hid (belT hB.out hb)
  have hAs := Lib.hid (hAs.out.below hb)
  clear hK K hb hv
  try simp only [Act.put, List.setIfInBounds_toArray, List.set_cons_zero, List.set_cons_succ]
  refine rg_one 20 rfl (by kernel_rfl) (by rfl) (fun K hK => ?_)
  go_simp
  (go_at_call 18; refine (fun10_any _ _ _ rwP _ _ _ tN tT _ (Lib.hid (hF.out.tn.below hB.out)) (Lib.hid (hF.out.tt.below hB.out)) (by intro h; cases h) (by kernel_rfl) (by kernel_rfl)).mono ?_; rintro e w117 ⟨vv, rfl, hv, hb⟩; obtain ⟨a117, n117, c117, rfl⟩ := ownT_sl hv; have hv := hv.arg)
  have t117 := Lib.hid hv
  have t101 := Lib.hid (t101.out.below hb)
  have t105 := Lib.hid (t105.out.below hb)
  have t109 := Lib.hid (t109.out.below hb)
  have t113 := Lib.hid (t113.out.below hb)
  refine hK.out _ _ (FmW.cells hF.out (belT hB.out hb)) (fun hHeld => ?_)
  have hB := Lib.hid (belT hB.out hb)
  have hAs := Lib.hid (hAs.out.below hb)
  clear hK K hb hv
  try simp only [Act.put, List.setIfInBounds_toArray, List.set_cons_zero, List.set_cons_succ]
  refine rg_one 21 rfl (by kernel_rfl) (by rfl) (fun K hK => ?_)
  go_simp
  (go_at_call 16; refine (v10_any 0 _).mono ?_; rintro e w118 ⟨g118, hg118, rfl, hv, hb⟩)
  have t118 := Lib.hid hv
  have v118 : tyV [vrT 0] = true := (by kernel_rfl)
  have t101 := Lib.hid (t101.out.below hb)
  have t105 := Lib.hid (t105.out.below hb)
  have t109 := Lib.hid (t109.out.below hb)
  have t113 := Lib.hid (t113.out.below hb)
  have t117 := Lib.hid (t117.out.below hb)
  refine hK.out _ _ (FmW.cells hF.out (belT hB.out hb)) (fun hHeld => ?_)
  have hB := Lib.hid (belT hB.out hb)
  have hAs := Lib.hid (hAs.out.below hb)
  clear hK K hb hv
  try simp only [Act.put, List.setIfInBounds_toArray, List.set_cons_zero, List.set_cons_succ]
  refine rg_one 24 rfl (by kernel_rfl) (by rfl) (fun K hK => ?_)
  go_simp
  (go_at_call 18; refine (fun10_any _ _ _ rwP _ _ _ [vrT 0] tN _ t118 (Lib.hid (hF.out.tn.below hB.out)) (by intro h; cases h) v118 (by kernel_rfl)).mono ?_; rintro e w121 ⟨vv, rfl, hv, hb⟩; obtain ⟨a121, n121, c121, rfl⟩ := ownT_sl hv; have hv := hv.arg)
  have t121 := Lib.hid hv
  have t101 := Lib.hid (t101.out.below hb)
  have t105 := Lib.hid (t105.out.below hb)
  have t109 := Lib.hid (t109.out.below hb)
  have t113 := Lib.hid (t113.out.below hb)
  have t117 := Lib.hid (t117.out.below hb)
  have t118 := Lib.hid (t118.out.below hb)
  refine hK.out _ _ (FmW.cells hF.out (belT hB.out hb)) (fun hHeld => ?_)
  have hB := Lib.hid (belT hB.out hb)
  have hAs := Lib.hid (hAs.out.below hb)
  clear hK K hb hv
  try simp only [Act.put, List.setIfInBounds_toArray, List.set_cons_zero, List.set_cons_succ]
  refine rg_one 25 rfl (by kernel_rfl) (by rfl) (fun K hK => ?_)
  go_simp
  (go_at_call 16; refine (v10_any 1 _).mono ?_; rintro e w122 ⟨g122, hg122, rfl, hv, hb⟩)
  have t122 := Lib.hid hv
  have v122 : tyV [vrT 1] = true := (by kernel_rfl)
  have t101 := Lib.hid (t101.out.below hb)
  have t105 := Lib.hid (t105.out.below hb)
  have t109 := Lib.hid (t109.out.below hb)
  have t113 := Lib.hid (t113.out.below hb)
  have t117 := Lib.hid (t117.out.below hb)
  have t118 := Lib.hid (t118.out.below hb)
  have t121 := Lib.hid (t121.out.below hb)
  refine hK.out _ _ (FmW.cells hF.out (belT hB.out hb)) (fun hHeld => ?_)
  have hB := Lib.hid (belT hB.out hb)
  have hAs := Lib.hid (hAs.out.below hb)
  clear hK K hb hv
  try simp only [Act.put, List.setIfInBounds_toArray, List.set_cons_zero, List.set_cons_succ]
  refine rg_one 27 rfl (by kernel_rfl) (by rfl) (fun K hK => ?_)
  go_simp
  (go_at_call 16; refine (v10_any 0 _).mono ?_; rintro e w124 ⟨g124, hg124, rfl, hv, hb⟩)
  have t124 := Lib.hid hv
  have v124 : tyV [vrT 0] = true := (by kernel_rfl)
  have t101 := Lib.hid (t101.out.below hb)
  have t105 := Lib.hid (t105.out.below hb)
  have t109 := Lib.hid (t109.out.below hb)
  have t113 := Lib.hid (t113.out.below hb)
  have t117 := Lib.hid (t117.out.below hb)
  have t118 := Lib.hid (t118.out.below hb)
  have t121 := Lib.hid (t121.out.below hb)
  have t122 := Lib.hid (t122.out.below hb)
  refine hK.out _ _ (FmW.cells hF.out (belT hB.out hb)) (fun hHeld => ?_)
  have hB := Lib.hid (belT hB.out hb)
  have hAs := Lib.hid (hAs.out.below hb)
  clear hK K hb hv
  try simp only [Act.put, List.setIfInBounds_toArray, List.set_cons_zero, List.set_cons_succ]
  refine rg_one 30 rfl (by kernel_rfl) (by rfl) (fun K hK => ?_)
  go_simp
  (go_at_call 18; refine (fun10_any _ _ _ rwP _ _ _ [vrT 0] tN _ t124 (Lib.hid (hF.out.tn.below hB.out)) (by intro h; cases h) v124 (by kernel_rfl)).mono ?_; rintro e w127 ⟨vv, rfl, hv, hb⟩; obtain ⟨a127, n127, c127, rfl⟩ := ownT_sl hv; have hv := hv.arg)
  have t127 := Lib.hid hv
  have v127 : tyV (arwL [vrT 0] rwP tN) = true := (by kernel_rfl)
  have t101 := Lib.hid (t101.out.below hb)
  have t105 := Lib.hid (t105.out.below hb)
  have t109 := Lib.hid (t109.out.below hb)
  have t113 := Lib.hid (t113.out.below hb)
  have t117 := Lib.hid (t117.out.below hb)
  have t118 := Lib.hid (t118.out.below hb)
  have t121 := Lib.hid (t121.out.below hb)
  have t122 := Lib.hid (t122.out.below hb)
  have t124 := Lib.hid (t124.out.below hb)
  refine hK.out _ _ (FmW.cells hF.out (belT hB.out hb)) (fun hHeld => ?_)
  have hB := Lib.hid (belT hB.out hb)
  have hAs := Lib.hid (hAs.out.below hb)
  clear hK K hb hv
  try simp only [Act.put, List.setIfInBounds_toArray, List.set_cons_zero, List.set_cons_succ]
  refine rg_one 31 rfl (by kernel_rfl) (by rfl) (fun K hK => ?_)
  go_simp
  (go_at_call 18; refine (fun10_any _ _ _ rwP _ _ _ [vrT 1] (arwL [vrT 0] rwP tN) _ t122 t127 (by intro h; cases h) v122 v127).mono ?_; rintro e w128 ⟨vv, rfl, hv, hb⟩; obtain ⟨a128, n128, c128, rfl⟩ := ownT_sl hv; have hv := hv.arg)
  have t128 := Lib.hid hv
  have t101 := Lib.hid (t101.out.below hb)
  have t105 := Lib.hid (t105.out.below hb)
  have t109 := Lib.hid (t109.out.below hb)
  have t113 := Lib.hid (t113.out.below hb)
  have t117 := Lib.hid (t117.out.below hb)
  have t118 := Lib.hid (t118.out.below hb)
  have t121 := Lib.hid (t121.out.below hb)
  have t122 := Lib.hid (t122.out.below hb)
  have t124 := Lib.hid (t124.out.below hb)
  have t127 := Lib.hid (t127.out.below hb)
  refine hK.out _ _ (FmW.cells hF.out (belT hB.out hb)) (fun hHeld => ?_)
  have hB := Lib.hid (belT hB.out hb)
  have hAs := Lib.hid (hAs.out.below hb)
  clear hK K hb hv
  try simp only [Act.put, List.setIfInBounds_toArray, List.set_cons_zero, List.set_cons_succ]
  refine rg_one 37 rfl (by kernel_rfl) (by rfl) (fun K hK => ?_)
  go_simp
  (go_at_call 18; refine (fun10_any _ _ _ (rJ j) _ _ _ tN tN _ (Lib.hid (hF.out.tn.below hB.out)) (Lib.hid (hF.out.tn.below hB.out)) (by intro h; cases h) (by kernel_rfl) (by kernel_rfl)).mono ?_; rintro e w134 ⟨vv, rfl, hv, hb⟩; obtain ⟨a134, n134, c134, rfl⟩ := ownT_sl hv; have hv := hv.arg)
  have t134 := Lib.hid hv
  have v134 : tyV (arwL tN (rJ j) tN) = true := (ug_may hj8)
  have t101 := Lib.hid (t101.out.below hb)
  have t105 := Lib.hid (t105.out.below hb)
  have t109 := Lib.hid (t109.out.below hb)
  have t113 := Lib.hid (t113.out.below hb)
  have t117 := Lib.hid (t117.out.below hb)
  have t118 := Lib.hid (t118.out.below hb)
  have t121 := Lib.hid (t121.out.below hb)
  have t122 := Lib.hid (t122.out.below hb)
  have t124 := Lib.hid (t124.out.below hb)
  have t127 := Lib.hid (t127.out.below hb)
  have t128 := Lib.hid (t128.out.below hb)
  refine hK.out _ _ (FmW.cells hF.out (belT hB.out hb)) (fun hHeld => ?_)
  have hB := Lib.hid (belT hB.out hb)
  have hAs := Lib.hid (hAs.out.below hb)
  clear hK K hb hv
  try simp only [Act.put, List.setIfInBounds_toArray, List.set_cons_zero, List.set_cons_succ]
  refine rg_one 38 rfl (by kernel_rfl) (by rfl) (fun K hK => ?_)
  go_simp
  (go_at_call 18; refine (fun10_any _ _ _ rwP _ _ _ tN (arwL tN (rJ j) tN) _ (Lib.hid (hF.out.tn.below hB.out)) t134 (by intro h; cases h) (by kernel_rfl) v134).mono ?_; rintro e w135 ⟨vv, rfl, hv, hb⟩; obtain ⟨a135, n135, c135, rfl⟩ := ownT_sl hv; have hv := hv.arg)
  have t135 := Lib.hid hv
  have t101 := Lib.hid (t101.out.below hb)
  have t105 := Lib.hid (t105.out.below hb)
  have t109 := Lib.hid (t109.out.below hb)
  have t113 := Lib.hid (t113.out.below hb)
  have t117 := Lib.hid (t117.out.below hb)
  have t118 := Lib.hid (t118.out.below hb)
  have t121 := Lib.hid (t121.out.below hb)
  have t122 := Lib.hid (t122.out.below hb)
  have t124 := Lib.hid (t124.out.below hb)
  have t127 := Lib.hid (t127.out.below hb)
  have t128 := Lib.hid (t128.out.below hb)
  have t134 := Lib.hid (t134.out.below hb)
  refine hK.out _ _ (FmW.cells hF.out (belT hB.out hb)) (fun hHeld => ?_)
  have hB := Lib.hid (belT hB.out hb)
  have hAs := Lib.hid (hAs.out.below hb)
  clear hK K hb hv
  try simp only [Act.put, List.setIfInBounds_toArray, List.set_cons_zero, List.set_cons_succ]
  have hL := Lib.hid (tsAt_lit w135 24 w135.heap.size rfl [.slice (some ⟨w1.heap.size + 1 + 1, 0, none⟩) 1 1, .slice a101 n101 c101, .slice a105 n105 c105, .slice a109 n109 c109, .slice a113 n113 c113, .slice a117 n117 c117, .slice a121 n121 c121, .slice a128 n128 c128, .slice a135 n135 c135] (bsL (rJ j)) #[.slice (some ⟨w1.heap.size + 1 + 1, 0, none⟩) 1 1, .slice a101 n101 c101, .slice a105 n105 c105, .slice a109 n109 c109, .slice a113 n113 c113, .slice a117 n117 c117, .slice a121 n121 c121, .slice a128 n128 c128, .slice a135 n135 c135] rfl rfl (fun k hk => by
    have hk : k < 9 := hk
    have hc : k = 0 ∨ k = 1 ∨ k = 2 ∨ k = 3 ∨ k = 4 ∨ k = 5 ∨ k = 6 ∨ k = 7 ∨ k = 8 := by omega
    rcases hc with rfl | rfl | rfl | rfl | rfl | rfl | rfl | rfl | rfl
    · exact ⟨_, _, _, rfl, hF.out.tt.below hB.out, by omega⟩
    · exact ⟨_, _, _, rfl, t101.out, by rw [t101.out.1]; simp [arwL, tN, tT]⟩
    · exact ⟨_, _, _, rfl, t105.out, by rw [t105.out.1]; simp [arwL, tN, tT]⟩
    · exact ⟨_, _, _, rfl, t109.out, by rw [t109.out.1]; simp [arwL, tN, tT]⟩
    · exact ⟨_, _, _, rfl, t113.out, by rw [t113.out.1]; simp [arwL, tN, tT]⟩
    · exact ⟨_, _, _, rfl, t117.out, by rw [t117.out.1]; simp [arwL, tN, tT]⟩
    · exact ⟨_, _, _, rfl, t121.out, by rw [t121.out.1]; simp [arwL, tN, tT]⟩
    · exact ⟨_, _, _, rfl, t128.out, by rw [t128.out.1]; simp [arwL, tN, tT]⟩
    · exact ⟨_, _, _, rfl, t135.out, by rw [t135.out.1]; simp [arwL, tN, tT]⟩))
  refine rg_one 39 rfl (by kernel_rfl) (by rfl) (fun K hK => ?_)
  go_simp
  refine hK.out _ _ (FmW.cells hF.out (belT hB.out (below_alc _ _))) (fun hHeld => ?_)
  have hB := Lib.hid (belT hB.out (below_alc w135 (.cells #[.slice (some ⟨w1.heap.size + 1 + 1, 0, none⟩) 1 1, .slice a101 n101 c101, .slice a105 n105 c105, .slice a109 n109 c109, .slice a113 n113 c113, .slice a117 n117 c117, .slice a121 n121 c121, .slice a128 n128 c128, .slice a135 n135 c135] 24)))
  have hAs := Lib.hid (hAs.out.below (below_alc w135 (.cells #[.slice (some ⟨w1.heap.size + 1 + 1, 0, none⟩) 1 1, .slice a101 n101 c101, .slice a105 n105 c105, .slice a109 n109 c109, .slice a113 n113 c113, .slice a117 n117 c117, .slice a121 n121 c121, .slice a128 n128 c128, .slice a135 n135 c135] 24)))
  obtain ⟨w7, hwe⟩ : ∃ W, w135.alloc (.cells #[.slice (some ⟨w1.heap.size + 1 + 1, 0, none⟩) 1 1, .slice a101 n101 c101, .slice a105 n105 c105, .slice a109 n109 c109, .slice a113 n113 c113, .slice a117 n117 c117, .slice a121 n121 c121, .slice a128 n128 c128, .slice a135 n135 c135] 24) = W := ⟨_, rfl⟩
  rw [hwe] at hL hB hHeld ⊢
  rw [hwe] at hAs
  clear hK K hwe t101 t105 t109 t113 t117 t118 t121 t122 t124 t127 t128 t134 t135
  try simp only [Act.put, List.setIfInBounds_toArray, List.set_cons_zero, List.set_cons_succ]
  refine rg_take 40 (some 17) (v := ?v45) rfl rfl (by kernel_rfl) (by kernel_rfl) (by kernel_rfl) (fun _ _ _ h => h) (by rfl) ?hy45 (by assumption) ?_
  case hy45 => intro W hSW; (try dsimp only at hSW); go_simp; (try with_reducible rfl)
  try simp only [Act.put, List.setIfInBounds_toArray, List.set_cons_zero, List.set_cons_succ]
  refine wpAnyH_done (by kernel_rfl) ?_ _
  have hF := Lib.hid (hF.out.below hB.out)
  have hBl := Lib.hid (belT hBl.out hB.out)
  clear hB hHeld
  have hBs := Lib.hid hL.out
  clear hL
  obtain ⟨m, hm⟩ : ∃ m : Int, ((1000 + wantL.getD k 0 : Nat) : Int) = m := ⟨_, rfl⟩
  have hmb : 1000 ≤ m ∧ m ≤ 1003 := by rcases ug_want hk9' with e | e <;> rw [e] at hm <;> omega
  obtain ⟨hu1, hu2⟩ := ug_at hj8 hk9'
  have hu1 := Lib.hid hu1
  have hu2 := Lib.hid hu2
  obtain ⟨b1, m1, d1, hc1, hT1, hn1⟩ := hAs.out.2 k hk9'
  obtain ⟨b2, m2, d2, hc2, hT2, hn2⟩ := hBs.out.2 k hk9'
  have hs1 := hAs.out.1
  have hs2 := hBs.out.1
  have hT1 := Lib.hid hT1
  have hT2 := Lib.hid hT2
  have hc1 := Lib.hid hc1
  have hc2 := Lib.hid hc2
  have hs1 := Lib.hid hs1
  have hs2 := Lib.hid hs2
  clear hAs hBs hF
  go_upto_region 16 with fail
  have hW := Lib.hid (want_lit w7 hk9' hm)
  have hW0 := Lib.hid (below_alc w7 (.cells wantA 3))
  obtain ⟨w8, hw8⟩ : ∃ W, w7.alloc (.cells wantA 3) = W := ⟨_, rfl⟩
  rw [hw8] at hW hW0
  unfold wantA at hw8
  rw [hw8]
  (try rw [hk])
  have hg := Lib.hid (show w95.heap.size < w8.heap.size ∧ w135.heap.size < w8.heap.size ∧ w7.heap.size < w8.heap.size from ⟨by have := hs1.out; have := hW0.out.size; omega, by have := hs2.out; have := hW0.out.size; omega, hW.out.2⟩)
  have hst := Lib.hid (show w8.cell? ⟨w95.heap.size, k, none⟩ = some (.slice b1 m1 d1) ∧ w8.cell? ⟨w135.heap.size, k, none⟩ = some (.slice b2 m2 d2) ∧ w8.cell? ⟨w7.heap.size, k, none⟩ = some (.int .i64 m) ∧ Below w8.heap.size w8 w8 from ⟨carry hW0.out hs1.out hc1.out, carry hW0.out hs2.out hc2.out, hW.out.1, Below.refl _ _⟩)
  have hT1 := Lib.hid (hT1.out.below hW0.out)
  have hT2 := Lib.hid (hT2.out.below hW0.out)
  have hBl := Lib.hid (belT hBl.out hW0.out)
  clear hW hW0 hc1 hc2 hs1 hs2
  clear hw8
  refine wp_region_held_drew (S := (fun W => W.cell? ⟨w95.heap.size, k, none⟩ = some (.slice b1 m1 d1) ∧ W.cell? ⟨w135.heap.size, k, none⟩ = some (.slice b2 m2 d2) ∧ W.cell? ⟨w7.heap.size, k, none⟩ = some (.int .i64 m) ∧ Below w8.heap.size w8 W)) (by kernel_rfl) (k3_go hg.out hst.out ((Below.refl _ _).drew)) (fun hHeld => ?_)
  have hB := Lib.hid (show Below w8.heap.size w8 w8.drew from (Below.refl _ _).drew)
  generalize w8.drew = wd143 at hHeld hB ⊢
  refine rg_take 0 (some 143) (v := ?v46) rfl rfl (by kernel_rfl) (by kernel_rfl) (by kernel_rfl) (fun _ _ _ h => h) (by rfl) ?hy46 (by assumption) ?_
  case hy46 => intro W hSW; (try dsimp only at hSW); go_simp; (try with_reducible rfl)
  try simp only [Act.put, List.setIfInBounds_toArray, List.set_cons_zero, List.set_cons_succ]
  refine rg_take 1 (some 144) (v := ?v47) rfl rfl (by kernel_rfl) (by kernel_rfl) (by kernel_rfl) (fun _ _ _ h => h) (by rfl) ?hy47 (by assumption) ?_
  case hy47 => intro W hSW; (try dsimp only at hSW); go_simp; (try with_reducible rfl)
  try simp only [Act.put, List.setIfInBounds_toArray, List.set_cons_zero, List.set_cons_succ]
  refine rg_take 2 (some 145) (v := ?v48) rfl rfl (by kernel_rfl) (by kernel_rfl) (by kernel_rfl) (fun _ _ _ h => h) (by rfl) ?hy48 (by assumption) ?_
  case hy48 => intro W hSW; (try dsimp only at hSW); go_simp; (try with_reducible rfl)
  try simp only [Act.put, List.setIfInBounds_toArray, List.set_cons_zero, List.set_cons_succ]
  refine rg_take 3 (some 146) (v := ?v49) rfl rfl (by kernel_rfl) (by kernel_rfl) (by kernel_rfl) (fun _ _ _ h => h) (by rfl) ?hy49 (by assumption) ?_
  case hy49 => intro W hSW; (try dsimp only at hSW); go_simp; (try with_reducible rfl)
  try simp only [Act.put, List.setIfInBounds_toArray, List.set_cons_zero, List.set_cons_succ]
  refine rg_take 4 (some 147) (v := ?v50) rfl rfl (by kernel_rfl) (by kernel_rfl) (by kernel_rfl) (fun _ _ _ h => h) (by rfl) ?hy50 (by assumption) ?_
  case hy50 => intro W hSW; (try dsimp only at hSW); go_simp; (try with_reducible rfl)
  try simp only [Act.put, List.setIfInBounds_toArray, List.set_cons_zero, List.set_cons_succ]
  refine rg_take 5 (some 148) (v := ?v51) rfl rfl (by kernel_rfl) (by kernel_rfl) (by kernel_rfl) (fun _ _ _ h => h) (by rfl) ?hy51 (by assumption) ?_
  case hy51 => intro W hSW; (try dsimp only at hSW); go_simp; (try with_reducible rfl)
  try simp only [Act.put, List.setIfInBounds_toArray, List.set_cons_zero, List.set_cons_succ]
  refine rg_take 6 (some 149) (v := ?v52) rfl rfl (by kernel_rfl) (by kernel_rfl) (by kernel_rfl) (fun _ _ _ h => h) (by rfl) ?hy52 (by assumption) ?_
  case hy52 => intro W hSW; (try dsimp only at hSW); go_simp; (try with_reducible rfl)
  try simp only [Act.put, List.setIfInBounds_toArray, List.set_cons_zero, List.set_cons_succ]
  refine rg_take 7 (some 150) (v := ?v53) rfl rfl (by kernel_rfl) (by kernel_rfl) (by kernel_rfl) (fun _ _ _ h => h) (by rfl) ?hy53 (by assumption) ?_
  case hy53 => intro W hSW; (try dsimp only at hSW); go_simp; (try with_reducible rfl)
  try simp only [Act.put, List.setIfInBounds_toArray, List.set_cons_zero, List.set_cons_succ]
  refine rg_one 8 rfl (by kernel_rfl) (by rfl) (fun K hK => ?_)
  go_simp
  (go_at_call 10; refine (unify_go a0 a1 a2 _ _ _ _ _ _ ((asL (rJ j)).getD k []) ((bsL (rJ j)).getD k []) 5 (by omega) _ (Lib.hid (hT1.out.below hB.out)) (Lib.hid (hT2.out.below hB.out)) (by omega) (by omega) (Lib.hid (hE.out.up (belT hBl.out hB.out))) _ hu1).mono ?_; rintro e w9 ⟨hP, hb⟩)
  obtain rfl : e = .returned (.tuple #[.slice none 0 0, .int .i64 m]) := by rw [← hm]; exact hP.1
  refine hK.out _ _ (k3_go hg.out hHeld hb) (fun hHeld8 => ?_)
  have hB := Lib.hid (belT hB.out hb)
  clear hK K hHeld hb hP
  try simp only [Act.put, List.setIfInBounds_toArray, List.set_cons_zero, List.set_cons_succ]
  refine rg_take 9 (some 142) (v := ?v54) rfl rfl (by kernel_rfl) (by kernel_rfl) (by kernel_rfl) (fun _ _ _ h => h) (by rfl) ?hy54 (by assumption) ?_
  case hy54 => intro W hSW; (try dsimp only at hSW); go_simp; (try with_reducible rfl)
  try simp only [Act.put, List.setIfInBounds_toArray, List.set_cons_zero, List.set_cons_succ]
  refine rg_take 10 (some 152) (v := ?v55) rfl rfl (by kernel_rfl) (by kernel_rfl) (by kernel_rfl) (fun _ _ _ h => h) (by rfl) ?hy55 (by assumption) ?_
  case hy55 => intro W hSW; (try dsimp only at hSW); go_simp; (try with_reducible rfl)
  try simp only [Act.put, List.setIfInBounds_toArray, List.set_cons_zero, List.set_cons_succ]
  refine rg_take 11 (some 153) (v := ?v56) rfl rfl (by kernel_rfl) (by kernel_rfl) (by kernel_rfl) (fun _ _ _ h => h) (by rfl) ?hy56 (by assumption) ?_
  case hy56 => intro W hSW; (try dsimp only at hSW); go_simp; (try with_reducible rfl)
  try simp only [Act.put, List.setIfInBounds_toArray, List.set_cons_zero, List.set_cons_succ]
  refine rg_take 12 (some 20) (v := ?v57) rfl rfl (by kernel_rfl) (by kernel_rfl) (by kernel_rfl) (fun _ _ _ h => h) (by rfl) ?hy57 (by assumption) ?_
  case hy57 => intro W hSW; (try dsimp only at hSW); go_simp; (try with_reducible rfl)
  try simp only [Act.put, List.setIfInBounds_toArray, List.set_cons_zero, List.set_cons_succ]
  refine rg_take 13 (some 21) (v := ?v58) rfl rfl (by kernel_rfl) (by kernel_rfl) (by kernel_rfl) (fun _ _ _ h => h) (by rfl) ?hy58 (by assumption) ?_
  case hy58 => intro W hSW; (try dsimp only at hSW); go_simp; (try with_reducible rfl)
  try simp only [Act.put, List.setIfInBounds_toArray, List.set_cons_zero, List.set_cons_succ]
  refine wpAnyH_done (by kernel_rfl) ?_ _
  have hg := Lib.hid (show w95.heap.size < w9.heap.size ∧ w135.heap.size < w9.heap.size ∧ w7.heap.size < w9.heap.size from ⟨by have := hg.out.1; have := hB.out.size; omega, by have := hg.out.2.1; have := hB.out.size; omega, by have := hg.out.2.2; have := hB.out.size; omega⟩)
  have hst := Lib.hid (show w9.cell? ⟨w95.heap.size, k, none⟩ = some (.slice b1 m1 d1) ∧ w9.cell? ⟨w135.heap.size, k, none⟩ = some (.slice b2 m2 d2) ∧ w9.cell? ⟨w7.heap.size, k, none⟩ = some (.int .i64 m) ∧ Below w9.heap.size w9 w9 from ⟨hHeld8.1, hHeld8.2.1, hHeld8.2.2.1, Below.refl _ _⟩)
  have hT1 := Lib.hid (hT1.out.below hB.out)
  have hT2 := Lib.hid (hT2.out.below hB.out)
  have hBl := Lib.hid (belT hBl.out hB.out)
  clear hHeld8 hB
  go_wp2_with fail
  refine wp_region_held_drew (S := (fun W => W.cell? ⟨w95.heap.size, k, none⟩ = some (.slice b1 m1 d1) ∧ W.cell? ⟨w135.heap.size, k, none⟩ = some (.slice b2 m2 d2) ∧ W.cell? ⟨w7.heap.size, k, none⟩ = some (.int .i64 m) ∧ Below w9.heap.size w9 W)) (by kernel_rfl) (k3_go hg.out hst.out ((Below.refl _ _).drew)) (fun hHeld => ?_)
  have hB := Lib.hid (show Below w9.heap.size w9 w9.drew from (Below.refl _ _).drew)
  generalize w9.drew = wd155 at hHeld hB ⊢
  refine rg_take 0 (some 155) (v := ?v59) rfl rfl (by kernel_rfl) (by kernel_rfl) (by kernel_rfl) (fun _ _ _ h => h) (by rfl) ?hy59 (by assumption) ?_
  case hy59 => intro W hSW; (try dsimp only at hSW); go_simp; (try with_reducible rfl)
  try simp only [Act.put, List.setIfInBounds_toArray, List.set_cons_zero, List.set_cons_succ]
  refine rg_take 1 (some 156) (v := ?v60) rfl rfl (by kernel_rfl) (by kernel_rfl) (by kernel_rfl) (fun _ _ _ h => h) (by rfl) ?hy60 (by assumption) ?_
  case hy60 => intro W hSW; (try dsimp only at hSW); go_simp; (try with_reducible rfl)
  try simp only [Act.put, List.setIfInBounds_toArray, List.set_cons_zero, List.set_cons_succ]
  refine rg_take 2 (some 157) (v := ?v61) rfl rfl (by kernel_rfl) (by kernel_rfl) (by kernel_rfl) (fun _ _ _ h => h) (by rfl) ?hy61 (by assumption) ?_
  case hy61 => intro W hSW; (try dsimp only at hSW); go_simp; (try with_reducible rfl)
  try simp only [Act.put, List.setIfInBounds_toArray, List.set_cons_zero, List.set_cons_succ]
  refine rg_take 3 (some 158) (v := ?v62) rfl rfl (by kernel_rfl) (by kernel_rfl) (by kernel_rfl) (fun _ _ _ h => h) (by rfl) ?hy62 (by assumption) ?_
  case hy62 => intro W hSW; (try dsimp only at hSW); go_simp; (try with_reducible rfl)
  try simp only [Act.put, List.setIfInBounds_toArray, List.set_cons_zero, List.set_cons_succ]
  refine rg_take 4 (some 159) (v := ?v63) rfl rfl (by kernel_rfl) (by kernel_rfl) (by kernel_rfl) (fun _ _ _ h => h) (by rfl) ?hy63 (by assumption) ?_
  case hy63 => intro W hSW; (try dsimp only at hSW); go_simp; (try with_reducible rfl)
  try simp only [Act.put, List.setIfInBounds_toArray, List.set_cons_zero, List.set_cons_succ]
  refine rg_take 5 (some 160) (v := ?v64) rfl rfl (by kernel_rfl) (by kernel_rfl) (by kernel_rfl) (fun _ _ _ h => h) (by rfl) ?hy64 (by assumption) ?_
  case hy64 => intro W hSW; (try dsimp only at hSW); go_simp; (try with_reducible rfl)
  try simp only [Act.put, List.setIfInBounds_toArray, List.set_cons_zero, List.set_cons_succ]
  refine rg_take 6 (some 161) (v := ?v65) rfl rfl (by kernel_rfl) (by kernel_rfl) (by kernel_rfl) (fun _ _ _ h => h) (by rfl) ?hy65 (by assumption) ?_
  case hy65 => intro W hSW; (try dsimp only at hSW); go_simp; (try with_reducible rfl)
  try simp only [Act.put, List.setIfInBounds_toArray, List.set_cons_zero, List.set_cons_succ]
  refine rg_take 7 (some 162) (v := ?v66) rfl rfl (by kernel_rfl) (by kernel_rfl) (by kernel_rfl) (fun _ _ _ h => h) (by rfl) ?hy66 (by assumption) ?_
  case hy66 => intro W hSW; (try dsimp only at hSW); go_simp; (try with_reducible rfl)
  try simp only [Act.put, List.setIfInBounds_toArray, List.set_cons_zero, List.set_cons_succ]
  refine rg_one 8 rfl (by kernel_rfl) (by rfl) (fun K hK => ?_)
  go_simp
  (go_at_call 10; refine (unify_go a0 a1 a2 _ _ _ _ _ _ ((bsL (rJ j)).getD k []) ((asL (rJ j)).getD k []) 5 (by omega) _ (Lib.hid (hT2.out.below hB.out)) (Lib.hid (hT1.out.below hB.out)) (by omega) (by omega) (Lib.hid (hE.out.up (belT hBl.out hB.out))) _ hu2).mono ?_; rintro e w10 ⟨hP, hb⟩)
  obtain rfl : e = .returned (.tuple #[.slice none 0 0, .int .i64 m]) := by rw [← hm]; exact hP.1
  refine hK.out _ _ (k3_go hg.out hHeld hb) (fun hHeld8 => ?_)
  have hB := Lib.hid (belT hB.out hb)
  clear hK K hHeld hb hP
  try simp only [Act.put, List.setIfInBounds_toArray, List.set_cons_zero, List.set_cons_succ]
  refine rg_take 9 (some 154) (v := ?v67) rfl rfl (by kernel_rfl) (by kernel_rfl) (by kernel_rfl) (fun _ _ _ h => h) (by rfl) ?hy67 (by assumption) ?_
  case hy67 => intro W hSW; (try dsimp only at hSW); go_simp; (try with_reducible rfl)
  try simp only [Act.put, List.setIfInBounds_toArray, List.set_cons_zero, List.set_cons_succ]
  refine rg_take 10 (some 164) (v := ?v68) rfl rfl (by kernel_rfl) (by kernel_rfl) (by kernel_rfl) (fun _ _ _ h => h) (by rfl) ?hy68 (by assumption) ?_
  case hy68 => intro W hSW; (try dsimp only at hSW); go_simp; (try with_reducible rfl)
  try simp only [Act.put, List.setIfInBounds_toArray, List.set_cons_zero, List.set_cons_succ]
  refine rg_take 11 (some 165) (v := ?v69) rfl rfl (by kernel_rfl) (by kernel_rfl) (by kernel_rfl) (fun _ _ _ h => h) (by rfl) ?hy69 (by assumption) ?_
  case hy69 => intro W hSW; (try dsimp only at hSW); go_simp; (try with_reducible rfl)
  try simp only [Act.put, List.setIfInBounds_toArray, List.set_cons_zero, List.set_cons_succ]
  refine rg_take 12 (some 22) (v := ?v70) rfl rfl (by kernel_rfl) (by kernel_rfl) (by kernel_rfl) (fun _ _ _ h => h) (by rfl) ?hy70 (by assumption) ?_
  case hy70 => intro W hSW; (try dsimp only at hSW); go_simp; (try with_reducible rfl)
  try simp only [Act.put, List.setIfInBounds_toArray, List.set_cons_zero, List.set_cons_succ]
  refine rg_take 13 (some 23) (v := ?v71) rfl rfl (by kernel_rfl) (by kernel_rfl) (by kernel_rfl) (fun _ _ _ h => h) (by rfl) ?hy71 (by assumption) ?_
  case hy71 => intro W hSW; (try dsimp only at hSW); go_simp; (try with_reducible rfl)
  try simp only [Act.put, List.setIfInBounds_toArray, List.set_cons_zero, List.set_cons_succ]
  refine wpAnyH_done (by kernel_rfl) ?_ _
  have hg := Lib.hid (show w95.heap.size < w10.heap.size ∧ w135.heap.size < w10.heap.size ∧ w7.heap.size < w10.heap.size from ⟨by have := hg.out.1; have := hB.out.size; omega, by have := hg.out.2.1; have := hB.out.size; omega, by have := hg.out.2.2; have := hB.out.size; omega⟩)
  have hst := Lib.hid (show w10.cell? ⟨w95.heap.size, k, none⟩ = some (.slice b1 m1 d1) ∧ w10.cell? ⟨w135.heap.size, k, none⟩ = some (.slice b2 m2 d2) ∧ w10.cell? ⟨w7.heap.size, k, none⟩ = some (.int .i64 m) ∧ Below w10.heap.size w10 w10 from ⟨hHeld8.1, hHeld8.2.1, hHeld8.2.2.1, Below.refl _ _⟩)
  have hT1 := Lib.hid (hT1.out.below hB.out)
  have hT2 := Lib.hid (hT2.out.below hB.out)
  have hBl := Lib.hid (belT hBl.out hB.out)
  clear hHeld8 hB
  go_wp2_with fail
  refine wp_region_held_drew (S := (fun W => W.cell? ⟨w95.heap.size, k, none⟩ = some (.slice b1 m1 d1) ∧ W.cell? ⟨w135.heap.size, k, none⟩ = some (.slice b2 m2 d2) ∧ W.cell? ⟨w7.heap.size, k, none⟩ = some (.int .i64 m) ∧ Below w10.heap.size w10 W)) (by kernel_rfl) (k3_go hg.out hst.out ((Below.refl _ _).drew)) (fun hHeld => ?_)
  have hB := Lib.hid (show Below w10.heap.size w10 w10.drew from (Below.refl _ _).drew)
  generalize w10.drew = wd166 at hHeld hB ⊢
  refine rg_take 0 (some 166) (v := ?v72) rfl rfl (by kernel_rfl) (by kernel_rfl) (by kernel_rfl) (fun _ _ _ h => h) (by rfl) ?hy72 (by assumption) ?_
  case hy72 => intro W hSW; (try dsimp only at hSW); go_simp; (try with_reducible rfl)
  try simp only [Act.put, List.setIfInBounds_toArray, List.set_cons_zero, List.set_cons_succ]
  refine rg_one 1 rfl (by kernel_rfl) (by rfl) (fun K hK => ?_)
  go_simp
  (go_at_call 11; refine (num_any _ _ (by omega) (by omega)).mono ?_; rintro e w' ⟨rfl, rfl⟩)
  refine hK.out _ _ hHeld (fun hHeld => ?_)
  clear hK K
  try simp only [Act.put, List.setIfInBounds_toArray, List.set_cons_zero, List.set_cons_succ]
  refine rg_take 2 (some 168) (v := ?v73) rfl rfl (by kernel_rfl) (by kernel_rfl) (by kernel_rfl) (fun _ _ _ h => h) (by rfl) ?hy73 (by assumption) ?_
  case hy73 => intro W hSW; (try dsimp only at hSW); go_simp; (try with_reducible rfl)
  try simp only [Act.put, List.setIfInBounds_toArray, List.set_cons_zero, List.set_cons_succ]
  refine rg_take 3 (some 169) (v := ?v74) rfl rfl (by kernel_rfl) (by kernel_rfl) (by kernel_rfl) (fun _ _ _ h => h) (by rfl) ?hy74 (by assumption) ?_
  case hy74 => intro W hSW; (try dsimp only at hSW); go_simp; (try with_reducible rfl)
  try simp only [Act.put, List.setIfInBounds_toArray, List.set_cons_zero, List.set_cons_succ]
  refine rg_take 4 (some 170) (v := ?v75) rfl rfl (by kernel_rfl) (by kernel_rfl) (by kernel_rfl) (fun _ _ _ h => h) (by rfl) ?hy75 (by assumption) ?_
  case hy75 => intro W hSW; (try dsimp only at hSW); go_simp; (try with_reducible rfl)
  try simp only [Act.put, List.setIfInBounds_toArray, List.set_cons_zero, List.set_cons_succ]
  refine rg_one 5 rfl (by kernel_rfl) (by rfl) (fun K hK => ?_)
  go_simp
  (go_at_call 11; refine (num_any _ _ (by omega) (by omega)).mono ?_; rintro e w' ⟨rfl, rfl⟩)
  refine hK.out _ _ hHeld (fun hHeld => ?_)
  clear hK K
  try simp only [Act.put, List.setIfInBounds_toArray, List.set_cons_zero, List.set_cons_succ]
  refine rg_take 6 (some 172) (v := ?v76) rfl rfl (by kernel_rfl) (by kernel_rfl) (by kernel_rfl) (fun _ _ _ h => h) (by rfl) ?hy76 (by assumption) ?_
  case hy76 => intro W hSW; (try dsimp only at hSW); go_simp; (try with_reducible rfl)
  try simp only [Act.put, List.setIfInBounds_toArray, List.set_cons_zero, List.set_cons_succ]
  refine rg_take 7 (some 173) (v := ?v77) rfl rfl (by kernel_rfl) (by kernel_rfl) (by kernel_rfl) (fun _ _ _ h => h) (by rfl) ?hy77 (by assumption) ?_
  case hy77 => intro W hSW; (try dsimp only at hSW); go_simp; (try with_reducible rfl)
  try simp only [Act.put, List.setIfInBounds_toArray, List.set_cons_zero, List.set_cons_succ]
  refine rg_take 8 (some 174) (v := ?v78) rfl rfl (by kernel_rfl) (by kernel_rfl) (by kernel_rfl) (fun _ _ _ h => h) (by rfl) ?hy78 (by assumption) ?_
  case hy78 => intro W hSW; (try dsimp only at hSW); go_simp; (try with_reducible rfl)
  try simp only [Act.put, List.setIfInBounds_toArray, List.set_cons_zero, List.set_cons_succ]
  refine rg_take 9 (some 175) (v := ?v79) rfl rfl (by kernel_rfl) (by kernel_rfl) (by kernel_rfl) (fun _ _ _ h => h) (by rfl) ?hy79 (by assumption) ?_
  case hy79 => intro W hSW; (try dsimp only at hSW); go_simp; (try with_reducible rfl)
  try simp only [Act.put, List.setIfInBounds_toArray, List.set_cons_zero, List.set_cons_succ]
  refine rg_one 10 rfl (by kernel_rfl) (by rfl) (fun K hK => ?_)
  go_simp
  (go_at_call 11; refine (num_any _ _ (by omega) (by omega)).mono ?_; rintro e w' ⟨rfl, rfl⟩)
  refine hK.out _ _ hHeld (fun hHeld => ?_)
  clear hK K
  try simp only [Act.put, List.setIfInBounds_toArray, List.set_cons_zero, List.set_cons_succ]
  refine rg_take 11 (some 177) (v := ?v80) rfl rfl (by kernel_rfl) (by kernel_rfl) (by kernel_rfl) (fun _ _ _ h => h) (by rfl) ?hy80 (by assumption) ?_
  case hy80 => intro W hSW; (try dsimp only at hSW); go_simp; (try with_reducible rfl)
  try simp only [Act.put, List.setIfInBounds_toArray, List.set_cons_zero, List.set_cons_succ]
  refine rg_take 12 (some 178) (v := ?v81) rfl rfl (by kernel_rfl) (by kernel_rfl) (by kernel_rfl) (fun _ _ _ h => h) (by rfl) ?hy81 (by assumption) ?_
  case hy81 => intro W hSW; (try dsimp only at hSW); go_simp; (try with_reducible rfl)
  try simp only [Act.put, List.setIfInBounds_toArray, List.set_cons_zero, List.set_cons_succ]
  refine rg_take 13 (some 179) (v := ?v82) rfl rfl (by kernel_rfl) (by kernel_rfl) (by kernel_rfl) (fun _ _ _ h => h) (by rfl) ?hy82 (by assumption) ?_
  case hy82 => intro W hSW; (try dsimp only at hSW); go_simp; (try with_reducible rfl)
  try simp only [Act.put, List.setIfInBounds_toArray, List.set_cons_zero, List.set_cons_succ]
  refine rg_take 14 (some 180) (v := ?v83) rfl rfl (by kernel_rfl) (by kernel_rfl) (by kernel_rfl) (fun _ _ _ h => h) (by rfl) ?hy83 (by assumption) ?_
  case hy83 => intro W hSW; (try dsimp only at hSW); go_simp; (try with_reducible rfl)
  try simp only [Act.put, List.setIfInBounds_toArray, List.set_cons_zero, List.set_cons_succ]
  refine rg_take 15 (some 181) (v := ?v84) rfl rfl (by kernel_rfl) (by kernel_rfl) (by kernel_rfl) (fun _ _ _ h => h) (by rfl) ?hy84 (by assumption) ?_
  case hy84 => intro W hSW; (try dsimp only at hSW); go_simp; (try with_reducible rfl)
  try simp only [Act.put, List.setIfInBounds_toArray, List.set_cons_zero, List.set_cons_succ]
  refine rg_take 16 (some 182) (v := ?v85) rfl rfl (by kernel_rfl) (by kernel_rfl) (by kernel_rfl) (fun _ _ _ h => h) (by rfl) ?hy85 (by assumption) ?_
  case hy85 => intro W hSW; (try dsimp only at hSW); go_simp; (try with_reducible rfl)
  try simp only [Act.put, List.setIfInBounds_toArray, List.set_cons_zero, List.set_cons_succ]
  refine rg_take 17 (some 183) (v := ?v86) rfl rfl (by kernel_rfl) (by kernel_rfl) (by kernel_rfl) (fun _ _ _ h => h) (by rfl) ?hy86 (by assumption) ?_
  case hy86 => intro W hSW; (try dsimp only at hSW); go_simp; (try with_reducible rfl)
  try simp only [Act.put, List.setIfInBounds_toArray, List.set_cons_zero, List.set_cons_succ]
  refine rg_take 18 (some 184) (v := ?v87) rfl rfl (by kernel_rfl) (by kernel_rfl) (by kernel_rfl) (fun _ _ _ h => h) (by rfl) ?hy87 (by assumption) ?_
  case hy87 => intro W hSW; (try dsimp only at hSW); go_simp; (try with_reducible rfl)
  try simp only [Act.put, List.setIfInBounds_toArray, List.set_cons_zero, List.set_cons_succ]
  refine rg_take 19 (some 185) (v := ?v88) rfl rfl (by kernel_rfl) (by kernel_rfl) (by kernel_rfl) (fun _ _ _ h => h) (by rfl) ?hy88 (by assumption) ?_
  case hy88 => intro W hSW; (try dsimp only at hSW); go_simp; (try with_reducible rfl)
  try simp only [Act.put, List.setIfInBounds_toArray, List.set_cons_zero, List.set_cons_succ]
  refine rg_take 20 (some 186) (v := ?v89) rfl rfl (by kernel_rfl) (by kernel_rfl) (by kernel_rfl) (fun _ _ _ h => h) (by rfl) ?hy89 (by assumption) ?_
  case hy89 => intro W hSW; (try dsimp only at hSW); go_simp; (try with_reducible rfl)
  try simp only [Act.put, List.setIfInBounds_toArray, List.set_cons_zero, List.set_cons_succ]
  refine rg_take 21 (some 187) (v := ?v90) rfl rfl (by kernel_rfl) (by kernel_rfl) (by kernel_rfl) (fun _ _ _ h => h) (by rfl) ?hy90 (by assumption) ?_
  case hy90 => intro W hSW; (try dsimp only at hSW); go_simp; (try with_reducible rfl)
  try simp only [Act.put, List.setIfInBounds_toArray, List.set_cons_zero, List.set_cons_succ]
  refine rg_take 22 (some 188) (v := ?v91) rfl rfl (by kernel_rfl) (by kernel_rfl) (by kernel_rfl) (fun _ _ _ h => h) (by rfl) ?hy91 (by assumption) ?_
  case hy91 => intro W hSW; (try dsimp only at hSW); go_simp; (try with_reducible rfl)
  try simp only [Act.put, List.setIfInBounds_toArray, List.set_cons_zero, List.set_cons_succ]
  refine rg_take 24 (some 190) (v := ?v92) rfl rfl (by kernel_rfl) (by kernel_rfl) (by kernel_rfl) (fun _ _ _ h => h) (by rfl) ?hy92 (by assumption) ?_
  case hy92 => intro W hSW; (try dsimp only at hSW); go_simp; (try with_reducible rfl)
  try simp only [Act.put, List.setIfInBounds_toArray, List.set_cons_zero, List.set_cons_succ]
  refine rg_take 25 (some 191) (v := ?v93) rfl rfl (by kernel_rfl) (by kernel_rfl) (by kernel_rfl) (fun _ _ _ h => h) (by rfl) ?hy93 (by assumption) ?_
  case hy93 => intro W hSW; (try dsimp only at hSW); go_simp; (try with_reducible rfl)
  try simp only [Act.put, List.setIfInBounds_toArray, List.set_cons_zero, List.set_cons_succ]
  refine rg_take 26 (some 192) (v := ?v94) rfl rfl (by kernel_rfl) (by kernel_rfl) (by kernel_rfl) (fun _ _ _ h => h) (by rfl) ?hy94 (by assumption) ?_
  case hy94 => intro W hSW; (try dsimp only at hSW); go_simp; (try with_reducible rfl)
  try simp only [Act.put, List.setIfInBounds_toArray, List.set_cons_zero, List.set_cons_succ]
  refine rg_take 27 (some 193) (v := ?v95) rfl rfl (by kernel_rfl) (by kernel_rfl) (by kernel_rfl) (fun _ _ _ h => h) (by rfl) ?hy95 (by assumption) ?_
  case hy95 => intro W hSW; (try dsimp only at hSW); go_simp; (try with_reducible rfl)
  try simp only [Act.put, List.setIfInBounds_toArray, List.set_cons_zero, List.set_cons_succ]
  refine rg_one 23 rfl (by kernel_rfl) (by rfl) (fun K hK => ?_)
  go_simp
  (go_at_call 11; refine (num_any _ _ (by omega) (by omega)).mono ?_; rintro e w' ⟨rfl, rfl⟩)
  refine hK.out _ _ hHeld (fun hHeld => ?_)
  clear hK K
  try simp only [Act.put, List.setIfInBounds_toArray, List.set_cons_zero, List.set_cons_succ]
  refine rg_take 28 (some 194) (v := ?v96) rfl rfl (by kernel_rfl) (by kernel_rfl) (by kernel_rfl) (fun _ _ _ h => h) (by rfl) ?hy96 (by assumption) ?_
  case hy96 => intro W hSW; (try dsimp only at hSW); go_simp; (try with_reducible rfl)
  try simp only [Act.put, List.setIfInBounds_toArray, List.set_cons_zero, List.set_cons_succ]
  refine rg_take 29 (some 195) (v := ?v97) rfl rfl (by kernel_rfl) (by kernel_rfl) (by kernel_rfl) (fun _ _ _ h => h) (by rfl) ?hy97 (by assumption) ?_
  case hy97 => intro W hSW; (try dsimp only at hSW); go_simp; (try with_reducible rfl)
  try simp only [Act.put, List.setIfInBounds_toArray, List.set_cons_zero, List.set_cons_succ]
  refine rg_take 30 (some 196) (v := ?v98) rfl rfl (by kernel_rfl) (by kernel_rfl) (by kernel_rfl) (fun _ _ _ h => h) (by rfl) ?hy98 (by assumption) ?_
  case hy98 => intro W hSW; (try dsimp only at hSW); go_simp; (try with_reducible rfl)
  try simp only [Act.put, List.setIfInBounds_toArray, List.set_cons_zero, List.set_cons_succ]
  refine rg_take 31 (some 197) (v := ?v99) rfl rfl (by kernel_rfl) (by kernel_rfl) (by kernel_rfl) (fun _ _ _ h => h) (by rfl) ?hy99 (by assumption) ?_
  case hy99 => intro W hSW; (try dsimp only at hSW); go_simp; (try with_reducible rfl)
  try simp only [Act.put, List.setIfInBounds_toArray, List.set_cons_zero, List.set_cons_succ]
  refine rg_take 33 (some 199) (v := ?v100) rfl rfl (by kernel_rfl) (by kernel_rfl) (by kernel_rfl) (fun _ _ _ h => h) (by rfl) ?hy100 (by assumption) ?_
  case hy100 => intro W hSW; (try dsimp only at hSW); go_simp; (try with_reducible rfl)
  try simp only [Act.put, List.setIfInBounds_toArray, List.set_cons_zero, List.set_cons_succ]
  refine rg_take 34 (some 200) (v := ?v101) rfl rfl (by kernel_rfl) (by kernel_rfl) (by kernel_rfl) (fun _ _ _ h => h) (by rfl) ?hy101 (by assumption) ?_
  case hy101 => intro W hSW; (try dsimp only at hSW); go_simp; (try with_reducible rfl)
  try simp only [Act.put, List.setIfInBounds_toArray, List.set_cons_zero, List.set_cons_succ]
  refine rg_take 35 (some 201) (v := ?v102) rfl rfl (by kernel_rfl) (by kernel_rfl) (by kernel_rfl) (fun _ _ _ h => h) (by rfl) ?hy102 (by assumption) ?_
  case hy102 => intro W hSW; (try dsimp only at hSW); go_simp; (try with_reducible rfl)
  try simp only [Act.put, List.setIfInBounds_toArray, List.set_cons_zero, List.set_cons_succ]
  refine rg_take 36 (some 202) (v := ?v103) rfl rfl (by kernel_rfl) (by kernel_rfl) (by kernel_rfl) (fun _ _ _ h => h) (by rfl) ?hy103 (by assumption) ?_
  case hy103 => intro W hSW; (try dsimp only at hSW); go_simp; (try with_reducible rfl)
  try simp only [Act.put, List.setIfInBounds_toArray, List.set_cons_zero, List.set_cons_succ]
  refine rg_one 32 rfl (by kernel_rfl) (by rfl) (fun K hK => ?_)
  go_simp
  (go_at_call 11; refine (num_any _ _ (by omega) (by omega)).mono ?_; rintro e w' ⟨rfl, rfl⟩)
  refine hK.out _ _ hHeld (fun hHeld => ?_)
  clear hK K
  try simp only [Act.put, List.setIfInBounds_toArray, List.set_cons_zero, List.set_cons_succ]
  refine rg_take 37 (some 203) (v := ?v104) rfl rfl (by kernel_rfl) (by kernel_rfl) (by kernel_rfl) (fun _ _ _ h => h) (by rfl) ?hy104 (by assumption) ?_
  case hy104 => intro W hSW; (try dsimp only at hSW); go_simp; (try with_reducible rfl)
  try simp only [Act.put, List.setIfInBounds_toArray, List.set_cons_zero, List.set_cons_succ]
  refine rg_take 38 (some 204) (v := ?v105) rfl rfl (by kernel_rfl) (by kernel_rfl) (by kernel_rfl) (fun _ _ _ h => h) (by rfl) ?hy105 (by assumption) ?_
  case hy105 => intro W hSW; (try dsimp only at hSW); go_simp; (try with_reducible rfl)
  try simp only [Act.put, List.setIfInBounds_toArray, List.set_cons_zero, List.set_cons_succ]
  refine rg_take 39 (some 4) (v := ?v106) rfl rfl (by kernel_rfl) (by kernel_rfl) (by kernel_rfl) (fun _ _ _ h => h) (by rfl) ?hy106 (by assumption) ?_
  case hy106 => intro W hSW; (try dsimp only at hSW); go_simp; (try with_reducible rfl)
  try simp only [Act.put, List.setIfInBounds_toArray, List.set_cons_zero, List.set_cons_succ]
  refine wpAnyH_done (by kernel_rfl) ?_ _
  go_wp2_with fail
  go_ret
  exact ⟨rfl, belT hBl.out hB.out⟩
theorem own : ownKnob Tryd.prog.godebug = none := by kernel_rfl
theorem laidOut : laidOutB Tryd.prog = true := by kernel_rfl
set_option maxRecDepth 100000 in
theorem contract (H : Type) (enc : TypeId × Value → H) (W : World) (base : Nat) (args : Array Value) (ds gs : List (DataW H)) (before : List MemPlace)
    (hval0 : ∀ (j : Nat) t v, Tryd.f7.params[j]? = some t → args[j]? = some v → Value.okWide Tryd.prog W .any base t v)
    (hW : DataW.Whole enc Tryd.prog Tryd.f7.params.toList Rows.unifyFormsSpec.vars false W args.toList ds gs before)
    (hsz0 : (DataW.weightsEach Tryd.prog (Tryd.f7.params.toList ++ Rows.unifyFormsSpec.plain.varTypes Tryd.prog) (ds ++ gs)).all (· ≤ reachBytes) = true)
    (hL : laidMetH Tryd.prog Rows.unifyFormsRow.laid W)
    : Calls Tryd.prog 7 args W fun e W' => ∃ v, e = .returned v ∧ Rows.unifyFormsSpec.post enc Tryd.prog Tryd.f7 false true false false W args v W' := by
  have hval : ∀ (j : Nat) t v, Tryd.f7.params[j]? = some t → args[j]? = some v → Value.okWide Tryd.prog W .any base t v := hval0
  have hsz : (DataW.weightsEach Tryd.prog (Tryd.f7.params.toList ++ Rows.unifyFormsSpec.plain.varTypes Tryd.prog) (ds ++ gs)).all (· ≤ reachBytes) = true := hsz0
  have hW' := hW
  obtain ⟨p, q, hA0, hV, rfl, hfz, hnd⟩ := hW
  have hA : DataW.TrodAll enc Tryd.prog W 0 (fun _ => true) true Tryd.f7.params.toList args.toList ds p := hA0
  rw [Tryd.params7] at hA hval hsz
  obtain ⟨v0, vs0, d0, ds0, p0, q0, hargs, rfl, rfl, h0, r0⟩ := trodAll_cons hA
  obtain ⟨v1, vs1, d1, ds1, p1, q1, rfl, rfl, rfl, h1, r1⟩ := trodAll_cons r0
  obtain ⟨rfl, rfl, rfl⟩ := trodAll_nil r1
  obtain rfl : args = #[v0, v1] := by cases args; simp_all
  obtain ⟨rfl, rfl⟩ := trodVars_none hV
  have k0 := h0
  have lt0 : ∀ x ∈ p0, x.block < W.heap.size := by obtain ⟨m, hm⟩ := k0; exact DataW.trod_lt m _ _ _ hm
  obtain ⟨a0, rfl, rfl, rfl, m0⟩ := open_int Tryd.underlying3 (hval 0 3 v0 rfl rfl) h0
  have k1 := h1
  have lt1 : ∀ x ∈ p1, x.block < W.heap.size := by obtain ⟨m, hm⟩ := k1; exact DataW.trod_lt m _ _ _ hm
  obtain ⟨a1, rfl, rfl, rfl, m1⟩ := open_int Tryd.underlying3 (hval 1 3 v1 rfl rfl) h1
  clear hA0 hval0
  refine (walk a0 a1 W (bd_i64 m0) (bd_i64 m1) (tabs hL)).mono fun e W' ⟨he, bel⟩ => ?_
  subst he
  exact ⟨_, rfl, _, _, _, [], _, [], hW', trodAll_mk1 (shut_bool Tryd.underlying4 _), (trodAll_cons_mk (Below.trod laidOut (by kernel_rfl) (of_decide_eq_true (by kernel_rfl)) k0 bel lt0) (trodAll_cons_mk (Below.trod laidOut (by kernel_rfl) (of_decide_eq_true (by kernel_rfl)) k1 bel lt1) trodAll_mk0)), rfl, bel.frame _, fun h => by cases h⟩
noncomputable def laidWorld (os : Os) : World := { World.holding Tryd.prog os ⟨#[], #[], []⟩ with heap := layErrs Tryd.prog 211 234 Rows.unifyFormsRow.laid (World.holding Tryd.prog os ⟨#[], #[], []⟩).heap }
theorem laid_met (os : Os) : laidMet Tryd.prog Rows.unifyFormsRow.laid ((laidWorld os).forCall (fun _ _ => 0) ⟨#[], #[.int .i64 0, .int .i64 0], []⟩).memory := laidMet_of_run' 8 (by kernel_rfl) (by kernel_rfl)
theorem reads (os : Os) {H : Type} (enc : TypeId × Value → H) : ∃ places, DataW.whole enc Tryd.prog ((laidWorld os).forCall (fun _ _ => 0) ⟨#[], #[.int .i64 0, .int .i64 0], []⟩).memory Tryd.f7.params.toList Rows.unifyFormsSpec.vars false #[(.int .i64 0 : Value), (.int .i64 0 : Value)].toList 8 = some ([.lit (.int .i64 0), .lit (.int .i64 0)], [], places) := ⟨[], by kernel_rfl⟩
set_option maxRecDepth 100000 in
theorem lifted (os : Os) (started : os.Started) (H : Type) (enc : TypeId × Value → H) (F : Stop.Interp) :
    ReturnsInHanded {} Tryd.checked os 7 .any ((OpenSpec.ofChange Rows.unifyFormsSpec).preRow enc Tryd.prog Tryd.f7 Rows.unifyFormsRow.domain false Rows.unifyFormsRow.laid) (((OpenSpec.ofChange Rows.unifyFormsSpec).at F).post enc Tryd.prog Tryd.f7 false true false false) := by
  obtain ⟨places, hx⟩ := reads os enc
  refine returnsInHanded_of_row (C := Tryd.checked) (s := (OpenSpec.ofChange Rows.unifyFormsSpec)) own started (by kernel_rfl) Tryd.func7
    (witness_row_at (enc := enc) (C := Tryd.checked) false (laidWorld os) #[.int .i64 0, .int .i64 0] rfl (by kernel_rfl) (by kernel_rfl) (by kernel_rfl)
      (OpenSpec.preRow_of_cond 8 hx (by kernel_rfl) (fun k hk => by cases hk) (by kernel_rfl) (laid_met os))) ?_
  intro W base args ds gs before hval hW _ hcnd hsz hL _ _
  exact contract H enc W base args ds gs before hval hW hsz  hL
theorem said : Rows.UnifyFormsSaid :=
  OpenClaim.holds_of_cond 7 Tryd.f7 rfl rfl rfl rfl rfl rfl rfl ⟨rfl, rfl, rfl, rfl, rfl⟩ rfl rfl rfl rfl rfl (by kernel_rfl) Tryd.func7 (by kernel_rfl)
    (of_decide_eq_true (by kernel_rfl)) (by unfold Func.isWrapper; first | (rw [if_pos (by decide +kernel)]; kernel_rfl) | (rw [if_neg (by decide +kernel)]; exact ⟨rfl, rfl⟩))
    (fun os started H enc _ F => by rw [OpenClaim.pre_eq_preRow]; exact lifted os started H enc F)
theorem plain (f : FuncId) (fn : Func) (hf : Tryd.pinned.checked.prog.funcNamed "trammel/trammellaw10.UnifyForms" = some f) (hfn : Tryd.pinned.checked.prog.funcs[f]? = some fn) :
    true = Tryd.pinned.checked.prog.looks [] ∧ ∀ (j : Nat) t, fn.params[j]? = some t → Tryd.pinned.checked.prog.wantsStandIn t = false := by
  obtain rfl : f = 7 := Option.some.inj ((show Tryd.prog.funcNamed "trammel/trammellaw10.UnifyForms" = some 7 by kernel_rfl).symm.trans hf) |>.symm
  obtain rfl : fn = Tryd.f7 := (Option.some.inj (Tryd.func7.symm.trans hfn)).symm
  refine ⟨by kernel_rfl, fun j t ht => ?_⟩
  rw [Tryd.params7] at ht
  have hm := Array.mem_of_getElem? ht
  have hm2 : t ∈ ([3] : List Nat) := by simpa using hm
  simp only [List.mem_cons, List.not_mem_nil, or_false] at hm2
  subst hm2; exact (show Tryd.prog.wantsStandIn 3 = false by kernel_rfl)
theorem proved : Rows.UnifyFormsCardSaid :=
  Claim7.holds_tied_plain_at .later [] _ _ _ _ said (fun _ h => by cases h) (by kernel_rfl) (fun _ h => by cases h) unifyForms_row_tie rfl ⟨rfl, rfl⟩ (by kernel_rfl) rfl plain (by kernel_rfl)
end Go.Proofs.YtfkdcconmecaoaaDoor.unifyForms
