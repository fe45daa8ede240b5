/- PlaceTells holds for every two numbers. No condition but that the listed package variables hold what the program's text lays. -/
import Derived.Test.YtilhpclnligpaaaDoorPlH
import Derived.Test.YtilhpclnligpaaaDoorCards
import Derived.Test.YtilhpclnligpaaaDoorTie
import Derived.Test.YtilhpclnligpaaaDoorOpn
import Derived.Test.YtilhpclnligpaaaDoorCrd
import Derived.WalkKit
import Derived.ProofKit
import Derived.Deep.DeepHandedRow
namespace Go.Proofs.YtilhpclnligpaaaDoor.placeTells
open Go.ChangeShapes Go.WideShapes Go.ChangeAt Go.RowKit
open Go.ChangeMaps (open_string shut_string)
set_option linter.unusedVariables false

set_option maxRecDepth 100000 in
theorem tabs {W : World} (h : laidMetH Tryd.prog Rows.placeTellsRow.laid W) : Hid (TabW W) := by
  have hm : ("internal/strconv.uint64pow10", (Rows.laid_internal_strconv_uint64pow10 : DataW Unit)) ∈ Rows.placeTellsRow.laid := .tail _ (.tail _ (.head _))
  rw [show (Rows.laid_internal_strconv_uint64pow10 : DataW Unit) = Lib.tabData .u64 Lib.pow10Tab from by kernel_rfl] at hm
  exact Lib.hid (tabIs_of_mem gPow (t := 67) (e := 52) (n := 20) (by kernel_rfl) Tryd.underlying67 Tryd.underlying52 (by kernel_rfl) (by kernel_rfl) h hm)

set_option maxRecDepth 100000 in
set_option maxHeartbeats 1000000 in
theorem walk0_0 (a0 a1 d : Int) (w : World) (he : wrap64 ((IntKind.u64.wrap a0).tmod 7) = 0) (hk : bits .and .i64 a1 1023 = d) (hk0 : 0 ≤ d ∧ d < 1024) (ht : Hid (TabW w)) (hz : d = 0) :
    Calls Tryd.prog 6 #[.int .i64 a0, .int .i64 a1] w fun e w' => e = .returned (.bool true) ∧ Below w.heap.size w w' := by
  obtain ⟨mi, hmi, hmz⟩ := min_itoa d hk0.1
  have hil := itoa_len d (by omega) (by omega)
  have hil1 := itoa_len (1 + d) (by omega) (by omega)
  obtain ⟨o, ho⟩ : ∃ o : List UInt8, Lib.itoa d = o := ⟨_, rfl⟩
  obtain ⟨o1, ho1⟩ : ∃ o : List UInt8, Lib.itoa (1 + d) = o := ⟨_, rfl⟩
  rw [ho] at hil; rw [ho1] at hil1
  rw [if_pos hz] at hmz
  have hzb : (d == 0) = true := by simpa using hz
  subst hmz
  have ho' := Lib.hid ho; have ho1' := Lib.hid ho1; have hmi' := Lib.hid hmi
  clear ho ho1 hmi hz
  have hd0 := hk0.1; have hd1 := hk0.2
  clear hk0
  have hp := pt0 d hd0 (by omega) _ hmi'.out
  rw [ho'.out] at hp
  have hp' := Lib.hid hp; clear hp
  go_enter Tryd.func6, Tryd.ntmps6
  go_wp2_with fail
  refine (awake_any _ ht).mono ?_
  rintro e w1 ⟨rfl, hb1⟩
  have ht1 : Hid (TabW w1) := Lib.hid (tab_keep ht.out hb1 (Nat.le_refl _))
  go_wp2_with fail
  refine (dec_any _ _ (by omega) (by omega)).mono ?_
  rintro e w2 ⟨rfl, hb2⟩
  rw [ho'.out]
  go_wp2_with fail
  refine (dec_any _ _ (by omega) (by omega)).mono ?_
  rintro e w3 ⟨rfl, hb3⟩
  rw [ho'.out]
  go_wp2_with fail
  refine (dec_any _ _ (by omega) (by omega)).mono ?_
  rintro e w4 ⟨rfl, hb4⟩
  rw [ho1'.out]
  go_wp2_with fail
  refine (dec_any _ _ (by omega) (by omega)).mono ?_
  rintro e w5 ⟨rfl, hb5⟩
  rw [ho1'.out]
  go_wp2_with fail
  refine (dec_any _ _ (by omega) (by omega)).mono ?_
  rintro e w6 ⟨rfl, hb6⟩
  rw [ho1'.out]
  have hb6' := belT (belT (belT (belT hb2 hb3) hb4) hb5) hb6
  have hs6 : w1.heap.size < w6.heap.size := by have h1 := hb2.size; have h2 := hb3.size; have h3 := hb4.size; have h4 := hb5.size; have h5 := hb6.size; simp at h1; omega
  have ht6 : Hid (TabW w6) := Lib.hid (tab_keep (tab_keep ht1.out (Joins.below_alloc1 _ _) (Nat.le_refl _)) (belT (belT (belT (belT hb2 hb3) hb4) hb5) hb6) (Nat.le_refl _))
  have hc0 : w6.cell? ⟨w1.heap.size, 0, none⟩ = some (.int .i64 (0)) := by rw [hb6'.cell (p := ⟨w1.heap.size, 0, none⟩) (by show _ < _; simp)]; simp
  have hc1 : w6.cell? ⟨w1.heap.size, 1, none⟩ = some (.int .i64 (0)) := by rw [hb6'.cell (p := ⟨w1.heap.size, 1, none⟩) (by show _ < _; simp)]; simp
  have hc2 : w6.cell? ⟨w1.heap.size, 2, none⟩ = some (.string ⟨#[105, 110, 116]⟩) := by rw [hb6'.cell (p := ⟨w1.heap.size, 2, none⟩) (by show _ < _; simp)]; simp
  have hc3 : w6.cell? ⟨w1.heap.size, 3, none⟩ = some (.int .i64 (0)) := by rw [hb6'.cell (p := ⟨w1.heap.size, 3, none⟩) (by show _ < _; simp)]; simp
  have hc4 : w6.cell? ⟨w1.heap.size, 4, none⟩ = some (.int .i64 (d)) := by rw [hb6'.cell (p := ⟨w1.heap.size, 4, none⟩) (by show _ < _; simp)]; simp
  have hc5 : w6.cell? ⟨w1.heap.size, 5, none⟩ = some (.int .i64 (0)) := by rw [hb6'.cell (p := ⟨w1.heap.size, 5, none⟩) (by show _ < _; simp)]; simp
  have hc6 : w6.cell? ⟨w1.heap.size, 6, none⟩ = some (.int .i64 (-d)) := by rw [hb6'.cell (p := ⟨w1.heap.size, 6, none⟩) (by show _ < _; simp)]; simp
  go_wp2_with fail
  refine (tell_any _ _ _ _ _ _ _ _ _ (by decide) (by decide) (Lib.hid (tab_keep ht6.out (Joins.below_alloc1 _ _) (Nat.le_refl _))) (by omega)).mono ?_
  rintro e w7 ⟨rfl, hb7⟩
  rw [hp'.out.1, hp'.out.2]
  obtain ⟨hc7, hf7⟩ := bcell hb7
  have hcw : w7.cell? ⟨w6.heap.size, 0, none⟩ = some (.string (⟨#[105, 110, 116, 32, 61, 32]⟩ ++ ⟨o.toArray⟩ ++ ⟨#[32, 124, 32]⟩ ++ ⟨#[]⟩ ++ ⟨o.toArray⟩)) := by rw [hc7 _ _ (by simp)]; simp
  clear hc7 hf7
  go_wp2_with (go_at_call 12; refine (num_any _ _ (by omega) (by omega)).mono ?_; rintro e w' ⟨rfl, rfl⟩)
  go_ret
  exact ⟨rfl, belT hb1 (belT (belT (Joins.below_alloc1 _ _) (belT (belT (belT (belT hb2 hb3) hb4) hb5) hb6)) (belT (Joins.below_alloc1 _ _) hb7))⟩
set_option maxRecDepth 100000 in
set_option maxHeartbeats 1000000 in
theorem walk0_1 (a0 a1 d : Int) (w : World) (he : wrap64 ((IntKind.u64.wrap a0).tmod 7) = 0) (hk : bits .and .i64 a1 1023 = d) (hk0 : 0 ≤ d ∧ d < 1024) (ht : Hid (TabW w)) (hz : 0 < d) :
    Calls Tryd.prog 6 #[.int .i64 a0, .int .i64 a1] w fun e w' => e = .returned (.bool true) ∧ Below w.heap.size w w' := by
  obtain ⟨mi, hmi, hmz⟩ := min_itoa d hk0.1
  have hil := itoa_len d (by omega) (by omega)
  have hil1 := itoa_len (1 + d) (by omega) (by omega)
  obtain ⟨o, ho⟩ : ∃ o : List UInt8, Lib.itoa d = o := ⟨_, rfl⟩
  obtain ⟨o1, ho1⟩ : ∃ o : List UInt8, Lib.itoa (1 + d) = o := ⟨_, rfl⟩
  rw [ho] at hil; rw [ho1] at hil1
  rw [if_neg (by omega)] at hmz
  have hzb : (d == 0) = false := by rw [beq_eq_false_iff_ne]; omega
  subst hmz
  have ho' := Lib.hid ho; have ho1' := Lib.hid ho1; have hmi' := Lib.hid hmi
  clear ho ho1 hmi hz
  have hd0 := hk0.1; have hd1 := hk0.2
  clear hk0
  have hp := pt0 d hd0 (by omega) _ hmi'.out
  rw [ho'.out] at hp
  have hp' := Lib.hid hp; clear hp
  go_enter Tryd.func6, Tryd.ntmps6
  go_wp2_with fail
  refine (awake_any _ ht).mono ?_
  rintro e w1 ⟨rfl, hb1⟩
  have ht1 : Hid (TabW w1) := Lib.hid (tab_keep ht.out hb1 (Nat.le_refl _))
  go_wp2_with fail
  refine (dec_any _ _ (by omega) (by omega)).mono ?_
  rintro e w2 ⟨rfl, hb2⟩
  rw [ho'.out]
  go_wp2_with fail
  refine (dec_any _ _ (by omega) (by omega)).mono ?_
  rintro e w3 ⟨rfl, hb3⟩
  rw [ho'.out]
  go_wp2_with fail
  refine (dec_any _ _ (by omega) (by omega)).mono ?_
  rintro e w4 ⟨rfl, hb4⟩
  rw [ho1'.out]
  go_wp2_with fail
  refine (dec_any _ _ (by omega) (by omega)).mono ?_
  rintro e w5 ⟨rfl, hb5⟩
  rw [ho1'.out]
  go_wp2_with fail
  refine (dec_any _ _ (by omega) (by omega)).mono ?_
  rintro e w6 ⟨rfl, hb6⟩
  rw [ho1'.out]
  have hb6' := belT (belT (belT (belT hb2 hb3) hb4) hb5) hb6
  have hs6 : w1.heap.size < w6.heap.size := by have h1 := hb2.size; have h2 := hb3.size; have h3 := hb4.size; have h4 := hb5.size; have h5 := hb6.size; simp at h1; omega
  have ht6 : Hid (TabW w6) := Lib.hid (tab_keep (tab_keep ht1.out (Joins.below_alloc1 _ _) (Nat.le_refl _)) (belT (belT (belT (belT hb2 hb3) hb4) hb5) hb6) (Nat.le_refl _))
  have hc0 : w6.cell? ⟨w1.heap.size, 0, none⟩ = some (.int .i64 (0)) := by rw [hb6'.cell (p := ⟨w1.heap.size, 0, none⟩) (by show _ < _; simp)]; simp
  have hc1 : w6.cell? ⟨w1.heap.size, 1, none⟩ = some (.int .i64 (0)) := by rw [hb6'.cell (p := ⟨w1.heap.size, 1, none⟩) (by show _ < _; simp)]; simp
  have hc2 : w6.cell? ⟨w1.heap.size, 2, none⟩ = some (.string ⟨#[105, 110, 116]⟩) := by rw [hb6'.cell (p := ⟨w1.heap.size, 2, none⟩) (by show _ < _; simp)]; simp
  have hc3 : w6.cell? ⟨w1.heap.size, 3, none⟩ = some (.int .i64 (0)) := by rw [hb6'.cell (p := ⟨w1.heap.size, 3, none⟩) (by show _ < _; simp)]; simp
  have hc4 : w6.cell? ⟨w1.heap.size, 4, none⟩ = some (.int .i64 (d)) := by rw [hb6'.cell (p := ⟨w1.heap.size, 4, none⟩) (by show _ < _; simp)]; simp
  have hc5 : w6.cell? ⟨w1.heap.size, 5, none⟩ = some (.int .i64 (0)) := by rw [hb6'.cell (p := ⟨w1.heap.size, 5, none⟩) (by show _ < _; simp)]; simp
  have hc6 : w6.cell? ⟨w1.heap.size, 6, none⟩ = some (.int .i64 (-d)) := by rw [hb6'.cell (p := ⟨w1.heap.size, 6, none⟩) (by show _ < _; simp)]; simp
  go_wp2_with fail
  refine (tell_any _ _ _ _ _ _ _ _ _ (by decide) (by decide) (Lib.hid (tab_keep ht6.out (Joins.below_alloc1 _ _) (Nat.le_refl _))) (by omega)).mono ?_
  rintro e w7 ⟨rfl, hb7⟩
  rw [hp'.out.1, hp'.out.2]
  obtain ⟨hc7, hf7⟩ := bcell hb7
  have hcw : w7.cell? ⟨w6.heap.size, 0, none⟩ = some (.string (⟨#[105, 110, 116, 32, 61, 32]⟩ ++ ⟨o.toArray⟩ ++ ⟨#[32, 124, 32]⟩ ++ ⟨#[45]⟩ ++ ⟨o.toArray⟩)) := by rw [hc7 _ _ (by simp)]; simp
  clear hc7 hf7
  go_wp2_with (go_at_call 12; refine (num_any _ _ (by omega) (by omega)).mono ?_; rintro e w' ⟨rfl, rfl⟩)
  go_ret
  exact ⟨rfl, belT hb1 (belT (belT (Joins.below_alloc1 _ _) (belT (belT (belT (belT hb2 hb3) hb4) hb5) hb6)) (belT (Joins.below_alloc1 _ _) hb7))⟩
set_option maxRecDepth 100000 in
set_option maxHeartbeats 1000000 in
theorem walk1_0 (a0 a1 d : Int) (w : World) (he : wrap64 ((IntKind.u64.wrap a0).tmod 7) = 1) (hk : bits .and .i64 a1 1023 = d) (hk0 : 0 ≤ d ∧ d < 1024) (ht : Hid (TabW w)) (hz : d = 0) :
    Calls Tryd.prog 6 #[.int .i64 a0, .int .i64 a1] w fun e w' => e = .returned (.bool true) ∧ Below w.heap.size w w' := by
  obtain ⟨mi, hmi, hmz⟩ := min_itoa d hk0.1
  have hil := itoa_len d (by omega) (by omega)
  have hil1 := itoa_len (1 + d) (by omega) (by omega)
  obtain ⟨o, ho⟩ : ∃ o : List UInt8, Lib.itoa d = o := ⟨_, rfl⟩
  obtain ⟨o1, ho1⟩ : ∃ o : List UInt8, Lib.itoa (1 + d) = o := ⟨_, rfl⟩
  rw [ho] at hil; rw [ho1] at hil1
  rw [if_pos hz] at hmz
  have hzb : (d == 0) = true := by simpa using hz
  subst hmz
  have ho' := Lib.hid ho; have ho1' := Lib.hid ho1; have hmi' := Lib.hid hmi
  clear ho ho1 hmi hz
  have hd0 := hk0.1; have hd1 := hk0.2
  clear hk0
  have hp := pt1 
  skip
  have hp' := Lib.hid hp; clear hp
  go_enter Tryd.func6, Tryd.ntmps6
  go_wp2_with fail
  refine (awake_any _ ht).mono ?_
  rintro e w1 ⟨rfl, hb1⟩
  have ht1 : Hid (TabW w1) := Lib.hid (tab_keep ht.out hb1 (Nat.le_refl _))
  go_wp2_with fail
  refine (dec_any _ _ (by omega) (by omega)).mono ?_
  rintro e w2 ⟨rfl, hb2⟩
  rw [ho'.out]
  go_wp2_with fail
  refine (dec_any _ _ (by omega) (by omega)).mono ?_
  rintro e w3 ⟨rfl, hb3⟩
  rw [ho'.out]
  go_wp2_with fail
  refine (dec_any _ _ (by omega) (by omega)).mono ?_
  rintro e w4 ⟨rfl, hb4⟩
  rw [ho1'.out]
  go_wp2_with fail
  refine (dec_any _ _ (by omega) (by omega)).mono ?_
  rintro e w5 ⟨rfl, hb5⟩
  rw [ho1'.out]
  go_wp2_with fail
  refine (dec_any _ _ (by omega) (by omega)).mono ?_
  rintro e w6 ⟨rfl, hb6⟩
  rw [ho1'.out]
  have hb6' := belT (belT (belT (belT hb2 hb3) hb4) hb5) hb6
  have hs6 : w1.heap.size < w6.heap.size := by have h1 := hb2.size; have h2 := hb3.size; have h3 := hb4.size; have h4 := hb5.size; have h5 := hb6.size; simp at h1; omega
  have ht6 : Hid (TabW w6) := Lib.hid (tab_keep (tab_keep ht1.out (Joins.below_alloc1 _ _) (Nat.le_refl _)) (belT (belT (belT (belT hb2 hb3) hb4) hb5) hb6) (Nat.le_refl _))
  have hc0 : w6.cell? ⟨w1.heap.size, 7, none⟩ = some (.int .i64 (0)) := by rw [hb6'.cell (p := ⟨w1.heap.size, 7, none⟩) (by show _ < _; simp)]; simp
  have hc1 : w6.cell? ⟨w1.heap.size, 8, none⟩ = some (.int .i64 (0)) := by rw [hb6'.cell (p := ⟨w1.heap.size, 8, none⟩) (by show _ < _; simp)]; simp
  have hc2 : w6.cell? ⟨w1.heap.size, 9, none⟩ = some (.string ⟨#[98, 111, 111, 108]⟩) := by rw [hb6'.cell (p := ⟨w1.heap.size, 9, none⟩) (by show _ < _; simp)]; simp
  have hc3 : w6.cell? ⟨w1.heap.size, 10, none⟩ = some (.int .i64 (1)) := by rw [hb6'.cell (p := ⟨w1.heap.size, 10, none⟩) (by show _ < _; simp)]; simp
  have hc4 : w6.cell? ⟨w1.heap.size, 11, none⟩ = some (.int .i64 (0)) := by rw [hb6'.cell (p := ⟨w1.heap.size, 11, none⟩) (by show _ < _; simp)]; simp
  have hc5 : w6.cell? ⟨w1.heap.size, 12, none⟩ = some (.int .i64 (1)) := by rw [hb6'.cell (p := ⟨w1.heap.size, 12, none⟩) (by show _ < _; simp)]; simp
  have hc6 : w6.cell? ⟨w1.heap.size, 13, none⟩ = some (.int .i64 (1)) := by rw [hb6'.cell (p := ⟨w1.heap.size, 13, none⟩) (by show _ < _; simp)]; simp
  go_wp2_with fail
  refine (tell_any _ _ _ _ _ _ _ _ _ (by decide) (by decide) (Lib.hid (tab_keep ht6.out (Joins.below_alloc1 _ _) (Nat.le_refl _))) (by omega)).mono ?_
  rintro e w7 ⟨rfl, hb7⟩
  rw [hp'.out.1, hp'.out.2]
  obtain ⟨hc7, hf7⟩ := bcell hb7
  have hcw : w7.cell? ⟨w6.heap.size, 1, none⟩ = some (.string (⟨#[98, 111, 111, 108, 32, 61, 32, 102, 97, 108, 115, 101, 32, 124, 32, 116, 114, 117, 101]⟩)) := by rw [hc7 _ _ (by simp)]; simp
  clear hc7 hf7
  go_wp2_with (go_at_call 12; refine (num_any _ _ (by omega) (by omega)).mono ?_; rintro e w' ⟨rfl, rfl⟩)
  go_ret
  exact ⟨rfl, belT hb1 (belT (belT (Joins.below_alloc1 _ _) (belT (belT (belT (belT hb2 hb3) hb4) hb5) hb6)) (belT (Joins.below_alloc1 _ _) hb7))⟩
set_option maxRecDepth 100000 in
set_option maxHeartbeats 1000000 in
theorem walk1_1 (a0 a1 d : Int) (w : World) (he : wrap64 ((IntKind.u64.wrap a0).tmod 7) = 1) (hk : bits .and .i64 a1 1023 = d) (hk0 : 0 ≤ d ∧ d < 1024) (ht : Hid (TabW w)) (hz : 0 < d) :
    Calls Tryd.prog 6 #[.int .i64 a0, .int .i64 a1] w fun e w' => e = .returned (.bool true) ∧ Below w.heap.size w w' := by
  obtain ⟨mi, hmi, hmz⟩ := min_itoa d hk0.1
  have hil := itoa_len d (by omega) (by omega)
  have hil1 := itoa_len (1 + d) (by omega) (by omega)
  obtain ⟨o, ho⟩ : ∃ o : List UInt8, Lib.itoa d = o := ⟨_, rfl⟩
  obtain ⟨o1, ho1⟩ : ∃ o : List UInt8, Lib.itoa (1 + d) = o := ⟨_, rfl⟩
  rw [ho] at hil; rw [ho1] at hil1
  rw [if_neg (by omega)] at hmz
  have hzb : (d == 0) = false := by rw [beq_eq_false_iff_ne]; omega
  subst hmz
  have ho' := Lib.hid ho; have ho1' := Lib.hid ho1; have hmi' := Lib.hid hmi
  clear ho ho1 hmi hz
  have hd0 := hk0.1; have hd1 := hk0.2
  clear hk0
  have hp := pt1 
  skip
  have hp' := Lib.hid hp; clear hp
  go_enter Tryd.func6, Tryd.ntmps6
  go_wp2_with fail
  refine (awake_any _ ht).mono ?_
  rintro e w1 ⟨rfl, hb1⟩
  have ht1 : Hid (TabW w1) := Lib.hid (tab_keep ht.out hb1 (Nat.le_refl _))
  go_wp2_with fail
  refine (dec_any _ _ (by omega) (by omega)).mono ?_
  rintro e w2 ⟨rfl, hb2⟩
  rw [ho'.out]
  go_wp2_with fail
  refine (dec_any _ _ (by omega) (by omega)).mono ?_
  rintro e w3 ⟨rfl, hb3⟩
  rw [ho'.out]
  go_wp2_with fail
  refine (dec_any _ _ (by omega) (by omega)).mono ?_
  rintro e w4 ⟨rfl, hb4⟩
  rw [ho1'.out]
  go_wp2_with fail
  refine (dec_any _ _ (by omega) (by omega)).mono ?_
  rintro e w5 ⟨rfl, hb5⟩
  rw [ho1'.out]
  go_wp2_with fail
  refine (dec_any _ _ (by omega) (by omega)).mono ?_
  rintro e w6 ⟨rfl, hb6⟩
  rw [ho1'.out]
  have hb6' := belT (belT (belT (belT hb2 hb3) hb4) hb5) hb6
  have hs6 : w1.heap.size < w6.heap.size := by have h1 := hb2.size; have h2 := hb3.size; have h3 := hb4.size; have h4 := hb5.size; have h5 := hb6.size; simp at h1; omega
  have ht6 : Hid (TabW w6) := Lib.hid (tab_keep (tab_keep ht1.out (Joins.below_alloc1 _ _) (Nat.le_refl _)) (belT (belT (belT (belT hb2 hb3) hb4) hb5) hb6) (Nat.le_refl _))
  have hc0 : w6.cell? ⟨w1.heap.size, 7, none⟩ = some (.int .i64 (0)) := by rw [hb6'.cell (p := ⟨w1.heap.size, 7, none⟩) (by show _ < _; simp)]; simp
  have hc1 : w6.cell? ⟨w1.heap.size, 8, none⟩ = some (.int .i64 (0)) := by rw [hb6'.cell (p := ⟨w1.heap.size, 8, none⟩) (by show _ < _; simp)]; simp
  have hc2 : w6.cell? ⟨w1.heap.size, 9, none⟩ = some (.string ⟨#[98, 111, 111, 108]⟩) := by rw [hb6'.cell (p := ⟨w1.heap.size, 9, none⟩) (by show _ < _; simp)]; simp
  have hc3 : w6.cell? ⟨w1.heap.size, 10, none⟩ = some (.int .i64 (1)) := by rw [hb6'.cell (p := ⟨w1.heap.size, 10, none⟩) (by show _ < _; simp)]; simp
  have hc4 : w6.cell? ⟨w1.heap.size, 11, none⟩ = some (.int .i64 (0)) := by rw [hb6'.cell (p := ⟨w1.heap.size, 11, none⟩) (by show _ < _; simp)]; simp
  have hc5 : w6.cell? ⟨w1.heap.size, 12, none⟩ = some (.int .i64 (1)) := by rw [hb6'.cell (p := ⟨w1.heap.size, 12, none⟩) (by show _ < _; simp)]; simp
  have hc6 : w6.cell? ⟨w1.heap.size, 13, none⟩ = some (.int .i64 (1)) := by rw [hb6'.cell (p := ⟨w1.heap.size, 13, none⟩) (by show _ < _; simp)]; simp
  go_wp2_with fail
  refine (tell_any _ _ _ _ _ _ _ _ _ (by decide) (by decide) (Lib.hid (tab_keep ht6.out (Joins.below_alloc1 _ _) (Nat.le_refl _))) (by omega)).mono ?_
  rintro e w7 ⟨rfl, hb7⟩
  rw [hp'.out.1, hp'.out.2]
  obtain ⟨hc7, hf7⟩ := bcell hb7
  have hcw : w7.cell? ⟨w6.heap.size, 1, none⟩ = some (.string (⟨#[98, 111, 111, 108, 32, 61, 32, 102, 97, 108, 115, 101, 32, 124, 32, 116, 114, 117, 101]⟩)) := by rw [hc7 _ _ (by simp)]; simp
  clear hc7 hf7
  go_wp2_with (go_at_call 12; refine (num_any _ _ (by omega) (by omega)).mono ?_; rintro e w' ⟨rfl, rfl⟩)
  go_ret
  exact ⟨rfl, belT hb1 (belT (belT (Joins.below_alloc1 _ _) (belT (belT (belT (belT hb2 hb3) hb4) hb5) hb6)) (belT (Joins.below_alloc1 _ _) hb7))⟩
set_option maxRecDepth 100000 in
set_option maxHeartbeats 1000000 in
theorem walk2_0 (a0 a1 d : Int) (w : World) (he : wrap64 ((IntKind.u64.wrap a0).tmod 7) = 2) (hk : bits .and .i64 a1 1023 = d) (hk0 : 0 ≤ d ∧ d < 1024) (ht : Hid (TabW w)) (hz : d = 0) :
    Calls Tryd.prog 6 #[.int .i64 a0, .int .i64 a1] w fun e w' => e = .returned (.bool true) ∧ Below w.heap.size w w' := by
  obtain ⟨mi, hmi, hmz⟩ := min_itoa d hk0.1
  have hil := itoa_len d (by omega) (by omega)
  have hil1 := itoa_len (1 + d) (by omega) (by omega)
  obtain ⟨o, ho⟩ : ∃ o : List UInt8, Lib.itoa d = o := ⟨_, rfl⟩
  obtain ⟨o1, ho1⟩ : ∃ o : List UInt8, Lib.itoa (1 + d) = o := ⟨_, rfl⟩
  rw [ho] at hil; rw [ho1] at hil1
  rw [if_pos hz] at hmz
  have hzb : (d == 0) = true := by simpa using hz
  subst hmz
  have ho' := Lib.hid ho; have ho1' := Lib.hid ho1; have hmi' := Lib.hid hmi
  clear ho ho1 hmi hz
  have hd0 := hk0.1; have hd1 := hk0.2
  clear hk0
  have hp := pt2 
  skip
  have hp' := Lib.hid hp; clear hp
  go_enter Tryd.func6, Tryd.ntmps6
  go_wp2_with fail
  refine (awake_any _ ht).mono ?_
  rintro e w1 ⟨rfl, hb1⟩
  have ht1 : Hid (TabW w1) := Lib.hid (tab_keep ht.out hb1 (Nat.le_refl _))
  go_wp2_with fail
  refine (dec_any _ _ (by omega) (by omega)).mono ?_
  rintro e w2 ⟨rfl, hb2⟩
  rw [ho'.out]
  go_wp2_with fail
  refine (dec_any _ _ (by omega) (by omega)).mono ?_
  rintro e w3 ⟨rfl, hb3⟩
  rw [ho'.out]
  go_wp2_with fail
  refine (dec_any _ _ (by omega) (by omega)).mono ?_
  rintro e w4 ⟨rfl, hb4⟩
  rw [ho1'.out]
  go_wp2_with fail
  refine (dec_any _ _ (by omega) (by omega)).mono ?_
  rintro e w5 ⟨rfl, hb5⟩
  rw [ho1'.out]
  go_wp2_with fail
  refine (dec_any _ _ (by omega) (by omega)).mono ?_
  rintro e w6 ⟨rfl, hb6⟩
  rw [ho1'.out]
  have hb6' := belT (belT (belT (belT hb2 hb3) hb4) hb5) hb6
  have hs6 : w1.heap.size < w6.heap.size := by have h1 := hb2.size; have h2 := hb3.size; have h3 := hb4.size; have h4 := hb5.size; have h5 := hb6.size; simp at h1; omega
  have ht6 : Hid (TabW w6) := Lib.hid (tab_keep (tab_keep ht1.out (Joins.below_alloc1 _ _) (Nat.le_refl _)) (belT (belT (belT (belT hb2 hb3) hb4) hb5) hb6) (Nat.le_refl _))
  have hc0 : w6.cell? ⟨w1.heap.size, 14, none⟩ = some (.int .i64 (0)) := by rw [hb6'.cell (p := ⟨w1.heap.size, 14, none⟩) (by show _ < _; simp)]; simp
  have hc1 : w6.cell? ⟨w1.heap.size, 15, none⟩ = some (.int .i64 (0)) := by rw [hb6'.cell (p := ⟨w1.heap.size, 15, none⟩) (by show _ < _; simp)]; simp
  have hc2 : w6.cell? ⟨w1.heap.size, 16, none⟩ = some (.string ⟨#[116]⟩) := by rw [hb6'.cell (p := ⟨w1.heap.size, 16, none⟩) (by show _ < _; simp)]; simp
  have hc3 : w6.cell? ⟨w1.heap.size, 17, none⟩ = some (.int .i64 (2)) := by rw [hb6'.cell (p := ⟨w1.heap.size, 17, none⟩) (by show _ < _; simp)]; simp
  have hc4 : w6.cell? ⟨w1.heap.size, 18, none⟩ = some (.int .i64 (0)) := by rw [hb6'.cell (p := ⟨w1.heap.size, 18, none⟩) (by show _ < _; simp)]; simp
  have hc5 : w6.cell? ⟨w1.heap.size, 19, none⟩ = some (.int .i64 (4)) := by rw [hb6'.cell (p := ⟨w1.heap.size, 19, none⟩) (by show _ < _; simp)]; simp
  have hc6 : w6.cell? ⟨w1.heap.size, 20, none⟩ = some (.int .i64 (0)) := by rw [hb6'.cell (p := ⟨w1.heap.size, 20, none⟩) (by show _ < _; simp)]; simp
  go_wp2_with fail
  refine (tell_any _ _ _ _ _ _ _ _ _ (by decide) (by decide) (Lib.hid (tab_keep ht6.out (Joins.below_alloc1 _ _) (Nat.le_refl _))) (by omega)).mono ?_
  rintro e w7 ⟨rfl, hb7⟩
  rw [hp'.out.1, hp'.out.2]
  obtain ⟨hc7, hf7⟩ := bcell hb7
  have hcw : w7.cell? ⟨w6.heap.size, 2, none⟩ = some (.string (⟨#[116, 32, 61, 32, 102, 117, 110, 99, 116, 105, 111, 110, 32, 124, 32, 102, 117, 101, 108]⟩)) := by rw [hc7 _ _ (by simp)]; simp
  clear hc7 hf7
  go_wp2_with (go_at_call 12; refine (num_any _ _ (by omega) (by omega)).mono ?_; rintro e w' ⟨rfl, rfl⟩)
  go_ret
  exact ⟨rfl, belT hb1 (belT (belT (Joins.below_alloc1 _ _) (belT (belT (belT (belT hb2 hb3) hb4) hb5) hb6)) (belT (Joins.below_alloc1 _ _) hb7))⟩
set_option maxRecDepth 100000 in
set_option maxHeartbeats 1000000 in
theorem walk2_1 (a0 a1 d : Int) (w : World) (he : wrap64 ((IntKind.u64.wrap a0).tmod 7) = 2) (hk : bits .and .i64 a1 1023 = d) (hk0 : 0 ≤ d ∧ d < 1024) (ht : Hid (TabW w)) (hz : 0 < d) :
    Calls Tryd.prog 6 #[.int .i64 a0, .int .i64 a1] w fun e w' => e = .returned (.bool true) ∧ Below w.heap.size w w' := by
  obtain ⟨mi, hmi, hmz⟩ := min_itoa d hk0.1
  have hil := itoa_len d (by omega) (by omega)
  have hil1 := itoa_len (1 + d) (by omega) (by omega)
  obtain ⟨o, ho⟩ : ∃ o : List UInt8, Lib.itoa d = o := ⟨_, rfl⟩
  obtain ⟨o1, ho1⟩ : ∃ o : List UInt8, Lib.itoa (1 + d) = o := ⟨_, rfl⟩
  rw [ho] at hil; rw [ho1] at hil1
  rw [if_neg (by omega)] at hmz
  have hzb : (d == 0) = false := by rw [beq_eq_false_iff_ne]; omega
  subst hmz
  have ho' := Lib.hid ho; have ho1' := Lib.hid ho1; have hmi' := Lib.hid hmi
  clear ho ho1 hmi hz
  have hd0 := hk0.1; have hd1 := hk0.2
  clear hk0
  have hp := pt2 
  skip
  have hp' := Lib.hid hp; clear hp
  go_enter Tryd.func6, Tryd.ntmps6
  go_wp2_with fail
  refine (awake_any _ ht).mono ?_
  rintro e w1 ⟨rfl, hb1⟩
  have ht1 : Hid (TabW w1) := Lib.hid (tab_keep ht.out hb1 (Nat.le_refl _))
  go_wp2_with fail
  refine (dec_any _ _ (by omega) (by omega)).mono ?_
  rintro e w2 ⟨rfl, hb2⟩
  rw [ho'.out]
  go_wp2_with fail
  refine (dec_any _ _ (by omega) (by omega)).mono ?_
  rintro e w3 ⟨rfl, hb3⟩
  rw [ho'.out]
  go_wp2_with fail
  refine (dec_any _ _ (by omega) (by omega)).mono ?_
  rintro e w4 ⟨rfl, hb4⟩
  rw [ho1'.out]
  go_wp2_with fail
  refine (dec_any _ _ (by omega) (by omega)).mono ?_
  rintro e w5 ⟨rfl, hb5⟩
  rw [ho1'.out]
  go_wp2_with fail
  refine (dec_any _ _ (by omega) (by omega)).mono ?_
  rintro e w6 ⟨rfl, hb6⟩
  rw [ho1'.out]
  have hb6' := belT (belT (belT (belT hb2 hb3) hb4) hb5) hb6
  have hs6 : w1.heap.size < w6.heap.size := by have h1 := hb2.size; have h2 := hb3.size; have h3 := hb4.size; have h4 := hb5.size; have h5 := hb6.size; simp at h1; omega
  have ht6 : Hid (TabW w6) := Lib.hid (tab_keep (tab_keep ht1.out (Joins.below_alloc1 _ _) (Nat.le_refl _)) (belT (belT (belT (belT hb2 hb3) hb4) hb5) hb6) (Nat.le_refl _))
  have hc0 : w6.cell? ⟨w1.heap.size, 14, none⟩ = some (.int .i64 (0)) := by rw [hb6'.cell (p := ⟨w1.heap.size, 14, none⟩) (by show _ < _; simp)]; simp
  have hc1 : w6.cell? ⟨w1.heap.size, 15, none⟩ = some (.int .i64 (0)) := by rw [hb6'.cell (p := ⟨w1.heap.size, 15, none⟩) (by show _ < _; simp)]; simp
  have hc2 : w6.cell? ⟨w1.heap.size, 16, none⟩ = some (.string ⟨#[116]⟩) := by rw [hb6'.cell (p := ⟨w1.heap.size, 16, none⟩) (by show _ < _; simp)]; simp
  have hc3 : w6.cell? ⟨w1.heap.size, 17, none⟩ = some (.int .i64 (2)) := by rw [hb6'.cell (p := ⟨w1.heap.size, 17, none⟩) (by show _ < _; simp)]; simp
  have hc4 : w6.cell? ⟨w1.heap.size, 18, none⟩ = some (.int .i64 (0)) := by rw [hb6'.cell (p := ⟨w1.heap.size, 18, none⟩) (by show _ < _; simp)]; simp
  have hc5 : w6.cell? ⟨w1.heap.size, 19, none⟩ = some (.int .i64 (4)) := by rw [hb6'.cell (p := ⟨w1.heap.size, 19, none⟩) (by show _ < _; simp)]; simp
  have hc6 : w6.cell? ⟨w1.heap.size, 20, none⟩ = some (.int .i64 (0)) := by rw [hb6'.cell (p := ⟨w1.heap.size, 20, none⟩) (by show _ < _; simp)]; simp
  go_wp2_with fail
  refine (tell_any _ _ _ _ _ _ _ _ _ (by decide) (by decide) (Lib.hid (tab_keep ht6.out (Joins.below_alloc1 _ _) (Nat.le_refl _))) (by omega)).mono ?_
  rintro e w7 ⟨rfl, hb7⟩
  rw [hp'.out.1, hp'.out.2]
  obtain ⟨hc7, hf7⟩ := bcell hb7
  have hcw : w7.cell? ⟨w6.heap.size, 2, none⟩ = some (.string (⟨#[116, 32, 61, 32, 102, 117, 110, 99, 116, 105, 111, 110, 32, 124, 32, 102, 117, 101, 108]⟩)) := by rw [hc7 _ _ (by simp)]; simp
  clear hc7 hf7
  go_wp2_with (go_at_call 12; refine (num_any _ _ (by omega) (by omega)).mono ?_; rintro e w' ⟨rfl, rfl⟩)
  go_ret
  exact ⟨rfl, belT hb1 (belT (belT (Joins.below_alloc1 _ _) (belT (belT (belT (belT hb2 hb3) hb4) hb5) hb6)) (belT (Joins.below_alloc1 _ _) hb7))⟩
set_option maxRecDepth 100000 in
set_option maxHeartbeats 1000000 in
theorem walk3_0 (a0 a1 d : Int) (w : World) (he : wrap64 ((IntKind.u64.wrap a0).tmod 7) = 3) (hk : bits .and .i64 a1 1023 = d) (hk0 : 0 ≤ d ∧ d < 1024) (ht : Hid (TabW w)) (hz : d = 0) :
    Calls Tryd.prog 6 #[.int .i64 a0, .int .i64 a1] w fun e w' => e = .returned (.bool true) ∧ Below w.heap.size w w' := by
  obtain ⟨mi, hmi, hmz⟩ := min_itoa d hk0.1
  have hil := itoa_len d (by omega) (by omega)
  have hil1 := itoa_len (1 + d) (by omega) (by omega)
  obtain ⟨o, ho⟩ : ∃ o : List UInt8, Lib.itoa d = o := ⟨_, rfl⟩
  obtain ⟨o1, ho1⟩ : ∃ o : List UInt8, Lib.itoa (1 + d) = o := ⟨_, rfl⟩
  rw [ho] at hil; rw [ho1] at hil1
  rw [if_pos hz] at hmz
  have hzb : (d == 0) = true := by simpa using hz
  subst hmz
  have ho' := Lib.hid ho; have ho1' := Lib.hid ho1; have hmi' := Lib.hid hmi
  clear ho ho1 hmi hz
  have hd0 := hk0.1; have hd1 := hk0.2
  clear hk0
  have hp := pt3 
  skip
  have hp' := Lib.hid hp; clear hp
  go_enter Tryd.func6, Tryd.ntmps6
  go_wp2_with fail
  refine (awake_any _ ht).mono ?_
  rintro e w1 ⟨rfl, hb1⟩
  have ht1 : Hid (TabW w1) := Lib.hid (tab_keep ht.out hb1 (Nat.le_refl _))
  go_wp2_with fail
  refine (dec_any _ _ (by omega) (by omega)).mono ?_
  rintro e w2 ⟨rfl, hb2⟩
  rw [ho'.out]
  go_wp2_with fail
  refine (dec_any _ _ (by omega) (by omega)).mono ?_
  rintro e w3 ⟨rfl, hb3⟩
  rw [ho'.out]
  go_wp2_with fail
  refine (dec_any _ _ (by omega) (by omega)).mono ?_
  rintro e w4 ⟨rfl, hb4⟩
  rw [ho1'.out]
  go_wp2_with fail
  refine (dec_any _ _ (by omega) (by omega)).mono ?_
  rintro e w5 ⟨rfl, hb5⟩
  rw [ho1'.out]
  go_wp2_with fail
  refine (dec_any _ _ (by omega) (by omega)).mono ?_
  rintro e w6 ⟨rfl, hb6⟩
  rw [ho1'.out]
  have hb6' := belT (belT (belT (belT hb2 hb3) hb4) hb5) hb6
  have hs6 : w1.heap.size < w6.heap.size := by have h1 := hb2.size; have h2 := hb3.size; have h3 := hb4.size; have h4 := hb5.size; have h5 := hb6.size; simp at h1; omega
  have ht6 : Hid (TabW w6) := Lib.hid (tab_keep (tab_keep ht1.out (Joins.below_alloc1 _ _) (Nat.le_refl _)) (belT (belT (belT (belT hb2 hb3) hb4) hb5) hb6) (Nat.le_refl _))
  have hc0 : w6.cell? ⟨w1.heap.size, 21, none⟩ = some (.int .i64 (0)) := by rw [hb6'.cell (p := ⟨w1.heap.size, 21, none⟩) (by show _ < _; simp)]; simp
  have hc1 : w6.cell? ⟨w1.heap.size, 22, none⟩ = some (.int .i64 (0)) := by rw [hb6'.cell (p := ⟨w1.heap.size, 22, none⟩) (by show _ < _; simp)]; simp
  have hc2 : w6.cell? ⟨w1.heap.size, 23, none⟩ = some (.string ⟨#[]⟩) := by rw [hb6'.cell (p := ⟨w1.heap.size, 23, none⟩) (by show _ < _; simp)]; simp
  have hc3 : w6.cell? ⟨w1.heap.size, 24, none⟩ = some (.int .i64 (5)) := by rw [hb6'.cell (p := ⟨w1.heap.size, 24, none⟩) (by show _ < _; simp)]; simp
  have hc4 : w6.cell? ⟨w1.heap.size, 25, none⟩ = some (.int .i64 (0)) := by rw [hb6'.cell (p := ⟨w1.heap.size, 25, none⟩) (by show _ < _; simp)]; simp
  have hc5 : w6.cell? ⟨w1.heap.size, 26, none⟩ = some (.int .i64 (3)) := by rw [hb6'.cell (p := ⟨w1.heap.size, 26, none⟩) (by show _ < _; simp)]; simp
  have hc6 : w6.cell? ⟨w1.heap.size, 27, none⟩ = some (.int .i64 (1)) := by rw [hb6'.cell (p := ⟨w1.heap.size, 27, none⟩) (by show _ < _; simp)]; simp
  go_wp2_with fail
  refine (tell_any _ _ _ _ _ _ _ _ _ (by decide) (by decide) (Lib.hid (tab_keep ht6.out (Joins.below_alloc1 _ _) (Nat.le_refl _))) (by omega)).mono ?_
  rintro e w7 ⟨rfl, hb7⟩
  rw [hp'.out.1, hp'.out.2]
  obtain ⟨hc7, hf7⟩ := bcell hb7
  have hcw : w7.cell? ⟨w6.heap.size, 3, none⟩ = some (.string (⟨#[32, 61, 32, 115, 116, 117, 99, 107, 32, 124, 32, 102, 97, 117, 108, 116, 32, 49]⟩)) := by rw [hc7 _ _ (by simp)]; simp
  clear hc7 hf7
  go_wp2_with (go_at_call 12; refine (num_any _ _ (by omega) (by omega)).mono ?_; rintro e w' ⟨rfl, rfl⟩)
  go_ret
  exact ⟨rfl, belT hb1 (belT (belT (Joins.below_alloc1 _ _) (belT (belT (belT (belT hb2 hb3) hb4) hb5) hb6)) (belT (Joins.below_alloc1 _ _) hb7))⟩
set_option maxRecDepth 100000 in
set_option maxHeartbeats 1000000 in
theorem walk3_1 (a0 a1 d : Int) (w : World) (he : wrap64 ((IntKind.u64.wrap a0).tmod 7) = 3) (hk : bits .and .i64 a1 1023 = d) (hk0 : 0 ≤ d ∧ d < 1024) (ht : Hid (TabW w)) (hz : 0 < d) :
    Calls Tryd.prog 6 #[.int .i64 a0, .int .i64 a1] w fun e w' => e = .returned (.bool true) ∧ Below w.heap.size w w' := by
  obtain ⟨mi, hmi, hmz⟩ := min_itoa d hk0.1
  have hil := itoa_len d (by omega) (by omega)
  have hil1 := itoa_len (1 + d) (by omega) (by omega)
  obtain ⟨o, ho⟩ : ∃ o : List UInt8, Lib.itoa d = o := ⟨_, rfl⟩
  obtain ⟨o1, ho1⟩ : ∃ o : List UInt8, Lib.itoa (1 + d) = o := ⟨_, rfl⟩
  rw [ho] at hil; rw [ho1] at hil1
  rw [if_neg (by omega)] at hmz
  have hzb : (d == 0) = false := by rw [beq_eq_false_iff_ne]; omega
  subst hmz
  have ho' := Lib.hid ho; have ho1' := Lib.hid ho1; have hmi' := Lib.hid hmi
  clear ho ho1 hmi hz
  have hd0 := hk0.1; have hd1 := hk0.2
  clear hk0
  have hp := pt3 
  skip
  have hp' := Lib.hid hp; clear hp
  go_enter Tryd.func6, Tryd.ntmps6
  go_wp2_with fail
  refine (awake_any _ ht).mono ?_
  rintro e w1 ⟨rfl, hb1⟩
  have ht1 : Hid (TabW w1) := Lib.hid (tab_keep ht.out hb1 (Nat.le_refl _))
  go_wp2_with fail
  refine (dec_any _ _ (by omega) (by omega)).mono ?_
  rintro e w2 ⟨rfl, hb2⟩
  rw [ho'.out]
  go_wp2_with fail
  refine (dec_any _ _ (by omega) (by omega)).mono ?_
  rintro e w3 ⟨rfl, hb3⟩
  rw [ho'.out]
  go_wp2_with fail
  refine (dec_any _ _ (by omega) (by omega)).mono ?_
  rintro e w4 ⟨rfl, hb4⟩
  rw [ho1'.out]
  go_wp2_with fail
  refine (dec_any _ _ (by omega) (by omega)).mono ?_
  rintro e w5 ⟨rfl, hb5⟩
  rw [ho1'.out]
  go_wp2_with fail
  refine (dec_any _ _ (by omega) (by omega)).mono ?_
  rintro e w6 ⟨rfl, hb6⟩
  rw [ho1'.out]
  have hb6' := belT (belT (belT (belT hb2 hb3) hb4) hb5) hb6
  have hs6 : w1.heap.size < w6.heap.size := by have h1 := hb2.size; have h2 := hb3.size; have h3 := hb4.size; have h4 := hb5.size; have h5 := hb6.size; simp at h1; omega
  have ht6 : Hid (TabW w6) := Lib.hid (tab_keep (tab_keep ht1.out (Joins.below_alloc1 _ _) (Nat.le_refl _)) (belT (belT (belT (belT hb2 hb3) hb4) hb5) hb6) (Nat.le_refl _))
  have hc0 : w6.cell? ⟨w1.heap.size, 21, none⟩ = some (.int .i64 (0)) := by rw [hb6'.cell (p := ⟨w1.heap.size, 21, none⟩) (by show _ < _; simp)]; simp
  have hc1 : w6.cell? ⟨w1.heap.size, 22, none⟩ = some (.int .i64 (0)) := by rw [hb6'.cell (p := ⟨w1.heap.size, 22, none⟩) (by show _ < _; simp)]; simp
  have hc2 : w6.cell? ⟨w1.heap.size, 23, none⟩ = some (.string ⟨#[]⟩) := by rw [hb6'.cell (p := ⟨w1.heap.size, 23, none⟩) (by show _ < _; simp)]; simp
  have hc3 : w6.cell? ⟨w1.heap.size, 24, none⟩ = some (.int .i64 (5)) := by rw [hb6'.cell (p := ⟨w1.heap.size, 24, none⟩) (by show _ < _; simp)]; simp
  have hc4 : w6.cell? ⟨w1.heap.size, 25, none⟩ = some (.int .i64 (0)) := by rw [hb6'.cell (p := ⟨w1.heap.size, 25, none⟩) (by show _ < _; simp)]; simp
  have hc5 : w6.cell? ⟨w1.heap.size, 26, none⟩ = some (.int .i64 (3)) := by rw [hb6'.cell (p := ⟨w1.heap.size, 26, none⟩) (by show _ < _; simp)]; simp
  have hc6 : w6.cell? ⟨w1.heap.size, 27, none⟩ = some (.int .i64 (1)) := by rw [hb6'.cell (p := ⟨w1.heap.size, 27, none⟩) (by show _ < _; simp)]; simp
  go_wp2_with fail
  refine (tell_any _ _ _ _ _ _ _ _ _ (by decide) (by decide) (Lib.hid (tab_keep ht6.out (Joins.below_alloc1 _ _) (Nat.le_refl _))) (by omega)).mono ?_
  rintro e w7 ⟨rfl, hb7⟩
  rw [hp'.out.1, hp'.out.2]
  obtain ⟨hc7, hf7⟩ := bcell hb7
  have hcw : w7.cell? ⟨w6.heap.size, 3, none⟩ = some (.string (⟨#[32, 61, 32, 115, 116, 117, 99, 107, 32, 124, 32, 102, 97, 117, 108, 116, 32, 49]⟩)) := by rw [hc7 _ _ (by simp)]; simp
  clear hc7 hf7
  go_wp2_with (go_at_call 12; refine (num_any _ _ (by omega) (by omega)).mono ?_; rintro e w' ⟨rfl, rfl⟩)
  go_ret
  exact ⟨rfl, belT hb1 (belT (belT (Joins.below_alloc1 _ _) (belT (belT (belT (belT hb2 hb3) hb4) hb5) hb6)) (belT (Joins.below_alloc1 _ _) hb7))⟩
set_option maxRecDepth 100000 in
set_option maxHeartbeats 1000000 in
theorem walk4_0 (a0 a1 d : Int) (w : World) (he : wrap64 ((IntKind.u64.wrap a0).tmod 7) = 4) (hk : bits .and .i64 a1 1023 = d) (hk0 : 0 ≤ d ∧ d < 1024) (ht : Hid (TabW w)) (hz : d = 0) :
    Calls Tryd.prog 6 #[.int .i64 a0, .int .i64 a1] w fun e w' => e = .returned (.bool true) ∧ Below w.heap.size w w' := by
  obtain ⟨mi, hmi, hmz⟩ := min_itoa d hk0.1
  have hil := itoa_len d (by omega) (by omega)
  have hil1 := itoa_len (1 + d) (by omega) (by omega)
  obtain ⟨o, ho⟩ : ∃ o : List UInt8, Lib.itoa d = o := ⟨_, rfl⟩
  obtain ⟨o1, ho1⟩ : ∃ o : List UInt8, Lib.itoa (1 + d) = o := ⟨_, rfl⟩
  rw [ho] at hil; rw [ho1] at hil1
  rw [if_pos hz] at hmz
  have hzb : (d == 0) = true := by simpa using hz
  subst hmz
  have ho' := Lib.hid ho; have ho1' := Lib.hid ho1; have hmi' := Lib.hid hmi
  clear ho ho1 hmi hz
  have hd0 := hk0.1; have hd1 := hk0.2
  clear hk0
  have hp := pt4 d hd0
  rw [ho1'.out] at hp
  have hp' := Lib.hid hp; clear hp
  go_enter Tryd.func6, Tryd.ntmps6
  go_wp2_with fail
  refine (awake_any _ ht).mono ?_
  rintro e w1 ⟨rfl, hb1⟩
  have ht1 : Hid (TabW w1) := Lib.hid (tab_keep ht.out hb1 (Nat.le_refl _))
  go_wp2_with fail
  refine (dec_any _ _ (by omega) (by omega)).mono ?_
  rintro e w2 ⟨rfl, hb2⟩
  rw [ho'.out]
  go_wp2_with fail
  refine (dec_any _ _ (by omega) (by omega)).mono ?_
  rintro e w3 ⟨rfl, hb3⟩
  rw [ho'.out]
  go_wp2_with fail
  refine (dec_any _ _ (by omega) (by omega)).mono ?_
  rintro e w4 ⟨rfl, hb4⟩
  rw [ho1'.out]
  go_wp2_with fail
  refine (dec_any _ _ (by omega) (by omega)).mono ?_
  rintro e w5 ⟨rfl, hb5⟩
  rw [ho1'.out]
  go_wp2_with fail
  refine (dec_any _ _ (by omega) (by omega)).mono ?_
  rintro e w6 ⟨rfl, hb6⟩
  rw [ho1'.out]
  have hb6' := belT (belT (belT (belT hb2 hb3) hb4) hb5) hb6
  have hs6 : w1.heap.size < w6.heap.size := by have h1 := hb2.size; have h2 := hb3.size; have h3 := hb4.size; have h4 := hb5.size; have h5 := hb6.size; simp at h1; omega
  have ht6 : Hid (TabW w6) := Lib.hid (tab_keep (tab_keep ht1.out (Joins.below_alloc1 _ _) (Nat.le_refl _)) (belT (belT (belT (belT hb2 hb3) hb4) hb5) hb6) (Nat.le_refl _))
  have hc0 : w6.cell? ⟨w1.heap.size, 28, none⟩ = some (.int .i64 (1 + d)) := by rw [hb6'.cell (p := ⟨w1.heap.size, 28, none⟩) (by show _ < _; simp)]; simp
  have hc1 : w6.cell? ⟨w1.heap.size, 29, none⟩ = some (.int .i64 (0)) := by rw [hb6'.cell (p := ⟨w1.heap.size, 29, none⟩) (by show _ < _; simp)]; simp
  have hc2 : w6.cell? ⟨w1.heap.size, 30, none⟩ = some (.string ⟨#[]⟩) := by rw [hb6'.cell (p := ⟨w1.heap.size, 30, none⟩) (by show _ < _; simp)]; simp
  have hc3 : w6.cell? ⟨w1.heap.size, 31, none⟩ = some (.int .i64 (0)) := by rw [hb6'.cell (p := ⟨w1.heap.size, 31, none⟩) (by show _ < _; simp)]; simp
  have hc4 : w6.cell? ⟨w1.heap.size, 32, none⟩ = some (.int .i64 (0)) := by rw [hb6'.cell (p := ⟨w1.heap.size, 32, none⟩) (by show _ < _; simp)]; simp
  have hc5 : w6.cell? ⟨w1.heap.size, 33, none⟩ = some (.int .i64 (0)) := by rw [hb6'.cell (p := ⟨w1.heap.size, 33, none⟩) (by show _ < _; simp)]; simp
  have hc6 : w6.cell? ⟨w1.heap.size, 34, none⟩ = some (.int .i64 (0)) := by rw [hb6'.cell (p := ⟨w1.heap.size, 34, none⟩) (by show _ < _; simp)]; simp
  go_wp2_with fail
  refine (tell_any _ _ _ _ _ _ _ _ _ (by decide) (by decide) (Lib.hid (tab_keep ht6.out (Joins.below_alloc1 _ _) (Nat.le_refl _))) (by omega)).mono ?_
  rintro e w7 ⟨rfl, hb7⟩
  rw [hp'.out.1, hp'.out.2]
  obtain ⟨hc7, hf7⟩ := bcell hb7
  have hcw : w7.cell? ⟨w6.heap.size, 4, none⟩ = some (.string (⟨#[49, 58, 49, 58, 32, 101, 114, 114, 111, 114, 32]⟩ ++ ⟨o1.toArray⟩)) := by rw [hc7 _ _ (by simp)]; simp
  clear hc7 hf7
  go_wp2_with (go_at_call 12; refine (num_any _ _ (by omega) (by omega)).mono ?_; rintro e w' ⟨rfl, rfl⟩)
  go_ret
  exact ⟨rfl, belT hb1 (belT (belT (Joins.below_alloc1 _ _) (belT (belT (belT (belT hb2 hb3) hb4) hb5) hb6)) (belT (Joins.below_alloc1 _ _) hb7))⟩
set_option maxRecDepth 100000 in
set_option maxHeartbeats 1000000 in
theorem walk4_1 (a0 a1 d : Int) (w : World) (he : wrap64 ((IntKind.u64.wrap a0).tmod 7) = 4) (hk : bits .and .i64 a1 1023 = d) (hk0 : 0 ≤ d ∧ d < 1024) (ht : Hid (TabW w)) (hz : 0 < d) :
    Calls Tryd.prog 6 #[.int .i64 a0, .int .i64 a1] w fun e w' => e = .returned (.bool true) ∧ Below w.heap.size w w' := by
  obtain ⟨mi, hmi, hmz⟩ := min_itoa d hk0.1
  have hil := itoa_len d (by omega) (by omega)
  have hil1 := itoa_len (1 + d) (by omega) (by omega)
  obtain ⟨o, ho⟩ : ∃ o : List UInt8, Lib.itoa d = o := ⟨_, rfl⟩
  obtain ⟨o1, ho1⟩ : ∃ o : List UInt8, Lib.itoa (1 + d) = o := ⟨_, rfl⟩
  rw [ho] at hil; rw [ho1] at hil1
  rw [if_neg (by omega)] at hmz
  have hzb : (d == 0) = false := by rw [beq_eq_false_iff_ne]; omega
  subst hmz
  have ho' := Lib.hid ho; have ho1' := Lib.hid ho1; have hmi' := Lib.hid hmi
  clear ho ho1 hmi hz
  have hd0 := hk0.1; have hd1 := hk0.2
  clear hk0
  have hp := pt4 d hd0
  rw [ho1'.out] at hp
  have hp' := Lib.hid hp; clear hp
  go_enter Tryd.func6, Tryd.ntmps6
  go_wp2_with fail
  refine (awake_any _ ht).mono ?_
  rintro e w1 ⟨rfl, hb1⟩
  have ht1 : Hid (TabW w1) := Lib.hid (tab_keep ht.out hb1 (Nat.le_refl _))
  go_wp2_with fail
  refine (dec_any _ _ (by omega) (by omega)).mono ?_
  rintro e w2 ⟨rfl, hb2⟩
  rw [ho'.out]
  go_wp2_with fail
  refine (dec_any _ _ (by omega) (by omega)).mono ?_
  rintro e w3 ⟨rfl, hb3⟩
  rw [ho'.out]
  go_wp2_with fail
  refine (dec_any _ _ (by omega) (by omega)).mono ?_
  rintro e w4 ⟨rfl, hb4⟩
  rw [ho1'.out]
  go_wp2_with fail
  refine (dec_any _ _ (by omega) (by omega)).mono ?_
  rintro e w5 ⟨rfl, hb5⟩
  rw [ho1'.out]
  go_wp2_with fail
  refine (dec_any _ _ (by omega) (by omega)).mono ?_
  rintro e w6 ⟨rfl, hb6⟩
  rw [ho1'.out]
  have hb6' := belT (belT (belT (belT hb2 hb3) hb4) hb5) hb6
  have hs6 : w1.heap.size < w6.heap.size := by have h1 := hb2.size; have h2 := hb3.size; have h3 := hb4.size; have h4 := hb5.size; have h5 := hb6.size; simp at h1; omega
  have ht6 : Hid (TabW w6) := Lib.hid (tab_keep (tab_keep ht1.out (Joins.below_alloc1 _ _) (Nat.le_refl _)) (belT (belT (belT (belT hb2 hb3) hb4) hb5) hb6) (Nat.le_refl _))
  have hc0 : w6.cell? ⟨w1.heap.size, 28, none⟩ = some (.int .i64 (1 + d)) := by rw [hb6'.cell (p := ⟨w1.heap.size, 28, none⟩) (by show _ < _; simp)]; simp
  have hc1 : w6.cell? ⟨w1.heap.size, 29, none⟩ = some (.int .i64 (0)) := by rw [hb6'.cell (p := ⟨w1.heap.size, 29, none⟩) (by show _ < _; simp)]; simp
  have hc2 : w6.cell? ⟨w1.heap.size, 30, none⟩ = some (.string ⟨#[]⟩) := by rw [hb6'.cell (p := ⟨w1.heap.size, 30, none⟩) (by show _ < _; simp)]; simp
  have hc3 : w6.cell? ⟨w1.heap.size, 31, none⟩ = some (.int .i64 (0)) := by rw [hb6'.cell (p := ⟨w1.heap.size, 31, none⟩) (by show _ < _; simp)]; simp
  have hc4 : w6.cell? ⟨w1.heap.size, 32, none⟩ = some (.int .i64 (0)) := by rw [hb6'.cell (p := ⟨w1.heap.size, 32, none⟩) (by show _ < _; simp)]; simp
  have hc5 : w6.cell? ⟨w1.heap.size, 33, none⟩ = some (.int .i64 (0)) := by rw [hb6'.cell (p := ⟨w1.heap.size, 33, none⟩) (by show _ < _; simp)]; simp
  have hc6 : w6.cell? ⟨w1.heap.size, 34, none⟩ = some (.int .i64 (0)) := by rw [hb6'.cell (p := ⟨w1.heap.size, 34, none⟩) (by show _ < _; simp)]; simp
  go_wp2_with fail
  refine (tell_any _ _ _ _ _ _ _ _ _ (by decide) (by decide) (Lib.hid (tab_keep ht6.out (Joins.below_alloc1 _ _) (Nat.le_refl _))) (by omega)).mono ?_
  rintro e w7 ⟨rfl, hb7⟩
  rw [hp'.out.1, hp'.out.2]
  obtain ⟨hc7, hf7⟩ := bcell hb7
  have hcw : w7.cell? ⟨w6.heap.size, 4, none⟩ = some (.string (⟨#[49, 58, 49, 58, 32, 101, 114, 114, 111, 114, 32]⟩ ++ ⟨o1.toArray⟩)) := by rw [hc7 _ _ (by simp)]; simp
  clear hc7 hf7
  go_wp2_with (go_at_call 12; refine (num_any _ _ (by omega) (by omega)).mono ?_; rintro e w' ⟨rfl, rfl⟩)
  go_ret
  exact ⟨rfl, belT hb1 (belT (belT (Joins.below_alloc1 _ _) (belT (belT (belT (belT hb2 hb3) hb4) hb5) hb6)) (belT (Joins.below_alloc1 _ _) hb7))⟩
set_option maxRecDepth 100000 in
set_option maxHeartbeats 1000000 in
theorem walk5_0 (a0 a1 d : Int) (w : World) (he : wrap64 ((IntKind.u64.wrap a0).tmod 7) = 5) (hk : bits .and .i64 a1 1023 = d) (hk0 : 0 ≤ d ∧ d < 1024) (ht : Hid (TabW w)) (hz : d = 0) :
    Calls Tryd.prog 6 #[.int .i64 a0, .int .i64 a1] w fun e w' => e = .returned (.bool true) ∧ Below w.heap.size w w' := by
  obtain ⟨mi, hmi, hmz⟩ := min_itoa d hk0.1
  have hil := itoa_len d (by omega) (by omega)
  have hil1 := itoa_len (1 + d) (by omega) (by omega)
  obtain ⟨o, ho⟩ : ∃ o : List UInt8, Lib.itoa d = o := ⟨_, rfl⟩
  obtain ⟨o1, ho1⟩ : ∃ o : List UInt8, Lib.itoa (1 + d) = o := ⟨_, rfl⟩
  rw [ho] at hil; rw [ho1] at hil1
  rw [if_pos hz] at hmz
  have hzb : (d == 0) = true := by simpa using hz
  subst hmz
  have ho' := Lib.hid ho; have ho1' := Lib.hid ho1; have hmi' := Lib.hid hmi
  clear ho ho1 hmi hz
  have hd0 := hk0.1; have hd1 := hk0.2
  clear hk0
  have hp := pt5 d hd0
  rw [ho1'.out] at hp
  have hp' := Lib.hid hp; clear hp
  go_enter Tryd.func6, Tryd.ntmps6
  go_wp2_with fail
  refine (awake_any _ ht).mono ?_
  rintro e w1 ⟨rfl, hb1⟩
  have ht1 : Hid (TabW w1) := Lib.hid (tab_keep ht.out hb1 (Nat.le_refl _))
  go_wp2_with fail
  refine (dec_any _ _ (by omega) (by omega)).mono ?_
  rintro e w2 ⟨rfl, hb2⟩
  rw [ho'.out]
  go_wp2_with fail
  refine (dec_any _ _ (by omega) (by omega)).mono ?_
  rintro e w3 ⟨rfl, hb3⟩
  rw [ho'.out]
  go_wp2_with fail
  refine (dec_any _ _ (by omega) (by omega)).mono ?_
  rintro e w4 ⟨rfl, hb4⟩
  rw [ho1'.out]
  go_wp2_with fail
  refine (dec_any _ _ (by omega) (by omega)).mono ?_
  rintro e w5 ⟨rfl, hb5⟩
  rw [ho1'.out]
  go_wp2_with fail
  refine (dec_any _ _ (by omega) (by omega)).mono ?_
  rintro e w6 ⟨rfl, hb6⟩
  rw [ho1'.out]
  have hb6' := belT (belT (belT (belT hb2 hb3) hb4) hb5) hb6
  have hs6 : w1.heap.size < w6.heap.size := by have h1 := hb2.size; have h2 := hb3.size; have h3 := hb4.size; have h4 := hb5.size; have h5 := hb6.size; simp at h1; omega
  have ht6 : Hid (TabW w6) := Lib.hid (tab_keep (tab_keep ht1.out (Joins.below_alloc1 _ _) (Nat.le_refl _)) (belT (belT (belT (belT hb2 hb3) hb4) hb5) hb6) (Nat.le_refl _))
  have hc0 : w6.cell? ⟨w1.heap.size, 35, none⟩ = some (.int .i64 (1 + d)) := by rw [hb6'.cell (p := ⟨w1.heap.size, 35, none⟩) (by show _ < _; simp)]; simp
  have hc1 : w6.cell? ⟨w1.heap.size, 36, none⟩ = some (.int .i64 (3)) := by rw [hb6'.cell (p := ⟨w1.heap.size, 36, none⟩) (by show _ < _; simp)]; simp
  have hc2 : w6.cell? ⟨w1.heap.size, 37, none⟩ = some (.string ⟨#[105, 110, 116]⟩) := by rw [hb6'.cell (p := ⟨w1.heap.size, 37, none⟩) (by show _ < _; simp)]; simp
  have hc3 : w6.cell? ⟨w1.heap.size, 38, none⟩ = some (.int .i64 (0)) := by rw [hb6'.cell (p := ⟨w1.heap.size, 38, none⟩) (by show _ < _; simp)]; simp
  have hc4 : w6.cell? ⟨w1.heap.size, 39, none⟩ = some (.int .i64 (0)) := by rw [hb6'.cell (p := ⟨w1.heap.size, 39, none⟩) (by show _ < _; simp)]; simp
  have hc5 : w6.cell? ⟨w1.heap.size, 40, none⟩ = some (.int .i64 (0)) := by rw [hb6'.cell (p := ⟨w1.heap.size, 40, none⟩) (by show _ < _; simp)]; simp
  have hc6 : w6.cell? ⟨w1.heap.size, 41, none⟩ = some (.int .i64 (0)) := by rw [hb6'.cell (p := ⟨w1.heap.size, 41, none⟩) (by show _ < _; simp)]; simp
  go_wp2_with fail
  refine (tell_any _ _ _ _ _ _ _ _ _ (by decide) (by decide) (Lib.hid (tab_keep ht6.out (Joins.below_alloc1 _ _) (Nat.le_refl _))) (by omega)).mono ?_
  rintro e w7 ⟨rfl, hb7⟩
  rw [hp'.out.1, hp'.out.2]
  obtain ⟨hc7, hf7⟩ := bcell hb7
  have hcw : w7.cell? ⟨w6.heap.size, 5, none⟩ = some (.string (⟨#[50, 58, 49, 58, 32, 101, 114, 114, 111, 114, 32]⟩ ++ ⟨o1.toArray⟩)) := by rw [hc7 _ _ (by simp)]; simp
  clear hc7 hf7
  go_wp2_with (go_at_call 12; refine (num_any _ _ (by omega) (by omega)).mono ?_; rintro e w' ⟨rfl, rfl⟩)
  go_ret
  exact ⟨rfl, belT hb1 (belT (belT (Joins.below_alloc1 _ _) (belT (belT (belT (belT hb2 hb3) hb4) hb5) hb6)) (belT (Joins.below_alloc1 _ _) hb7))⟩
set_option maxRecDepth 100000 in
set_option maxHeartbeats 1000000 in
theorem walk5_1 (a0 a1 d : Int) (w : World) (he : wrap64 ((IntKind.u64.wrap a0).tmod 7) = 5) (hk : bits .and .i64 a1 1023 = d) (hk0 : 0 ≤ d ∧ d < 1024) (ht : Hid (TabW w)) (hz : 0 < d) :
    Calls Tryd.prog 6 #[.int .i64 a0, .int .i64 a1] w fun e w' => e = .returned (.bool true) ∧ Below w.heap.size w w' := by
  obtain ⟨mi, hmi, hmz⟩ := min_itoa d hk0.1
  have hil := itoa_len d (by omega) (by omega)
  have hil1 := itoa_len (1 + d) (by omega) (by omega)
  obtain ⟨o, ho⟩ : ∃ o : List UInt8, Lib.itoa d = o := ⟨_, rfl⟩
  obtain ⟨o1, ho1⟩ : ∃ o : List UInt8, Lib.itoa (1 + d) = o := ⟨_, rfl⟩
  rw [ho] at hil; rw [ho1] at hil1
  rw [if_neg (by omega)] at hmz
  have hzb : (d == 0) = false := by rw [beq_eq_false_iff_ne]; omega
  subst hmz
  have ho' := Lib.hid ho; have ho1' := Lib.hid ho1; have hmi' := Lib.hid hmi
  clear ho ho1 hmi hz
  have hd0 := hk0.1; have hd1 := hk0.2
  clear hk0
  have hp := pt5 d hd0
  rw [ho1'.out] at hp
  have hp' := Lib.hid hp; clear hp
  go_enter Tryd.func6, Tryd.ntmps6
  go_wp2_with fail
  refine (awake_any _ ht).mono ?_
  rintro e w1 ⟨rfl, hb1⟩
  have ht1 : Hid (TabW w1) := Lib.hid (tab_keep ht.out hb1 (Nat.le_refl _))
  go_wp2_with fail
  refine (dec_any _ _ (by omega) (by omega)).mono ?_
  rintro e w2 ⟨rfl, hb2⟩
  rw [ho'.out]
  go_wp2_with fail
  refine (dec_any _ _ (by omega) (by omega)).mono ?_
  rintro e w3 ⟨rfl, hb3⟩
  rw [ho'.out]
  go_wp2_with fail
  refine (dec_any _ _ (by omega) (by omega)).mono ?_
  rintro e w4 ⟨rfl, hb4⟩
  rw [ho1'.out]
  go_wp2_with fail
  refine (dec_any _ _ (by omega) (by omega)).mono ?_
  rintro e w5 ⟨rfl, hb5⟩
  rw [ho1'.out]
  go_wp2_with fail
  refine (dec_any _ _ (by omega) (by omega)).mono ?_
  rintro e w6 ⟨rfl, hb6⟩
  rw [ho1'.out]
  have hb6' := belT (belT (belT (belT hb2 hb3) hb4) hb5) hb6
  have hs6 : w1.heap.size < w6.heap.size := by have h1 := hb2.size; have h2 := hb3.size; have h3 := hb4.size; have h4 := hb5.size; have h5 := hb6.size; simp at h1; omega
  have ht6 : Hid (TabW w6) := Lib.hid (tab_keep (tab_keep ht1.out (Joins.below_alloc1 _ _) (Nat.le_refl _)) (belT (belT (belT (belT hb2 hb3) hb4) hb5) hb6) (Nat.le_refl _))
  have hc0 : w6.cell? ⟨w1.heap.size, 35, none⟩ = some (.int .i64 (1 + d)) := by rw [hb6'.cell (p := ⟨w1.heap.size, 35, none⟩) (by show _ < _; simp)]; simp
  have hc1 : w6.cell? ⟨w1.heap.size, 36, none⟩ = some (.int .i64 (3)) := by rw [hb6'.cell (p := ⟨w1.heap.size, 36, none⟩) (by show _ < _; simp)]; simp
  have hc2 : w6.cell? ⟨w1.heap.size, 37, none⟩ = some (.string ⟨#[105, 110, 116]⟩) := by rw [hb6'.cell (p := ⟨w1.heap.size, 37, none⟩) (by show _ < _; simp)]; simp
  have hc3 : w6.cell? ⟨w1.heap.size, 38, none⟩ = some (.int .i64 (0)) := by rw [hb6'.cell (p := ⟨w1.heap.size, 38, none⟩) (by show _ < _; simp)]; simp
  have hc4 : w6.cell? ⟨w1.heap.size, 39, none⟩ = some (.int .i64 (0)) := by rw [hb6'.cell (p := ⟨w1.heap.size, 39, none⟩) (by show _ < _; simp)]; simp
  have hc5 : w6.cell? ⟨w1.heap.size, 40, none⟩ = some (.int .i64 (0)) := by rw [hb6'.cell (p := ⟨w1.heap.size, 40, none⟩) (by show _ < _; simp)]; simp
  have hc6 : w6.cell? ⟨w1.heap.size, 41, none⟩ = some (.int .i64 (0)) := by rw [hb6'.cell (p := ⟨w1.heap.size, 41, none⟩) (by show _ < _; simp)]; simp
  go_wp2_with fail
  refine (tell_any _ _ _ _ _ _ _ _ _ (by decide) (by decide) (Lib.hid (tab_keep ht6.out (Joins.below_alloc1 _ _) (Nat.le_refl _))) (by omega)).mono ?_
  rintro e w7 ⟨rfl, hb7⟩
  rw [hp'.out.1, hp'.out.2]
  obtain ⟨hc7, hf7⟩ := bcell hb7
  have hcw : w7.cell? ⟨w6.heap.size, 5, none⟩ = some (.string (⟨#[50, 58, 49, 58, 32, 101, 114, 114, 111, 114, 32]⟩ ++ ⟨o1.toArray⟩)) := by rw [hc7 _ _ (by simp)]; simp
  clear hc7 hf7
  go_wp2_with (go_at_call 12; refine (num_any _ _ (by omega) (by omega)).mono ?_; rintro e w' ⟨rfl, rfl⟩)
  go_ret
  exact ⟨rfl, belT hb1 (belT (belT (Joins.below_alloc1 _ _) (belT (belT (belT (belT hb2 hb3) hb4) hb5) hb6)) (belT (Joins.below_alloc1 _ _) hb7))⟩
set_option maxRecDepth 100000 in
set_option maxHeartbeats 1000000 in
theorem walk6_0 (a0 a1 d : Int) (w : World) (he : wrap64 ((IntKind.u64.wrap a0).tmod 7) = 6) (hk : bits .and .i64 a1 1023 = d) (hk0 : 0 ≤ d ∧ d < 1024) (ht : Hid (TabW w)) (hz : d = 0) :
    Calls Tryd.prog 6 #[.int .i64 a0, .int .i64 a1] w fun e w' => e = .returned (.bool true) ∧ Below w.heap.size w w' := by
  obtain ⟨mi, hmi, hmz⟩ := min_itoa d hk0.1
  have hil := itoa_len d (by omega) (by omega)
  have hil1 := itoa_len (1 + d) (by omega) (by omega)
  obtain ⟨o, ho⟩ : ∃ o : List UInt8, Lib.itoa d = o := ⟨_, rfl⟩
  obtain ⟨o1, ho1⟩ : ∃ o : List UInt8, Lib.itoa (1 + d) = o := ⟨_, rfl⟩
  rw [ho] at hil; rw [ho1] at hil1
  rw [if_pos hz] at hmz
  have hzb : (d == 0) = true := by simpa using hz
  subst hmz
  have ho' := Lib.hid ho; have ho1' := Lib.hid ho1; have hmi' := Lib.hid hmi
  clear ho ho1 hmi hz
  have hd0 := hk0.1; have hd1 := hk0.2
  clear hk0
  have hp := pt6 d hd0
  rw [ho1'.out] at hp
  have hp' := Lib.hid hp; clear hp
  go_enter Tryd.func6, Tryd.ntmps6
  go_wp2_with fail
  refine (awake_any _ ht).mono ?_
  rintro e w1 ⟨rfl, hb1⟩
  have ht1 : Hid (TabW w1) := Lib.hid (tab_keep ht.out hb1 (Nat.le_refl _))
  go_wp2_with fail
  refine (dec_any _ _ (by omega) (by omega)).mono ?_
  rintro e w2 ⟨rfl, hb2⟩
  rw [ho'.out]
  go_wp2_with fail
  refine (dec_any _ _ (by omega) (by omega)).mono ?_
  rintro e w3 ⟨rfl, hb3⟩
  rw [ho'.out]
  go_wp2_with fail
  refine (dec_any _ _ (by omega) (by omega)).mono ?_
  rintro e w4 ⟨rfl, hb4⟩
  rw [ho1'.out]
  go_wp2_with fail
  refine (dec_any _ _ (by omega) (by omega)).mono ?_
  rintro e w5 ⟨rfl, hb5⟩
  rw [ho1'.out]
  go_wp2_with fail
  refine (dec_any _ _ (by omega) (by omega)).mono ?_
  rintro e w6 ⟨rfl, hb6⟩
  rw [ho1'.out]
  have hb6' := belT (belT (belT (belT hb2 hb3) hb4) hb5) hb6
  have hs6 : w1.heap.size < w6.heap.size := by have h1 := hb2.size; have h2 := hb3.size; have h3 := hb4.size; have h4 := hb5.size; have h5 := hb6.size; simp at h1; omega
  have ht6 : Hid (TabW w6) := Lib.hid (tab_keep (tab_keep ht1.out (Joins.below_alloc1 _ _) (Nat.le_refl _)) (belT (belT (belT (belT hb2 hb3) hb4) hb5) hb6) (Nat.le_refl _))
  have hc0 : w6.cell? ⟨w1.heap.size, 42, none⟩ = some (.int .i64 (1 + d)) := by rw [hb6'.cell (p := ⟨w1.heap.size, 42, none⟩) (by show _ < _; simp)]; simp
  have hc1 : w6.cell? ⟨w1.heap.size, 43, none⟩ = some (.int .i64 (5)) := by rw [hb6'.cell (p := ⟨w1.heap.size, 43, none⟩) (by show _ < _; simp)]; simp
  have hc2 : w6.cell? ⟨w1.heap.size, 44, none⟩ = some (.string ⟨#[]⟩) := by rw [hb6'.cell (p := ⟨w1.heap.size, 44, none⟩) (by show _ < _; simp)]; simp
  have hc3 : w6.cell? ⟨w1.heap.size, 45, none⟩ = some (.int .i64 (0)) := by rw [hb6'.cell (p := ⟨w1.heap.size, 45, none⟩) (by show _ < _; simp)]; simp
  have hc4 : w6.cell? ⟨w1.heap.size, 46, none⟩ = some (.int .i64 (0)) := by rw [hb6'.cell (p := ⟨w1.heap.size, 46, none⟩) (by show _ < _; simp)]; simp
  have hc5 : w6.cell? ⟨w1.heap.size, 47, none⟩ = some (.int .i64 (0)) := by rw [hb6'.cell (p := ⟨w1.heap.size, 47, none⟩) (by show _ < _; simp)]; simp
  have hc6 : w6.cell? ⟨w1.heap.size, 48, none⟩ = some (.int .i64 (0)) := by rw [hb6'.cell (p := ⟨w1.heap.size, 48, none⟩) (by show _ < _; simp)]; simp
  go_wp2_with fail
  refine (tell_any _ _ _ _ _ _ _ _ _ (by decide) (by decide) (Lib.hid (tab_keep ht6.out (Joins.below_alloc1 _ _) (Nat.le_refl _))) (by omega)).mono ?_
  rintro e w7 ⟨rfl, hb7⟩
  rw [hp'.out.1, hp'.out.2]
  obtain ⟨hc7, hf7⟩ := bcell hb7
  have hcw : w7.cell? ⟨w6.heap.size, 6, none⟩ = some (.string (⟨#[50, 58, 51, 58, 32, 101, 114, 114, 111, 114, 32]⟩ ++ ⟨o1.toArray⟩)) := by rw [hc7 _ _ (by simp)]; simp
  clear hc7 hf7
  go_wp2_with (go_at_call 12; refine (num_any _ _ (by omega) (by omega)).mono ?_; rintro e w' ⟨rfl, rfl⟩)
  go_ret
  exact ⟨rfl, belT hb1 (belT (belT (Joins.below_alloc1 _ _) (belT (belT (belT (belT hb2 hb3) hb4) hb5) hb6)) (belT (Joins.below_alloc1 _ _) hb7))⟩
set_option maxRecDepth 100000 in
set_option maxHeartbeats 1000000 in
theorem walk6_1 (a0 a1 d : Int) (w : World) (he : wrap64 ((IntKind.u64.wrap a0).tmod 7) = 6) (hk : bits .and .i64 a1 1023 = d) (hk0 : 0 ≤ d ∧ d < 1024) (ht : Hid (TabW w)) (hz : 0 < d) :
    Calls Tryd.prog 6 #[.int .i64 a0, .int .i64 a1] w fun e w' => e = .returned (.bool true) ∧ Below w.heap.size w w' := by
  obtain ⟨mi, hmi, hmz⟩ := min_itoa d hk0.1
  have hil := itoa_len d (by omega) (by omega)
  have hil1 := itoa_len (1 + d) (by omega) (by omega)
  obtain ⟨o, ho⟩ : ∃ o : List UInt8, Lib.itoa d = o := ⟨_, rfl⟩
  obtain ⟨o1, ho1⟩ : ∃ o : List UInt8, Lib.itoa (1 + d) = o := ⟨_, rfl⟩
  rw [ho] at hil; rw [ho1] at hil1
  rw [if_neg (by omega)] at hmz
  have hzb : (d == 0) = false := by rw [beq_eq_false_iff_ne]; omega
  subst hmz
  have ho' := Lib.hid ho; have ho1' := Lib.hid ho1; have hmi' := Lib.hid hmi
  clear ho ho1 hmi hz
  have hd0 := hk0.1; have hd1 := hk0.2
  clear hk0
  have hp := pt6 d hd0
  rw [ho1'.out] at hp
  have hp' := Lib.hid hp; clear hp
  go_enter Tryd.func6, Tryd.ntmps6
  go_wp2_with fail
  refine (awake_any _ ht).mono ?_
  rintro e w1 ⟨rfl, hb1⟩
  have ht1 : Hid (TabW w1) := Lib.hid (tab_keep ht.out hb1 (Nat.le_refl _))
  go_wp2_with fail
  refine (dec_any _ _ (by omega) (by omega)).mono ?_
  rintro e w2 ⟨rfl, hb2⟩
  rw [ho'.out]
  go_wp2_with fail
  refine (dec_any _ _ (by omega) (by omega)).mono ?_
  rintro e w3 ⟨rfl, hb3⟩
  rw [ho'.out]
  go_wp2_with fail
  refine (dec_any _ _ (by omega) (by omega)).mono ?_
  rintro e w4 ⟨rfl, hb4⟩
  rw [ho1'.out]
  go_wp2_with fail
  refine (dec_any _ _ (by omega) (by omega)).mono ?_
  rintro e w5 ⟨rfl, hb5⟩
  rw [ho1'.out]
  go_wp2_with fail
  refine (dec_any _ _ (by omega) (by omega)).mono ?_
  rintro e w6 ⟨rfl, hb6⟩
  rw [ho1'.out]
  have hb6' := belT (belT (belT (belT hb2 hb3) hb4) hb5) hb6
  have hs6 : w1.heap.size < w6.heap.size := by have h1 := hb2.size; have h2 := hb3.size; have h3 := hb4.size; have h4 := hb5.size; have h5 := hb6.size; simp at h1; omega
  have ht6 : Hid (TabW w6) := Lib.hid (tab_keep (tab_keep ht1.out (Joins.below_alloc1 _ _) (Nat.le_refl _)) (belT (belT (belT (belT hb2 hb3) hb4) hb5) hb6) (Nat.le_refl _))
  have hc0 : w6.cell? ⟨w1.heap.size, 42, none⟩ = some (.int .i64 (1 + d)) := by rw [hb6'.cell (p := ⟨w1.heap.size, 42, none⟩) (by show _ < _; simp)]; simp
  have hc1 : w6.cell? ⟨w1.heap.size, 43, none⟩ = some (.int .i64 (5)) := by rw [hb6'.cell (p := ⟨w1.heap.size, 43, none⟩) (by show _ < _; simp)]; simp
  have hc2 : w6.cell? ⟨w1.heap.size, 44, none⟩ = some (.string ⟨#[]⟩) := by rw [hb6'.cell (p := ⟨w1.heap.size, 44, none⟩) (by show _ < _; simp)]; simp
  have hc3 : w6.cell? ⟨w1.heap.size, 45, none⟩ = some (.int .i64 (0)) := by rw [hb6'.cell (p := ⟨w1.heap.size, 45, none⟩) (by show _ < _; simp)]; simp
  have hc4 : w6.cell? ⟨w1.heap.size, 46, none⟩ = some (.int .i64 (0)) := by rw [hb6'.cell (p := ⟨w1.heap.size, 46, none⟩) (by show _ < _; simp)]; simp
  have hc5 : w6.cell? ⟨w1.heap.size, 47, none⟩ = some (.int .i64 (0)) := by rw [hb6'.cell (p := ⟨w1.heap.size, 47, none⟩) (by show _ < _; simp)]; simp
  have hc6 : w6.cell? ⟨w1.heap.size, 48, none⟩ = some (.int .i64 (0)) := by rw [hb6'.cell (p := ⟨w1.heap.size, 48, none⟩) (by show _ < _; simp)]; simp
  go_wp2_with fail
  refine (tell_any _ _ _ _ _ _ _ _ _ (by decide) (by decide) (Lib.hid (tab_keep ht6.out (Joins.below_alloc1 _ _) (Nat.le_refl _))) (by omega)).mono ?_
  rintro e w7 ⟨rfl, hb7⟩
  rw [hp'.out.1, hp'.out.2]
  obtain ⟨hc7, hf7⟩ := bcell hb7
  have hcw : w7.cell? ⟨w6.heap.size, 6, none⟩ = some (.string (⟨#[50, 58, 51, 58, 32, 101, 114, 114, 111, 114, 32]⟩ ++ ⟨o1.toArray⟩)) := by rw [hc7 _ _ (by simp)]; simp
  clear hc7 hf7
  go_wp2_with (go_at_call 12; refine (num_any _ _ (by omega) (by omega)).mono ?_; rintro e w' ⟨rfl, rfl⟩)
  go_ret
  exact ⟨rfl, belT hb1 (belT (belT (Joins.below_alloc1 _ _) (belT (belT (belT (belT hb2 hb3) hb4) hb5) hb6)) (belT (Joins.below_alloc1 _ _) hb7))⟩
theorem walk (a0 a1 : Int) (w : World) (h0 : -9223372036854775808 ≤ a0 ∧ a0 ≤ 9223372036854775807) (h1 : -9223372036854775808 ≤ a1 ∧ a1 ≤ 9223372036854775807) (ht : Hid (TabW w)) :
    Calls Tryd.prog 6 #[.int .i64 a0, .int .i64 a1] w fun e w' => e = .returned (.bool true) ∧ Below w.heap.size w w' := by
  obtain ⟨m, hm0, hm1, he⟩ := umod_int a0 7 (by omega) (by omega)
  have hk := and1023 a1
  have hk0 : 0 ≤ a1 % 1024 ∧ a1 % 1024 < 1024 := by omega
  generalize a1 % 1024 = d at hk hk0
  by_cases hz : d = 0
  · have hcs : m = 0 ∨ m = 1 ∨ m = 2 ∨ m = 3 ∨ m = 4 ∨ m = 5 ∨ m = 6 := (by omega); rcases hcs with rfl | rfl | rfl | rfl | rfl | rfl | rfl
    · exact walk0_0 a0 a1 d w he hk hk0 ht hz
    · exact walk1_0 a0 a1 d w he hk hk0 ht hz
    · exact walk2_0 a0 a1 d w he hk hk0 ht hz
    · exact walk3_0 a0 a1 d w he hk hk0 ht hz
    · exact walk4_0 a0 a1 d w he hk hk0 ht hz
    · exact walk5_0 a0 a1 d w he hk hk0 ht hz
    · exact walk6_0 a0 a1 d w he hk hk0 ht hz
  · have hcs : m = 0 ∨ m = 1 ∨ m = 2 ∨ m = 3 ∨ m = 4 ∨ m = 5 ∨ m = 6 := (by omega); rcases hcs with rfl | rfl | rfl | rfl | rfl | rfl | rfl
    · exact walk0_1 a0 a1 d w he hk hk0 ht (by omega)
    · exact walk1_1 a0 a1 d w he hk hk0 ht (by omega)
    · exact walk2_1 a0 a1 d w he hk hk0 ht (by omega)
    · exact walk3_1 a0 a1 d w he hk hk0 ht (by omega)
    · exact walk4_1 a0 a1 d w he hk hk0 ht (by omega)
    · exact walk5_1 a0 a1 d w he hk hk0 ht (by omega)
    · exact walk6_1 a0 a1 d w he hk hk0 ht (by omega)

theorem own : ownKnob Tryd.prog.godebug = none := by kernel_rfl
theorem laidOut : laidOutB Tryd.prog = true := by kernel_rfl
set_option maxRecDepth 100000 in
theorem contract (H : Type) (enc : TypeId × Value → H) (W : World) (base : Nat) (args : Array Value) (ds gs : List (DataW H)) (before : List MemPlace)
    (hval0 : ∀ (j : Nat) t v, Tryd.f6.params[j]? = some t → args[j]? = some v → Value.okWide Tryd.prog W .any base t v)
    (hW : DataW.Whole enc Tryd.prog Tryd.f6.params.toList Rows.placeTellsSpec.vars false W args.toList ds gs before)
    (hsz0 : (DataW.weightsEach Tryd.prog (Tryd.f6.params.toList ++ Rows.placeTellsSpec.plain.varTypes Tryd.prog) (ds ++ gs)).all (· ≤ reachBytes) = true)
    (hL : laidMetH Tryd.prog Rows.placeTellsRow.laid W)
    : Calls Tryd.prog 6 args W fun e W' => ∃ v, e = .returned v ∧ Rows.placeTellsSpec.post enc Tryd.prog Tryd.f6 false true false false W args v W' := by
  have hval : ∀ (j : Nat) t v, Tryd.f6.params[j]? = some t → args[j]? = some v → Value.okWide Tryd.prog W .any base t v := hval0
  have hsz : (DataW.weightsEach Tryd.prog (Tryd.f6.params.toList ++ Rows.placeTellsSpec.plain.varTypes Tryd.prog) (ds ++ gs)).all (· ≤ reachBytes) = true := hsz0
  have hW' := hW
  obtain ⟨p, q, hA0, hV, rfl, hfz, hnd⟩ := hW
  have hA : DataW.TrodAll enc Tryd.prog W 0 (fun _ => true) true Tryd.f6.params.toList args.toList ds p := hA0
  rw [Tryd.params6] at hA hval hsz
  obtain ⟨v0, vs0, d0, ds0, p0, q0, hargs, rfl, rfl, h0, r0⟩ := trodAll_cons hA
  obtain ⟨v1, vs1, d1, ds1, p1, q1, rfl, rfl, rfl, h1, r1⟩ := trodAll_cons r0
  obtain ⟨rfl, rfl, rfl⟩ := trodAll_nil r1
  obtain rfl : args = #[v0, v1] := by cases args; simp_all
  obtain ⟨rfl, rfl⟩ := trodVars_none hV
  have k0 := h0
  have lt0 : ∀ x ∈ p0, x.block < W.heap.size := by obtain ⟨m, hm⟩ := k0; exact DataW.trod_lt m _ _ _ hm
  obtain ⟨a0, rfl, rfl, rfl, m0⟩ := open_int Tryd.underlying3 (hval 0 3 v0 rfl rfl) h0
  have k1 := h1
  have lt1 : ∀ x ∈ p1, x.block < W.heap.size := by obtain ⟨m, hm⟩ := k1; exact DataW.trod_lt m _ _ _ hm
  obtain ⟨a1, rfl, rfl, rfl, m1⟩ := open_int Tryd.underlying3 (hval 1 3 v1 rfl rfl) h1
  clear hA0 hval0
  refine (walk a0 a1 W (bd_i64 m0) (bd_i64 m1) (tabs hL)).mono fun e W' ⟨he, bel⟩ => ?_
  subst he
  exact ⟨_, rfl, _, _, _, [], _, [], hW', trodAll_mk1 (shut_bool Tryd.underlying4 _), (trodAll_cons_mk (Below.trod laidOut (by kernel_rfl) (of_decide_eq_true (by kernel_rfl)) k0 bel lt0) (trodAll_cons_mk (Below.trod laidOut (by kernel_rfl) (of_decide_eq_true (by kernel_rfl)) k1 bel lt1) trodAll_mk0)), rfl, bel.frame _, fun h => by cases h⟩
noncomputable def laidWorld (os : Os) : World := { World.holding Tryd.prog os ⟨#[], #[], []⟩ with heap := layAll Tryd.prog Rows.placeTellsRow.laid (World.holding Tryd.prog os ⟨#[], #[], []⟩).heap }
theorem laid_met (os : Os) : laidMet Tryd.prog Rows.placeTellsRow.laid ((laidWorld os).forCall (fun _ _ => 0) ⟨#[], #[.int .i64 0, .int .i64 0], []⟩).memory := laidMet_of_run' 8 (by kernel_rfl) (by kernel_rfl)
theorem reads (os : Os) {H : Type} (enc : TypeId × Value → H) : ∃ places, DataW.whole enc Tryd.prog ((laidWorld os).forCall (fun _ _ => 0) ⟨#[], #[.int .i64 0, .int .i64 0], []⟩).memory Tryd.f6.params.toList Rows.placeTellsSpec.vars false #[(.int .i64 0 : Value), (.int .i64 0 : Value)].toList 8 = some ([.lit (.int .i64 0), .lit (.int .i64 0)], [], places) := ⟨[], by kernel_rfl⟩
set_option maxRecDepth 100000 in
theorem lifted (os : Os) (started : os.Started) (H : Type) (enc : TypeId × Value → H) (F : Stop.Interp) :
    ReturnsInHanded {} Tryd.checked os 6 .any ((OpenSpec.ofChange Rows.placeTellsSpec).preRow enc Tryd.prog Tryd.f6 Rows.placeTellsRow.domain false Rows.placeTellsRow.laid) (((OpenSpec.ofChange Rows.placeTellsSpec).at F).post enc Tryd.prog Tryd.f6 false true false false) := by
  obtain ⟨places, hx⟩ := reads os enc
  refine returnsInHanded_of_row (C := Tryd.checked) (s := (OpenSpec.ofChange Rows.placeTellsSpec)) own started (by kernel_rfl) Tryd.func6
    (witness_row_at (enc := enc) (C := Tryd.checked) false (laidWorld os) #[.int .i64 0, .int .i64 0] rfl (by kernel_rfl) (by kernel_rfl) (by kernel_rfl)
      (OpenSpec.preRow_of_cond 8 hx (by kernel_rfl) (fun k hk => by cases hk) (by kernel_rfl) (laid_met os))) ?_
  intro W base args ds gs before hval hW _ hcnd hsz hL _ _
  exact contract H enc W base args ds gs before hval hW hsz  hL
theorem said : Rows.PlaceTellsSaid :=
  OpenClaim.holds_of_cond 6 Tryd.f6 rfl rfl rfl rfl rfl rfl rfl ⟨rfl, rfl, rfl, rfl, rfl⟩ rfl rfl rfl rfl rfl (by kernel_rfl) Tryd.func6 (by kernel_rfl)
    (of_decide_eq_true (by kernel_rfl)) (by unfold Func.isWrapper; first | (rw [if_pos (by decide +kernel)]; kernel_rfl) | (rw [if_neg (by decide +kernel)]; exact ⟨rfl, rfl⟩))
    (fun os started H enc _ F => by rw [OpenClaim.pre_eq_preRow]; exact lifted os started H enc F)
theorem plain (f : FuncId) (fn : Func) (hf : Tryd.pinned.checked.prog.funcNamed "trammel/trammellaw24.PlaceTells" = some f) (hfn : Tryd.pinned.checked.prog.funcs[f]? = some fn) :
    false = Tryd.pinned.checked.prog.looks [] ∧ ∀ (j : Nat) t, fn.params[j]? = some t → Tryd.pinned.checked.prog.wantsStandIn t = false := by
  obtain rfl : f = 6 := Option.some.inj ((show Tryd.prog.funcNamed "trammel/trammellaw24.PlaceTells" = some 6 by kernel_rfl).symm.trans hf) |>.symm
  obtain rfl : fn = Tryd.f6 := (Option.some.inj (Tryd.func6.symm.trans hfn)).symm
  refine ⟨by kernel_rfl, fun j t ht => ?_⟩
  rw [Tryd.params6] at ht
  have hm := Array.mem_of_getElem? ht
  have hm2 : t ∈ ([3] : List Nat) := by simpa using hm
  simp only [List.mem_cons, List.not_mem_nil, or_false] at hm2
  subst hm2; exact (show Tryd.prog.wantsStandIn 3 = false by kernel_rfl)
theorem proved : Rows.PlaceTellsCardSaid :=
  Claim7.holds_tied_plain_at .later [] _ _ _ _ said (fun _ h => by cases h) (by kernel_rfl) (fun _ h => by cases h) placeTells_row_tie rfl ⟨rfl, rfl⟩ (by kernel_rfl) rfl plain (by kernel_rfl)
end Go.Proofs.YtilhpclnligpaaaDoor.placeTells
