/- awake of layer 8. -/
import Derived.Test.YtlbopoidjnaokaaDoorRwG
namespace Go.Proofs.YtlbopoidjnaokaaDoor
open Go.RowKit
set_option linter.unusedVariables false
set_option linter.unusedSimpArgs false

theorem carry {W W1 : World} {g o : Nat} {v : Value} (hb : Below W.heap.size W W1) (hg : g < W.heap.size) (h : W.cell? ⟨g, o, none⟩ = some v) : W1.cell? ⟨g, o, none⟩ = some v := by
  rw [hb.cell (p := ⟨g, o, none⟩) hg]; exact h
theorem num_any (e : Int) (w : World) (h0 : 0 ≤ e) (h1 : e ≤ 9223372036854775807) :
    Calls Tryd.prog 16 #[.int .i64 e] w fun r w' => r = .returned (.int .i64 e) ∧ w = w' := by
  go_enter Tryd.func16, Tryd.ntmps16
  go_wp2
  go_ret
  exact ⟨rfl, rfl⟩
theorem bds_two {B : Nat} {w : World} {v : Value} {x y : Bd} (h : BdsIs B w v [x, y]) : ∃ g, B ≤ g ∧ g < w.heap.size ∧ v = .slice (some ⟨g, 0, none⟩) 2 2 ∧ BdAt w g 0 x ∧ BdAt w g 1 y := by
  rcases h with ⟨_, h⟩ | ⟨g, h1, h2, h3, h4⟩
  · cases h
  · exact ⟨g, h1, h2, h3, h4 0 (by simp), h4 1 (by simp)⟩
theorem bds_one {B : Nat} {w : World} {v : Value} {x : Bd} (h : BdsIs B w v [x]) : ∃ g, B ≤ g ∧ g < w.heap.size ∧ v = .slice (some ⟨g, 0, none⟩) 1 1 ∧ BdAt w g 0 x := by
  rcases h with ⟨_, h⟩ | ⟨g, h1, h2, h3, h4⟩
  · cases h
  · exact ⟨g, h1, h2, h3, h4 0 (by simp)⟩
theorem bds_nil {B : Nat} {w : World} {v : Value} (h : BdsIs B w v []) : v = .slice none 0 0 ∨ ∃ g, v = .slice (some ⟨g, 0, none⟩) 0 0 := by
  rcases h with ⟨h, _⟩ | ⟨g, _, _, h3, _⟩
  · exact .inl h
  · exact .inr ⟨g, h3⟩

set_option maxRecDepth 100000 in
set_option maxHeartbeats 2000000 in
theorem awake_any (w : World) : Calls Tryd.prog 20 #[] w fun e w' => e = .returned (.bool true) ∧ Below w.heap.size w w' := by
  go_enter Tryd.func20, Tryd.ntmps20
  go_wp2_with fail
  refine (rowUnify_any _ _ _ _ _ _ _ _ _ _ _ _).mono ?_
  rintro e w1 ⟨v1, rfl, hbd1, hb1⟩
  rw [show ruL 1 0 0 0 0 0 0 2 0 1 5 = [⟨0, 0, 0, 2, 0, 5⟩, ⟨1, 1, 0, 0, 0, 5⟩] from by decide +kernel] at hbd1
  rw [show ruE _ _ _ _ _ _ _ _ _ _ _ = 0 from by decide +kernel]
  obtain ⟨g, hg0, hg1, rfl, ⟨x0, x1, x2, x3, x4, x5, x6, x7⟩, ⟨y0, y1, y2, y3, y4, y5, y6, y7⟩⟩ := bds_two hbd1
  simp only [] at x0 x1 x2 x3 x4 x5 x6 x7 y0 y1 y2 y3 y4 y5 y6 y7
  clear x2 x3 x4 x6 y1 y2 y4 y5 y6 y7
  have z1 : w.heap.size + 1 < w1.heap.size := by have := hb1.size; simp at this; omega
  have z1' : w.heap.size < w1.heap.size := by omega
  have a0_1 : w1.cell? ⟨w.heap.size, 0, none⟩ = some (.int .i64 1) := carry hb1 (by simp; try omega) (by simp)
  have a1_1 : w1.cell? ⟨w.heap.size, 1, none⟩ = some (.int .i64 0) := carry hb1 (by simp; try omega) (by simp)
  have a2_1 : w1.cell? ⟨w.heap.size, 2, none⟩ = some (.int .i64 0) := carry hb1 (by simp; try omega) (by simp)
  have a3_1 : w1.cell? ⟨w.heap.size, 3, none⟩ = some (.int .i64 0) := carry hb1 (by simp; try omega) (by simp)
  have a4_1 : w1.cell? ⟨w.heap.size, 4, none⟩ = some (.int .i64 0) := carry hb1 (by simp; try omega) (by simp)
  have b0_1 : w1.cell? ⟨w.heap.size + 1, 0, none⟩ = some (.int .i64 0) := carry hb1 (by simp; try omega) (by simp)
  have b1_1 : w1.cell? ⟨w.heap.size + 1, 1, none⟩ = some (.int .i64 0) := carry hb1 (by simp; try omega) (by simp)
  have b2_1 : w1.cell? ⟨w.heap.size + 1, 2, none⟩ = some (.int .i64 2) := carry hb1 (by simp; try omega) (by simp)
  have b3_1 : w1.cell? ⟨w.heap.size + 1, 3, none⟩ = some (.int .i64 0) := carry hb1 (by simp; try omega) (by simp)
  have b4_1 : w1.cell? ⟨w.heap.size + 1, 4, none⟩ = some (.int .i64 1) := carry hb1 (by simp; try omega) (by simp)
  have hB1 : Below w.heap.size w w1 := belT (by (repeat' (first | with_reducible exact Below.refl _ _ | with_reducible assumption | with_reducible apply Below.setCell | with_reducible apply Below.alloc | with_reducible apply Below.drew | with_reducible apply below_drewN | with_reducible exact Nat.le_refl _ | (simp; done) | (simp; omega) | omega | exact Nat.le_refl _))) hb1
  clear hb1 hbd1
  have x0_1 : w1.cell? ⟨g, 0, none⟩ = some (.int .i64 0) := by simpa using x0
  have x1_1 : w1.cell? ⟨g, 1, none⟩ = some (.bool true) := by simpa using x1
  have x5_1 : w1.cell? ⟨g, 5, none⟩ = some (.int .i64 2) := by simpa using x5
  have x7_1 : w1.cell? ⟨g, 7, none⟩ = some (.int .i64 5) := by simpa using x7
  have y0_1 : w1.cell? ⟨g, 8, none⟩ = some (.int .i64 1) := by simpa using y0
  have y3_1 : w1.cell? ⟨g, 11, none⟩ = some (.int .i64 1) := by simpa using y3
  clear x0 x1 x5 x7 y0 y3
  go_wp2_with fail
  refine (rowText_any _ _ _ _ _ _).mono ?_
  rintro e w2 ⟨rfl, hb2⟩
  rw [show rtV 0 0 2 0 1 = ⟨#[60, 111, 50, 44, 111, 50, 124, 101, 48, 62]⟩ from by decide +kernel, show rtE 0 0 2 0 1 = 0 from by decide +kernel]
  have z2 : w.heap.size + 1 < w2.heap.size := by have := hb2.size; (try simp at this); omega
  have z2' : w.heap.size < w2.heap.size := by omega
  have zg2 : g < w2.heap.size := by have := hb2.size; (try simp at this); omega
  have a0_2 : w2.cell? ⟨w.heap.size, 0, none⟩ = some (.int .i64 1) := carry hb2 (by (try simp); omega) (a0_1)
  have a1_2 : w2.cell? ⟨w.heap.size, 1, none⟩ = some (.int .i64 0) := carry hb2 (by (try simp); omega) (a1_1)
  have a2_2 : w2.cell? ⟨w.heap.size, 2, none⟩ = some (.int .i64 0) := carry hb2 (by (try simp); omega) (a2_1)
  have a3_2 : w2.cell? ⟨w.heap.size, 3, none⟩ = some (.int .i64 0) := carry hb2 (by (try simp); omega) (a3_1)
  have a4_2 : w2.cell? ⟨w.heap.size, 4, none⟩ = some (.int .i64 0) := carry hb2 (by (try simp); omega) (a4_1)
  have b0_2 : w2.cell? ⟨w.heap.size + 1, 0, none⟩ = some (.int .i64 0) := carry hb2 (by (try simp); omega) (b0_1)
  have b1_2 : w2.cell? ⟨w.heap.size + 1, 1, none⟩ = some (.int .i64 0) := carry hb2 (by (try simp); omega) (b1_1)
  have b2_2 : w2.cell? ⟨w.heap.size + 1, 2, none⟩ = some (.int .i64 2) := carry hb2 (by (try simp); omega) (b2_1)
  have b3_2 : w2.cell? ⟨w.heap.size + 1, 3, none⟩ = some (.int .i64 0) := carry hb2 (by (try simp); omega) (b3_1)
  have b4_2 : w2.cell? ⟨w.heap.size + 1, 4, none⟩ = some (.int .i64 1) := carry hb2 (by (try simp); omega) (b4_1)
  have x0_2 : w2.cell? ⟨g, 0, none⟩ = some (.int .i64 0) := carry hb2 (by (try simp); omega) (x0_1)
  have x1_2 : w2.cell? ⟨g, 1, none⟩ = some (.bool true) := carry hb2 (by (try simp); omega) (x1_1)
  have x5_2 : w2.cell? ⟨g, 5, none⟩ = some (.int .i64 2) := carry hb2 (by (try simp); omega) (x5_1)
  have x7_2 : w2.cell? ⟨g, 7, none⟩ = some (.int .i64 5) := carry hb2 (by (try simp); omega) (x7_1)
  have y0_2 : w2.cell? ⟨g, 8, none⟩ = some (.int .i64 1) := carry hb2 (by (try simp); omega) (y0_1)
  have y3_2 : w2.cell? ⟨g, 11, none⟩ = some (.int .i64 1) := carry hb2 (by (try simp); omega) (y3_1)
  clear a0_1 a1_1 a2_1 a3_1 a4_1 b0_1 b1_1 b2_1 b3_1 b4_1 x0_1 x1_1 x5_1 x7_1 y0_1 y3_1
  have hB2 : Below w.heap.size w w2 := belT hB1 hb2
  clear hb2
  go_wp2_with fail
  refine (with_any _ _ _ _ _ _ _).mono ?_
  rintro e w3 ⟨rfl, hb3⟩
  rw [show withV 1 0 0 0 0 0 = .agg #[.int .i64 2, .int .i64 0, .int .i64 0, .int .i64 0, .int .i64 0] from by rfl, show withE 1 0 0 0 0 0 = 0 from by rfl]
  have z3 : w.heap.size + 1 < w3.heap.size := by have := hb3.size; (try simp at this); omega
  have z3' : w.heap.size < w3.heap.size := by omega
  have zg3 : g < w3.heap.size := by have := hb3.size; (try simp at this); omega
  have a0_3 : w3.cell? ⟨w.heap.size, 0, none⟩ = some (.int .i64 1) := carry hb3 (by (try simp); omega) (a0_2)
  have a1_3 : w3.cell? ⟨w.heap.size, 1, none⟩ = some (.int .i64 0) := carry hb3 (by (try simp); omega) (a1_2)
  have a2_3 : w3.cell? ⟨w.heap.size, 2, none⟩ = some (.int .i64 0) := carry hb3 (by (try simp); omega) (a2_2)
  have a3_3 : w3.cell? ⟨w.heap.size, 3, none⟩ = some (.int .i64 0) := carry hb3 (by (try simp); omega) (a3_2)
  have a4_3 : w3.cell? ⟨w.heap.size, 4, none⟩ = some (.int .i64 0) := carry hb3 (by (try simp); omega) (a4_2)
  have b0_3 : w3.cell? ⟨w.heap.size + 1, 0, none⟩ = some (.int .i64 0) := carry hb3 (by (try simp); omega) (b0_2)
  have b1_3 : w3.cell? ⟨w.heap.size + 1, 1, none⟩ = some (.int .i64 0) := carry hb3 (by (try simp); omega) (b1_2)
  have b2_3 : w3.cell? ⟨w.heap.size + 1, 2, none⟩ = some (.int .i64 2) := carry hb3 (by (try simp); omega) (b2_2)
  have b3_3 : w3.cell? ⟨w.heap.size + 1, 3, none⟩ = some (.int .i64 0) := carry hb3 (by (try simp); omega) (b3_2)
  have b4_3 : w3.cell? ⟨w.heap.size + 1, 4, none⟩ = some (.int .i64 1) := carry hb3 (by (try simp); omega) (b4_2)
  have x0_3 : w3.cell? ⟨g, 0, none⟩ = some (.int .i64 0) := carry hb3 (by (try simp); omega) (x0_2)
  have x1_3 : w3.cell? ⟨g, 1, none⟩ = some (.bool true) := carry hb3 (by (try simp); omega) (x1_2)
  have x5_3 : w3.cell? ⟨g, 5, none⟩ = some (.int .i64 2) := carry hb3 (by (try simp); omega) (x5_2)
  have x7_3 : w3.cell? ⟨g, 7, none⟩ = some (.int .i64 5) := carry hb3 (by (try simp); omega) (x7_2)
  have y0_3 : w3.cell? ⟨g, 8, none⟩ = some (.int .i64 1) := carry hb3 (by (try simp); omega) (y0_2)
  have y3_3 : w3.cell? ⟨g, 11, none⟩ = some (.int .i64 1) := carry hb3 (by (try simp); omega) (y3_2)
  clear a0_2 a1_2 a2_2 a3_2 a4_2 b0_2 b1_2 b2_2 b3_2 b4_2 x0_2 x1_2 x5_2 x7_2 y0_2 y3_2
  have hB3 : Below w.heap.size w w3 := belT hB2 hb3
  clear hb3
  go_wp2_with fail
  refine (rowUnify_any _ _ _ _ _ _ _ _ _ _ _ _).mono ?_
  rintro e w4 ⟨v4, rfl, hbd4, hb4⟩
  clear hbd4
  rw [show ruE _ _ _ _ _ _ _ _ _ _ _ = 801 from by decide +kernel]
  have z4 : w.heap.size + 1 < w4.heap.size := by have := hb4.size; (try simp at this); omega
  have z4' : w.heap.size < w4.heap.size := by omega
  have zg4 : g < w4.heap.size := by have := hb4.size; (try simp at this); omega
  have a0_4 : w4.cell? ⟨w.heap.size, 0, none⟩ = some (.int .i64 1) := carry hb4 (by (try simp); omega) (by (try simp [World.cell?_alloc_past, *]); (try exact a0_3))
  have a1_4 : w4.cell? ⟨w.heap.size, 1, none⟩ = some (.int .i64 0) := carry hb4 (by (try simp); omega) (by (try simp [World.cell?_alloc_past, *]); (try exact a1_3))
  have a2_4 : w4.cell? ⟨w.heap.size, 2, none⟩ = some (.int .i64 0) := carry hb4 (by (try simp); omega) (by (try simp [World.cell?_alloc_past, *]); (try exact a2_3))
  have a3_4 : w4.cell? ⟨w.heap.size, 3, none⟩ = some (.int .i64 0) := carry hb4 (by (try simp); omega) (by (try simp [World.cell?_alloc_past, *]); (try exact a3_3))
  have a4_4 : w4.cell? ⟨w.heap.size, 4, none⟩ = some (.int .i64 0) := carry hb4 (by (try simp); omega) (by (try simp [World.cell?_alloc_past, *]); (try exact a4_3))
  have b0_4 : w4.cell? ⟨w.heap.size + 1, 0, none⟩ = some (.int .i64 0) := carry hb4 (by (try simp); omega) (by (try simp [World.cell?_alloc_past, *]); (try exact b0_3))
  have b1_4 : w4.cell? ⟨w.heap.size + 1, 1, none⟩ = some (.int .i64 0) := carry hb4 (by (try simp); omega) (by (try simp [World.cell?_alloc_past, *]); (try exact b1_3))
  have b2_4 : w4.cell? ⟨w.heap.size + 1, 2, none⟩ = some (.int .i64 2) := carry hb4 (by (try simp); omega) (by (try simp [World.cell?_alloc_past, *]); (try exact b2_3))
  have b3_4 : w4.cell? ⟨w.heap.size + 1, 3, none⟩ = some (.int .i64 0) := carry hb4 (by (try simp); omega) (by (try simp [World.cell?_alloc_past, *]); (try exact b3_3))
  have b4_4 : w4.cell? ⟨w.heap.size + 1, 4, none⟩ = some (.int .i64 1) := carry hb4 (by (try simp); omega) (by (try simp [World.cell?_alloc_past, *]); (try exact b4_3))
  have x0_4 : w4.cell? ⟨g, 0, none⟩ = some (.int .i64 0) := carry hb4 (by (try simp); omega) (by (try simp [World.cell?_alloc_past, *]); (try exact x0_3))
  have x1_4 : w4.cell? ⟨g, 1, none⟩ = some (.bool true) := carry hb4 (by (try simp); omega) (by (try simp [World.cell?_alloc_past, *]); (try exact x1_3))
  have x5_4 : w4.cell? ⟨g, 5, none⟩ = some (.int .i64 2) := carry hb4 (by (try simp); omega) (by (try simp [World.cell?_alloc_past, *]); (try exact x5_3))
  have x7_4 : w4.cell? ⟨g, 7, none⟩ = some (.int .i64 5) := carry hb4 (by (try simp); omega) (by (try simp [World.cell?_alloc_past, *]); (try exact x7_3))
  have y0_4 : w4.cell? ⟨g, 8, none⟩ = some (.int .i64 1) := carry hb4 (by (try simp); omega) (by (try simp [World.cell?_alloc_past, *]); (try exact y0_3))
  have y3_4 : w4.cell? ⟨g, 11, none⟩ = some (.int .i64 1) := carry hb4 (by (try simp); omega) (by (try simp [World.cell?_alloc_past, *]); (try exact y3_3))
  clear a0_3 a1_3 a2_3 a3_3 a4_3 b0_3 b1_3 b2_3 b3_3 b4_3 x0_3 x1_3 x5_3 x7_3 y0_3 y3_3
  have zc4 : w3.heap.size < w4.heap.size := by have := hb4.size; simp at this; omega
  have c_4 : w4.cell? ⟨w3.heap.size, 0, none⟩ = some (.int .i64 2) := carry hb4 (by simp) (by simp)
  have hB4 : Below w.heap.size w w4 := belT (by (repeat' (first | with_reducible exact Below.refl _ _ | with_reducible assumption | with_reducible apply Below.setCell | with_reducible apply Below.alloc | with_reducible apply Below.drew | with_reducible apply below_drewN | with_reducible exact Nat.le_refl _ | (simp; done) | (simp; omega) | omega | exact Nat.le_refl _))) hb4
  clear hb4
  go_wp2_with fail
  refine (rowUnify_any _ _ _ _ _ _ _ _ _ _ _ _).mono ?_
  rintro e w5 ⟨v5, rfl, hbd5, hb5⟩
  clear hbd5
  rw [show ruE _ _ _ _ _ _ _ _ _ _ _ = 800 from by decide +kernel]
  have z5 : w.heap.size + 1 < w5.heap.size := by have := hb5.size; (try simp at this); omega
  have z5' : w.heap.size < w5.heap.size := by omega
  have zg5 : g < w5.heap.size := by have := hb5.size; (try simp at this); omega
  have a0_5 : w5.cell? ⟨w.heap.size, 0, none⟩ = some (.int .i64 1) := carry hb5 (by (try simp); omega) (a0_4)
  have a1_5 : w5.cell? ⟨w.heap.size, 1, none⟩ = some (.int .i64 0) := carry hb5 (by (try simp); omega) (a1_4)
  have a2_5 : w5.cell? ⟨w.heap.size, 2, none⟩ = some (.int .i64 0) := carry hb5 (by (try simp); omega) (a2_4)
  have a3_5 : w5.cell? ⟨w.heap.size, 3, none⟩ = some (.int .i64 0) := carry hb5 (by (try simp); omega) (a3_4)
  have a4_5 : w5.cell? ⟨w.heap.size, 4, none⟩ = some (.int .i64 0) := carry hb5 (by (try simp); omega) (a4_4)
  have x0_5 : w5.cell? ⟨g, 0, none⟩ = some (.int .i64 0) := carry hb5 (by (try simp); omega) (x0_4)
  have x1_5 : w5.cell? ⟨g, 1, none⟩ = some (.bool true) := carry hb5 (by (try simp); omega) (x1_4)
  have x5_5 : w5.cell? ⟨g, 5, none⟩ = some (.int .i64 2) := carry hb5 (by (try simp); omega) (x5_4)
  have x7_5 : w5.cell? ⟨g, 7, none⟩ = some (.int .i64 5) := carry hb5 (by (try simp); omega) (x7_4)
  have y0_5 : w5.cell? ⟨g, 8, none⟩ = some (.int .i64 1) := carry hb5 (by (try simp); omega) (y0_4)
  have y3_5 : w5.cell? ⟨g, 11, none⟩ = some (.int .i64 1) := carry hb5 (by (try simp); omega) (y3_4)
  clear a0_4 a1_4 a2_4 a3_4 a4_4 b0_4 b1_4 b2_4 b3_4 b4_4 x0_4 x1_4 x5_4 x7_4 y0_4 y3_4
  have zc5 : w3.heap.size < w5.heap.size := by have := hb5.size; omega
  have c_5 := carry hb5 zc4 c_4
  clear c_4
  have hB5 : Below w.heap.size w w5 := belT hB4 hb5
  clear hb5
  go_wp2_with fail
  refine (with_any _ _ _ _ _ _ _).mono ?_
  rintro e w6 ⟨rfl, hb6⟩
  rw [show withV 1 0 0 0 0 4 = .agg #[.int .i64 0, .int .i64 0, .int .i64 0, .int .i64 0, .int .i64 0] from by rfl, show withE 1 0 0 0 0 4 = 800 from by rfl]
  have z6 : w.heap.size + 1 < w6.heap.size := by have := hb6.size; (try simp at this); omega
  have z6' : w.heap.size < w6.heap.size := by omega
  have zg6 : g < w6.heap.size := by have := hb6.size; (try simp at this); omega
  have a0_6 : w6.cell? ⟨w.heap.size, 0, none⟩ = some (.int .i64 1) := carry hb6 (by (try simp); omega) (a0_5)
  have a1_6 : w6.cell? ⟨w.heap.size, 1, none⟩ = some (.int .i64 0) := carry hb6 (by (try simp); omega) (a1_5)
  have a2_6 : w6.cell? ⟨w.heap.size, 2, none⟩ = some (.int .i64 0) := carry hb6 (by (try simp); omega) (a2_5)
  have a3_6 : w6.cell? ⟨w.heap.size, 3, none⟩ = some (.int .i64 0) := carry hb6 (by (try simp); omega) (a3_5)
  have a4_6 : w6.cell? ⟨w.heap.size, 4, none⟩ = some (.int .i64 0) := carry hb6 (by (try simp); omega) (a4_5)
  have x0_6 : w6.cell? ⟨g, 0, none⟩ = some (.int .i64 0) := carry hb6 (by (try simp); omega) (x0_5)
  have x1_6 : w6.cell? ⟨g, 1, none⟩ = some (.bool true) := carry hb6 (by (try simp); omega) (x1_5)
  have x5_6 : w6.cell? ⟨g, 5, none⟩ = some (.int .i64 2) := carry hb6 (by (try simp); omega) (x5_5)
  have x7_6 : w6.cell? ⟨g, 7, none⟩ = some (.int .i64 5) := carry hb6 (by (try simp); omega) (x7_5)
  have y0_6 : w6.cell? ⟨g, 8, none⟩ = some (.int .i64 1) := carry hb6 (by (try simp); omega) (y0_5)
  have y3_6 : w6.cell? ⟨g, 11, none⟩ = some (.int .i64 1) := carry hb6 (by (try simp); omega) (y3_5)
  clear a0_5 a1_5 a2_5 a3_5 a4_5 x0_5 x1_5 x5_5 x7_5 y0_5 y3_5
  have zc6 : w3.heap.size < w6.heap.size := by have := hb6.size; omega
  have c_6 := carry hb6 zc5 c_5
  clear c_5
  have hB6 : Below w.heap.size w w6 := belT hB5 hb6
  clear hb6
  go_wp2_with fail
  refine (rowUnify_any _ _ _ _ _ _ _ _ _ _ _ _).mono ?_
  rintro e w7 ⟨v7, rfl, hbd7, hb7⟩
  clear hbd7
  rw [show ruE _ _ _ _ _ _ _ _ _ _ _ = 801 from by decide +kernel]
  have z7 : w.heap.size + 1 < w7.heap.size := by have := hb7.size; (try simp at this); omega
  have z7' : w.heap.size < w7.heap.size := by omega
  have zg7 : g < w7.heap.size := by have := hb7.size; (try simp at this); omega
  have a0_7 : w7.cell? ⟨w.heap.size, 0, none⟩ = some (.int .i64 1) := carry hb7 (by (try simp); omega) (by (try simp [World.cell?_alloc_past, *]); (try exact a0_6))
  have a1_7 : w7.cell? ⟨w.heap.size, 1, none⟩ = some (.int .i64 0) := carry hb7 (by (try simp); omega) (by (try simp [World.cell?_alloc_past, *]); (try exact a1_6))
  have a2_7 : w7.cell? ⟨w.heap.size, 2, none⟩ = some (.int .i64 0) := carry hb7 (by (try simp); omega) (by (try simp [World.cell?_alloc_past, *]); (try exact a2_6))
  have a3_7 : w7.cell? ⟨w.heap.size, 3, none⟩ = some (.int .i64 0) := carry hb7 (by (try simp); omega) (by (try simp [World.cell?_alloc_past, *]); (try exact a3_6))
  have a4_7 : w7.cell? ⟨w.heap.size, 4, none⟩ = some (.int .i64 0) := carry hb7 (by (try simp); omega) (by (try simp [World.cell?_alloc_past, *]); (try exact a4_6))
  have x0_7 : w7.cell? ⟨g, 0, none⟩ = some (.int .i64 0) := carry hb7 (by (try simp); omega) (by (try simp [World.cell?_alloc_past, *]); (try exact x0_6))
  have x1_7 : w7.cell? ⟨g, 1, none⟩ = some (.bool true) := carry hb7 (by (try simp); omega) (by (try simp [World.cell?_alloc_past, *]); (try exact x1_6))
  have x5_7 : w7.cell? ⟨g, 5, none⟩ = some (.int .i64 2) := carry hb7 (by (try simp); omega) (by (try simp [World.cell?_alloc_past, *]); (try exact x5_6))
  have x7_7 : w7.cell? ⟨g, 7, none⟩ = some (.int .i64 5) := carry hb7 (by (try simp); omega) (by (try simp [World.cell?_alloc_past, *]); (try exact x7_6))
  have y0_7 : w7.cell? ⟨g, 8, none⟩ = some (.int .i64 1) := carry hb7 (by (try simp); omega) (by (try simp [World.cell?_alloc_past, *]); (try exact y0_6))
  have y3_7 : w7.cell? ⟨g, 11, none⟩ = some (.int .i64 1) := carry hb7 (by (try simp); omega) (by (try simp [World.cell?_alloc_past, *]); (try exact y3_6))
  clear a0_6 a1_6 a2_6 a3_6 a4_6 x0_6 x1_6 x5_6 x7_6 y0_6 y3_6
  have c_7 : w7.cell? ⟨w3.heap.size, 0, none⟩ = some (.int .i64 2) := carry hb7 (by simp; omega) (by (try simp [World.cell?_alloc_past, *]); (try exact c_6))
  clear c_6
  have hB7 : Below w.heap.size w w7 := belT (by (repeat' (first | with_reducible exact Below.refl _ _ | with_reducible assumption | with_reducible apply Below.setCell | with_reducible apply Below.alloc | with_reducible apply Below.drew | with_reducible apply below_drewN | with_reducible exact Nat.le_refl _ | (simp; done) | (simp; omega) | omega | exact Nat.le_refl _))) hb7
  clear hb7
  go_wp2_with (go_at_call 16; refine (num_any _ _ (by omega) (by omega)).mono ?_; rintro e w' ⟨rfl, rfl⟩)
  refine (rowMay_any _ _ _ _ _ _).mono ?_
  rintro e w8 ⟨rfl, hb8⟩
  rw [show mayR 1 0 0 0 0 = true from by decide]
  go_wp2_with fail
  refine (rowMay_any _ _ _ _ _ _).mono ?_
  rintro e w9 ⟨rfl, hb9⟩
  rw [show mayR 0 0 0 0 (-2) = false from by decide]
  go_wp2_with fail
  go_ret
  exact ⟨rfl, belT (belT hB7 hb8) hb9⟩
end Go.Proofs.YtlbopoidjnaokaaDoor
