/- Contract of SameBinds at two slices of the same row binds. -/
import Derived.Test.YtlbopoidjnaokaaDoorRwH
namespace Go.Proofs.YtlbopoidjnaokaaDoor
open Go.RowKit
set_option linter.unusedVariables false
set_option linter.unusedSimpArgs false

theorem bdAt_below {w w1 : World} {g i : Nat} {x : Bd} (h : BdAt w g i x) (hb : Below w.heap.size w w1) (hg : g < w.heap.size) : BdAt w1 g i x := by
  obtain ⟨h0, h1, h2, h3, h4, h5, h6, h7⟩ := h
  exact ⟨carry hb hg h0, carry hb hg h1, carry hb hg h2, carry hb hg h3, carry hb hg h4, carry hb hg h5, carry hb hg h6, carry hb hg h7⟩
theorem bdsIs_below {B : Nat} {w w1 : World} {v : Value} {l : List Bd} (h : BdsIs B w v l) (hb : Below w.heap.size w w1) : BdsIs B w1 v l := by
  rcases h with h | ⟨g, h1, h2, h3, h4⟩
  · exact .inl h
  · exact .inr ⟨g, h1, by have := hb.size; omega, h3, fun i hi => bdAt_below (h4 i hi) hb h2⟩
theorem sameTy_nil (w : World) : Calls Tryd.prog 36 #[.slice none 0 0, .slice none 0 0] w fun e w' => e = .returned (.bool true) ∧ w = w' := by
  go_enter Tryd.func36, Tryd.ntmps36
  go_wp2_with fail
  go_loop [5] (fun i => i = .int .i64 0) (fun _ => 0)
  case atStart => rfl
  case round =>
    subst hrel
    go_wp2_with fail
    go_ret
    exact ⟨rfl, rfl⟩
theorem sameType_nil (w : World) : Calls Tryd.prog 28 #[.agg #[.slice none 0 0], .agg #[.slice none 0 0]] w fun e w' => e = .returned (.bool true) ∧ Below w.heap.size w w' := by
  go_enter Tryd.func28, Tryd.ntmps28
  go_wp2_with fail
  refine (sameTy_nil _).mono ?_
  rintro e w' ⟨rfl, rfl⟩
  go_wp2_with fail
  go_ret
  exact ⟨rfl, by (repeat' (first | with_reducible exact Below.refl _ _ | with_reducible assumption | with_reducible apply Below.setCell | with_reducible apply Below.alloc | with_reducible apply Below.drew | with_reducible apply below_drewN | with_reducible exact Nat.le_refl _ | (simp; done) | (simp; omega) | omega | exact Nat.le_refl _))⟩
def KeepW (w : World) (g h : Nat) (W : World) : Prop := Below w.heap.size w W ∧ g < W.heap.size ∧ h < W.heap.size
theorem sb_step0 {w W w1 : World} {g h : Nat} {x : Bd} (hS : W.cell? ⟨g, 0, none⟩ = some (.int .i64 x.v) ∧ W.cell? ⟨g, 1, none⟩ = some (.bool true) ∧ W.cell? ⟨g, 2, none⟩ = some (.slice none 0 0) ∧ W.cell? ⟨g, 3, none⟩ = some (.int .i64 x.a) ∧ W.cell? ⟨g, 4, none⟩ = some (.int .i64 x.b) ∧ W.cell? ⟨g, 5, none⟩ = some (.int .i64 x.c) ∧ W.cell? ⟨g, 6, none⟩ = some (.int .i64 x.d) ∧ W.cell? ⟨g, 7, none⟩ = some (.int .i64 x.t) ∧ W.cell? ⟨h, 0, none⟩ = some (.int .i64 x.v) ∧ W.cell? ⟨h, 1, none⟩ = some (.bool true) ∧ W.cell? ⟨h, 2, none⟩ = some (.slice none 0 0) ∧ W.cell? ⟨h, 3, none⟩ = some (.int .i64 x.a) ∧ W.cell? ⟨h, 4, none⟩ = some (.int .i64 x.b) ∧ W.cell? ⟨h, 5, none⟩ = some (.int .i64 x.c) ∧ W.cell? ⟨h, 6, none⟩ = some (.int .i64 x.d) ∧ W.cell? ⟨h, 7, none⟩ = some (.int .i64 x.t) ∧ KeepW w g h W) (hb : Below W.heap.size W w1) : w1.cell? ⟨g, 0, none⟩ = some (.int .i64 x.v) ∧ w1.cell? ⟨g, 1, none⟩ = some (.bool true) ∧ w1.cell? ⟨g, 2, none⟩ = some (.slice none 0 0) ∧ w1.cell? ⟨g, 3, none⟩ = some (.int .i64 x.a) ∧ w1.cell? ⟨g, 4, none⟩ = some (.int .i64 x.b) ∧ w1.cell? ⟨g, 5, none⟩ = some (.int .i64 x.c) ∧ w1.cell? ⟨g, 6, none⟩ = some (.int .i64 x.d) ∧ w1.cell? ⟨g, 7, none⟩ = some (.int .i64 x.t) ∧ w1.cell? ⟨h, 0, none⟩ = some (.int .i64 x.v) ∧ w1.cell? ⟨h, 1, none⟩ = some (.bool true) ∧ w1.cell? ⟨h, 2, none⟩ = some (.slice none 0 0) ∧ w1.cell? ⟨h, 3, none⟩ = some (.int .i64 x.a) ∧ w1.cell? ⟨h, 4, none⟩ = some (.int .i64 x.b) ∧ w1.cell? ⟨h, 5, none⟩ = some (.int .i64 x.c) ∧ w1.cell? ⟨h, 6, none⟩ = some (.int .i64 x.d) ∧ w1.cell? ⟨h, 7, none⟩ = some (.int .i64 x.t) ∧ KeepW w g h w1 := by
  obtain ⟨a0, a1, a2, a3, a4, a5, a6, a7, c0, c1, c2, c3, c4, c5, c6, c7, hk, hg, hh⟩ := hS
  have := hb.size
  exact ⟨carry hb hg a0, carry hb hg a1, carry hb hg a2, carry hb hg a3, carry hb hg a4, carry hb hg a5, carry hb hg a6, carry hb hg a7, carry hb hh c0, carry hb hh c1, carry hb hh c2, carry hb hh c3, carry hb hh c4, carry hb hh c5, carry hb hh c6, carry hb hh c7, belT hk hb, by omega, by omega⟩
theorem sb_start0 {w W : World} {g h : Nat} {x : Bd} (h1 : BdAt W g 0 x) (h2 : BdAt W h 0 x) (hk : KeepW w g h W) : W.cell? ⟨g, 0, none⟩ = some (.int .i64 x.v) ∧ W.cell? ⟨g, 1, none⟩ = some (.bool true) ∧ W.cell? ⟨g, 2, none⟩ = some (.slice none 0 0) ∧ W.cell? ⟨g, 3, none⟩ = some (.int .i64 x.a) ∧ W.cell? ⟨g, 4, none⟩ = some (.int .i64 x.b) ∧ W.cell? ⟨g, 5, none⟩ = some (.int .i64 x.c) ∧ W.cell? ⟨g, 6, none⟩ = some (.int .i64 x.d) ∧ W.cell? ⟨g, 7, none⟩ = some (.int .i64 x.t) ∧ W.cell? ⟨h, 0, none⟩ = some (.int .i64 x.v) ∧ W.cell? ⟨h, 1, none⟩ = some (.bool true) ∧ W.cell? ⟨h, 2, none⟩ = some (.slice none 0 0) ∧ W.cell? ⟨h, 3, none⟩ = some (.int .i64 x.a) ∧ W.cell? ⟨h, 4, none⟩ = some (.int .i64 x.b) ∧ W.cell? ⟨h, 5, none⟩ = some (.int .i64 x.c) ∧ W.cell? ⟨h, 6, none⟩ = some (.int .i64 x.d) ∧ W.cell? ⟨h, 7, none⟩ = some (.int .i64 x.t) ∧ KeepW w g h W := by
  obtain ⟨a0, a1, a2, a3, a4, a5, a6, a7⟩ := h1
  obtain ⟨c0, c1, c2, c3, c4, c5, c6, c7⟩ := h2
  exact ⟨by simpa using a0, by simpa using a1, by simpa using a2, by simpa using a3, by simpa using a4, by simpa using a5, by simpa using a6, by simpa using a7, by simpa using c0, by simpa using c1, by simpa using c2, by simpa using c3, by simpa using c4, by simpa using c5, by simpa using c6, by simpa using c7, hk⟩
theorem sb_keep0 {w W : World} {g h : Nat} {x : Bd} (hS : W.cell? ⟨g, 0, none⟩ = some (.int .i64 x.v) ∧ W.cell? ⟨g, 1, none⟩ = some (.bool true) ∧ W.cell? ⟨g, 2, none⟩ = some (.slice none 0 0) ∧ W.cell? ⟨g, 3, none⟩ = some (.int .i64 x.a) ∧ W.cell? ⟨g, 4, none⟩ = some (.int .i64 x.b) ∧ W.cell? ⟨g, 5, none⟩ = some (.int .i64 x.c) ∧ W.cell? ⟨g, 6, none⟩ = some (.int .i64 x.d) ∧ W.cell? ⟨g, 7, none⟩ = some (.int .i64 x.t) ∧ W.cell? ⟨h, 0, none⟩ = some (.int .i64 x.v) ∧ W.cell? ⟨h, 1, none⟩ = some (.bool true) ∧ W.cell? ⟨h, 2, none⟩ = some (.slice none 0 0) ∧ W.cell? ⟨h, 3, none⟩ = some (.int .i64 x.a) ∧ W.cell? ⟨h, 4, none⟩ = some (.int .i64 x.b) ∧ W.cell? ⟨h, 5, none⟩ = some (.int .i64 x.c) ∧ W.cell? ⟨h, 6, none⟩ = some (.int .i64 x.d) ∧ W.cell? ⟨h, 7, none⟩ = some (.int .i64 x.t) ∧ KeepW w g h W) : Below w.heap.size w W := hS.2.2.2.2.2.2.2.2.2.2.2.2.2.2.2.2.1
theorem sb_step1 {w W w1 : World} {g h : Nat} {x : Bd} (hS : W.cell? ⟨g, 8, none⟩ = some (.int .i64 x.v) ∧ W.cell? ⟨g, 9, none⟩ = some (.bool true) ∧ W.cell? ⟨g, 10, none⟩ = some (.slice none 0 0) ∧ W.cell? ⟨g, 11, none⟩ = some (.int .i64 x.a) ∧ W.cell? ⟨g, 12, none⟩ = some (.int .i64 x.b) ∧ W.cell? ⟨g, 13, none⟩ = some (.int .i64 x.c) ∧ W.cell? ⟨g, 14, none⟩ = some (.int .i64 x.d) ∧ W.cell? ⟨g, 15, none⟩ = some (.int .i64 x.t) ∧ W.cell? ⟨h, 8, none⟩ = some (.int .i64 x.v) ∧ W.cell? ⟨h, 9, none⟩ = some (.bool true) ∧ W.cell? ⟨h, 10, none⟩ = some (.slice none 0 0) ∧ W.cell? ⟨h, 11, none⟩ = some (.int .i64 x.a) ∧ W.cell? ⟨h, 12, none⟩ = some (.int .i64 x.b) ∧ W.cell? ⟨h, 13, none⟩ = some (.int .i64 x.c) ∧ W.cell? ⟨h, 14, none⟩ = some (.int .i64 x.d) ∧ W.cell? ⟨h, 15, none⟩ = some (.int .i64 x.t) ∧ KeepW w g h W) (hb : Below W.heap.size W w1) : w1.cell? ⟨g, 8, none⟩ = some (.int .i64 x.v) ∧ w1.cell? ⟨g, 9, none⟩ = some (.bool true) ∧ w1.cell? ⟨g, 10, none⟩ = some (.slice none 0 0) ∧ w1.cell? ⟨g, 11, none⟩ = some (.int .i64 x.a) ∧ w1.cell? ⟨g, 12, none⟩ = some (.int .i64 x.b) ∧ w1.cell? ⟨g, 13, none⟩ = some (.int .i64 x.c) ∧ w1.cell? ⟨g, 14, none⟩ = some (.int .i64 x.d) ∧ w1.cell? ⟨g, 15, none⟩ = some (.int .i64 x.t) ∧ w1.cell? ⟨h, 8, none⟩ = some (.int .i64 x.v) ∧ w1.cell? ⟨h, 9, none⟩ = some (.bool true) ∧ w1.cell? ⟨h, 10, none⟩ = some (.slice none 0 0) ∧ w1.cell? ⟨h, 11, none⟩ = some (.int .i64 x.a) ∧ w1.cell? ⟨h, 12, none⟩ = some (.int .i64 x.b) ∧ w1.cell? ⟨h, 13, none⟩ = some (.int .i64 x.c) ∧ w1.cell? ⟨h, 14, none⟩ = some (.int .i64 x.d) ∧ w1.cell? ⟨h, 15, none⟩ = some (.int .i64 x.t) ∧ KeepW w g h w1 := by
  obtain ⟨a0, a1, a2, a3, a4, a5, a6, a7, c0, c1, c2, c3, c4, c5, c6, c7, hk, hg, hh⟩ := hS
  have := hb.size
  exact ⟨carry hb hg a0, carry hb hg a1, carry hb hg a2, carry hb hg a3, carry hb hg a4, carry hb hg a5, carry hb hg a6, carry hb hg a7, carry hb hh c0, carry hb hh c1, carry hb hh c2, carry hb hh c3, carry hb hh c4, carry hb hh c5, carry hb hh c6, carry hb hh c7, belT hk hb, by omega, by omega⟩
theorem sb_start1 {w W : World} {g h : Nat} {x : Bd} (h1 : BdAt W g 1 x) (h2 : BdAt W h 1 x) (hk : KeepW w g h W) : W.cell? ⟨g, 8, none⟩ = some (.int .i64 x.v) ∧ W.cell? ⟨g, 9, none⟩ = some (.bool true) ∧ W.cell? ⟨g, 10, none⟩ = some (.slice none 0 0) ∧ W.cell? ⟨g, 11, none⟩ = some (.int .i64 x.a) ∧ W.cell? ⟨g, 12, none⟩ = some (.int .i64 x.b) ∧ W.cell? ⟨g, 13, none⟩ = some (.int .i64 x.c) ∧ W.cell? ⟨g, 14, none⟩ = some (.int .i64 x.d) ∧ W.cell? ⟨g, 15, none⟩ = some (.int .i64 x.t) ∧ W.cell? ⟨h, 8, none⟩ = some (.int .i64 x.v) ∧ W.cell? ⟨h, 9, none⟩ = some (.bool true) ∧ W.cell? ⟨h, 10, none⟩ = some (.slice none 0 0) ∧ W.cell? ⟨h, 11, none⟩ = some (.int .i64 x.a) ∧ W.cell? ⟨h, 12, none⟩ = some (.int .i64 x.b) ∧ W.cell? ⟨h, 13, none⟩ = some (.int .i64 x.c) ∧ W.cell? ⟨h, 14, none⟩ = some (.int .i64 x.d) ∧ W.cell? ⟨h, 15, none⟩ = some (.int .i64 x.t) ∧ KeepW w g h W := by
  obtain ⟨a0, a1, a2, a3, a4, a5, a6, a7⟩ := h1
  obtain ⟨c0, c1, c2, c3, c4, c5, c6, c7⟩ := h2
  exact ⟨by simpa using a0, by simpa using a1, by simpa using a2, by simpa using a3, by simpa using a4, by simpa using a5, by simpa using a6, by simpa using a7, by simpa using c0, by simpa using c1, by simpa using c2, by simpa using c3, by simpa using c4, by simpa using c5, by simpa using c6, by simpa using c7, hk⟩
theorem sb_keep1 {w W : World} {g h : Nat} {x : Bd} (hS : W.cell? ⟨g, 8, none⟩ = some (.int .i64 x.v) ∧ W.cell? ⟨g, 9, none⟩ = some (.bool true) ∧ W.cell? ⟨g, 10, none⟩ = some (.slice none 0 0) ∧ W.cell? ⟨g, 11, none⟩ = some (.int .i64 x.a) ∧ W.cell? ⟨g, 12, none⟩ = some (.int .i64 x.b) ∧ W.cell? ⟨g, 13, none⟩ = some (.int .i64 x.c) ∧ W.cell? ⟨g, 14, none⟩ = some (.int .i64 x.d) ∧ W.cell? ⟨g, 15, none⟩ = some (.int .i64 x.t) ∧ W.cell? ⟨h, 8, none⟩ = some (.int .i64 x.v) ∧ W.cell? ⟨h, 9, none⟩ = some (.bool true) ∧ W.cell? ⟨h, 10, none⟩ = some (.slice none 0 0) ∧ W.cell? ⟨h, 11, none⟩ = some (.int .i64 x.a) ∧ W.cell? ⟨h, 12, none⟩ = some (.int .i64 x.b) ∧ W.cell? ⟨h, 13, none⟩ = some (.int .i64 x.c) ∧ W.cell? ⟨h, 14, none⟩ = some (.int .i64 x.d) ∧ W.cell? ⟨h, 15, none⟩ = some (.int .i64 x.t) ∧ KeepW w g h W) : Below w.heap.size w W := hS.2.2.2.2.2.2.2.2.2.2.2.2.2.2.2.2.1
set_option maxRecDepth 100000 in
set_option maxHeartbeats 2000000 in
theorem sameBinds1 (g h : Nat) (x : Bd) (w : World) (hg : g < w.heap.size) (hh : h < w.heap.size) (h10 : BdAt w g 0 x) (h20 : BdAt w h 0 x) :
    Calls Tryd.prog 15 #[.slice (some ⟨g, 0, none⟩) 1 1, .slice (some ⟨h, 0, none⟩) 1 1] w fun e w' => e = .returned (.bool true) ∧ Below w.heap.size w w' := by
  have hq : ∀ (x0 x1 x2 x3 y0 y1 y2 y3 : Int) (W : World), (Op.equalIn 9999 22 (.agg #[.int .i64 x0, .int .i64 x1, .int .i64 x2, .int .i64 x3]) (.agg #[.int .i64 y0, .int .i64 y1, .int .i64 y2, .int .i64 y3])).run Tryd.prog W = .ok (x0 == y0 && (x1 == y1 && (x2 == y2 && x3 == y3))) W := fun x0 x1 x2 x3 y0 y1 y2 y3 W => arr_in 9997 22 Tryd.underlying22 W x0 x1 x2 x3 y0 y1 y2 y3
  go_enter Tryd.func15, Tryd.ntmps15
  go_wp2_with fail
  go_loopw [5] (fun i wr => ∃ (k : Nat) (z : Int), k ≤ 1 ∧ i = .int .i64 z ∧ z = k ∧ Below w.heap.size w wr) (fun i _ => 1 - (intOf i).toNat)
  case atStart => exact ⟨0, 0, by omega, rfl, rfl, Below.refl _ _⟩
  case round =>
    obtain ⟨k, z, hk, rfl, hz, hbw⟩ := hrel
    have hk5 : k = 0 ∨ k = 1 := by omega
    rcases hk5 with rfl | rfl
    · obtain rfl : z = 0 := by omega
      clear hz
      have hS0 := sb_start0 (bdAt_below h10 hbw hg) (bdAt_below h20 hbw hh) (show KeepW w g h wr from ⟨hbw, by have := hbw.size; omega, by have := hbw.size; omega⟩)
      go_wp2_with fail
      go_region_held3 (fun W => W.cell? ⟨g, 0, none⟩ = some (.int .i64 x.v) ∧ W.cell? ⟨g, 1, none⟩ = some (.bool true) ∧ W.cell? ⟨g, 2, none⟩ = some (.slice none 0 0) ∧ W.cell? ⟨g, 3, none⟩ = some (.int .i64 x.a) ∧ W.cell? ⟨g, 4, none⟩ = some (.int .i64 x.b) ∧ W.cell? ⟨g, 5, none⟩ = some (.int .i64 x.c) ∧ W.cell? ⟨g, 6, none⟩ = some (.int .i64 x.d) ∧ W.cell? ⟨g, 7, none⟩ = some (.int .i64 x.t) ∧ W.cell? ⟨h, 0, none⟩ = some (.int .i64 x.v) ∧ W.cell? ⟨h, 1, none⟩ = some (.bool true) ∧ W.cell? ⟨h, 2, none⟩ = some (.slice none 0 0) ∧ W.cell? ⟨h, 3, none⟩ = some (.int .i64 x.a) ∧ W.cell? ⟨h, 4, none⟩ = some (.int .i64 x.b) ∧ W.cell? ⟨h, 5, none⟩ = some (.int .i64 x.c) ∧ W.cell? ⟨h, 6, none⟩ = some (.int .i64 x.d) ∧ W.cell? ⟨h, 7, none⟩ = some (.int .i64 x.t) ∧ KeepW w g h W)
        (first | exact sb_step0 (by assumption) hb9 | exact sb_step0 hS0 ((Below.refl _ _).drew))
        ((go_at_call 28; refine (sameType_nil _).mono ?_; rintro e w9 ⟨rfl, hb9⟩))
      have hbn := sb_keep0 (by assumption)
      go_wp2_with fail
      go_roundw
      case rel => exact ⟨1, 1, by omega, rfl, rfl, hbn⟩
      case measure => simp [intOf]
    · obtain rfl : z = 1 := by omega
      clear hz
      go_wp2_with fail
      go_ret
      exact ⟨rfl, hbw⟩
set_option maxRecDepth 100000 in
set_option maxHeartbeats 2000000 in
theorem sameBinds2 (g h : Nat) (x y : Bd) (w : World) (hg : g < w.heap.size) (hh : h < w.heap.size) (h10 : BdAt w g 0 x) (h20 : BdAt w h 0 x) (h11 : BdAt w g 1 y) (h21 : BdAt w h 1 y) :
    Calls Tryd.prog 15 #[.slice (some ⟨g, 0, none⟩) 2 2, .slice (some ⟨h, 0, none⟩) 2 2] w fun e w' => e = .returned (.bool true) ∧ Below w.heap.size w w' := by
  have hq : ∀ (x0 x1 x2 x3 y0 y1 y2 y3 : Int) (W : World), (Op.equalIn 9999 22 (.agg #[.int .i64 x0, .int .i64 x1, .int .i64 x2, .int .i64 x3]) (.agg #[.int .i64 y0, .int .i64 y1, .int .i64 y2, .int .i64 y3])).run Tryd.prog W = .ok (x0 == y0 && (x1 == y1 && (x2 == y2 && x3 == y3))) W := fun x0 x1 x2 x3 y0 y1 y2 y3 W => arr_in 9997 22 Tryd.underlying22 W x0 x1 x2 x3 y0 y1 y2 y3
  go_enter Tryd.func15, Tryd.ntmps15
  go_wp2_with fail
  go_loopw [5] (fun i wr => ∃ (k : Nat) (z : Int), k ≤ 2 ∧ i = .int .i64 z ∧ z = k ∧ Below w.heap.size w wr) (fun i _ => 2 - (intOf i).toNat)
  case atStart => exact ⟨0, 0, by omega, rfl, rfl, Below.refl _ _⟩
  case round =>
    obtain ⟨k, z, hk, rfl, hz, hbw⟩ := hrel
    have hk5 : k = 0 ∨ k = 1 ∨ k = 2 := by omega
    rcases hk5 with rfl | rfl | rfl
    · obtain rfl : z = 0 := by omega
      clear hz
      have hS0 := sb_start0 (bdAt_below h10 hbw hg) (bdAt_below h20 hbw hh) (show KeepW w g h wr from ⟨hbw, by have := hbw.size; omega, by have := hbw.size; omega⟩)
      go_wp2_with fail
      go_region_held3 (fun W => W.cell? ⟨g, 0, none⟩ = some (.int .i64 x.v) ∧ W.cell? ⟨g, 1, none⟩ = some (.bool true) ∧ W.cell? ⟨g, 2, none⟩ = some (.slice none 0 0) ∧ W.cell? ⟨g, 3, none⟩ = some (.int .i64 x.a) ∧ W.cell? ⟨g, 4, none⟩ = some (.int .i64 x.b) ∧ W.cell? ⟨g, 5, none⟩ = some (.int .i64 x.c) ∧ W.cell? ⟨g, 6, none⟩ = some (.int .i64 x.d) ∧ W.cell? ⟨g, 7, none⟩ = some (.int .i64 x.t) ∧ W.cell? ⟨h, 0, none⟩ = some (.int .i64 x.v) ∧ W.cell? ⟨h, 1, none⟩ = some (.bool true) ∧ W.cell? ⟨h, 2, none⟩ = some (.slice none 0 0) ∧ W.cell? ⟨h, 3, none⟩ = some (.int .i64 x.a) ∧ W.cell? ⟨h, 4, none⟩ = some (.int .i64 x.b) ∧ W.cell? ⟨h, 5, none⟩ = some (.int .i64 x.c) ∧ W.cell? ⟨h, 6, none⟩ = some (.int .i64 x.d) ∧ W.cell? ⟨h, 7, none⟩ = some (.int .i64 x.t) ∧ KeepW w g h W)
        (first | exact sb_step0 (by assumption) hb9 | exact sb_step0 hS0 ((Below.refl _ _).drew))
        ((go_at_call 28; refine (sameType_nil _).mono ?_; rintro e w9 ⟨rfl, hb9⟩))
      have hbn := sb_keep0 (by assumption)
      go_wp2_with fail
      go_roundw
      case rel => exact ⟨1, 1, by omega, rfl, rfl, hbn⟩
      case measure => simp [intOf]
    · obtain rfl : z = 1 := by omega
      clear hz
      have hS0 := sb_start1 (bdAt_below h11 hbw hg) (bdAt_below h21 hbw hh) (show KeepW w g h wr from ⟨hbw, by have := hbw.size; omega, by have := hbw.size; omega⟩)
      go_wp2_with fail
      go_region_held3 (fun W => W.cell? ⟨g, 8, none⟩ = some (.int .i64 y.v) ∧ W.cell? ⟨g, 9, none⟩ = some (.bool true) ∧ W.cell? ⟨g, 10, none⟩ = some (.slice none 0 0) ∧ W.cell? ⟨g, 11, none⟩ = some (.int .i64 y.a) ∧ W.cell? ⟨g, 12, none⟩ = some (.int .i64 y.b) ∧ W.cell? ⟨g, 13, none⟩ = some (.int .i64 y.c) ∧ W.cell? ⟨g, 14, none⟩ = some (.int .i64 y.d) ∧ W.cell? ⟨g, 15, none⟩ = some (.int .i64 y.t) ∧ W.cell? ⟨h, 8, none⟩ = some (.int .i64 y.v) ∧ W.cell? ⟨h, 9, none⟩ = some (.bool true) ∧ W.cell? ⟨h, 10, none⟩ = some (.slice none 0 0) ∧ W.cell? ⟨h, 11, none⟩ = some (.int .i64 y.a) ∧ W.cell? ⟨h, 12, none⟩ = some (.int .i64 y.b) ∧ W.cell? ⟨h, 13, none⟩ = some (.int .i64 y.c) ∧ W.cell? ⟨h, 14, none⟩ = some (.int .i64 y.d) ∧ W.cell? ⟨h, 15, none⟩ = some (.int .i64 y.t) ∧ KeepW w g h W)
        (first | exact sb_step1 (by assumption) hb9 | exact sb_step1 hS0 ((Below.refl _ _).drew))
        ((go_at_call 28; refine (sameType_nil _).mono ?_; rintro e w9 ⟨rfl, hb9⟩))
      have hbn := sb_keep1 (by assumption)
      go_wp2_with fail
      go_roundw
      case rel => exact ⟨2, 2, by omega, rfl, rfl, hbn⟩
      case measure => simp [intOf]
    · obtain rfl : z = 2 := by omega
      clear hz
      go_wp2_with fail
      go_ret
      exact ⟨rfl, hbw⟩
theorem sameBinds0 (a1 a2 : Option Addr) (w : World) :
    Calls Tryd.prog 15 #[.slice a1 0 0, .slice a2 0 0] w fun e w' => e = .returned (.bool true) ∧ Below w.heap.size w w' := by
  go_enter Tryd.func15, Tryd.ntmps15
  go_wp2_with fail
  go_loop [5] (fun i => i = .int .i64 0) (fun _ => 0)
  case atStart => rfl
  case round =>
    subst hrel
    go_wp2_with fail
    go_ret
    exact ⟨rfl, Below.refl _ _⟩
theorem sameBinds_any {B B' : Nat} {v v' : Value} {l : List Bd} (w : World) (h : BdsIs B w v l) (h' : BdsIs B' w v' l) (hl : l.length ≤ 2) :
    Calls Tryd.prog 15 #[v, v'] w fun e w' => e = .returned (.bool true) ∧ Below w.heap.size w w' := by
  match l, hl with
  | [], _ =>
    rcases bds_nil h with rfl | ⟨g, rfl⟩ <;> rcases bds_nil h' with rfl | ⟨g', rfl⟩ <;> exact sameBinds0 _ _ w
  | [x], _ =>
    obtain ⟨g, _, hg, rfl, h0⟩ := bds_one h
    obtain ⟨g', _, hg', rfl, h0'⟩ := bds_one h'
    exact sameBinds1 g g' x w hg hg' h0 h0'
  | [x, y], _ =>
    obtain ⟨g, _, hg, rfl, h0, h1⟩ := bds_two h
    obtain ⟨g', _, hg', rfl, h0', h1'⟩ := bds_two h'
    exact sameBinds2 g g' x y w hg hg' h0 h0' h1 h1'
theorem uniT_len (p1 p2 p3 p4 q1 q2 q3 q4 t t' f : Int) : ((uniT p1 p2 p3 p4 q1 q2 q3 q4 t t' f).getD []).length ≤ 2 := by
  unfold uniT; (repeat' split) <;> simp
theorem ruL_len (a b c d t a' b' c' d' t' f : Int) : (ruL a b c d t a' b' c' d' t' f).length ≤ 2 := by
  unfold ruL uniR
  split
  · exact uniT_len ..
  · simp
theorem uniT_swap (p1 p2 p3 p4 q1 q2 q3 q4 t t' f : Int) : (uniT p1 p2 p3 p4 q1 q2 q3 q4 t t' f).isSome = (uniT q1 q2 q3 q4 p1 p2 p3 p4 t' t f).isSome ∧ ((uniT p1 p2 p3 p4 q1 q2 q3 q4 t t' f).getD []).length = ((uniT q1 q2 q3 q4 p1 p2 p3 p4 t' t f).getD []).length := by
  unfold uniT
  by_cases h1 : t = t'
  · subst h1
    simp only [if_true]
    by_cases h2 : p1 = 0 ∧ p2 = 0 ∧ p3 = 0 ∧ p4 = 0 ∧ q1 = 0 ∧ q2 = 0 ∧ q3 = 0 ∧ q4 = 0
    · have h3 : q1 = 0 ∧ q2 = 0 ∧ q3 = 0 ∧ q4 = 0 ∧ p1 = 0 ∧ p2 = 0 ∧ p3 = 0 ∧ p4 = 0 := by omega
      rw [if_pos h2, if_pos h3]; exact ⟨rfl, rfl⟩
    · have h3 : ¬ (q1 = 0 ∧ q2 = 0 ∧ q3 = 0 ∧ q4 = 0 ∧ p1 = 0 ∧ p2 = 0 ∧ p3 = 0 ∧ p4 = 0) := by omega
      rw [if_neg h2, if_neg h3]; exact ⟨rfl, rfl⟩
  · have h1' : ¬ t' = t := fun e => h1 e.symm
    simp only [h1, h1', if_false]
    have hc : (t < 0) = True ∧ (0 ≤ t) = False ∨ (t < 0) = False ∧ (0 ≤ t) = True := by
      by_cases h : t < 0
      · exact .inl ⟨eq_true h, eq_false (by omega)⟩
      · exact .inr ⟨eq_false h, eq_true (by omega)⟩
    have hd : (t' < 0) = True ∧ (0 ≤ t') = False ∨ (t' < 0) = False ∧ (0 ≤ t') = True := by
      by_cases h : t' < 0
      · exact .inl ⟨eq_true h, eq_false (by omega)⟩
      · exact .inr ⟨eq_false h, eq_true (by omega)⟩
    have ha : (p1 = 0 ∧ p2 = 0 ∧ p3 = 0 ∧ p4 = 0) = True ∨ (p1 = 0 ∧ p2 = 0 ∧ p3 = 0 ∧ p4 = 0) = False := by
      by_cases h : p1 = 0 ∧ p2 = 0 ∧ p3 = 0 ∧ p4 = 0
      · exact .inl (eq_true h)
      · exact .inr (eq_false h)
    have hb : (q1 = 0 ∧ q2 = 0 ∧ q3 = 0 ∧ q4 = 0) = True ∨ (q1 = 0 ∧ q2 = 0 ∧ q3 = 0 ∧ q4 = 0) = False := by
      by_cases h : q1 = 0 ∧ q2 = 0 ∧ q3 = 0 ∧ q4 = 0
      · exact .inl (eq_true h)
      · exact .inr (eq_false h)
    rcases ha with a | a <;> rcases hb with b | b <;> rcases hc with ⟨c, c'⟩ | ⟨c, c'⟩ <;> rcases hd with ⟨d, d'⟩ | ⟨d, d'⟩ <;>
      simp only [a, b, c, c', d, d', not_true_eq_false, not_false_eq_true, and_true, and_false, true_and, or_true, or_false, true_or, false_or, and_self, or_self, if_true, if_false, Option.isSome, Option.getD, List.length_cons, List.length_nil]
theorem ru_swap (a b c d t a' b' c' d' t' f : Int) : ruE a b c d t a' b' c' d' t' f = ruE a' b' c' d' t' a b c d t f ∧ (ruL a b c d t a' b' c' d' t' f).length = (ruL a' b' c' d' t' a b c d t f).length := by
  have hok : ruOk a b c d t a' b' c' d' t' f = ruOk a' b' c' d' t' a b c d t f := by
    unfold ruOk
    rw [Bool.and_comm (mayR a b c d t)]
    congr 1
    rw [decide_eq_decide]; omega
  have hs := uniT_swap (mxz (a - a')) (mxz (b - b')) (mxz (c - c')) (mxz (d - d')) (mxz (a' - a)) (mxz (b' - b)) (mxz (c' - c)) (mxz (d' - d)) t t' f
  unfold ruE ruL
  rw [← hok]
  cases ruOk a b c d t a' b' c' d' t' f
  · exact ⟨rfl, rfl⟩
  · unfold uniR
    rw [hs.1]
    exact ⟨rfl, hs.2⟩
theorem plus_sub (x y op k : Int) : plus x op k - plus y op k = x - y := by unfold plus; split <;> omega
theorem with_ok {a b c d t op : Int} (h : withOk a b c d t op = true) : mayR a b c d t = true ∧ mayR (plus a op 0) (plus b op 1) (plus c op 2) (plus d op 3) t = true := by
  unfold withOk at h
  simp only [Bool.and_eq_true, decide_eq_true_eq] at h
  obtain ⟨⟨h1, h2⟩, h3⟩ := h
  refine ⟨h1, ?_⟩
  have hm : 0 ≤ a ∧ a ≤ 32 ∧ 0 ≤ b ∧ b ≤ 32 ∧ 0 ≤ c ∧ c ≤ 32 ∧ 0 ≤ d ∧ d ≤ 32 ∧ -1 ≤ t ∧ t < 4096 := of_decide_eq_true h1
  unfold cntAt at h3
  unfold plus
  have hop : op = 0 ∨ op = 1 ∨ op = 2 ∨ op = 3 := by omega
  rcases hop with rfl | rfl | rfl | rfl
  all_goals (simp at h3; exact decide_eq_true (by simp; omega))
/-- with the same operation more on both sides. -/
theorem ru_plus {a b c d t a' b' c' d' t' op f : Int} (h : withOk a b c d t op = true) (h' : withOk a' b' c' d' t' op = true) :
    ruL (plus a op 0) (plus b op 1) (plus c op 2) (plus d op 3) t (plus a' op 0) (plus b' op 1) (plus c' op 2) (plus d' op 3) t' f = ruL a b c d t a' b' c' d' t' f ∧
    ruE (plus a op 0) (plus b op 1) (plus c op 2) (plus d op 3) t (plus a' op 0) (plus b' op 1) (plus c' op 2) (plus d' op 3) t' f = ruE a b c d t a' b' c' d' t' f := by
  have k := with_ok h; have k' := with_ok h'
  unfold ruL ruE ruOk uniR
  rw [k.1, k.2, k'.1, k'.2]
  simp only [plus_sub]
  exact ⟨trivial, trivial⟩
end Go.Proofs.YtlbopoidjnaokaaDoor
