/- Contract of 'under', at a slice of row binds. -/
import Derived.Test.YtlbopoidjnaokaaDoorRwS
namespace Go.Proofs.YtlbopoidjnaokaaDoor
open Go.RowKit
set_option linter.unusedVariables false
def sm5 (a b c d : Int) : Prop := 0 ≤ a ∧ a ≤ 32 ∧ 0 ≤ b ∧ b ≤ 32 ∧ 0 ≤ c ∧ c ≤ 32 ∧ 0 ≤ d ∧ d ≤ 32
theorem setC {W : World} {p q : Addr} {v u : Value} (h : W.cell? p = some u) (hne : q ≠ p) : (W.setCell q v).cell? p = some u := (World.cell?_setCell_other _ _ _ _ hne).trans h
theorem setS {W : World} {p : Addr} {v u : Value} (h : W.cell? p = some u) : (W.setCell p v).cell? p = some v := by
  rw [World.cell?_setCell_same _ _ _ h]
def ExW (w : World) (r0 r1 r2 r3 r4 : Int) (W : World) : Prop := ∃ nq : Nat, W = ((w.alloc (.cells #[.int .i64 r0, .int .i64 r1, .int .i64 r2, .int .i64 r3, .int .i64 r4] 24)).alloc (.cells #[.int .i64 0, .int .i64 0, .int .i64 0, .int .i64 0, .int .i64 0] 24)).drewN nq
theorem ex_drew {w W : World} {r0 r1 r2 r3 r4 : Int} (h : ExW w r0 r1 r2 r3 r4 W) : ExW w r0 r1 r2 r3 r4 W.drew := by
  obtain ⟨nq, rfl⟩ := h
  exact ⟨nq + 1, rfl⟩
theorem ex_drewN {w W : World} {r0 r1 r2 r3 r4 : Int} (n : Nat) (h : ExW w r0 r1 r2 r3 r4 W) : ExW w r0 r1 r2 r3 r4 (W.drewN n) := by
  induction n with
  | zero => exact h
  | succ n ih => exact ex_drew ih
theorem ex_st0 {w W : World} {r0 r1 r2 r3 r4 v : Int} (h : ExW w r0 r1 r2 r3 r4 W) : ExW w v r1 r2 r3 r4 (W.setCell ⟨w.heap.size, 0, none⟩ (.int .i64 v)) := by
  obtain ⟨nq, rfl⟩ := h
  exact ⟨nq, by rw [setCell_mid _ _ _ _ _ _ _ _ rfl]; rfl⟩
theorem ex_st1 {w W : World} {r0 r1 r2 r3 r4 v : Int} (h : ExW w r0 r1 r2 r3 r4 W) : ExW w r0 v r2 r3 r4 (W.setCell ⟨w.heap.size, 1, none⟩ (.int .i64 v)) := by
  obtain ⟨nq, rfl⟩ := h
  exact ⟨nq, by rw [setCell_mid _ _ _ _ _ _ _ _ rfl]; rfl⟩
theorem ex_st2 {w W : World} {r0 r1 r2 r3 r4 v : Int} (h : ExW w r0 r1 r2 r3 r4 W) : ExW w r0 r1 v r3 r4 (W.setCell ⟨w.heap.size, 2, none⟩ (.int .i64 v)) := by
  obtain ⟨nq, rfl⟩ := h
  exact ⟨nq, by rw [setCell_mid _ _ _ _ _ _ _ _ rfl]; rfl⟩
theorem ex_st3 {w W : World} {r0 r1 r2 r3 r4 v : Int} (h : ExW w r0 r1 r2 r3 r4 W) : ExW w r0 r1 r2 v r4 (W.setCell ⟨w.heap.size, 3, none⟩ (.int .i64 v)) := by
  obtain ⟨nq, rfl⟩ := h
  exact ⟨nq, by rw [setCell_mid _ _ _ _ _ _ _ _ rfl]; rfl⟩
theorem ex_st4 {w W : World} {r0 r1 r2 r3 r4 v : Int} (h : ExW w r0 r1 r2 r3 r4 W) : ExW w r0 r1 r2 r3 v (W.setCell ⟨w.heap.size, 4, none⟩ (.int .i64 v)) := by
  obtain ⟨nq, rfl⟩ := h
  exact ⟨nq, by rw [setCell_mid _ _ _ _ _ _ _ _ rfl]; rfl⟩
/-- the returned row, stored into the result's block. -/
theorem ex_end {w W : World} {r0 r1 r2 r3 r4 : Int} (h : ExW w r0 r1 r2 r3 r4 W) :
    ∃ nq : Nat, (((((W.setCell ⟨w.heap.size + 1, 0, none⟩ (.int .i64 r0)).setCell ⟨w.heap.size + 1, 1, none⟩ (.int .i64 r1)).setCell ⟨w.heap.size + 1, 2, none⟩ (.int .i64 r2)).setCell ⟨w.heap.size + 1, 3, none⟩ (.int .i64 r3)).setCell ⟨w.heap.size + 1, 4, none⟩ (.int .i64 r4)) = ((w.alloc (.cells #[.int .i64 r0, .int .i64 r1, .int .i64 r2, .int .i64 r3, .int .i64 r4] 24)).alloc (.cells #[.int .i64 r0, .int .i64 r1, .int .i64 r2, .int .i64 r3, .int .i64 r4] 24)).drewN nq := by
  obtain ⟨nq, rfl⟩ := h
  refine ⟨nq, ?_⟩
  rw [setCell_drewN_at _ _ _ _ _ _ _ (by simp), setCell_drewN_at _ _ _ _ _ _ _ (by simp), setCell_drewN_at _ _ _ _ _ _ _ (by simp), setCell_drewN_at _ _ _ _ _ _ _ (by simp), setCell_drewN_at _ _ _ _ _ _ _ (by simp)]
  rfl
theorem frozen_drewN (W : World) (n : Nat) (a : Addr) : (W.drewN n).frozen? a = W.frozen? a := rfl
theorem ex_cells {w W : World} {r0 r1 r2 r3 r4 : Int} (h : ExW w r0 r1 r2 r3 r4 W) : (W.cell? ⟨w.heap.size, 0, none⟩ = some (.int .i64 (r0)) ∧ W.cell? ⟨w.heap.size, 1, none⟩ = some (.int .i64 (r1)) ∧ W.cell? ⟨w.heap.size, 2, none⟩ = some (.int .i64 (r2)) ∧ W.cell? ⟨w.heap.size, 3, none⟩ = some (.int .i64 (r3)) ∧ W.cell? ⟨w.heap.size, 4, none⟩ = some (.int .i64 (r4))) ∧ (W.cell? ⟨w.heap.size + 1, 0, none⟩ = some (.int .i64 (0)) ∧ W.cell? ⟨w.heap.size + 1, 1, none⟩ = some (.int .i64 (0)) ∧ W.cell? ⟨w.heap.size + 1, 2, none⟩ = some (.int .i64 (0)) ∧ W.cell? ⟨w.heap.size + 1, 3, none⟩ = some (.int .i64 (0)) ∧ W.cell? ⟨w.heap.size + 1, 4, none⟩ = some (.int .i64 (0))) ∧ w.heap.size + 1 < W.heap.size ∧ Below w.heap.size w W := by
  obtain ⟨nq, rfl⟩ := h
  refine ⟨⟨?_, ?_, ?_, ?_, ?_⟩, ⟨?_, ?_, ?_, ?_, ?_⟩, ?_, by (repeat' (first | with_reducible exact Below.refl _ _ | with_reducible assumption | with_reducible apply Below.setCell | with_reducible apply Below.alloc | with_reducible apply Below.drew | with_reducible apply below_drewN | with_reducible exact Nat.le_refl _ | (simp; done) | (simp; omega) | omega | exact Nat.le_refl _))⟩ <;> simp [cell_drewN, size_drewN]
theorem ex_froz {w W : World} {r0 r1 r2 r3 r4 : Int} (h : ExW w r0 r1 r2 r3 r4 W) : (W.frozen? ⟨w.heap.size, 0, none⟩ = false ∧ W.frozen? ⟨w.heap.size, 1, none⟩ = false ∧ W.frozen? ⟨w.heap.size, 2, none⟩ = false ∧ W.frozen? ⟨w.heap.size, 3, none⟩ = false ∧ W.frozen? ⟨w.heap.size, 4, none⟩ = false) ∧ (W.frozen? ⟨w.heap.size + 1, 0, none⟩ = false ∧ W.frozen? ⟨w.heap.size + 1, 1, none⟩ = false ∧ W.frozen? ⟨w.heap.size + 1, 2, none⟩ = false ∧ W.frozen? ⟨w.heap.size + 1, 3, none⟩ = false ∧ W.frozen? ⟨w.heap.size + 1, 4, none⟩ = false) := by
  obtain ⟨nq, rfl⟩ := h
  refine ⟨⟨?_, ?_, ?_, ?_, ?_⟩, ⟨?_, ?_, ?_, ?_, ?_⟩⟩ <;> (rw [frozen_drewN]; simp [go_sem])
theorem under0 (a1 : Option Addr) (a b c d t : Int) (w : World) :
    Calls Tryd.prog 21 #[.slice a1 0 0, .agg #[.int .i64 a, .int .i64 b, .int .i64 c, .int .i64 d, .int .i64 t]] w fun e w' => e = .returned (.agg #[.int .i64 a, .int .i64 b, .int .i64 c, .int .i64 d, .int .i64 t]) ∧ ∃ nq : Nat, w' = ((w.alloc (.cells #[.int .i64 a, .int .i64 b, .int .i64 c, .int .i64 d, .int .i64 t] 24)).alloc (.cells #[.int .i64 a, .int .i64 b, .int .i64 c, .int .i64 d, .int .i64 t] 24)).drewN nq := by
  go_enter Tryd.func21, Tryd.ntmps21
  go_wp2_with fail
  go_loopw [5] (fun i wr => i = .int .i64 0 ∧ ExW w a b c d t wr) (fun _ _ => 0)
  case atStart => exact ⟨rfl, 0, rfl⟩
  case round =>
    obtain ⟨rfl, hS⟩ := hrel
    have hS' := Lib.hid hS
    obtain ⟨⟨q0, q1, q2, q3, q4⟩, ⟨z0, z1, z2, z3, z4⟩, hz1, hbl⟩ := ex_cells hS
    obtain ⟨⟨f0, f1, f2, f3, f4⟩, ⟨y0, y1, y2, y3, y4⟩⟩ := ex_froz hS
    clear hS
    go_wp2_with fail
    exact bodyPost_ret (v := .agg #[.int .i64 a, .int .i64 b, .int .i64 c, .int .i64 d, .int .i64 t]) (by simp [results, Tryd.results21, go_sem, *]) rfl ⟨rfl, ex_end hS'.out⟩
theorem ex_bd1 {w W : World} {g : Nat} {x : Bd} {r0 r1 r2 r3 r4 : Int} (hg : g < w.heap.size) (hb0 : BdAt w g 0 x) (h : ExW w r0 r1 r2 r3 r4 W) : W.cell? ⟨g, 0, none⟩ = some (.int .i64 x.v) ∧ W.cell? ⟨g, 1, none⟩ = some (.bool true) ∧ W.cell? ⟨g, 2, none⟩ = some (.slice none 0 0) ∧ W.cell? ⟨g, 3, none⟩ = some (.int .i64 x.a) ∧ W.cell? ⟨g, 4, none⟩ = some (.int .i64 x.b) ∧ W.cell? ⟨g, 5, none⟩ = some (.int .i64 x.c) ∧ W.cell? ⟨g, 6, none⟩ = some (.int .i64 x.d) ∧ W.cell? ⟨g, 7, none⟩ = some (.int .i64 x.t) := by
  have hb := (ex_cells h).2.2.2
  obtain ⟨c0_0, c0_1, c0_2, c0_3, c0_4, c0_5, c0_6, c0_7⟩ := hb0
  exact ⟨carry hb hg (by simpa using c0_0), carry hb hg (by simpa using c0_1), carry hb hg (by simpa using c0_2), carry hb hg (by simpa using c0_3), carry hb hg (by simpa using c0_4), carry hb hg (by simpa using c0_5), carry hb hg (by simpa using c0_6), carry hb hg (by simpa using c0_7)⟩
theorem ex_bd2 {w W : World} {g : Nat} {x y : Bd} {r0 r1 r2 r3 r4 : Int} (hg : g < w.heap.size) (hb0 : BdAt w g 0 x) (hb1 : BdAt w g 1 y) (h : ExW w r0 r1 r2 r3 r4 W) : W.cell? ⟨g, 0, none⟩ = some (.int .i64 x.v) ∧ W.cell? ⟨g, 1, none⟩ = some (.bool true) ∧ W.cell? ⟨g, 2, none⟩ = some (.slice none 0 0) ∧ W.cell? ⟨g, 3, none⟩ = some (.int .i64 x.a) ∧ W.cell? ⟨g, 4, none⟩ = some (.int .i64 x.b) ∧ W.cell? ⟨g, 5, none⟩ = some (.int .i64 x.c) ∧ W.cell? ⟨g, 6, none⟩ = some (.int .i64 x.d) ∧ W.cell? ⟨g, 7, none⟩ = some (.int .i64 x.t) ∧ W.cell? ⟨g, 8, none⟩ = some (.int .i64 y.v) ∧ W.cell? ⟨g, 9, none⟩ = some (.bool true) ∧ W.cell? ⟨g, 10, none⟩ = some (.slice none 0 0) ∧ W.cell? ⟨g, 11, none⟩ = some (.int .i64 y.a) ∧ W.cell? ⟨g, 12, none⟩ = some (.int .i64 y.b) ∧ W.cell? ⟨g, 13, none⟩ = some (.int .i64 y.c) ∧ W.cell? ⟨g, 14, none⟩ = some (.int .i64 y.d) ∧ W.cell? ⟨g, 15, none⟩ = some (.int .i64 y.t) := by
  have hb := (ex_cells h).2.2.2
  obtain ⟨c0_0, c0_1, c0_2, c0_3, c0_4, c0_5, c0_6, c0_7⟩ := hb0
  obtain ⟨c1_0, c1_1, c1_2, c1_3, c1_4, c1_5, c1_6, c1_7⟩ := hb1
  exact ⟨carry hb hg (by simpa using c0_0), carry hb hg (by simpa using c0_1), carry hb hg (by simpa using c0_2), carry hb hg (by simpa using c0_3), carry hb hg (by simpa using c0_4), carry hb hg (by simpa using c0_5), carry hb hg (by simpa using c0_6), carry hb hg (by simpa using c0_7), carry hb hg (by simpa using c1_0), carry hb hg (by simpa using c1_1), carry hb hg (by simpa using c1_2), carry hb hg (by simpa using c1_3), carry hb hg (by simpa using c1_4), carry hb hg (by simpa using c1_5), carry hb hg (by simpa using c1_6), carry hb hg (by simpa using c1_7)⟩
set_option maxRecDepth 100000 in
set_option maxHeartbeats 4000000 in
theorem under1_0 (g : Nat) (x : Bd) (a b c d t : Int) (w : World) (hg : g < w.heap.size) (hb0 : BdAt w g 0 x) (hm : sm5 a b c d) (hx : sm5 x.a x.b x.c x.d) (e0 : (x.v == t) = true) :
    Calls Tryd.prog 21 #[.slice (some ⟨g, 0, none⟩) 1 1, .agg #[.int .i64 a, .int .i64 b, .int .i64 c, .int .i64 d, .int .i64 t]] w fun e w' => e = .returned (.agg #[.int .i64 (a + x.a), .int .i64 (b + x.b), .int .i64 (c + x.c), .int .i64 (d + x.d), .int .i64 (x.t)]) ∧ ∃ nq : Nat, w' = ((w.alloc (.cells #[.int .i64 (a + x.a), .int .i64 (b + x.b), .int .i64 (c + x.c), .int .i64 (d + x.d), .int .i64 (x.t)] 24)).alloc (.cells #[.int .i64 (a + x.a), .int .i64 (b + x.b), .int .i64 (c + x.c), .int .i64 (d + x.d), .int .i64 (x.t)] 24)).drewN nq := by
  go_enter Tryd.func21, Tryd.ntmps21
  go_wp2_with fail
  go_loopw [5] (fun i wr => ∃ (k : Nat) (z : Int), k ≤ 0 ∧ i = .int .i64 z ∧ z = k ∧ ExW w a b c d t wr) (fun i _ => 0 - (intOf i).toNat)
  case atStart => exact ⟨0, 0, by omega, rfl, rfl, 0, rfl⟩
  case round =>
    obtain ⟨k, z, hk, rfl, hz, hS⟩ := hrel
    have hk5 : k = 0 := by omega
    rcases hk5 with rfl
    · obtain rfl : z = 0 := by omega
      clear hz
      have hS' := Lib.hid hS
      obtain ⟨p0, p1, p2, p3, p4, p5, p6, p7⟩ := ex_bd1 hg hb0 hS
      obtain ⟨⟨q0, q1, q2, q3, q4⟩, ⟨z0, z1, z2, z3, z4⟩, hz1, hbl⟩ := ex_cells hS
      obtain ⟨⟨f0, f1, f2, f3, f4⟩, ⟨y0, y1, y2, y3, y4⟩⟩ := ex_froz hS
      clear hS
      go_wp2_with fail
      go_quiet (fail)
      go_wp2_with fail
      clear p0 p1 p2 p3 p4 p5 p6 p7 q0 z0 f0 y0 q1 z1 f1 y1 q2 z2 f2 y2 q3 z3 f3 y3 q4 z4 f4 y4 hz1 hbl
      go_loopw [6] (fun i wr => ∃ (k : Nat) (z : Int), k ≤ 4 ∧ i = .int .i64 z ∧ z = k ∧ ExW w (if k > 0 then a + x.a else a) (if k > 1 then b + x.b else b) (if k > 2 then c + x.c else c) (if k > 3 then d + x.d else d) t wr) (fun i _ => 4 - (intOf i).toNat)
      case atStart => exact ⟨0, 0, by omega, rfl, rfl, by repeat' (first | exact hS'.out | apply ex_drew | apply ex_drewN)⟩
      case round =>
        obtain ⟨k, z, hk, rfl, hz, hS⟩ := hrel
        have hk5 : k = 0 ∨ k = 1 ∨ k = 2 ∨ k = 3 ∨ k = 4 := by omega
        rcases hk5 with rfl | rfl | rfl | rfl | rfl
        · obtain rfl : z = 0 := by omega
          clear hz
          have hS : ExW w (a) (b) (c) (d) (t) _ := hS
          have hS2 := Lib.hid hS
          obtain ⟨p0, p1, p2, p3, p4, p5, p6, p7⟩ := ex_bd1 hg hb0 hS
          obtain ⟨⟨q0, q1, q2, q3, q4⟩, ⟨z0, z1, z2, z3, z4⟩, hz1, hbl⟩ := ex_cells hS
          obtain ⟨⟨f0, f1, f2, f3, f4⟩, ⟨y0, y1, y2, y3, y4⟩⟩ := ex_froz hS
          clear hS
          obtain ⟨m1, m2, m3, m4, m5, m6, m7, m8⟩ := hm
          obtain ⟨n1, n2, n3, n4, n5, n6, n7, n8⟩ := hx
          go_wp2_with fail
          go_region
          go_wp2_with fail
          go_roundw
          case rel =>
            refine ⟨1, 1, by omega, rfl, rfl, ?_⟩
            show ExW w (a + x.a) (b) (c) (d) t _
            repeat' (first | exact hS2.out | exact ex_st0 hS2.out | apply ex_drew | apply ex_drewN | apply ex_st0)
          case measure => simp [intOf]
        · obtain rfl : z = 1 := by omega
          clear hz
          have hS : ExW w (a + x.a) (b) (c) (d) (t) _ := hS
          have hS2 := Lib.hid hS
          obtain ⟨p0, p1, p2, p3, p4, p5, p6, p7⟩ := ex_bd1 hg hb0 hS
          obtain ⟨⟨q0, q1, q2, q3, q4⟩, ⟨z0, z1, z2, z3, z4⟩, hz1, hbl⟩ := ex_cells hS
          obtain ⟨⟨f0, f1, f2, f3, f4⟩, ⟨y0, y1, y2, y3, y4⟩⟩ := ex_froz hS
          clear hS
          obtain ⟨m1, m2, m3, m4, m5, m6, m7, m8⟩ := hm
          obtain ⟨n1, n2, n3, n4, n5, n6, n7, n8⟩ := hx
          go_wp2_with fail
          go_region
          go_wp2_with fail
          go_roundw
          case rel =>
            refine ⟨2, 2, by omega, rfl, rfl, ?_⟩
            show ExW w (a + x.a) (b + x.b) (c) (d) t _
            repeat' (first | exact hS2.out | exact ex_st1 hS2.out | apply ex_drew | apply ex_drewN | apply ex_st1)
          case measure => simp [intOf]
        · obtain rfl : z = 2 := by omega
          clear hz
          have hS : ExW w (a + x.a) (b + x.b) (c) (d) (t) _ := hS
          have hS2 := Lib.hid hS
          obtain ⟨p0, p1, p2, p3, p4, p5, p6, p7⟩ := ex_bd1 hg hb0 hS
          obtain ⟨⟨q0, q1, q2, q3, q4⟩, ⟨z0, z1, z2, z3, z4⟩, hz1, hbl⟩ := ex_cells hS
          obtain ⟨⟨f0, f1, f2, f3, f4⟩, ⟨y0, y1, y2, y3, y4⟩⟩ := ex_froz hS
          clear hS
          obtain ⟨m1, m2, m3, m4, m5, m6, m7, m8⟩ := hm
          obtain ⟨n1, n2, n3, n4, n5, n6, n7, n8⟩ := hx
          go_wp2_with fail
          go_region
          go_wp2_with fail
          go_roundw
          case rel =>
            refine ⟨3, 3, by omega, rfl, rfl, ?_⟩
            show ExW w (a + x.a) (b + x.b) (c + x.c) (d) t _
            repeat' (first | exact hS2.out | exact ex_st2 hS2.out | apply ex_drew | apply ex_drewN | apply ex_st2)
          case measure => simp [intOf]
        · obtain rfl : z = 3 := by omega
          clear hz
          have hS : ExW w (a + x.a) (b + x.b) (c + x.c) (d) (t) _ := hS
          have hS2 := Lib.hid hS
          obtain ⟨p0, p1, p2, p3, p4, p5, p6, p7⟩ := ex_bd1 hg hb0 hS
          obtain ⟨⟨q0, q1, q2, q3, q4⟩, ⟨z0, z1, z2, z3, z4⟩, hz1, hbl⟩ := ex_cells hS
          obtain ⟨⟨f0, f1, f2, f3, f4⟩, ⟨y0, y1, y2, y3, y4⟩⟩ := ex_froz hS
          clear hS
          obtain ⟨m1, m2, m3, m4, m5, m6, m7, m8⟩ := hm
          obtain ⟨n1, n2, n3, n4, n5, n6, n7, n8⟩ := hx
          go_wp2_with fail
          go_region
          go_wp2_with fail
          go_roundw
          case rel =>
            refine ⟨4, 4, by omega, rfl, rfl, ?_⟩
            show ExW w (a + x.a) (b + x.b) (c + x.c) (d + x.d) t _
            repeat' (first | exact hS2.out | exact ex_st3 hS2.out | apply ex_drew | apply ex_drewN | apply ex_st3)
          case measure => simp [intOf]
        · obtain rfl : z = 4 := by omega
          clear hz
          have hS : ExW w (a + x.a) (b + x.b) (c + x.c) (d + x.d) (t) _ := hS
          have hS2 := Lib.hid hS
          obtain ⟨p0, p1, p2, p3, p4, p5, p6, p7⟩ := ex_bd1 hg hb0 hS
          obtain ⟨⟨q0, q1, q2, q3, q4⟩, ⟨z0, z1, z2, z3, z4⟩, hz1, hbl⟩ := ex_cells hS
          obtain ⟨⟨f0, f1, f2, f3, f4⟩, ⟨y0, y1, y2, y3, y4⟩⟩ := ex_froz hS
          clear hS
          obtain ⟨m1, m2, m3, m4, m5, m6, m7, m8⟩ := hm
          obtain ⟨n1, n2, n3, n4, n5, n6, n7, n8⟩ := hx
          go_wp2_with fail
          exact bodyPost_ret (v := .agg #[.int .i64 (a + x.a), .int .i64 (b + x.b), .int .i64 (c + x.c), .int .i64 (d + x.d), .int .i64 (x.t)]) (by simp [results, Tryd.results21, go_sem, *]) rfl ⟨rfl, by (first | exact ex_end (ex_st4 (ex_drew hS2.out)) | exact ex_end (ex_drew (ex_st4 hS2.out)) | exact ex_end (ex_st4 hS2.out))⟩
set_option maxRecDepth 100000 in
set_option maxHeartbeats 4000000 in
theorem under1_1 (g : Nat) (x : Bd) (a b c d t : Int) (w : World) (hg : g < w.heap.size) (hb0 : BdAt w g 0 x) (hm : sm5 a b c d) (e0 : (x.v == t) = false) :
    Calls Tryd.prog 21 #[.slice (some ⟨g, 0, none⟩) 1 1, .agg #[.int .i64 a, .int .i64 b, .int .i64 c, .int .i64 d, .int .i64 t]] w fun e w' => e = .returned (.agg #[.int .i64 (a), .int .i64 (b), .int .i64 (c), .int .i64 (d), .int .i64 (t)]) ∧ ∃ nq : Nat, w' = ((w.alloc (.cells #[.int .i64 (a), .int .i64 (b), .int .i64 (c), .int .i64 (d), .int .i64 (t)] 24)).alloc (.cells #[.int .i64 (a), .int .i64 (b), .int .i64 (c), .int .i64 (d), .int .i64 (t)] 24)).drewN nq := by
  go_enter Tryd.func21, Tryd.ntmps21
  go_wp2_with fail
  go_loopw [5] (fun i wr => ∃ (k : Nat) (z : Int), k ≤ 1 ∧ i = .int .i64 z ∧ z = k ∧ ExW w a b c d t wr) (fun i _ => 1 - (intOf i).toNat)
  case atStart => exact ⟨0, 0, by omega, rfl, rfl, 0, rfl⟩
  case round =>
    obtain ⟨k, z, hk, rfl, hz, hS⟩ := hrel
    have hk5 : k = 0 ∨ k = 1 := by omega
    rcases hk5 with rfl | rfl
    · obtain rfl : z = 0 := by omega
      clear hz
      have hS' := Lib.hid hS
      obtain ⟨p0, p1, p2, p3, p4, p5, p6, p7⟩ := ex_bd1 hg hb0 hS
      obtain ⟨⟨q0, q1, q2, q3, q4⟩, ⟨z0, z1, z2, z3, z4⟩, hz1, hbl⟩ := ex_cells hS
      obtain ⟨⟨f0, f1, f2, f3, f4⟩, ⟨y0, y1, y2, y3, y4⟩⟩ := ex_froz hS
      clear hS
      go_wp2_with fail
      go_quiet (fail)
      go_wp2_with fail
      go_roundw
      case rel => exact ⟨1, 1, by omega, rfl, rfl, by repeat' (first | exact hS'.out | apply ex_drew | apply ex_drewN)⟩
      case measure => simp [intOf]
    · obtain rfl : z = 1 := by omega
      clear hz
      have hS' := Lib.hid hS
      obtain ⟨p0, p1, p2, p3, p4, p5, p6, p7⟩ := ex_bd1 hg hb0 hS
      obtain ⟨⟨q0, q1, q2, q3, q4⟩, ⟨z0, z1, z2, z3, z4⟩, hz1, hbl⟩ := ex_cells hS
      obtain ⟨⟨f0, f1, f2, f3, f4⟩, ⟨y0, y1, y2, y3, y4⟩⟩ := ex_froz hS
      clear hS
      go_wp2_with fail
      exact bodyPost_ret (v := .agg #[.int .i64 (a), .int .i64 (b), .int .i64 (c), .int .i64 (d), .int .i64 (t)]) (by simp [results, Tryd.results21, go_sem, *]) rfl ⟨rfl, ex_end hS'.out⟩
set_option maxRecDepth 100000 in
set_option maxHeartbeats 4000000 in
theorem under2_0 (g : Nat) (x y : Bd) (a b c d t : Int) (w : World) (hg : g < w.heap.size) (hb0 : BdAt w g 0 x) (hb1 : BdAt w g 1 y) (hm : sm5 a b c d) (hx : sm5 x.a x.b x.c x.d) (e0 : (x.v == t) = true) :
    Calls Tryd.prog 21 #[.slice (some ⟨g, 0, none⟩) 2 2, .agg #[.int .i64 a, .int .i64 b, .int .i64 c, .int .i64 d, .int .i64 t]] w fun e w' => e = .returned (.agg #[.int .i64 (a + x.a), .int .i64 (b + x.b), .int .i64 (c + x.c), .int .i64 (d + x.d), .int .i64 (x.t)]) ∧ ∃ nq : Nat, w' = ((w.alloc (.cells #[.int .i64 (a + x.a), .int .i64 (b + x.b), .int .i64 (c + x.c), .int .i64 (d + x.d), .int .i64 (x.t)] 24)).alloc (.cells #[.int .i64 (a + x.a), .int .i64 (b + x.b), .int .i64 (c + x.c), .int .i64 (d + x.d), .int .i64 (x.t)] 24)).drewN nq := by
  go_enter Tryd.func21, Tryd.ntmps21
  go_wp2_with fail
  go_loopw [5] (fun i wr => ∃ (k : Nat) (z : Int), k ≤ 0 ∧ i = .int .i64 z ∧ z = k ∧ ExW w a b c d t wr) (fun i _ => 0 - (intOf i).toNat)
  case atStart => exact ⟨0, 0, by omega, rfl, rfl, 0, rfl⟩
  case round =>
    obtain ⟨k, z, hk, rfl, hz, hS⟩ := hrel
    have hk5 : k = 0 := by omega
    rcases hk5 with rfl
    · obtain rfl : z = 0 := by omega
      clear hz
      have hS' := Lib.hid hS
      obtain ⟨p0, p1, p2, p3, p4, p5, p6, p7, p8, p9, p10, p11, p12, p13, p14, p15⟩ := ex_bd2 hg hb0 hb1 hS
      obtain ⟨⟨q0, q1, q2, q3, q4⟩, ⟨z0, z1, z2, z3, z4⟩, hz1, hbl⟩ := ex_cells hS
      obtain ⟨⟨f0, f1, f2, f3, f4⟩, ⟨y0, y1, y2, y3, y4⟩⟩ := ex_froz hS
      clear hS
      go_wp2_with fail
      go_quiet (fail)
      go_wp2_with fail
      clear p0 p1 p2 p3 p4 p5 p6 p7 p8 p9 p10 p11 p12 p13 p14 p15 q0 z0 f0 y0 q1 z1 f1 y1 q2 z2 f2 y2 q3 z3 f3 y3 q4 z4 f4 y4 hz1 hbl
      go_loopw [6] (fun i wr => ∃ (k : Nat) (z : Int), k ≤ 4 ∧ i = .int .i64 z ∧ z = k ∧ ExW w (if k > 0 then a + x.a else a) (if k > 1 then b + x.b else b) (if k > 2 then c + x.c else c) (if k > 3 then d + x.d else d) t wr) (fun i _ => 4 - (intOf i).toNat)
      case atStart => exact ⟨0, 0, by omega, rfl, rfl, by repeat' (first | exact hS'.out | apply ex_drew | apply ex_drewN)⟩
      case round =>
        obtain ⟨k, z, hk, rfl, hz, hS⟩ := hrel
        have hk5 : k = 0 ∨ k = 1 ∨ k = 2 ∨ k = 3 ∨ k = 4 := by omega
        rcases hk5 with rfl | rfl | rfl | rfl | rfl
        · obtain rfl : z = 0 := by omega
          clear hz
          have hS : ExW w (a) (b) (c) (d) (t) _ := hS
          have hS2 := Lib.hid hS
          obtain ⟨p0, p1, p2, p3, p4, p5, p6, p7, p8, p9, p10, p11, p12, p13, p14, p15⟩ := ex_bd2 hg hb0 hb1 hS
          obtain ⟨⟨q0, q1, q2, q3, q4⟩, ⟨z0, z1, z2, z3, z4⟩, hz1, hbl⟩ := ex_cells hS
          obtain ⟨⟨f0, f1, f2, f3, f4⟩, ⟨y0, y1, y2, y3, y4⟩⟩ := ex_froz hS
          clear hS
          obtain ⟨m1, m2, m3, m4, m5, m6, m7, m8⟩ := hm
          obtain ⟨n1, n2, n3, n4, n5, n6, n7, n8⟩ := hx
          go_wp2_with fail
          go_region
          go_wp2_with fail
          go_roundw
          case rel =>
            refine ⟨1, 1, by omega, rfl, rfl, ?_⟩
            show ExW w (a + x.a) (b) (c) (d) t _
            repeat' (first | exact hS2.out | exact ex_st0 hS2.out | apply ex_drew | apply ex_drewN | apply ex_st0)
          case measure => simp [intOf]
        · obtain rfl : z = 1 := by omega
          clear hz
          have hS : ExW w (a + x.a) (b) (c) (d) (t) _ := hS
          have hS2 := Lib.hid hS
          obtain ⟨p0, p1, p2, p3, p4, p5, p6, p7, p8, p9, p10, p11, p12, p13, p14, p15⟩ := ex_bd2 hg hb0 hb1 hS
          obtain ⟨⟨q0, q1, q2, q3, q4⟩, ⟨z0, z1, z2, z3, z4⟩, hz1, hbl⟩ := ex_cells hS
          obtain ⟨⟨f0, f1, f2, f3, f4⟩, ⟨y0, y1, y2, y3, y4⟩⟩ := ex_froz hS
          clear hS
          obtain ⟨m1, m2, m3, m4, m5, m6, m7, m8⟩ := hm
          obtain ⟨n1, n2, n3, n4, n5, n6, n7, n8⟩ := hx
          go_wp2_with fail
          go_region
          go_wp2_with fail
          go_roundw
          case rel =>
            refine ⟨2, 2, by omega, rfl, rfl, ?_⟩
            show ExW w (a + x.a) (b + x.b) (c) (d) t _
            repeat' (first | exact hS2.out | exact ex_st1 hS2.out | apply ex_drew | apply ex_drewN | apply ex_st1)
          case measure => simp [intOf]
        · obtain rfl : z = 2 := by omega
          clear hz
          have hS : ExW w (a + x.a) (b + x.b) (c) (d) (t) _ := hS
          have hS2 := Lib.hid hS
          obtain ⟨p0, p1, p2, p3, p4, p5, p6, p7, p8, p9, p10, p11, p12, p13, p14, p15⟩ := ex_bd2 hg hb0 hb1 hS
          obtain ⟨⟨q0, q1, q2, q3, q4⟩, ⟨z0, z1, z2, z3, z4⟩, hz1, hbl⟩ := ex_cells hS
          obtain ⟨⟨f0, f1, f2, f3, f4⟩, ⟨y0, y1, y2, y3, y4⟩⟩ := ex_froz hS
          clear hS
          obtain ⟨m1, m2, m3, m4, m5, m6, m7, m8⟩ := hm
          obtain ⟨n1, n2, n3, n4, n5, n6, n7, n8⟩ := hx
          go_wp2_with fail
          go_region
          go_wp2_with fail
          go_roundw
          case rel =>
            refine ⟨3, 3, by omega, rfl, rfl, ?_⟩
            show ExW w (a + x.a) (b + x.b) (c + x.c) (d) t _
            repeat' (first | exact hS2.out | exact ex_st2 hS2.out | apply ex_drew | apply ex_drewN | apply ex_st2)
          case measure => simp [intOf]
        · obtain rfl : z = 3 := by omega
          clear hz
          have hS : ExW w (a + x.a) (b + x.b) (c + x.c) (d) (t) _ := hS
          have hS2 := Lib.hid hS
          obtain ⟨p0, p1, p2, p3, p4, p5, p6, p7, p8, p9, p10, p11, p12, p13, p14, p15⟩ := ex_bd2 hg hb0 hb1 hS
          obtain ⟨⟨q0, q1, q2, q3, q4⟩, ⟨z0, z1, z2, z3, z4⟩, hz1, hbl⟩ := ex_cells hS
          obtain ⟨⟨f0, f1, f2, f3, f4⟩, ⟨y0, y1, y2, y3, y4⟩⟩ := ex_froz hS
          clear hS
          obtain ⟨m1, m2, m3, m4, m5, m6, m7, m8⟩ := hm
          obtain ⟨n1, n2, n3, n4, n5, n6, n7, n8⟩ := hx
          go_wp2_with fail
          go_region
          go_wp2_with fail
          go_roundw
          case rel =>
            refine ⟨4, 4, by omega, rfl, rfl, ?_⟩
            show ExW w (a + x.a) (b + x.b) (c + x.c) (d + x.d) t _
            repeat' (first | exact hS2.out | exact ex_st3 hS2.out | apply ex_drew | apply ex_drewN | apply ex_st3)
          case measure => simp [intOf]
        · obtain rfl : z = 4 := by omega
          clear hz
          have hS : ExW w (a + x.a) (b + x.b) (c + x.c) (d + x.d) (t) _ := hS
          have hS2 := Lib.hid hS
          obtain ⟨p0, p1, p2, p3, p4, p5, p6, p7, p8, p9, p10, p11, p12, p13, p14, p15⟩ := ex_bd2 hg hb0 hb1 hS
          obtain ⟨⟨q0, q1, q2, q3, q4⟩, ⟨z0, z1, z2, z3, z4⟩, hz1, hbl⟩ := ex_cells hS
          obtain ⟨⟨f0, f1, f2, f3, f4⟩, ⟨y0, y1, y2, y3, y4⟩⟩ := ex_froz hS
          clear hS
          obtain ⟨m1, m2, m3, m4, m5, m6, m7, m8⟩ := hm
          obtain ⟨n1, n2, n3, n4, n5, n6, n7, n8⟩ := hx
          go_wp2_with fail
          exact bodyPost_ret (v := .agg #[.int .i64 (a + x.a), .int .i64 (b + x.b), .int .i64 (c + x.c), .int .i64 (d + x.d), .int .i64 (x.t)]) (by simp [results, Tryd.results21, go_sem, *]) rfl ⟨rfl, by (first | exact ex_end (ex_st4 (ex_drew hS2.out)) | exact ex_end (ex_drew (ex_st4 hS2.out)) | exact ex_end (ex_st4 hS2.out))⟩
set_option maxRecDepth 100000 in
set_option maxHeartbeats 4000000 in
theorem under2_1 (g : Nat) (x y : Bd) (a b c d t : Int) (w : World) (hg : g < w.heap.size) (hb0 : BdAt w g 0 x) (hb1 : BdAt w g 1 y) (hm : sm5 a b c d) (hx : sm5 y.a y.b y.c y.d) (e0 : (x.v == t) = false) (e1 : (y.v == t) = true) :
    Calls Tryd.prog 21 #[.slice (some ⟨g, 0, none⟩) 2 2, .agg #[.int .i64 a, .int .i64 b, .int .i64 c, .int .i64 d, .int .i64 t]] w fun e w' => e = .returned (.agg #[.int .i64 (a + y.a), .int .i64 (b + y.b), .int .i64 (c + y.c), .int .i64 (d + y.d), .int .i64 (y.t)]) ∧ ∃ nq : Nat, w' = ((w.alloc (.cells #[.int .i64 (a + y.a), .int .i64 (b + y.b), .int .i64 (c + y.c), .int .i64 (d + y.d), .int .i64 (y.t)] 24)).alloc (.cells #[.int .i64 (a + y.a), .int .i64 (b + y.b), .int .i64 (c + y.c), .int .i64 (d + y.d), .int .i64 (y.t)] 24)).drewN nq := by
  go_enter Tryd.func21, Tryd.ntmps21
  go_wp2_with fail
  go_loopw [5] (fun i wr => ∃ (k : Nat) (z : Int), k ≤ 1 ∧ i = .int .i64 z ∧ z = k ∧ ExW w a b c d t wr) (fun i _ => 1 - (intOf i).toNat)
  case atStart => exact ⟨0, 0, by omega, rfl, rfl, 0, rfl⟩
  case round =>
    obtain ⟨k, z, hk, rfl, hz, hS⟩ := hrel
    have hk5 : k = 0 ∨ k = 1 := by omega
    rcases hk5 with rfl | rfl
    · obtain rfl : z = 0 := by omega
      clear hz
      have hS' := Lib.hid hS
      obtain ⟨p0, p1, p2, p3, p4, p5, p6, p7, p8, p9, p10, p11, p12, p13, p14, p15⟩ := ex_bd2 hg hb0 hb1 hS
      obtain ⟨⟨q0, q1, q2, q3, q4⟩, ⟨z0, z1, z2, z3, z4⟩, hz1, hbl⟩ := ex_cells hS
      obtain ⟨⟨f0, f1, f2, f3, f4⟩, ⟨y0, y1, y2, y3, y4⟩⟩ := ex_froz hS
      clear hS
      go_wp2_with fail
      go_quiet (fail)
      go_wp2_with fail
      go_roundw
      case rel => exact ⟨1, 1, by omega, rfl, rfl, by repeat' (first | exact hS'.out | apply ex_drew | apply ex_drewN)⟩
      case measure => simp [intOf]
    · obtain rfl : z = 1 := by omega
      clear hz
      have hS' := Lib.hid hS
      obtain ⟨p0, p1, p2, p3, p4, p5, p6, p7, p8, p9, p10, p11, p12, p13, p14, p15⟩ := ex_bd2 hg hb0 hb1 hS
      obtain ⟨⟨q0, q1, q2, q3, q4⟩, ⟨z0, z1, z2, z3, z4⟩, hz1, hbl⟩ := ex_cells hS
      obtain ⟨⟨f0, f1, f2, f3, f4⟩, ⟨y0, y1, y2, y3, y4⟩⟩ := ex_froz hS
      clear hS
      go_wp2_with fail
      go_quiet (fail)
      go_wp2_with fail
      clear p0 p1 p2 p3 p4 p5 p6 p7 p8 p9 p10 p11 p12 p13 p14 p15 q0 z0 f0 y0 q1 z1 f1 y1 q2 z2 f2 y2 q3 z3 f3 y3 q4 z4 f4 y4 hz1 hbl
      go_loopw [6] (fun i wr => ∃ (k : Nat) (z : Int), k ≤ 4 ∧ i = .int .i64 z ∧ z = k ∧ ExW w (if k > 0 then a + y.a else a) (if k > 1 then b + y.b else b) (if k > 2 then c + y.c else c) (if k > 3 then d + y.d else d) t wr) (fun i _ => 4 - (intOf i).toNat)
      case atStart => exact ⟨0, 0, by omega, rfl, rfl, by repeat' (first | exact hS'.out | apply ex_drew | apply ex_drewN)⟩
      case round =>
        obtain ⟨k, z, hk, rfl, hz, hS⟩ := hrel
        have hk5 : k = 0 ∨ k = 1 ∨ k = 2 ∨ k = 3 ∨ k = 4 := by omega
        rcases hk5 with rfl | rfl | rfl | rfl | rfl
        · obtain rfl : z = 0 := by omega
          clear hz
          have hS : ExW w (a) (b) (c) (d) (t) _ := hS
          have hS2 := Lib.hid hS
          obtain ⟨p0, p1, p2, p3, p4, p5, p6, p7, p8, p9, p10, p11, p12, p13, p14, p15⟩ := ex_bd2 hg hb0 hb1 hS
          obtain ⟨⟨q0, q1, q2, q3, q4⟩, ⟨z0, z1, z2, z3, z4⟩, hz1, hbl⟩ := ex_cells hS
          obtain ⟨⟨f0, f1, f2, f3, f4⟩, ⟨y0, y1, y2, y3, y4⟩⟩ := ex_froz hS
          clear hS
          obtain ⟨m1, m2, m3, m4, m5, m6, m7, m8⟩ := hm
          obtain ⟨n1, n2, n3, n4, n5, n6, n7, n8⟩ := hx
          go_wp2_with fail
          go_region
          go_wp2_with fail
          go_roundw
          case rel =>
            refine ⟨1, 1, by omega, rfl, rfl, ?_⟩
            show ExW w (a + y.a) (b) (c) (d) t _
            repeat' (first | exact hS2.out | exact ex_st0 hS2.out | apply ex_drew | apply ex_drewN | apply ex_st0)
          case measure => simp [intOf]
        · obtain rfl : z = 1 := by omega
          clear hz
          have hS : ExW w (a + y.a) (b) (c) (d) (t) _ := hS
          have hS2 := Lib.hid hS
          obtain ⟨p0, p1, p2, p3, p4, p5, p6, p7, p8, p9, p10, p11, p12, p13, p14, p15⟩ := ex_bd2 hg hb0 hb1 hS
          obtain ⟨⟨q0, q1, q2, q3, q4⟩, ⟨z0, z1, z2, z3, z4⟩, hz1, hbl⟩ := ex_cells hS
          obtain ⟨⟨f0, f1, f2, f3, f4⟩, ⟨y0, y1, y2, y3, y4⟩⟩ := ex_froz hS
          clear hS
          obtain ⟨m1, m2, m3, m4, m5, m6, m7, m8⟩ := hm
          obtain ⟨n1, n2, n3, n4, n5, n6, n7, n8⟩ := hx
          go_wp2_with fail
          go_region
          go_wp2_with fail
          go_roundw
          case rel =>
            refine ⟨2, 2, by omega, rfl, rfl, ?_⟩
            show ExW w (a + y.a) (b + y.b) (c) (d) t _
            repeat' (first | exact hS2.out | exact ex_st1 hS2.out | apply ex_drew | apply ex_drewN | apply ex_st1)
          case measure => simp [intOf]
        · obtain rfl : z = 2 := by omega
          clear hz
          have hS : ExW w (a + y.a) (b + y.b) (c) (d) (t) _ := hS
          have hS2 := Lib.hid hS
          obtain ⟨p0, p1, p2, p3, p4, p5, p6, p7, p8, p9, p10, p11, p12, p13, p14, p15⟩ := ex_bd2 hg hb0 hb1 hS
          obtain ⟨⟨q0, q1, q2, q3, q4⟩, ⟨z0, z1, z2, z3, z4⟩, hz1, hbl⟩ := ex_cells hS
          obtain ⟨⟨f0, f1, f2, f3, f4⟩, ⟨y0, y1, y2, y3, y4⟩⟩ := ex_froz hS
          clear hS
          obtain ⟨m1, m2, m3, m4, m5, m6, m7, m8⟩ := hm
          obtain ⟨n1, n2, n3, n4, n5, n6, n7, n8⟩ := hx
          go_wp2_with fail
          go_region
          go_wp2_with fail
          go_roundw
          case rel =>
            refine ⟨3, 3, by omega, rfl, rfl, ?_⟩
            show ExW w (a + y.a) (b + y.b) (c + y.c) (d) t _
            repeat' (first | exact hS2.out | exact ex_st2 hS2.out | apply ex_drew | apply ex_drewN | apply ex_st2)
          case measure => simp [intOf]
        · obtain rfl : z = 3 := by omega
          clear hz
          have hS : ExW w (a + y.a) (b + y.b) (c + y.c) (d) (t) _ := hS
          have hS2 := Lib.hid hS
          obtain ⟨p0, p1, p2, p3, p4, p5, p6, p7, p8, p9, p10, p11, p12, p13, p14, p15⟩ := ex_bd2 hg hb0 hb1 hS
          obtain ⟨⟨q0, q1, q2, q3, q4⟩, ⟨z0, z1, z2, z3, z4⟩, hz1, hbl⟩ := ex_cells hS
          obtain ⟨⟨f0, f1, f2, f3, f4⟩, ⟨y0, y1, y2, y3, y4⟩⟩ := ex_froz hS
          clear hS
          obtain ⟨m1, m2, m3, m4, m5, m6, m7, m8⟩ := hm
          obtain ⟨n1, n2, n3, n4, n5, n6, n7, n8⟩ := hx
          go_wp2_with fail
          go_region
          go_wp2_with fail
          go_roundw
          case rel =>
            refine ⟨4, 4, by omega, rfl, rfl, ?_⟩
            show ExW w (a + y.a) (b + y.b) (c + y.c) (d + y.d) t _
            repeat' (first | exact hS2.out | exact ex_st3 hS2.out | apply ex_drew | apply ex_drewN | apply ex_st3)
          case measure => simp [intOf]
        · obtain rfl : z = 4 := by omega
          clear hz
          have hS : ExW w (a + y.a) (b + y.b) (c + y.c) (d + y.d) (t) _ := hS
          have hS2 := Lib.hid hS
          obtain ⟨p0, p1, p2, p3, p4, p5, p6, p7, p8, p9, p10, p11, p12, p13, p14, p15⟩ := ex_bd2 hg hb0 hb1 hS
          obtain ⟨⟨q0, q1, q2, q3, q4⟩, ⟨z0, z1, z2, z3, z4⟩, hz1, hbl⟩ := ex_cells hS
          obtain ⟨⟨f0, f1, f2, f3, f4⟩, ⟨y0, y1, y2, y3, y4⟩⟩ := ex_froz hS
          clear hS
          obtain ⟨m1, m2, m3, m4, m5, m6, m7, m8⟩ := hm
          obtain ⟨n1, n2, n3, n4, n5, n6, n7, n8⟩ := hx
          go_wp2_with fail
          exact bodyPost_ret (v := .agg #[.int .i64 (a + y.a), .int .i64 (b + y.b), .int .i64 (c + y.c), .int .i64 (d + y.d), .int .i64 (y.t)]) (by simp [results, Tryd.results21, go_sem, *]) rfl ⟨rfl, by (first | exact ex_end (ex_st4 (ex_drew hS2.out)) | exact ex_end (ex_drew (ex_st4 hS2.out)) | exact ex_end (ex_st4 hS2.out))⟩
end Go.Proofs.YtlbopoidjnaokaaDoor
