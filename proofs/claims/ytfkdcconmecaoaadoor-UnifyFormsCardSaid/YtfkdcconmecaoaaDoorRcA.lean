/- The reference's rowOf. -/
import Derived.Test.YtfkdcconmecaoaaDoorSbH
import Derived.Test.YtfkdcconmecaoaaDoorInO
import Derived.Test.YtfkdcconmecaoaaDoorRcP
/- The reference's rowOf. -/
namespace Go.Proofs.YtfkdcconmecaoaaDoor
open Go.RowKit Go.Maps
set_option linter.unusedVariables false
set_option linter.unusedSimpArgs false

def roV (xs : List Bn) (r : Rw) : Rw := if (putR (rhB xs) r).cnt then putR (rhB xs) r else rw0
def RoPost (xs : List Bn) (r : Rw) (w : World) (e : Ending) (w' : World) : Prop := e = .returned (.tuple #[rwV (roV xs r), .bool (putR (rhB xs) r).cnt]) ∧ Below w.heap.size w w'
theorem putR_none {ρ : Int → Option Rw} {r : Rw} (h : r.t < 0 ∨ ρ r.t = none) : putR ρ r = r := by
  unfold putR
  rcases h with h | h
  · rw [if_pos h]
  · rw [h]; split <;> rfl
theorem fst_more {xs : List Bn} {ir : Bool} {v : Int} {k i : Nat} (h : fst (xs.take k) ir v = some i) : fst xs ir v = some i := by
  have : fst (xs.take k ++ xs.drop k) ir v = some i := by
    unfold fst at *
    rw [List.findIdx?_append, h]; rfl
  rwa [List.take_append_drop] at this
theorem rhB_at {xs : List Bn} {j : Nat} (hj : j < xs.length) {v : Int} (hf : fst (xs.take j) true v = none) (hir : (xs.getD j bn0).ir = true) (hv : (xs.getD j bn0).v = v) : rhB xs v = some (xs.getD j bn0).r := by
  have h1 : fst (xs.take (j + 1)) true v = some j := by rw [fst_take hj, hf, if_pos ⟨hir, hv⟩]; rfl
  unfold rhB
  rw [fst_more h1]; rfl
theorem rhB_no {xs : List Bn} {v : Int} (hf : fst xs true v = none) : rhB xs v = none := by unfold rhB; rw [hf]; rfl
/-- the memory of rowOf's inner loop. -/
def RoI (w wr : World) (r : Rw) (x : Bn) (n0 n1 n2 n3 : Int) (W : World) : Prop :=
  RC (wr.heap.size + 1) n0 n1 n2 n3 x.r.t W ∧ RowAt W w.heap.size r ∧ (wr.heap.size < W.heap.size ∧ W.cell? ⟨wr.heap.size, 3, none⟩ = some (.int .i64 x.r.a) ∧ W.cell? ⟨wr.heap.size, 4, none⟩ = some (.int .i64 x.r.b) ∧ W.cell? ⟨wr.heap.size, 5, none⟩ = some (.int .i64 x.r.c) ∧ W.cell? ⟨wr.heap.size, 6, none⟩ = some (.int .i64 x.r.d)) ∧
  RC (w.heap.size + 1) 0 0 0 0 0 W ∧ Below w.heap.size w W ∧ w.heap.size + 1 < wr.heap.size
theorem roRow {w wr W : World} {r : Rw} {k : Nat} {v : Value} (h : RowAt W w.heap.size r) (hw : w.heap.size + 1 < wr.heap.size) : RowAt (W.setCell ⟨wr.heap.size + 1, k, none⟩ v) w.heap.size r := by
  obtain ⟨h0, h1, h2, h3, h4, h5⟩ := h
  exact ⟨by simpa using h0, setO h1 (by first | (simp; done) | (simp; omega)), setO h2 (by first | (simp; done) | (simp; omega)), setO h3 (by first | (simp; done) | (simp; omega)), setO h4 (by first | (simp; done) | (simp; omega)), setO h5 (by first | (simp; done) | (simp; omega))⟩
theorem roC {w wr W : World} {n0 n1 n2 n3 t : Int} {k : Nat} {v : Value} (h : RC (w.heap.size + 1) n0 n1 n2 n3 t W) (hw : w.heap.size + 1 < wr.heap.size) : RC (w.heap.size + 1) n0 n1 n2 n3 t (W.setCell ⟨wr.heap.size + 1, k, none⟩ v) := by
  obtain ⟨h0, h1, h2, h3, h4, h5, h6⟩ := h
  exact ⟨setO h0 (by first | (simp; done) | (simp; omega)), setO h1 (by first | (simp; done) | (simp; omega)), setO h2 (by first | (simp; done) | (simp; omega)), setO h3 (by first | (simp; done) | (simp; omega)), setO h4 (by first | (simp; done) | (simp; omega)), fun o => by rw [World.frozen?_setCell]; exact h5 o, by simpa using h6⟩
theorem roB {wr W : World} {x : Bn} {k : Nat} {v : Value} (h : wr.heap.size < W.heap.size ∧ W.cell? ⟨wr.heap.size, 3, none⟩ = some (.int .i64 x.r.a) ∧ W.cell? ⟨wr.heap.size, 4, none⟩ = some (.int .i64 x.r.b) ∧ W.cell? ⟨wr.heap.size, 5, none⟩ = some (.int .i64 x.r.c) ∧ W.cell? ⟨wr.heap.size, 6, none⟩ = some (.int .i64 x.r.d)) :
    wr.heap.size < (W.setCell ⟨wr.heap.size + 1, k, none⟩ v).heap.size ∧ (W.setCell ⟨wr.heap.size + 1, k, none⟩ v).cell? ⟨wr.heap.size, 3, none⟩ = some (.int .i64 x.r.a) ∧ (W.setCell ⟨wr.heap.size + 1, k, none⟩ v).cell? ⟨wr.heap.size, 4, none⟩ = some (.int .i64 x.r.b) ∧ (W.setCell ⟨wr.heap.size + 1, k, none⟩ v).cell? ⟨wr.heap.size, 5, none⟩ = some (.int .i64 x.r.c) ∧ (W.setCell ⟨wr.heap.size + 1, k, none⟩ v).cell? ⟨wr.heap.size, 6, none⟩ = some (.int .i64 x.r.d) := by
  obtain ⟨h0, h1, h2, h3, h4⟩ := h
  exact ⟨by simpa using h0, setO h1 (by simp), setO h2 (by simp), setO h3 (by simp), setO h4 (by simp)⟩
theorem RoI.set0 {w wr W : World} {r : Rw} {x : Bn} {n0 n1 n2 n3 v : Int} (h : RoI w wr r x n0 n1 n2 n3 W) : RoI w wr r x v n1 n2 n3 (W.setCell ⟨wr.heap.size + 1, 0, none⟩ (.int .i64 v)) := by
  obtain ⟨h1, h2, h3, h4, h5, h6⟩ := h
  exact ⟨h1.set0, roRow h2 h6, roB h3, roC h4 h6, h5.setCell (by show w.heap.size ≤ wr.heap.size + 1; omega) _, h6⟩
theorem RoI.set1 {w wr W : World} {r : Rw} {x : Bn} {n0 n1 n2 n3 v : Int} (h : RoI w wr r x n0 n1 n2 n3 W) : RoI w wr r x n0 v n2 n3 (W.setCell ⟨wr.heap.size + 1, 1, none⟩ (.int .i64 v)) := by
  obtain ⟨h1, h2, h3, h4, h5, h6⟩ := h
  exact ⟨h1.set1, roRow h2 h6, roB h3, roC h4 h6, h5.setCell (by show w.heap.size ≤ wr.heap.size + 1; omega) _, h6⟩
theorem RoI.set2 {w wr W : World} {r : Rw} {x : Bn} {n0 n1 n2 n3 v : Int} (h : RoI w wr r x n0 n1 n2 n3 W) : RoI w wr r x n0 n1 v n3 (W.setCell ⟨wr.heap.size + 1, 2, none⟩ (.int .i64 v)) := by
  obtain ⟨h1, h2, h3, h4, h5, h6⟩ := h
  exact ⟨h1.set2, roRow h2 h6, roB h3, roC h4 h6, h5.setCell (by show w.heap.size ≤ wr.heap.size + 1; omega) _, h6⟩
theorem RoI.set3 {w wr W : World} {r : Rw} {x : Bn} {n0 n1 n2 n3 v : Int} (h : RoI w wr r x n0 n1 n2 n3 W) : RoI w wr r x n0 n1 n2 v (W.setCell ⟨wr.heap.size + 1, 3, none⟩ (.int .i64 v)) := by
  obtain ⟨h1, h2, h3, h4, h5, h6⟩ := h
  exact ⟨h1.set3, roRow h2 h6, roB h3, roC h4 h6, h5.setCell (by show w.heap.size ≤ wr.heap.size + 1; omega) _, h6⟩
theorem RoI.drewN {w wr W : World} {r : Rw} {x : Bn} {n0 n1 n2 n3 : Int} (h : RoI w wr r x n0 n1 n2 n3 W) (n : Nat) : RoI w wr r x n0 n1 n2 n3 (W.drewN n) := by
  obtain ⟨h1, h2, h3, h4, h5, h6⟩ := h
  have hb : Below W.heap.size W (W.drewN n) := below_drewN (Below.refl _ _) n
  exact ⟨h1.below hb, h2.below hb, ⟨h3.1, h3.2⟩, h4.below hb, below_drewN h5 n, h6⟩
theorem RoI.drew {w wr W : World} {r : Rw} {x : Bn} {n0 n1 n2 n3 : Int} (h : RoI w wr r x n0 n1 n2 n3 W) : RoI w wr r x n0 n1 n2 n3 W.drew := by
  obtain ⟨h1, h2, h3, h4, h5, h6⟩ := h
  have hb : Below W.heap.size W W.drew := (Below.refl _ _).drew
  exact ⟨h1.below hb, h2.below hb, ⟨h3.1, h3.2⟩, h4.below hb, h5.drew, h6⟩
set_option maxRecDepth 100000 in
set_option maxHeartbeats 8000000 in
theorem rowOf_sl (b off cp : Nat) (xs : List Bn) (r : Rw) (w : World) (h : Hid (BnSl w b off xs)) (hbs : b < w.heap.size) (hv : bsV xs = true) (hr : r.may = true) :
    Calls Tryd.prog 65 #[.slice (some ⟨b, off, none⟩) xs.length cp, rwV r] w (RoPost xs r w) := by
  have hl : xs.length ≤ 4096 := by unfold bsV at hv; simp only [Bool.and_eq_true, decide_eq_true_eq] at hv; exact hv.1
  have hrm := of_decide_eq_true (show mayR r.a r.b r.c r.d r.t = true from hr)
  have hsame := Lib.hid fun (hh : r.t < 0 ∨ rhB xs r.t = none) => (show (putR (rhB xs) r).cnt = true ∧ roV xs r = r from by
    have e : putR (rhB xs) r = r := putR_none hh
    have c : r.cnt = true := may_cnt hr
    unfold roV; rw [e, c]; exact ⟨rfl, rfl⟩)
  have hmeet := Lib.hid fun (j : Nat) (hj : j < xs.length) (ht : 0 ≤ r.t) (hf : fst (xs.take j) true r.t = none) (hir : (xs.getD j bn0).ir = true) (hvv : (xs.getD j bn0).v = r.t) => (show putR (rhB xs) r = ⟨(xs.getD j bn0).r.a + r.a, (xs.getD j bn0).r.b + r.b, (xs.getD j bn0).r.c + r.c, (xs.getD j bn0).r.d + r.d, (xs.getD j bn0).r.t⟩ ∧ (xs.getD j bn0).r.may = true from by
    have e := rhB_at hj hf hir hvv
    refine ⟨?_, rhB_ok hv _ _ e⟩
    unfold putR; rw [if_neg (by omega), e])
  have hro : roV xs r = if (putR (rhB xs) r).cnt then putR (rhB xs) r else rw0 := rfl
  unfold RoPost
  generalize roV xs r = V at hsame hro ⊢
  generalize hP : putR (rhB xs) r = P at hsame hmeet hro ⊢
  have hro := Lib.hid hro
  have hv := Lib.hid hv
  clear hP hr
  unfold rwV
  go_enter Tryd.func65, Tryd.ntmps65
  go_wp2_with fail
  go_loopw [6] (fun i wr => ∃ j : Nat, j ≤ xs.length ∧ i = .int .i64 j ∧ Hid (Below w.heap.size w wr ∧ RowAt wr w.heap.size r ∧ RC (w.heap.size + 1) 0 0 0 0 0 wr) ∧ Hid (r.t < 0 ∨ fst (xs.take j) true r.t = none)) (fun i _ => xs.length - (intOf i).toNat)
  case atStart => exact ⟨0, by omega, rfl, Lib.hid ⟨by (repeat' (first | with_reducible exact Below.refl _ _ | with_reducible assumption | with_reducible apply Below.setCell | with_reducible apply Below.alloc | with_reducible apply Below.drew | with_reducible apply below_drewN | with_reducible exact Nat.le_refl _ | (simp; done) | (simp; omega) | omega | exact Nat.le_refl _)), ⟨by simp; omega, by simp, by simp, by simp, by simp, by simp⟩, ⟨by simp, by simp, by simp, by simp, by simp, by simp [go_sem], by simp⟩⟩, Lib.hid (.inr rfl)⟩
  case round =>
    obtain ⟨j, hj, rfl, hI, hf⟩ := hrel
    obtain ⟨hbw, ⟨r0, r1, r2, r3, r4, r5⟩, hC⟩ := hI.out
    have hC' := Lib.hid hC
    obtain ⟨c0, c1, c2, c3, c4, c5, c6⟩ := hC
    have f0 := c5 0; have f1 := c5 1; have f2 := c5 2; have f3 := c5 3; have f4 := c5 4
    have hbw' := Lib.hid hbw
    by_cases hlt : j < xs.length
    · have hT := (h.out.below hbw hbs j hlt).1
      have htk := Lib.hid (fst_take (ir := true) hlt r.t)
      have hmj := Lib.hid (hmeet.out j hlt)
      have hbr : b < wr.heap.size := by have := hbw.size; omega
      generalize xs.getD j bn0 = x at hT htk hmj
      obtain ⟨e0, e1, e2, e3, e4, e5, e6, e7⟩ := hT
      have hlt' : (j : Int) < (xs.length : Int) := by omega
      have hj0 : (0 : Int) ≤ (j : Int) := by omega
      have hnext : Hid (∀ W, Below wr.heap.size wr W → Below w.heap.size w W ∧ RowAt W w.heap.size r ∧ RC (w.heap.size + 1) 0 0 0 0 0 W) := Lib.hid fun W hW => ⟨belT hbw'.out hW, hI.out.2.1.below hW, hI.out.2.2.below hW⟩
      clear hbw c5
      by_cases hgo : x.ir = true ∧ 0 ≤ r.t ∧ x.v = r.t
      · obtain ⟨g1, g2, g3⟩ := hgo
        obtain ⟨hPe, hxm⟩ := hmj.out g2 (Or.resolve_left hf.out (by omega)) g1 g3
        have hxm := of_decide_eq_true (show mayR x.r.a x.r.b x.r.c x.r.d x.r.t = true from hxm)
        have hPe := Lib.hid hPe
        rw [g1] at e1
        rw [g3] at e0
        clear hmj htk
        have hst : Hid (∀ o : Array Value, RoI w wr r x 0 0 0 0 ((wr.alloc (.cells #[.int .i64 r.t, .bool true, .slice x.ad x.n x.c, .int .i64 x.r.a, .int .i64 x.r.b, .int .i64 x.r.c, .int .i64 x.r.d, .int .i64 x.r.t] 40)).alloc (.cells #[.int .i64 0, .int .i64 0, .int .i64 0, .int .i64 0, .int .i64 x.r.t] 36))) := Lib.hid fun _ => ⟨⟨by simp, by simp, by simp, by simp, by simp, by simp [go_sem], by simp⟩, (hI.out.2.1.below (below_alc2 wr _ _)), ⟨by simp; omega, by simp, by simp, by simp, by simp⟩, hI.out.2.2.below (below_alc2 wr _ _), belT hbw'.out (below_alc2 wr _ _), c6⟩
        go_wp2_with fail
        go_loopw [9] (fun i W => ∃ k : Nat, k ≤ 4 ∧ i = .int .i64 k ∧ Hid (RoI w wr r x (if 0 < k then r.a + x.r.a else 0) (if 1 < k then r.b + x.r.b else 0) (if 2 < k then r.c + x.r.c else 0) (if 3 < k then r.d + x.r.d else 0) W ∧ (0 < k → r.a + x.r.a ≤ 32) ∧ (1 < k → r.b + x.r.b ≤ 32) ∧ (2 < k → r.c + x.r.c ≤ 32) ∧ (3 < k → r.d + x.r.d ≤ 32))) (fun i _ => 4 - (intOf i).toNat)
        case atStart => exact ⟨0, by omega, rfl, Lib.hid ⟨hst.out #[], by omega, by omega, by omega, by omega⟩⟩
        case round =>
          clear hnext
          have hno := Lib.hid fun (hh : 32 < r.a + x.r.a ∨ 32 < r.b + x.r.b ∨ 32 < r.c + x.r.c ∨ 32 < r.d + x.r.d) => (show (Ending.returned (.tuple #[.agg #[.int .i64 0, .int .i64 0, .int .i64 0, .int .i64 0, .int .i64 0], .bool false])) = .returned (.tuple #[.agg #[.int .i64 V.a, .int .i64 V.b, .int .i64 V.c, .int .i64 V.d, .int .i64 V.t], .bool P.cnt]) from by
            have hc : P.cnt = false := by rw [hPe.out]; unfold Rw.cnt cntR; exact decide_eq_false (by simp only []; omega)
            rw [hro.out, hc]; rfl)
          have hyes := Lib.hid fun (hh : r.a + x.r.a ≤ 32 ∧ r.b + x.r.b ≤ 32 ∧ r.c + x.r.c ≤ 32 ∧ r.d + x.r.d ≤ 32) => (show (Ending.returned (.tuple #[.agg #[.int .i64 (r.a + x.r.a), .int .i64 (r.b + x.r.b), .int .i64 (r.c + x.r.c), .int .i64 (r.d + x.r.d), .int .i64 x.r.t], .bool true])) = .returned (.tuple #[.agg #[.int .i64 V.a, .int .i64 V.b, .int .i64 V.c, .int .i64 V.d, .int .i64 V.t], .bool P.cnt]) from by
            have hc : P.cnt = true := by rw [hPe.out]; unfold Rw.cnt cntR; exact decide_eq_true (by simp only []; omega)
            rw [hro.out, hc, if_pos rfl, hPe.out]
            simp only [Int.add_comm])
          obtain ⟨k, hk, rfl, hk2⟩ := hrel
          have hk5 : k = 0 ∨ k = 1 ∨ k = 2 ∨ k = 3 ∨ k = 4 := by omega
          rcases hk5 with rfl | rfl | rfl | rfl | rfl
          · rename World => W
            have hri : RoI w wr r x 0 0 0 0 W := hk2.out.1
            have hRi := Lib.hid hri
            obtain ⟨⟨q0, q1, q2, q3, q4, q5, q6⟩, ⟨p0, p1, p2, p3, p4, p5⟩, ⟨b0, b1, b2, b3, b4⟩, ⟨d0, d1, d2, d3, d4, d5, d6⟩, hbW, _⟩ := hri
            have z0 := q5 0
            have hwr0 : IntKind.i64.wrap (r.a + x.r.a) = r.a + x.r.a := IntWalk.i64_in _ (by omega)
            have t0 := d5 0; have t1 := d5 1; have t2 := d5 2; have t3 := d5 3; have t4 := d5 4
            clear hk2 q5 d5
            by_cases hle : r.a + x.r.a ≤ 32
            · go_wp2_with fail
              go_region
              go_wp2_with fail
              go_roundw
              case rel => exact ⟨1, by omega, rfl, Lib.hid ⟨(RoI.set0 hRi.out).drew, fun _ => hle, by omega, by omega, by omega⟩⟩
              case measure => simp [intOf]
            · have hN := Lib.hid (hno.out (.inl (by omega)))
              go_wp2_with fail
              go_region
              go_wp2_with fail
              exact bodyPost_ret (v := .tuple #[.agg #[.int .i64 0, .int .i64 0, .int .i64 0, .int .i64 0, .int .i64 0], .bool false]) (by simp [results, Tryd.results65, go_sem, *]) rfl ⟨hN.out, by (repeat' (first | with_reducible exact Below.refl _ _ | with_reducible assumption | with_reducible apply Below.setCell | with_reducible apply Below.alloc | with_reducible apply Below.drew | with_reducible apply below_drewN | with_reducible exact Nat.le_refl _ | (simp; done) | (simp; omega) | omega | exact Nat.le_refl _))⟩
          · rename World => W
            have hri : RoI w wr r x (r.a + x.r.a) 0 0 0 W := hk2.out.1
            have hm0 : r.a + x.r.a ≤ 32 := hk2.out.2.1 (by omega)
            have hRi := Lib.hid hri
            obtain ⟨⟨q0, q1, q2, q3, q4, q5, q6⟩, ⟨p0, p1, p2, p3, p4, p5⟩, ⟨b0, b1, b2, b3, b4⟩, ⟨d0, d1, d2, d3, d4, d5, d6⟩, hbW, _⟩ := hri
            have z0 := q5 1
            have hwr0 : IntKind.i64.wrap (r.b + x.r.b) = r.b + x.r.b := IntWalk.i64_in _ (by omega)
            have t0 := d5 0; have t1 := d5 1; have t2 := d5 2; have t3 := d5 3; have t4 := d5 4
            clear hk2 q5 d5
            by_cases hle : r.b + x.r.b ≤ 32
            · go_wp2_with fail
              go_region
              go_wp2_with fail
              go_roundw
              case rel => exact ⟨2, by omega, rfl, Lib.hid ⟨(RoI.set1 hRi.out).drew, fun _ => hm0, fun _ => hle, by omega, by omega⟩⟩
              case measure => simp [intOf]
            · have hN := Lib.hid (hno.out (.inr (.inl (by omega))))
              go_wp2_with fail
              go_region
              go_wp2_with fail
              exact bodyPost_ret (v := .tuple #[.agg #[.int .i64 0, .int .i64 0, .int .i64 0, .int .i64 0, .int .i64 0], .bool false]) (by simp [results, Tryd.results65, go_sem, *]) rfl ⟨hN.out, by (repeat' (first | with_reducible exact Below.refl _ _ | with_reducible assumption | with_reducible apply Below.setCell | with_reducible apply Below.alloc | with_reducible apply Below.drew | with_reducible apply below_drewN | with_reducible exact Nat.le_refl _ | (simp; done) | (simp; omega) | omega | exact Nat.le_refl _))⟩
          · rename World => W
            have hri : RoI w wr r x (r.a + x.r.a) (r.b + x.r.b) 0 0 W := hk2.out.1
            have hm0 : r.a + x.r.a ≤ 32 := hk2.out.2.1 (by omega)
            have hm1 : r.b + x.r.b ≤ 32 := hk2.out.2.2.1 (by omega)
            have hRi := Lib.hid hri
            obtain ⟨⟨q0, q1, q2, q3, q4, q5, q6⟩, ⟨p0, p1, p2, p3, p4, p5⟩, ⟨b0, b1, b2, b3, b4⟩, ⟨d0, d1, d2, d3, d4, d5, d6⟩, hbW, _⟩ := hri
            have z0 := q5 2
            have hwr0 : IntKind.i64.wrap (r.c + x.r.c) = r.c + x.r.c := IntWalk.i64_in _ (by omega)
            have t0 := d5 0; have t1 := d5 1; have t2 := d5 2; have t3 := d5 3; have t4 := d5 4
            clear hk2 q5 d5
            by_cases hle : r.c + x.r.c ≤ 32
            · go_wp2_with fail
              go_region
              go_wp2_with fail
              go_roundw
              case rel => exact ⟨3, by omega, rfl, Lib.hid ⟨(RoI.set2 hRi.out).drew, fun _ => hm0, fun _ => hm1, fun _ => hle, by omega⟩⟩
              case measure => simp [intOf]
            · have hN := Lib.hid (hno.out (.inr (.inr (.inl (by omega)))))
              go_wp2_with fail
              go_region
              go_wp2_with fail
              exact bodyPost_ret (v := .tuple #[.agg #[.int .i64 0, .int .i64 0, .int .i64 0, .int .i64 0, .int .i64 0], .bool false]) (by simp [results, Tryd.results65, go_sem, *]) rfl ⟨hN.out, by (repeat' (first | with_reducible exact Below.refl _ _ | with_reducible assumption | with_reducible apply Below.setCell | with_reducible apply Below.alloc | with_reducible apply Below.drew | with_reducible apply below_drewN | with_reducible exact Nat.le_refl _ | (simp; done) | (simp; omega) | omega | exact Nat.le_refl _))⟩
          · rename World => W
            have hri : RoI w wr r x (r.a + x.r.a) (r.b + x.r.b) (r.c + x.r.c) 0 W := hk2.out.1
            have hm0 : r.a + x.r.a ≤ 32 := hk2.out.2.1 (by omega)
            have hm1 : r.b + x.r.b ≤ 32 := hk2.out.2.2.1 (by omega)
            have hm2 : r.c + x.r.c ≤ 32 := hk2.out.2.2.2.1 (by omega)
            have hRi := Lib.hid hri
            obtain ⟨⟨q0, q1, q2, q3, q4, q5, q6⟩, ⟨p0, p1, p2, p3, p4, p5⟩, ⟨b0, b1, b2, b3, b4⟩, ⟨d0, d1, d2, d3, d4, d5, d6⟩, hbW, _⟩ := hri
            have z0 := q5 3
            have hwr0 : IntKind.i64.wrap (r.d + x.r.d) = r.d + x.r.d := IntWalk.i64_in _ (by omega)
            have t0 := d5 0; have t1 := d5 1; have t2 := d5 2; have t3 := d5 3; have t4 := d5 4
            clear hk2 q5 d5
            by_cases hle : r.d + x.r.d ≤ 32
            · go_wp2_with fail
              go_region
              go_wp2_with fail
              go_roundw
              case rel => exact ⟨4, by omega, rfl, Lib.hid ⟨(RoI.set3 hRi.out).drew, fun _ => hm0, fun _ => hm1, fun _ => hm2, fun _ => hle⟩⟩
              case measure => simp [intOf]
            · have hN := Lib.hid (hno.out (.inr (.inr (.inr (by omega)))))
              go_wp2_with fail
              go_region
              go_wp2_with fail
              exact bodyPost_ret (v := .tuple #[.agg #[.int .i64 0, .int .i64 0, .int .i64 0, .int .i64 0, .int .i64 0], .bool false]) (by simp [results, Tryd.results65, go_sem, *]) rfl ⟨hN.out, by (repeat' (first | with_reducible exact Below.refl _ _ | with_reducible assumption | with_reducible apply Below.setCell | with_reducible apply Below.alloc | with_reducible apply Below.drew | with_reducible apply below_drewN | with_reducible exact Nat.le_refl _ | (simp; done) | (simp; omega) | omega | exact Nat.le_refl _))⟩
          · rename World => W
            have hri : RoI w wr r x (r.a + x.r.a) (r.b + x.r.b) (r.c + x.r.c) (r.d + x.r.d) W := hk2.out.1
            have hY := Lib.hid (hyes.out ⟨hk2.out.2.1 (by omega), hk2.out.2.2.1 (by omega), hk2.out.2.2.2.1 (by omega), hk2.out.2.2.2.2 (by omega)⟩)
            obtain ⟨⟨q0, q1, q2, q3, q4, q5, q6⟩, ⟨p0, p1, p2, p3, p4, p5⟩, ⟨b0, b1, b2, b3, b4⟩, ⟨d0, d1, d2, d3, d4, d5, d6⟩, hbW, _⟩ := hri
            have t0 := d5 0; have t1 := d5 1; have t2 := d5 2; have t3 := d5 3; have t4 := d5 4
            clear hk2 q5 d5
            go_wp2_with fail
            exact bodyPost_ret (v := .tuple #[.agg #[.int .i64 (r.a + x.r.a), .int .i64 (r.b + x.r.b), .int .i64 (r.c + x.r.c), .int .i64 (r.d + x.r.d), .int .i64 x.r.t], .bool true]) (by simp [results, Tryd.results65, go_sem, *]) rfl ⟨hY.out, by (repeat' (first | with_reducible exact Below.refl _ _ | with_reducible assumption | with_reducible apply Below.setCell | with_reducible apply Below.alloc | with_reducible apply Below.drew | with_reducible apply below_drewN | with_reducible exact Nat.le_refl _ | (simp; done) | (simp; omega) | omega | exact Nat.le_refl _))⟩
      · have hf2 : Hid (r.t < 0 ∨ fst (xs.take (j + 1)) true r.t = none) := Lib.hid (by
          rcases hf.out with h | h
          · exact .inl h
          · by_cases ht : r.t < 0
            · exact .inl ht
            · refine .inr ?_
              rw [htk.out, h, if_neg (fun hc => hgo ⟨hc.1, by omega, hc.2⟩)]; rfl)
        cases hir : x.ir
        · rw [hir] at e1
          go_wp2_with fail
          go_roundw
          case rel => exact ⟨j + 1, by omega, by go_num, Lib.hid (hnext.out _ (below_alc wr _)), hf2⟩
          case measure => simp [intOf]; omega
        · rw [hir] at e1
          by_cases ht : r.t < 0
          · go_wp2_with fail
            go_roundw
            case rel => exact ⟨j + 1, by omega, by go_num, Lib.hid (hnext.out _ (below_alc wr _)), hf2⟩
            case measure => simp [intOf]; omega
          · have hvt : (x.v == r.t) = false := beq_eq_false_iff_ne.2 (fun e => hgo ⟨hir, by omega, e⟩)
            have hvt2 : (x.v != r.t) = true := by simpa using hvt
            go_wp2_with fail
            go_roundw
            case rel => exact ⟨j + 1, by omega, by go_num, Lib.hid (hnext.out _ (below_alc wr _)), hf2⟩
            case measure => simp [intOf]; omega
    · obtain ⟨hcn, hVe⟩ := hsame.out (by
        rcases hf.out with h | h
        · exact .inl h
        · exact .inr (rhB_no (by rwa [show j = xs.length by omega, List.take_length] at h)))
      have hfin := Lib.hid (show (Ending.returned (.tuple #[.agg #[.int .i64 r.a, .int .i64 r.b, .int .i64 r.c, .int .i64 r.d, .int .i64 r.t], .bool true])) = .returned (.tuple #[.agg #[.int .i64 V.a, .int .i64 V.b, .int .i64 V.c, .int .i64 V.d, .int .i64 V.t], .bool P.cnt]) from by rw [hcn, hVe])
      clear hcn hVe c5
      go_wp2_with fail
      exact bodyPost_ret (v := .tuple #[.agg #[.int .i64 r.a, .int .i64 r.b, .int .i64 r.c, .int .i64 r.d, .int .i64 r.t], .bool true]) (by simp [results, Tryd.results65, go_sem, *]) rfl ⟨hfin.out, by have := hbw'.out; (repeat' (first | with_reducible exact Below.refl _ _ | with_reducible assumption | with_reducible apply Below.setCell | with_reducible apply Below.alloc | with_reducible apply Below.drew | with_reducible apply below_drewN | with_reducible exact Nat.le_refl _ | (simp; done) | (simp; omega) | omega | exact Nat.le_refl _))⟩
set_option maxHeartbeats 1000000 in
theorem rowOf_nil (a : Option Addr) (c : Nat) (r : Rw) (w : World) (hr : r.may = true) :
    Calls Tryd.prog 65 #[.slice a 0 c, rwV r] w (RoPost [] r w) := by
  have hfin := Lib.hid (show (Ending.returned (.tuple #[.agg #[.int .i64 r.a, .int .i64 r.b, .int .i64 r.c, .int .i64 r.d, .int .i64 r.t], .bool true])) = .returned (.tuple #[rwV (roV [] r), .bool (putR (rhB []) r).cnt]) from by
    have e : putR (rhB []) r = r := putR_none (.inr rfl)
    have c : r.cnt = true := may_cnt hr
    unfold roV; rw [e, c]; rfl)
  unfold RoPost
  generalize roV [] r = V at hfin ⊢
  generalize (putR (rhB []) r).cnt = C at hfin ⊢
  unfold rwV at *
  clear hr
  go_enter Tryd.func65, Tryd.ntmps65
  go_wp2_with fail
  go_loopw [6] (fun i wr => i = .int .i64 0 ∧ Hid (Below w.heap.size w wr ∧ RowAt wr w.heap.size r ∧ RC (w.heap.size + 1) 0 0 0 0 0 wr)) (fun _ _ => 0)
  case atStart => exact ⟨rfl, Lib.hid ⟨by (repeat' (first | with_reducible exact Below.refl _ _ | with_reducible assumption | with_reducible apply Below.setCell | with_reducible apply Below.alloc | with_reducible apply Below.drew | with_reducible apply below_drewN | with_reducible exact Nat.le_refl _ | (simp; done) | (simp; omega) | omega | exact Nat.le_refl _)), ⟨by first | (simp; done) | (simp; omega), by simp, by simp, by simp, by simp, by simp⟩, ⟨by simp, by simp, by simp, by simp, by simp, by simp [go_sem], by simp⟩⟩⟩
  case round =>
    obtain ⟨rfl, hI⟩ := hrel
    obtain ⟨hbw, ⟨r0, r1, r2, r3, r4, r5⟩, ⟨c0, c1, c2, c3, c4, c5, c6⟩⟩ := hI.out
    have f0 := c5 0; have f1 := c5 1; have f2 := c5 2; have f3 := c5 3; have f4 := c5 4
    clear c5
    go_wp2_with fail
    exact bodyPost_ret (v := .tuple #[.agg #[.int .i64 r.a, .int .i64 r.b, .int .i64 r.c, .int .i64 r.d, .int .i64 r.t], .bool true]) (by simp [results, Tryd.results65, go_sem, *]) rfl ⟨hfin.out, by (repeat' (first | with_reducible exact Below.refl _ _ | with_reducible assumption | with_reducible apply Below.setCell | with_reducible apply Below.alloc | with_reducible apply Below.drew | with_reducible apply below_drewN | with_reducible exact Nat.le_refl _ | (simp; done) | (simp; omega) | omega | exact Nat.le_refl _))⟩
theorem rowOf_any (a : Option Addr) (n c : Nat) (xs : List Bn) (r : Rw) (w : World) (h : Hid (BnArg w a n xs)) (hv : bsV xs = true) (hr : r.may = true) :
    Calls Tryd.prog 65 #[.slice a n c, rwV r] w (RoPost xs r w) := by
  obtain ⟨rfl, rfl | ⟨b, off, rfl, h1, h2⟩⟩ := h.out
  · exact rowOf_nil _ _ _ _ hr
  · exact rowOf_sl b off c xs r w (Lib.hid h1) h2 hv hr
end Go.Proofs.YtfkdcconmecaoaaDoor

/- The reference's typeOf. -/
namespace Go.Proofs.YtfkdcconmecaoaaDoor
open Go.RowKit Go.Maps
set_option linter.unusedVariables false
set_option linter.unusedSimpArgs false

def TfPost (xs : List Bn) (ts : List Ty) (w : World) (e : Ending) (w' : World) : Prop := ∃ v, e = .returned (.tuple #[.agg #[v], .bool (tfP xs ts).fits]) ∧ OwnT w.heap.size w' v (tfL xs ts) ∧ Below w.heap.size w w'
/-- what typeOf has made of the first j nodes. -/
def TfI (W0 : World) (xs : List Bn) (ts : List Ty) (j : Nat) (ov ev : Value) (wr : World) : Prop :=
  ∃ out ends, runT (sgB xs) (rhB xs) (ts.take j) ([], []) = some (out, ends) ∧ OwnT W0.heap.size wr ov out ∧ OwnI W0.heap.size wr ev ends ∧ Below W0.heap.size W0 wr
theorem take_map {α β : Type} (f : α → β) (l : List α) (d : α) {j : Nat} (h : j < l.length) : (l.take (j + 1)).map f = (l.take j).map f ++ [f (l.getD j d)] := by
  rw [List.take_succ_eq_append_getElem h, List.map_append]
  simp [h]
/-- the world in which typeOf's loop begins: its type, its result. -/
def TfW (w W0 : World) (a : Option Addr) (n c : Nat) : Prop := BoxAt W0 w.heap.size (.slice a n c) ∧ W0.cell? ⟨w.heap.size + 1, 0, none⟩ = some (.slice none 0 0) ∧ W0.frozen? ⟨w.heap.size + 1, 0, none⟩ = false ∧ W0.heap.size = w.heap.size + 2 ∧ Below w.heap.size w W0
theorem tfW_mk (w : World) (a : Option Addr) (n c : Nat) : TfW w ((w.alloc (.cells #[.slice a n c] 24)).alloc (.cells #[.slice none 0 0] 24)) a n c :=
  ⟨BoxAt.alloc _ (box_lit _ _ _ _ rfl), by simp, by simp [go_sem], by simp, below_alc2 w _ _⟩
theorem sgB_at {xs : List Bn} {j : Nat} (hj : j < xs.length) {v : Int} (hf : fst (xs.take j) false v = none) (hir : (xs.getD j bn0).ir = false) (hv : (xs.getD j bn0).v = v) : sgB xs v = some (treeOf (xs.getD j bn0).ns) := by
  have h1 : fst (xs.take (j + 1)) false v = some j := by rw [fst_take hj, hf, if_pos ⟨hir, hv⟩]; rfl
  unfold sgB
  rw [fst_more h1]; rfl
theorem sgB_none {xs : List Bn} {v : Int} (hf : fst xs false v = none) : sgB xs v = none := by unfold sgB; rw [hf]; rfl
theorem ends_last {B : Nat} {w : World} {v : Value} {l : List Int} {y z : Int} (h : OwnI B w v (l ++ [y])) (e : y = z) : OwnI B w v (l ++ [z]) := e ▸ h
theorem tf_more {B : Nat} {W2 W w3 : World} {S : Option Nat} {v v' : Value} {l l' : List Ty} {y : Ty} {n : Nat} (h : OwnT B W v l ∧ Bar (fun k => S = some k) W2 W ∧ (∀ k, v.ownBlock = some k → S = some k ∨ W2.heap.size ≤ k))
    (hO : OwnT B w3 v' (l ++ [y])) (hB : Bar (fun k => v.ownBlock = some k) W w3) (hM : Moved W v v') (hn : l.length = n) (e : l' = l ++ [y]) : OwnT B w3 v' l' ∧ Bar (fun k => S = some k) W2 w3 ∧ (∀ k, v'.ownBlock = some k → S = some k ∨ W2.heap.size ≤ k) := by
  obtain ⟨h1, h2, h3⟩ := h
  refine ⟨by rw [e]; exact hO, h2.trans hB fun k hk hv => ?_, fun k hk => ?_⟩
  · rcases h3 k hv with h | h
    · exact h
    · omega
  · rcases hM with h | ⟨k', h, h'⟩
    · exact h3 k (by rw [← h]; exact hk)
    · rw [h] at hk
      injection hk with hk
      subst hk
      exact .inr (by have := h2.size; omega)
set_option maxRecDepth 100000 in
set_option maxHeartbeats 16000000 in
theorem typeOf_any (a : Option Addr) (n c : Nat) (xs : List Bn) (a2 : Option Addr) (n2 c2 : Nat) (ts : List Ty) (w : World) (h : Hid (BnArg w a n xs)) (h2 : Hid (TyArg w a2 n2 ts)) (hx : bsV xs = true) (ht : tyV ts = true) :
    Calls Tryd.prog 37 #[.slice a n c, .agg #[.slice a2 n2 c2]] w (TfPost xs ts w) := by
  have hxl : xs.length ≤ 4096 := by unfold bsV at hx; simp only [Bool.and_eq_true, decide_eq_true_eq] at hx; exact hx.1
  have htl := tyV_le ht
  obtain ⟨rfl, hA2⟩ := h2.out
  obtain ⟨b2, off2, rfl, hT, hb2⟩ : ∃ b off, a2 = some ⟨b, off, none⟩ ∧ TySl w b off ts ∧ b < w.heap.size := by
    rcases hA2 with h0 | h0
    · rw [h0] at htl; simp at htl
    · exact h0
  have hT := Lib.hid hT
  obtain ⟨rfl, hA⟩ := h.out
  have hend := Lib.hid fun (o : List Ty) (e : List Int) (j : Nat) (hj : ¬ j < ts.length) (hr : runT (sgB xs) (rhB xs) (ts.take j) ([], []) = some (o, e)) => run_end hx ht hj hr
  have hstop0 := Lib.hid fun (j : Nat) (st : List Ty × List Int) (hj : j < ts.length) (hr : runT (sgB xs) (rhB xs) (ts.take j) ([], []) = some st) (hn : stepT (sgB xs) (rhB xs) (ts.getD j ty0) st = none) => (run_all hx ht).2 (runT_stop hj hr hn)
  have hlen0 := Lib.hid fun (j : Nat) (st : List Ty × List Int) (hj : j ≤ ts.length) (hr : runT (sgB xs) (rhB xs) (ts.take j) ([], []) = some st) => (show st.2.length = j ∧ st.1.length ≤ 256 from by
    have := runT_len (ts.take j) ([], []) st (by simp) hr
    rw [List.length_take] at this
    simp only [List.length_nil] at this
    exact ⟨by omega, this.2⟩)
  have hnode := Lib.hid fun (j : Nat) (hj : j < ts.length) => tyOk_cases (tyV_ok1 ht hj)
  have hchild := Lib.hid fun (j : Nat) (hj : j < ts.length) (h3 : (ts.getD j ty0).k = 3) => tyV_child ht hj h3
  have hrow := Lib.hid fun (W : World) (hb : Below w.heap.size w W) (r : Rw) (hr : r.may = true) => rowOf_any a xs.length c xs r W (Lib.hid (h.out.below hb)) hx hr
  have hbind := Lib.hid fun (m : Nat) (hm : m < xs.length) (hir : (xs.getD m bn0).ir = false) => (show tyV (xs.getD m bn0).ns = true from by
    have hok := bsV_at hx hm
    rw [ok_holds] at hok
    unfold holdsB at hok
    rw [hir] at hok
    simp only [Bool.and_eq_true, Bool.false_eq_true, if_false] at hok
    exact hok.2.2)
  have hRes0 := Lib.hid (tfW_mk w (some ⟨b2, off2, none⟩) ts.length c2)
  unfold TfPost
  generalize tfL xs ts = TL at hend hstop0 ⊢
  generalize (tfP xs ts).fits = TF at hend hstop0 ⊢
  have hx := Lib.hid hx
  have ht := Lib.hid ht
  clear hA2
  go_enter Tryd.func37, Tryd.ntmps37
  go_wp2_with fail
  obtain ⟨W0, hW0⟩ : ∃ W, (w.alloc (.cells #[.slice (some ⟨b2, off2, none⟩) ts.length c2] 24)).alloc (.cells #[.slice none 0 0] 24) = W := ⟨_, rfl⟩
  rw [hW0] at hRes0 ⊢
  clear hW0
  have hRes := hRes0
  have hz0 : W0.heap.size ≤ w.heap.size + 2 := Nat.le_of_eq hRes.out.2.2.2.1
  have hz1 : w.heap.size + 2 ≤ W0.heap.size := Nat.le_of_eq hRes.out.2.2.2.1.symm
  go_loopw [6, 7, 8] (fun ov ev i wr => ∃ j : Nat, j ≤ ts.length ∧ i = .int .i64 j ∧ Hid (TfI W0 xs ts j ov ev wr)) (fun _ _ i _ => ts.length - (intOf i).toNat)
  case atStart => exact ⟨0, by omega, rfl, Lib.hid ⟨[], [], rfl, OwnT.nil _ _, OwnI.nil _ _, Below.refl _ _⟩⟩
  case round =>
    obtain ⟨j, hj, rfl, hI⟩ := hrel
    obtain ⟨out, ends, hrun', hO, hE, hBW⟩ := hI.out
    have hrun := Lib.hid hrun'
    clear hI hrun'
    obtain ⟨ao, no, co, hov⟩ := ownT_sl hO
    subst hov
    have hno : no = out.length := hO.arg.1
    subst hno
    obtain ⟨ae, ne, ce, hev⟩ := ownI_sl hE
    subst hev
    have hne : ne = ends.length := hE.arg.1
    subst hne
    obtain ⟨hel, hol⟩ := hlen0.out j (out, ends) hj hrun.out
    simp only [] at hel hol
    have hel0 : ends.length ≤ j := Nat.le_of_eq hel
    have hel1 : j ≤ ends.length := Nat.le_of_eq hel.symm
    clear hel
    have hEA := Lib.hid hE.arg
    have hO := Lib.hid hO
    have hE := Lib.hid hE
    have hBW := Lib.hid hBW
    have hBw := Lib.hid (hRes.out.2.2.2.2.trans (hBW.out.mono (by omega)))
    obtain ⟨p0, p1⟩ := hRes.out.1.below hBW.out
    have hsr := hBW.out.size
    by_cases hlt : j < ts.length
    · have hN := (hT.out j hlt).below hBw.out hb2
      have hk := hnode.out j hlt
      have hch := Lib.hid (hchild.out j hlt)
      have hstop := Lib.hid fun hn => hstop0.out j (out, ends) hlt hrun.out hn
      obtain ⟨x, htj'⟩ : ∃ x, ts.getD j ty0 = x := ⟨_, rfl⟩
      rw [htj'] at hN hk hch hstop
      have htj := Lib.hid htj'
      clear htj'
      have hbr2 : b2 < wr.heap.size := by omega
      have hlt' : (j : Int) < (ts.length : Int) := by omega
      have hj0 : (0 : Int) ≤ (j : Int) := by omega
      obtain ⟨e0, e1, e2, e3, e4, e5, e6, e7, e8⟩ := hN
      rcases hk with ⟨k, hk, rfl⟩ | ⟨v, hv0, hv1, rfl⟩ | ⟨xa, xb, r, hr, rfl⟩
      · have hst := Lib.hid (stepT_base (σ := sgB xs) (ρ := rhB xs) hk out ends)
        have k2 : (k == 2) = false := beq_eq_false_iff_ne.2 (by omega)
        have k3 : (k == 3) = false := beq_eq_false_iff_ne.2 (by omega)
        simp only [bsT] at e0 e1 e2 e3 e4 e5 e6 e7 e8
        go_wp2_with (at_builtin; refine op_tyh rfl (.tmp 31) (.tmp 33) _ wr W0.heap.size (by omega) (by (repeat' (first | with_reducible exact Below.refl _ _ | with_reducible assumption | with_reducible apply Below.setCell | with_reducible apply Below.alloc | with_reducible apply Below.drew | with_reducible apply below_drewN | with_reducible exact Nat.le_refl _ | (simp; done) | (simp; omega) | omega | exact Nat.le_refl _))) _ out (bsT k) _ rfl rfl _ (by first | (simp; done) | (simp; omega)) rfl rfl hO.out (by omega) ?_)
        intro g3 c3 w3 hO3 hBar3 hM3
        have hE3 := Lib.hid (ownI_barT hBar3 hO.out hE.out)
        have hB3 := Lib.hid (hBW.out.trans (bar_belO hBar3 hO.out (by omega)))
        have hO3 := Lib.hid hO3
        have hLEN := Lib.hid (show (out ++ [bsT k]).length = out.length + 1 by simp)
        clear hBar3 hM3 e0 e1 e2 e3 e4 e5 e6 e7 e8
        have hs3 := hB3.out.size
        by_cases hbig : 256 < (out.length + 1 : Nat)
        · have hfl := Lib.hid (hstop.out (by rw [hst.out]; exact lastE_none (by have := hLEN.out; omega)))
          go_wp2_with (at_builtin; refine op_inh rfl (.tmp 128) (.tmp 132) _ w3 W0.heap.size (by omega) (by (repeat' (first | with_reducible exact Below.refl _ _ | with_reducible assumption | with_reducible apply Below.setCell | with_reducible apply Below.alloc | with_reducible apply Below.drew | with_reducible apply below_drewN | with_reducible exact Nat.le_refl _ | (simp; done) | (simp; omega) | omega | exact Nat.le_refl _))) _ ends _ rfl rfl _ (by first | (simp; done) | (simp; omega)) rfl hE3.out (by omega) ?_)
          intro g5 c5 w5 hE5 hBar5 hM5
          have hB5 := Lib.hid (hB3.out.trans (bar_belI hBar5 hE3.out (by omega)))
          have hR0 : w5.cell? ⟨w.heap.size + 1, 0, none⟩ = some (.slice none 0 0) := carry hB5.out (by omega) hRes.out.2.1
          have hR1 : w5.frozen? ⟨w.heap.size + 1, 0, none⟩ = false := by rw [hB5.out.frozen (p := ⟨w.heap.size + 1, 0, none⟩) (show w.heap.size + 1 < W0.heap.size by omega)]; exact hRes.out.2.2.1
          clear hE5 hBar5 hM5
          go_wp2_with fail
          exact bodyPost_ret (v := .tuple #[.agg #[.slice none 0 0], .bool false]) (by simp [results, Tryd.results37, go_sem, hR0, hR1]) rfl ⟨.slice none 0 0, by rw [hfl.out.1], by rw [hfl.out.2]; exact OwnT.nil _ _, by have := hRes.out.2.2.2.2.trans (hB5.out.mono (by omega)); (repeat' (first | with_reducible exact Below.refl _ _ | with_reducible assumption | with_reducible apply Below.setCell | with_reducible apply Below.alloc | with_reducible apply Below.drew | with_reducible apply below_drewN | with_reducible exact Nat.le_refl _ | (simp; done) | (simp; omega) | omega | exact Nat.le_refl _))⟩
        · have hrn : Hid (runT (sgB xs) (rhB xs) (ts.take (j + 1)) ([], []) = some (out ++ [bsT k], ends ++ [((out.length + 1 : Nat) : Int) - 1])) := Lib.hid (by rw [runT_take hlt hrun.out, htj.out, hst.out, lastE_some (by have := hLEN.out; omega), hLEN.out])
          go_wp2_with (at_builtin; refine op_inh rfl (.tmp 128) (.tmp 132) _ w3 W0.heap.size (by omega) (by (repeat' (first | with_reducible exact Below.refl _ _ | with_reducible assumption | with_reducible apply Below.setCell | with_reducible apply Below.alloc | with_reducible apply Below.drew | with_reducible apply below_drewN | with_reducible exact Nat.le_refl _ | (simp; done) | (simp; omega) | omega | exact Nat.le_refl _))) _ ends _ rfl rfl _ (by first | (simp; done) | (simp; omega)) rfl hE3.out (by omega) ?_)
          intro g5 c5 w5 hE5 hBar5 hM5
          have hB5 := Lib.hid (hB3.out.trans (bar_belI hBar5 hE3.out (by omega)))
          have hO5 := Lib.hid (ownT_barI hBar5 hE3.out hO3.out)
          have hE5' := Lib.hid (ends_last hE5 (show _ = ((out.length + 1 : Nat) : Int) - 1 by omega))
          clear hE5 hBar5 hM5
          go_wp2_with fail
          go_roundw
          case rel => exact ⟨j + 1, by omega, by go_num, Lib.hid ⟨_, _, hrn.out, hO5.out, hE5'.out, hB5.out⟩⟩
          case measure => simp [intOf]; omega
      · have hsn := Lib.hid (fun h => stepT_none (σ := sgB xs) (ρ := rhB xs) (v := v) h out ends)
        have hss := Lib.hid (fun U ns h h' => stepT_some (σ := sgB xs) (ρ := rhB xs) (v := v) (U := U) (ns := ns) h h' out ends)
        simp only [vrT] at e0 e1 e2 e3 e4 e5 e6 e7 e8
        have hX0 : TnAt (((wr.alloc (.cells #[.int .i64 2, .int .i64 v, .int .i64 0, .int .i64 0, .int .i64 0, .int .i64 0, .int .i64 0, .int .i64 0, .int .i64 0] 38)).alloc (.cells #[.int .i64 2, .int .i64 v, .int .i64 0, .int .i64 0, .int .i64 0, .int .i64 0, .int .i64 0, .int .i64 0, .int .i64 0] 38)).alloc (.cells #[.slice (some ⟨wr.heap.size + 1, 0, none⟩) 1 1] 24)) wr.heap.size (vrT v) := (TnAt.alc rfl rfl).below (below_alc2 _ _ _)
        have hA0 : TyArg (((wr.alloc (.cells #[.int .i64 2, .int .i64 v, .int .i64 0, .int .i64 0, .int .i64 0, .int .i64 0, .int .i64 0, .int .i64 0, .int .i64 0] 38)).alloc (.cells #[.int .i64 2, .int .i64 v, .int .i64 0, .int .i64 0, .int .i64 0, .int .i64 0, .int .i64 0, .int .i64 0, .int .i64 0] 38)).alloc (.cells #[.slice (some ⟨wr.heap.size + 1, 0, none⟩) 1 1] 24)) (some ⟨wr.heap.size + 1, 0, none⟩) 1 [vrT v] := TyArg.alloc _ (tyArg_lit _ _ _ _ _ _ (by simp) rfl rfl)
        have hU0 : BoxAt (((wr.alloc (.cells #[.int .i64 2, .int .i64 v, .int .i64 0, .int .i64 0, .int .i64 0, .int .i64 0, .int .i64 0, .int .i64 0, .int .i64 0] 38)).alloc (.cells #[.int .i64 2, .int .i64 v, .int .i64 0, .int .i64 0, .int .i64 0, .int .i64 0, .int .i64 0, .int .i64 0, .int .i64 0] 38)).alloc (.cells #[.slice (some ⟨wr.heap.size + 1, 0, none⟩) 1 1] 24)) (wr.heap.size + 1 + 1) (.slice (some ⟨wr.heap.size + 1, 0, none⟩) 1 1) := box_lit _ _ _ _ (by simp)
        have hF0 : (((wr.alloc (.cells #[.int .i64 2, .int .i64 v, .int .i64 0, .int .i64 0, .int .i64 0, .int .i64 0, .int .i64 0, .int .i64 0, .int .i64 0] 38)).alloc (.cells #[.int .i64 2, .int .i64 v, .int .i64 0, .int .i64 0, .int .i64 0, .int .i64 0, .int .i64 0, .int .i64 0, .int .i64 0] 38)).alloc (.cells #[.slice (some ⟨wr.heap.size + 1, 0, none⟩) 1 1] 24)).frozen? ⟨wr.heap.size + 1 + 1, 0, none⟩ = false := by simp [go_sem]
        have hV0 : Below wr.heap.size wr (((wr.alloc (.cells #[.int .i64 2, .int .i64 v, .int .i64 0, .int .i64 0, .int .i64 0, .int .i64 0, .int .i64 0, .int .i64 0, .int .i64 0] 38)).alloc (.cells #[.int .i64 2, .int .i64 v, .int .i64 0, .int .i64 0, .int .i64 0, .int .i64 0, .int .i64 0, .int .i64 0, .int .i64 0] 38)).alloc (.cells #[.slice (some ⟨wr.heap.size + 1, 0, none⟩) 1 1] 24)) := by (repeat' (first | with_reducible exact Below.refl _ _ | with_reducible assumption | with_reducible apply Below.setCell | with_reducible apply Below.alloc | with_reducible apply Below.drew | with_reducible apply below_drewN | with_reducible exact Nat.le_refl _ | (simp; done) | (simp; omega) | omega | exact Nat.le_refl _))
        have hX0 := Lib.hid hX0; have hA0 := Lib.hid hA0; have hU0 := Lib.hid hU0; have hF0 := Lib.hid hF0; have hV0 := Lib.hid hV0
        go_wp2_with fail
        obtain ⟨W1, hW1⟩ : ∃ W, (((wr.alloc (.cells #[.int .i64 2, .int .i64 v, .int .i64 0, .int .i64 0, .int .i64 0, .int .i64 0, .int .i64 0, .int .i64 0, .int .i64 0] 38)).alloc (.cells #[.int .i64 2, .int .i64 v, .int .i64 0, .int .i64 0, .int .i64 0, .int .i64 0, .int .i64 0, .int .i64 0, .int .i64 0] 38)).alloc (.cells #[.slice (some ⟨wr.heap.size + 1, 0, none⟩) 1 1] 24)) = W := ⟨_, rfl⟩
        rw [hW1] at hX0 hA0 hU0 hF0 hV0 ⊢
        clear hW1 e0 e1 e2 e3 e4 e5 e6 e7 e8
        go_loopw [11] (fun i W => ∃ m : Nat, m ≤ xs.length ∧ i = .int .i64 m ∧ Below W1.heap.size W1 W ∧ Hid (fst (xs.take m) false v = none)) (fun i _ => xs.length - (intOf i).toNat)
        case atStart => exact ⟨0, by omega, rfl, Below.refl _ _, Lib.hid rfl⟩
        case round =>
          rename World => Wl
          obtain ⟨mx, hmx, rfl, hbl, hfs⟩ := hrel
          have hbl := Lib.hid hbl
          have hWl := Lib.hid (hV0.out.trans (hbl.out.mono hV0.out.size))
          have hXl := Lib.hid (hX0.out.below hbl.out)
          have hUl := Lib.hid (hU0.out.below hbl.out)
          have hAl := Lib.hid (hA0.out.below hbl.out)
          have hsl := hWl.out.size
          have hs1l := hV0.out.size
          by_cases hlx : mx < xs.length
          · obtain ⟨xb, xoff, rfl, hsx, hbx⟩ : ∃ b off, a = some ⟨b, off, none⟩ ∧ BnSl w b off xs ∧ b < w.heap.size := by
              rcases hA with h0 | h0
              · rw [h0] at hlx; simp at hlx
              · exact h0
            have hwl := Lib.hid (hBw.out.trans (hWl.out.mono (by omega)))
            obtain ⟨hQ, hQA, hQn⟩ := hsx.below hwl.out hbx mx hlx
            have hQ0 := Lib.hid (hsx mx hlx).2.1
            have htk := Lib.hid (fst_take (ir := false) hlx v)
            have hbq := Lib.hid (hbind.out mx hlx)
            have hsgv := Lib.hid (fun (hf : fst (xs.take mx) false v = none) (hir : (xs.getD mx bn0).ir = false) (hv : (xs.getD mx bn0).v = v) => sgB_at hlx hf hir hv)
            generalize xs.getD mx bn0 = q at hQ hQA hQn hQ0 htk hbq hsgv
            obtain ⟨d0, d1, d2, d3, d4, d5, d6, d7⟩ := hQ
            have hbxl : xb < Wl.heap.size := by omega
            have hmx' : (mx : Int) < (xs.length : Int) := by omega
            have hmx0 : (0 : Int) ≤ (mx : Int) := by omega
            obtain ⟨x0, x1, x2, x3, x4, x5, x6, x7, x8, x9⟩ := hXl.out
            simp only [vrT] at x1 x2
            clear hsx
            cases hqi : q.ir
            · rw [hqi] at d1
              by_cases hqv : q.v = v
              · have hqe : (q.v == v) = true := beq_iff_eq.2 hqv
                have hns := hbq.out hqi
                have hto := tyV_of hns
                have hst := Lib.hid (hss.out _ _ (hsgv.out hfs.out hqi hqv) hto.2.1)
                have hyl := (tyV_le hns).2
                have hyl0 := Lib.hid (tyV_le hns).1
                obtain ⟨hqn, _⟩ := hQA
                have hQa := Lib.hid hQ0.out
                have hch2 := Lib.hid fun (m : Nat) (hm : m < q.ns.length) (h3 : (q.ns.getD m ty0).k = 3) => tyV_child hns hm h3
                have hft := hF0.out
                have hfl2 : Wl.frozen? ⟨wr.heap.size + 1 + 1, 0, none⟩ = false := by rw [hbl.out.frozen (p := ⟨wr.heap.size + 1 + 1, 0, none⟩) hU0.out.1]; exact hft
                obtain ⟨uu0, uu1⟩ := hUl.out
                rw [hqn] at d2 hQa
                obtain ⟨qv, qir, ua, qn, uc, ys, qr⟩ := q
                simp only [] at *
                clear hQ0 htk hbq hsgv hns hto hsn hss hqn hqi hqv hch
                go_wp2_with fail
                go_quiet (fail)
                go_wp2_with fail
                obtain ⟨W2, hW2⟩ : ∃ W, (Wl.drewN nq).setCell ⟨wr.heap.size + 1 + 1, 0, none⟩ (.slice ua ys.length uc) = W := ⟨_, rfl⟩
                have hUB : Hid (BoxAt W2 (wr.heap.size + 1 + 1) (.slice ua ys.length uc)) := Lib.hid (by rw [← hW2]; exact ⟨by simpa using uu0, setS (u := .slice (some ⟨wr.heap.size + 1, 0, none⟩) 1 1) (by exact uu1)⟩)
                have hWz : Below wr.heap.size wr W2 := by rw [← hW2]; exact (below_drewN hWl.out nq).setCell (by show wr.heap.size ≤ wr.heap.size + 1 + 1; omega) _
                have hYA : Hid (TyArg W2 ua ys.length ys) := Lib.hid (TyArg.below hQa.out (hBw.out.trans (hWz.mono (by omega))))
                have hYn : Hid (∀ b off, ua = some ⟨b, off, none⟩ → ¬ (Value.ownBlock (.slice ao out.length co) = some b)) := Lib.hid fun b off hb hc => by
                  have h1 := (own_lt hO.out _ hc).1
                  rcases hQa.out.2 with h0 | ⟨b', off', h0, _, h3⟩
                  · have := hyl0.out; rw [h0] at this; simp at this
                  · rw [hb] at h0; injection h0 with h0; injection h0 with h0 _; omega
                have hYc : Hid (∀ m, m < ys.length → (ys.getD m ty0).k = 3 → 0 ≤ (ys.getD m ty0).a ∧ (ys.getD m ty0).a < 256 ∧ 0 ≤ (ys.getD m ty0).b ∧ (ys.getD m ty0).b < 256) := Lib.hid fun m hm h3 => by have := hch2.out m hm h3; omega
                rw [hW2]
                have hW2 := Lib.hid hWz
                clear hWz hQa hch2 d0 d1 d2 d3 d4 d5 d6 d7 x0 x1 x2 x3 x4 x5 x6 x7 x8 x9 uu0 uu1 hft hfl2
                have hs2 := hW2.out.size
                have hO2 := Lib.hid (OwnT.below hO.out hW2.out)
                have hE2 := Lib.hid (OwnI.below hE.out hW2.out)
                have hB2 := Lib.hid (hBW.out.trans (hW2.out.mono (by omega)))
                go_loopw [6, 13] (fun v i W => ∃ m : Nat, m ≤ ys.length ∧ i = .int .i64 m ∧ Hid (OwnT W0.heap.size W v (out ++ (ys.take m).map (shT out.length)) ∧ Bar (fun k => Value.ownBlock (.slice ao out.length co) = some k) W2 W ∧ (∀ k, v.ownBlock = some k → Value.ownBlock (.slice ao out.length co) = some k ∨ W2.heap.size ≤ k))) (fun _ i _ => ys.length - (intOf i).toNat)
                case atStart => exact ⟨0, by omega, rfl, Lib.hid ⟨by rw [List.take_zero, List.map_nil, List.append_nil]; exact hO2.out, Bar.refl _ _, fun k hk => .inl hk⟩⟩
                case round =>
                  rename World => W
                  obtain ⟨m, hm, rfl, hJ⟩ := hrel
                  have hUW := Lib.hid (BoxAt.bar hUB.out hJ.out.2.1 (by intro hc; have := (own_lt hO.out _ hc).2; omega))
                  obtain ⟨u0, u1⟩ := hUW.out
                  have hBW2 := Lib.hid (hB2.out.trans (bar_belO hJ.out.2.1 hO2.out (by have := hB2.out.size; omega)))
                  have hsW := hJ.out.2.1.size
                  have hsB := hB2.out.size
                  have hOl : (out ++ (ys.take m).map (shT out.length)).length = out.length + m := by rw [List.length_append, List.length_map, List.length_take]; omega
                  obtain ⟨va, vn, vc, hveq⟩ := ownT_sl hJ.out.1
                  subst hveq
                  have hvn : vn = out.length + m := by rw [← hOl]; exact hJ.out.1.arg.1
                  subst hvn
                  by_cases hmy : m < ys.length
                  · have hYW := Lib.hid (TyArg.bar hYA.out hJ.out.2.1 hYn.out)
                    obtain ⟨yb, yoff, rfl, hysl, hybs⟩ : ∃ b off, ua = some ⟨b, off, none⟩ ∧ TySl W b off ys ∧ b < W.heap.size := by
                      rcases hYW.out.2 with h0 | h0
                      · rw [h0] at hmy; simp at hmy
                      · exact h0
                    have hN := hysl m hmy
                    have hch := hYc.out m hmy
                    have htk2 := Lib.hid (take_map (shT out.length) ys ty0 hmy)
                    generalize ys.getD m ty0 = y at hN hch htk2
                    obtain ⟨y0, y1, y2, y3, y4, y5, y6, y7, y8⟩ := hN
                    have hmy' : (m : Int) < (ys.length : Int) := by omega
                    have hm0 : (0 : Int) ≤ (m : Int) := by omega
                    obtain ⟨L, hL⟩ : ∃ L, out ++ (ys.take m).map (shT out.length) = L := ⟨_, rfl⟩
                    have hJ1 := Lib.hid hJ.out.1
                    have hJJ := Lib.hid hJ.out
                    rw [hL] at hJ1 hJJ hOl
                    have hL2 := Lib.hid hL
                    clear hysl hL
                    by_cases hy3 : y.k = 3
                    · obtain ⟨ha0, ha1, hb0, hb1⟩ := hch hy3
                      have hsh : Hid (shT out.length y = ⟨3, y.v, y.a + out.length, y.b + out.length, y.c0, y.c1, y.c2, y.c3, y.t⟩) := Lib.hid (by unfold shT; rw [if_pos hy3, ← hy3])
                      rw [hy3] at y0
                      clear hch
                      go_wp2_with (at_builtin; refine op_tyh rfl (.tmp 94) (.tmp 96) _ W W0.heap.size (by omega) (by (repeat' (first | with_reducible exact Below.refl _ _ | with_reducible assumption | with_reducible apply Below.setCell | with_reducible apply Below.alloc | with_reducible apply Below.drew | with_reducible apply below_drewN | with_reducible exact Nat.le_refl _ | (simp; done) | (simp; omega) | omega | exact Nat.le_refl _))) _ L ⟨3, y.v, y.a + out.length, y.b + out.length, y.c0, y.c1, y.c2, y.c3, y.t⟩ _ rfl rfl _ (by first | (simp; done) | (simp; omega)) rfl rfl hJ1.out (by omega) ?_)
                      intro g3 c3 w3 hO3 hBar3 hM3
                      have hJ3 : Hid (OwnT W0.heap.size w3 (.slice (some ⟨g3, 0, none⟩) (out.length + m + 1) c3) (out ++ (ys.take (m + 1)).map (shT out.length)) ∧ Bar (fun k => Value.ownBlock (.slice ao out.length co) = some k) W2 w3 ∧ (∀ k, Value.ownBlock (.slice (some ⟨g3, 0, none⟩) (out.length + m + 1) c3) = some k → Value.ownBlock (.slice ao out.length co) = some k ∨ W2.heap.size ≤ k)) := Lib.hid (tf_more hJJ.out hO3 hBar3 hM3 hOl (by rw [htk2.out, hsh.out, ← hL2.out, List.append_assoc]))
                      clear hO3 hBar3 hM3
                      (try rw [hOl])
                      go_wp2_with fail
                      go_roundw
                      case rel => exact ⟨m + 1, by omega, by go_num, hJ3⟩
                      case measure => simp [intOf]; omega
                    · have hsh : Hid (shT out.length y = y) := Lib.hid (by unfold shT; rw [if_neg hy3])
                      have hy4 : (y.k == 3) = false := beq_eq_false_iff_ne.2 hy3
                      clear hch hy3
                      go_wp2_with (at_builtin; refine op_tyh rfl (.tmp 94) (.tmp 96) _ W W0.heap.size (by omega) (by (repeat' (first | with_reducible exact Below.refl _ _ | with_reducible assumption | with_reducible apply Below.setCell | with_reducible apply Below.alloc | with_reducible apply Below.drew | with_reducible apply below_drewN | with_reducible exact Nat.le_refl _ | (simp; done) | (simp; omega) | omega | exact Nat.le_refl _))) _ L y _ rfl rfl _ (by first | (simp; done) | (simp; omega)) rfl rfl hJ1.out (by omega) ?_)
                      intro g3 c3 w3 hO3 hBar3 hM3
                      have hJ3 : Hid (OwnT W0.heap.size w3 (.slice (some ⟨g3, 0, none⟩) (out.length + m + 1) c3) (out ++ (ys.take (m + 1)).map (shT out.length)) ∧ Bar (fun k => Value.ownBlock (.slice ao out.length co) = some k) W2 w3 ∧ (∀ k, Value.ownBlock (.slice (some ⟨g3, 0, none⟩) (out.length + m + 1) c3) = some k → Value.ownBlock (.slice ao out.length co) = some k ∨ W2.heap.size ≤ k)) := Lib.hid (tf_more hJJ.out hO3 hBar3 hM3 hOl (by rw [htk2.out, hsh.out, ← hL2.out, List.append_assoc]))
                      clear hO3 hBar3 hM3
                      (try rw [hOl])
                      go_wp2_with fail
                      go_roundw
                      case rel => exact ⟨m + 1, by omega, by go_num, hJ3⟩
                      case measure => simp [intOf]; omega
                  · obtain rfl : m = ys.length := by omega
                    have hO3 := Lib.hid (show OwnT W0.heap.size W (.slice va (out.length + ys.length) vc) (out ++ ys.map (shT out.length)) from by have := hJ.out.1; rwa [List.take_length] at this)
                    have hE3 := Lib.hid (ownI_barT hJ.out.2.1 hO2.out hE2.out)
                    have hB3 := hBW2
                    have hLEN := Lib.hid (show (out ++ ys.map (shT out.length)).length = out.length + ys.length by rw [List.length_append, List.length_map])
                    rename World => w3
                    clear hJ hUW hYA
                    have hs3 := hB3.out.size
                    by_cases hbig : 256 < (out.length + ys.length : Nat)
                    · have hfl := Lib.hid (hstop.out (by rw [hst.out]; exact lastE_none (by have := hLEN.out; omega)))
                      go_wp2_with (at_builtin; refine op_inh rfl (.tmp 128) (.tmp 132) _ w3 W0.heap.size (by omega) (by (repeat' (first | with_reducible exact Below.refl _ _ | with_reducible assumption | with_reducible apply Below.setCell | with_reducible apply Below.alloc | with_reducible apply Below.drew | with_reducible apply below_drewN | with_reducible exact Nat.le_refl _ | (simp; done) | (simp; omega) | omega | exact Nat.le_refl _))) _ ends _ rfl rfl _ (by first | (simp; done) | (simp; omega)) rfl hE3.out (by omega) ?_)
                      intro g5 c5 w5 hE5 hBar5 hM5
                      have hB5 := Lib.hid (hB3.out.trans (bar_belI hBar5 hE3.out (by omega)))
                      have hR0 : w5.cell? ⟨w.heap.size + 1, 0, none⟩ = some (.slice none 0 0) := carry hB5.out (by omega) hRes.out.2.1
                      have hR1 : w5.frozen? ⟨w.heap.size + 1, 0, none⟩ = false := by rw [hB5.out.frozen (p := ⟨w.heap.size + 1, 0, none⟩) (show w.heap.size + 1 < W0.heap.size by omega)]; exact hRes.out.2.2.1
                      clear hE5 hBar5 hM5
                      go_wp2_with fail
                      exact bodyPost_ret (v := .tuple #[.agg #[.slice none 0 0], .bool false]) (by simp [results, Tryd.results37, go_sem, hR0, hR1]) rfl ⟨.slice none 0 0, by rw [hfl.out.1], by rw [hfl.out.2]; exact OwnT.nil _ _, by have := hRes.out.2.2.2.2.trans (hB5.out.mono (by omega)); (repeat' (first | with_reducible exact Below.refl _ _ | with_reducible assumption | with_reducible apply Below.setCell | with_reducible apply Below.alloc | with_reducible apply Below.drew | with_reducible apply below_drewN | with_reducible exact Nat.le_refl _ | (simp; done) | (simp; omega) | omega | exact Nat.le_refl _))⟩
                    · have hrn : Hid (runT (sgB xs) (rhB xs) (ts.take (j + 1)) ([], []) = some (out ++ ys.map (shT out.length), ends ++ [((out.length + ys.length : Nat) : Int) - 1])) := Lib.hid (by rw [runT_take hlt hrun.out, htj.out, hst.out, lastE_some (by have := hLEN.out; omega), hLEN.out])
                      go_wp2_with (at_builtin; refine op_inh rfl (.tmp 128) (.tmp 132) _ w3 W0.heap.size (by omega) (by (repeat' (first | with_reducible exact Below.refl _ _ | with_reducible assumption | with_reducible apply Below.setCell | with_reducible apply Below.alloc | with_reducible apply Below.drew | with_reducible apply below_drewN | with_reducible exact Nat.le_refl _ | (simp; done) | (simp; omega) | omega | exact Nat.le_refl _))) _ ends _ rfl rfl _ (by first | (simp; done) | (simp; omega)) rfl hE3.out (by omega) ?_)
                      intro g5 c5 w5 hE5 hBar5 hM5
                      have hB5 := Lib.hid (hB3.out.trans (bar_belI hBar5 hE3.out (by omega)))
                      have hO5 := Lib.hid (ownT_barI hBar5 hE3.out hO3.out)
                      have hE5' := Lib.hid (ends_last hE5 (show _ = ((out.length + ys.length : Nat) : Int) - 1 by omega))
                      clear hE5 hBar5 hM5
                      go_wp2_with fail
                      go_roundw
                      case rel => exact ⟨j + 1, by omega, by go_num, Lib.hid ⟨_, _, hrn.out, hO5.out, hE5'.out, hB5.out⟩⟩
                      case measure => simp [intOf]; omega
              · have hqe : (q.v == v) = false := beq_eq_false_iff_ne.2 hqv
                have hf2 : Hid (fst (xs.take (mx + 1)) false v = none) := Lib.hid (by rw [htk.out, hfs.out, if_neg (fun hc => hqv hc.2)]; rfl)
                clear hqv
                go_wp2_with fail
                go_quiet (fail)
                go_wp2_with fail
                go_roundw
                case rel => exact ⟨mx + 1, by omega, by go_num, below_drewN hbl.out _, hf2⟩
                case measure => simp [intOf]; omega
            · rw [hqi] at d1
              have hf2 : Hid (fst (xs.take (mx + 1)) false v = none) := Lib.hid (by rw [htk.out, hfs.out, if_neg (fun hc => by rw [hqi] at hc; cases hc.1)]; rfl)
              go_wp2_with fail
              go_quiet (fail)
              go_wp2_with fail
              go_roundw
              case rel => exact ⟨mx + 1, by omega, by go_num, below_drewN hbl.out _, hf2⟩
              case measure => simp [intOf]; omega
          · have hst := Lib.hid (hsn.out (sgB_none (by have := hfs.out; rwa [show mx = xs.length by omega, List.take_length] at this)))
            go_wp2_with fail
            obtain ⟨ua, hua⟩ : ∃ u, (some ⟨wr.heap.size + 1, 0, none⟩ : Option Addr) = u := ⟨_, rfl⟩
            obtain ⟨ys, hys⟩ : ∃ u, ([vrT v] : List Ty) = u := ⟨_, rfl⟩
            have hyl1 : ys.length = 1 := by rw [← hys]; rfl
            obtain ⟨uc, hUB⟩ : ∃ uc, Hid (BoxAt Wl (wr.heap.size + 1 + 1) (.slice ua ys.length uc)) := ⟨1, Lib.hid (by rw [← hua, ← hys]; exact hUl.out)⟩
            have hYA : Hid (TyArg Wl ua ys.length ys) := Lib.hid (by rw [← hua, ← hys]; exact hAl.out)
            have hYn : Hid (∀ b off, ua = some ⟨b, off, none⟩ → ¬ (Value.ownBlock (.slice ao out.length co) = some b)) := Lib.hid fun b off hb hc => by
              have h1 := (own_lt hO.out _ hc).2
              rw [← hua] at hb
              injection hb with hb; injection hb with hb _; omega
            have hYc : Hid (∀ m, m < ys.length → (ys.getD m ty0).k = 3 → 0 ≤ (ys.getD m ty0).a ∧ (ys.getD m ty0).a < 256 ∧ 0 ≤ (ys.getD m ty0).b ∧ (ys.getD m ty0).b < 256) := Lib.hid fun m hm h3 => by
              exfalso
              rw [hyl1] at hm
              obtain rfl : m = 0 := by omega
              rw [← hys] at h3
              have : (2 : Int) = 3 := h3
              omega
            have hyl : ys.length ≤ 256 := by omega
            rw [hys] at hst
            have hW2 := hWl
            rename World => W2
            clear hua hys hch hsn hss hyl1
            have hs2 := hW2.out.size
            have hO2 := Lib.hid (OwnT.below hO.out hW2.out)
            have hE2 := Lib.hid (OwnI.below hE.out hW2.out)
            have hB2 := Lib.hid (hBW.out.trans (hW2.out.mono (by omega)))
            go_loopw [6, 13] (fun v i W => ∃ m : Nat, m ≤ ys.length ∧ i = .int .i64 m ∧ Hid (OwnT W0.heap.size W v (out ++ (ys.take m).map (shT out.length)) ∧ Bar (fun k => Value.ownBlock (.slice ao out.length co) = some k) W2 W ∧ (∀ k, v.ownBlock = some k → Value.ownBlock (.slice ao out.length co) = some k ∨ W2.heap.size ≤ k))) (fun _ i _ => ys.length - (intOf i).toNat)
            case atStart => exact ⟨0, by omega, rfl, Lib.hid ⟨by rw [List.take_zero, List.map_nil, List.append_nil]; exact hO2.out, Bar.refl _ _, fun k hk => .inl hk⟩⟩
            case round =>
              rename World => W
              obtain ⟨m, hm, rfl, hJ⟩ := hrel
              have hUW := Lib.hid (BoxAt.bar hUB.out hJ.out.2.1 (by intro hc; have := (own_lt hO.out _ hc).2; omega))
              obtain ⟨u0, u1⟩ := hUW.out
              have hBW2 := Lib.hid (hB2.out.trans (bar_belO hJ.out.2.1 hO2.out (by have := hB2.out.size; omega)))
              have hsW := hJ.out.2.1.size
              have hsB := hB2.out.size
              have hOl : (out ++ (ys.take m).map (shT out.length)).length = out.length + m := by rw [List.length_append, List.length_map, List.length_take]; omega
              obtain ⟨va, vn, vc, hveq⟩ := ownT_sl hJ.out.1
              subst hveq
              have hvn : vn = out.length + m := by rw [← hOl]; exact hJ.out.1.arg.1
              subst hvn
              by_cases hmy : m < ys.length
              · have hYW := Lib.hid (TyArg.bar hYA.out hJ.out.2.1 hYn.out)
                obtain ⟨yb, yoff, rfl, hysl, hybs⟩ : ∃ b off, ua = some ⟨b, off, none⟩ ∧ TySl W b off ys ∧ b < W.heap.size := by
                  rcases hYW.out.2 with h0 | h0
                  · rw [h0] at hmy; simp at hmy
                  · exact h0
                have hN := hysl m hmy
                have hch := hYc.out m hmy
                have htk2 := Lib.hid (take_map (shT out.length) ys ty0 hmy)
                generalize ys.getD m ty0 = y at hN hch htk2
                obtain ⟨y0, y1, y2, y3, y4, y5, y6, y7, y8⟩ := hN
                have hmy' : (m : Int) < (ys.length : Int) := by omega
                have hm0 : (0 : Int) ≤ (m : Int) := by omega
                obtain ⟨L, hL⟩ : ∃ L, out ++ (ys.take m).map (shT out.length) = L := ⟨_, rfl⟩
                have hJ1 := Lib.hid hJ.out.1
                have hJJ := Lib.hid hJ.out
                rw [hL] at hJ1 hJJ hOl
                have hL2 := Lib.hid hL
                clear hysl hL
                by_cases hy3 : y.k = 3
                · obtain ⟨ha0, ha1, hb0, hb1⟩ := hch hy3
                  have hsh : Hid (shT out.length y = ⟨3, y.v, y.a + out.length, y.b + out.length, y.c0, y.c1, y.c2, y.c3, y.t⟩) := Lib.hid (by unfold shT; rw [if_pos hy3, ← hy3])
                  rw [hy3] at y0
                  clear hch
                  go_wp2_with (at_builtin; refine op_tyh rfl (.tmp 94) (.tmp 96) _ W W0.heap.size (by omega) (by (repeat' (first | with_reducible exact Below.refl _ _ | with_reducible assumption | with_reducible apply Below.setCell | with_reducible apply Below.alloc | with_reducible apply Below.drew | with_reducible apply below_drewN | with_reducible exact Nat.le_refl _ | (simp; done) | (simp; omega) | omega | exact Nat.le_refl _))) _ L ⟨3, y.v, y.a + out.length, y.b + out.length, y.c0, y.c1, y.c2, y.c3, y.t⟩ _ rfl rfl _ (by first | (simp; done) | (simp; omega)) rfl rfl hJ1.out (by omega) ?_)
                  intro g3 c3 w3 hO3 hBar3 hM3
                  have hJ3 : Hid (OwnT W0.heap.size w3 (.slice (some ⟨g3, 0, none⟩) (out.length + m + 1) c3) (out ++ (ys.take (m + 1)).map (shT out.length)) ∧ Bar (fun k => Value.ownBlock (.slice ao out.length co) = some k) W2 w3 ∧ (∀ k, Value.ownBlock (.slice (some ⟨g3, 0, none⟩) (out.length + m + 1) c3) = some k → Value.ownBlock (.slice ao out.length co) = some k ∨ W2.heap.size ≤ k)) := Lib.hid (tf_more hJJ.out hO3 hBar3 hM3 hOl (by rw [htk2.out, hsh.out, ← hL2.out, List.append_assoc]))
                  clear hO3 hBar3 hM3
                  (try rw [hOl])
                  go_wp2_with fail
                  go_roundw
                  case rel => exact ⟨m + 1, by omega, by go_num, hJ3⟩
                  case measure => simp [intOf]; omega
                · have hsh : Hid (shT out.length y = y) := Lib.hid (by unfold shT; rw [if_neg hy3])
                  have hy4 : (y.k == 3) = false := beq_eq_false_iff_ne.2 hy3
                  clear hch hy3
                  go_wp2_with (at_builtin; refine op_tyh rfl (.tmp 94) (.tmp 96) _ W W0.heap.size (by omega) (by (repeat' (first | with_reducible exact Below.refl _ _ | with_reducible assumption | with_reducible apply Below.setCell | with_reducible apply Below.alloc | with_reducible apply Below.drew | with_reducible apply below_drewN | with_reducible exact Nat.le_refl _ | (simp; done) | (simp; omega) | omega | exact Nat.le_refl _))) _ L y _ rfl rfl _ (by first | (simp; done) | (simp; omega)) rfl rfl hJ1.out (by omega) ?_)
                  intro g3 c3 w3 hO3 hBar3 hM3
                  have hJ3 : Hid (OwnT W0.heap.size w3 (.slice (some ⟨g3, 0, none⟩) (out.length + m + 1) c3) (out ++ (ys.take (m + 1)).map (shT out.length)) ∧ Bar (fun k => Value.ownBlock (.slice ao out.length co) = some k) W2 w3 ∧ (∀ k, Value.ownBlock (.slice (some ⟨g3, 0, none⟩) (out.length + m + 1) c3) = some k → Value.ownBlock (.slice ao out.length co) = some k ∨ W2.heap.size ≤ k)) := Lib.hid (tf_more hJJ.out hO3 hBar3 hM3 hOl (by rw [htk2.out, hsh.out, ← hL2.out, List.append_assoc]))
                  clear hO3 hBar3 hM3
                  (try rw [hOl])
                  go_wp2_with fail
                  go_roundw
                  case rel => exact ⟨m + 1, by omega, by go_num, hJ3⟩
                  case measure => simp [intOf]; omega
              · obtain rfl : m = ys.length := by omega
                have hO3 := Lib.hid (show OwnT W0.heap.size W (.slice va (out.length + ys.length) vc) (out ++ ys.map (shT out.length)) from by have := hJ.out.1; rwa [List.take_length] at this)
                have hE3 := Lib.hid (ownI_barT hJ.out.2.1 hO2.out hE2.out)
                have hB3 := hBW2
                have hLEN := Lib.hid (show (out ++ ys.map (shT out.length)).length = out.length + ys.length by rw [List.length_append, List.length_map])
                rename World => w3
                clear hJ hUW hYA
                have hs3 := hB3.out.size
                by_cases hbig : 256 < (out.length + ys.length : Nat)
                · have hfl := Lib.hid (hstop.out (by rw [hst.out]; exact lastE_none (by have := hLEN.out; omega)))
                  go_wp2_with (at_builtin; refine op_inh rfl (.tmp 128) (.tmp 132) _ w3 W0.heap.size (by omega) (by (repeat' (first | with_reducible exact Below.refl _ _ | with_reducible assumption | with_reducible apply Below.setCell | with_reducible apply Below.alloc | with_reducible apply Below.drew | with_reducible apply below_drewN | with_reducible exact Nat.le_refl _ | (simp; done) | (simp; omega) | omega | exact Nat.le_refl _))) _ ends _ rfl rfl _ (by first | (simp; done) | (simp; omega)) rfl hE3.out (by omega) ?_)
                  intro g5 c5 w5 hE5 hBar5 hM5
                  have hB5 := Lib.hid (hB3.out.trans (bar_belI hBar5 hE3.out (by omega)))
                  have hR0 : w5.cell? ⟨w.heap.size + 1, 0, none⟩ = some (.slice none 0 0) := carry hB5.out (by omega) hRes.out.2.1
                  have hR1 : w5.frozen? ⟨w.heap.size + 1, 0, none⟩ = false := by rw [hB5.out.frozen (p := ⟨w.heap.size + 1, 0, none⟩) (show w.heap.size + 1 < W0.heap.size by omega)]; exact hRes.out.2.2.1
                  clear hE5 hBar5 hM5
                  go_wp2_with fail
                  exact bodyPost_ret (v := .tuple #[.agg #[.slice none 0 0], .bool false]) (by simp [results, Tryd.results37, go_sem, hR0, hR1]) rfl ⟨.slice none 0 0, by rw [hfl.out.1], by rw [hfl.out.2]; exact OwnT.nil _ _, by have := hRes.out.2.2.2.2.trans (hB5.out.mono (by omega)); (repeat' (first | with_reducible exact Below.refl _ _ | with_reducible assumption | with_reducible apply Below.setCell | with_reducible apply Below.alloc | with_reducible apply Below.drew | with_reducible apply below_drewN | with_reducible exact Nat.le_refl _ | (simp; done) | (simp; omega) | omega | exact Nat.le_refl _))⟩
                · have hrn : Hid (runT (sgB xs) (rhB xs) (ts.take (j + 1)) ([], []) = some (out ++ ys.map (shT out.length), ends ++ [((out.length + ys.length : Nat) : Int) - 1])) := Lib.hid (by rw [runT_take hlt hrun.out, htj.out, hst.out, lastE_some (by have := hLEN.out; omega), hLEN.out])
                  go_wp2_with (at_builtin; refine op_inh rfl (.tmp 128) (.tmp 132) _ w3 W0.heap.size (by omega) (by (repeat' (first | with_reducible exact Below.refl _ _ | with_reducible assumption | with_reducible apply Below.setCell | with_reducible apply Below.alloc | with_reducible apply Below.drew | with_reducible apply below_drewN | with_reducible exact Nat.le_refl _ | (simp; done) | (simp; omega) | omega | exact Nat.le_refl _))) _ ends _ rfl rfl _ (by first | (simp; done) | (simp; omega)) rfl hE3.out (by omega) ?_)
                  intro g5 c5 w5 hE5 hBar5 hM5
                  have hB5 := Lib.hid (hB3.out.trans (bar_belI hBar5 hE3.out (by omega)))
                  have hO5 := Lib.hid (ownT_barI hBar5 hE3.out hO3.out)
                  have hE5' := Lib.hid (ends_last hE5 (show _ = ((out.length + ys.length : Nat) : Int) - 1 by omega))
                  clear hE5 hBar5 hM5
                  go_wp2_with fail
                  go_roundw
                  case rel => exact ⟨j + 1, by omega, by go_num, Lib.hid ⟨_, _, hrn.out, hO5.out, hE5'.out, hB5.out⟩⟩
                  case measure => simp [intOf]; omega
      · have hxab := hch.out rfl
        simp only [fnT] at hxab e0 e1 e2 e3 e4 e5 e6 e7 e8
        obtain ⟨na, hna⟩ := Int.eq_ofNat_of_zero_le hxab.1
        obtain ⟨nb, hnb⟩ := Int.eq_ofNat_of_zero_le hxab.2.2.1
        subst hna hnb
        have hna1 : na < ends.length := by omega
        have hnb1 : nb < ends.length := by omega
        have hkR := Lib.hid fun (W : World) (hb : Below wr.heap.size wr W) => hrow.out W (hBw.out.trans (hb.mono (by omega))) r hr
        have hsy := Lib.hid fun hc => stepT_fn (σ := sgB xs) (ρ := rhB xs) (a := na) (b := nb) (r := r) out ends hc
        have hsn := Lib.hid fun hc => stepT_fn_no (σ := sgB xs) (ρ := rhB xs) (a := na) (b := nb) (r := r) out ends hc
        simp only [Int.toNat_natCast] at hsy
        have hro : Hid (roV xs r = if (putR (rhB xs) r).cnt then putR (rhB xs) r else rw0) := Lib.hid rfl
        unfold RoPost at hkR
        generalize roV xs r = V at hkR hro
        obtain ⟨P, hP⟩ : ∃ p, putR (rhB xs) r = p := ⟨_, rfl⟩
        rw [hP] at hkR hro hsy hsn
        obtain ⟨C, hC⟩ : ∃ p, P.cnt = p := ⟨_, rfl⟩
        rw [hC] at hkR hro hsy hsn
        unfold rwV at hkR
        clear hP hC hch hxab
        have hX0 : Hid (TnAt (wr.alloc (.cells #[.int .i64 3, .int .i64 0, .int .i64 na, .int .i64 nb, .int .i64 r.a, .int .i64 r.b, .int .i64 r.c, .int .i64 r.d, .int .i64 r.t] 38)) wr.heap.size (fnT na nb r)) := Lib.hid (TnAt.alc rfl rfl)
        have hfz : Hid (∀ o, (wr.alloc (.cells #[.int .i64 3, .int .i64 0, .int .i64 na, .int .i64 nb, .int .i64 r.a, .int .i64 r.b, .int .i64 r.c, .int .i64 r.d, .int .i64 r.t] 38)).frozen? ⟨wr.heap.size, o, none⟩ = false) := Lib.hid (by simp [go_sem])
        go_wp2_with fail
        refine (hkR.out _ (below_alc wr _)).mono ?_
        rintro e w1 ⟨rfl, hb1⟩
        have hw1 := Lib.hid (belT (below_alc wr _) hb1)
        have hX1 := hX0.out.below hb1
        have hf1 : ∀ o, w1.frozen? ⟨wr.heap.size, o, none⟩ = false := fun o => by rw [hb1.frozen (p := ⟨wr.heap.size, o, none⟩) (by simp)]; exact hfz.out o
        have hwr1 : Below wr.heap.size wr w1 := hw1.out
        have hs1 := hwr1.size
        clear hb1 e0 e1 e2 e3 e4 e5 e6 e7 e8
        cases C
        · have hfl := Lib.hid (hstop.out (hsn.out rfl))
          have hR0 : w1.cell? ⟨w.heap.size + 1, 0, none⟩ = some (.slice none 0 0) := carry (hBW.out.trans (hw1.out.mono (by omega))) (by omega) hRes.out.2.1
          have hR1 : w1.frozen? ⟨w.heap.size + 1, 0, none⟩ = false := by rw [(hBW.out.trans (hw1.out.mono (by omega))).frozen (p := ⟨w.heap.size + 1, 0, none⟩) (show w.heap.size + 1 < W0.heap.size by omega)]; exact hRes.out.2.2.1
          have hsz1 : w.heap.size + 1 < w1.heap.size := by omega
          clear hX1 hf1
          go_wp2_with fail
          exact bodyPost_ret (v := .tuple #[.agg #[.slice none 0 0], .bool false]) (by simp [results, Tryd.results37, go_sem, hR0, hR1, hsz1]) rfl ⟨.slice none 0 0, by rw [hfl.out.1], by rw [hfl.out.2]; exact OwnT.nil _ _, by have := hBw.out.trans (hw1.out.mono (by omega)); (repeat' (first | with_reducible exact Below.refl _ _ | with_reducible assumption | with_reducible apply Below.setCell | with_reducible apply Below.alloc | with_reducible apply Below.drew | with_reducible apply below_drewN | with_reducible exact Nat.le_refl _ | (simp; done) | (simp; omega) | omega | exact Nat.le_refl _))⟩
        · obtain rfl : V = P := by rw [hro.out]; rfl
          have hst := Lib.hid (hsy.out rfl)
          obtain ⟨_, hEA2⟩ := hEA.out.below hw1.out
          obtain ⟨eb, eoff, rfl, hesl, heb⟩ : ∃ b off, ae = some ⟨b, off, none⟩ ∧ IsSl wr b off ends ∧ b < wr.heap.size := by
            rcases hEA.out.2 with h0 | h0
            · rw [h0] at hna1; simp at hna1
            · exact h0
          have ea := hesl.below hw1.out heb na hna1
          have eb' := hesl.below hw1.out heb nb hnb1
          generalize ends.getD na 0 = za at ea hst
          generalize ends.getD nb 0 = zb at eb' hst
          have hne1 : eb ≠ wr.heap.size := by omega
          have hne2 : wr.heap.size ≠ eb := by omega
          have hne3 : w1.heap.size ≠ wr.heap.size := by have := hX1.1; omega
          have hne4 : wr.heap.size ≠ w1.heap.size := by have := hX1.1; omega
          have hn1' : (na : Int) < (ends.length : Int) := by omega
          have hn2' : (nb : Int) < (ends.length : Int) := by omega
          have hn3' : (0 : Int) ≤ (na : Int) := by omega
          have hn4' : (0 : Int) ≤ (nb : Int) := by omega
          have hebw : eb < w1.heap.size := by omega
          obtain ⟨x0, x1, x2, x3, x4, x5, x6, x7, x8, x9⟩ := hX1
          simp only [fnT] at x1 x2 x3 x4 x5 x6 x7 x8 x9
          have g2 := hf1 2; have g3 := hf1 3; have g4 := hf1 4; have g5 := hf1 5; have g6 := hf1 6; have g7 := hf1 7; have g8 := hf1 8
          clear hEA2 hesl hf1
          go_wp2_with (at_builtin; refine op_tyh rfl (.tmp 124) (.tmp 126) _ wr W0.heap.size (by omega) (by (repeat' (first | with_reducible exact Below.refl _ _ | with_reducible assumption | with_reducible apply Below.setCell | with_reducible apply Below.alloc | with_reducible apply Below.drew | with_reducible apply below_drewN | with_reducible exact Nat.le_refl _ | (simp; done) | (simp; omega) | omega | exact Nat.le_refl _))) _ out (fnT za zb V) _ rfl rfl _ (by first | (simp; done) | (simp; omega)) rfl rfl hO.out (by omega) ?_)
          intro g3 c3 w3 hO3 hBar3 hM3
          have hE3 := Lib.hid (ownI_barT hBar3 hO.out hE.out)
          have hB3 := Lib.hid (hBW.out.trans (bar_belO hBar3 hO.out (by omega)))
          have hO3 := Lib.hid hO3
          have hLEN := Lib.hid (show (out ++ [fnT za zb V]).length = out.length + 1 by simp)
          clear hBar3 hM3 x0 x1 x2 x3 x4 x5 x6 x7 x8 x9 g2 g4 g5 g6 g7 g8 ea eb'
          have hs3 := hB3.out.size
          by_cases hbig : 256 < (out.length + 1 : Nat)
          · have hfl := Lib.hid (hstop.out (by rw [hst.out]; exact lastE_none (by have := hLEN.out; omega)))
            go_wp2_with (at_builtin; refine op_inh rfl (.tmp 128) (.tmp 132) _ w3 W0.heap.size (by omega) (by (repeat' (first | with_reducible exact Below.refl _ _ | with_reducible assumption | with_reducible apply Below.setCell | with_reducible apply Below.alloc | with_reducible apply Below.drew | with_reducible apply below_drewN | with_reducible exact Nat.le_refl _ | (simp; done) | (simp; omega) | omega | exact Nat.le_refl _))) _ ends _ rfl rfl _ (by first | (simp; done) | (simp; omega)) rfl hE3.out (by omega) ?_)
            intro g5 c5 w5 hE5 hBar5 hM5
            have hB5 := Lib.hid (hB3.out.trans (bar_belI hBar5 hE3.out (by omega)))
            have hR0 : w5.cell? ⟨w.heap.size + 1, 0, none⟩ = some (.slice none 0 0) := carry hB5.out (by omega) hRes.out.2.1
            have hR1 : w5.frozen? ⟨w.heap.size + 1, 0, none⟩ = false := by rw [hB5.out.frozen (p := ⟨w.heap.size + 1, 0, none⟩) (show w.heap.size + 1 < W0.heap.size by omega)]; exact hRes.out.2.2.1
            clear hE5 hBar5 hM5
            go_wp2_with fail
            exact bodyPost_ret (v := .tuple #[.agg #[.slice none 0 0], .bool false]) (by simp [results, Tryd.results37, go_sem, hR0, hR1]) rfl ⟨.slice none 0 0, by rw [hfl.out.1], by rw [hfl.out.2]; exact OwnT.nil _ _, by have := hRes.out.2.2.2.2.trans (hB5.out.mono (by omega)); (repeat' (first | with_reducible exact Below.refl _ _ | with_reducible assumption | with_reducible apply Below.setCell | with_reducible apply Below.alloc | with_reducible apply Below.drew | with_reducible apply below_drewN | with_reducible exact Nat.le_refl _ | (simp; done) | (simp; omega) | omega | exact Nat.le_refl _))⟩
          · have hrn : Hid (runT (sgB xs) (rhB xs) (ts.take (j + 1)) ([], []) = some (out ++ [fnT za zb V], ends ++ [((out.length + 1 : Nat) : Int) - 1])) := Lib.hid (by rw [runT_take hlt hrun.out, htj.out, hst.out, lastE_some (by have := hLEN.out; omega), hLEN.out])
            go_wp2_with (at_builtin; refine op_inh rfl (.tmp 128) (.tmp 132) _ w3 W0.heap.size (by omega) (by (repeat' (first | with_reducible exact Below.refl _ _ | with_reducible assumption | with_reducible apply Below.setCell | with_reducible apply Below.alloc | with_reducible apply Below.drew | with_reducible apply below_drewN | with_reducible exact Nat.le_refl _ | (simp; done) | (simp; omega) | omega | exact Nat.le_refl _))) _ ends _ rfl rfl _ (by first | (simp; done) | (simp; omega)) rfl hE3.out (by omega) ?_)
            intro g5 c5 w5 hE5 hBar5 hM5
            have hB5 := Lib.hid (hB3.out.trans (bar_belI hBar5 hE3.out (by omega)))
            have hO5 := Lib.hid (ownT_barI hBar5 hE3.out hO3.out)
            have hE5' := Lib.hid (ends_last hE5 (show _ = ((out.length + 1 : Nat) : Int) - 1 by omega))
            clear hE5 hBar5 hM5
            go_wp2_with fail
            go_roundw
            case rel => exact ⟨j + 1, by omega, by go_num, Lib.hid ⟨_, _, hrn.out, hO5.out, hE5'.out, hB5.out⟩⟩
            case measure => simp [intOf]; omega
    · have hfin := Lib.hid (hend.out _ _ _ hlt hrun.out)
      have hR0 : wr.cell? ⟨w.heap.size + 1, 0, none⟩ = some (.slice none 0 0) := carry hBW.out (by omega) hRes.out.2.1
      have hR1 : wr.frozen? ⟨w.heap.size + 1, 0, none⟩ = false := by rw [hBW.out.frozen (p := ⟨w.heap.size + 1, 0, none⟩) (show w.heap.size + 1 < W0.heap.size by omega)]; exact hRes.out.2.2.1
      go_wp2_with fail
      exact bodyPost_ret (v := .tuple #[.agg #[.slice ao out.length co], .bool true]) (by simp [results, Tryd.results37, go_sem, hR0, hR1]) rfl ⟨.slice ao out.length co, by rw [hfin.out.1], by rw [← hfin.out.2]; exact ownT_le (ownT_put hO.out (by omega)) (by omega), by have := hBw.out; (repeat' (first | with_reducible exact Below.refl _ _ | with_reducible assumption | with_reducible apply Below.setCell | with_reducible apply Below.alloc | with_reducible apply Below.drew | with_reducible apply below_drewN | with_reducible exact Nat.le_refl _ | (simp; done) | (simp; omega) | omega | exact Nat.le_refl _))⟩
end Go.Proofs.YtfkdcconmecaoaaDoor
