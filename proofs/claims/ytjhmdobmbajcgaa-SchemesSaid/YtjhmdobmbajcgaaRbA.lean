/- The reference's rowOf. -/
import Derived.Test.YtjhmdobmbajcgaaSbH
namespace Go.Proofs.Ytjhmdobmbajcgaa
open Go.RowKit Go.Maps
set_option linter.unusedVariables false
set_option linter.unusedSimpArgs false

def roV (xs : List Bn) (r : Rw) : Rw := if (putR (rhB xs) r).cnt then putR (rhB xs) r else rw0
def RoPost (xs : List Bn) (r : Rw) (w : World) (e : Ending) (w' : World) : Prop := e = .returned (.tuple #[rwV (roV xs r), .bool (putR (rhB xs) r).cnt]) ∧ Below w.heap.size w w'
theorem putR_none {ρ : Int → Option Rw} {r : Rw} (h : r.t < 0 ∨ ρ r.t = none) : putR ρ r = r := by
  unfold putR
  rcases h with h | h
  · rw [if_pos h]
  · rw [h]; split <;> rfl
theorem fst_more {xs : List Bn} {ir : Bool} {v : Int} {k i : Nat} (h : fst (xs.take k) ir v = some i) : fst xs ir v = some i := by
  have : fst (xs.take k ++ xs.drop k) ir v = some i := by
    unfold fst at *
    rw [List.findIdx?_append, h]; rfl
  rwa [List.take_append_drop] at this
theorem rhB_at {xs : List Bn} {j : Nat} (hj : j < xs.length) {v : Int} (hf : fst (xs.take j) true v = none) (hir : (xs.getD j bn0).ir = true) (hv : (xs.getD j bn0).v = v) : rhB xs v = some (xs.getD j bn0).r := by
  have h1 : fst (xs.take (j + 1)) true v = some j := by rw [fst_take hj, hf, if_pos ⟨hir, hv⟩]; rfl
  unfold rhB
  rw [fst_more h1]; rfl
theorem rhB_no {xs : List Bn} {v : Int} (hf : fst xs true v = none) : rhB xs v = none := by unfold rhB; rw [hf]; rfl
/-- the memory of rowOf's inner loop. -/
def RoI (w wr : World) (r : Rw) (x : Bn) (n0 n1 n2 n3 : Int) (W : World) : Prop :=
  RC (wr.heap.size + 1) n0 n1 n2 n3 x.r.t W ∧ RowAt W w.heap.size r ∧ (wr.heap.size < W.heap.size ∧ W.cell? ⟨wr.heap.size, 3, none⟩ = some (.int .i64 x.r.a) ∧ W.cell? ⟨wr.heap.size, 4, none⟩ = some (.int .i64 x.r.b) ∧ W.cell? ⟨wr.heap.size, 5, none⟩ = some (.int .i64 x.r.c) ∧ W.cell? ⟨wr.heap.size, 6, none⟩ = some (.int .i64 x.r.d)) ∧
  RC (w.heap.size + 1) 0 0 0 0 0 W ∧ Below w.heap.size w W ∧ w.heap.size + 1 < wr.heap.size
theorem roRow {w wr W : World} {r : Rw} {k : Nat} {v : Value} (h : RowAt W w.heap.size r) (hw : w.heap.size + 1 < wr.heap.size) : RowAt (W.setCell ⟨wr.heap.size + 1, k, none⟩ v) w.heap.size r := by
  obtain ⟨h0, h1, h2, h3, h4, h5⟩ := h
  exact ⟨by simpa using h0, setO h1 (by first | (simp; done) | (simp; omega)), setO h2 (by first | (simp; done) | (simp; omega)), setO h3 (by first | (simp; done) | (simp; omega)), setO h4 (by first | (simp; done) | (simp; omega)), setO h5 (by first | (simp; done) | (simp; omega))⟩
theorem roC {w wr W : World} {n0 n1 n2 n3 t : Int} {k : Nat} {v : Value} (h : RC (w.heap.size + 1) n0 n1 n2 n3 t W) (hw : w.heap.size + 1 < wr.heap.size) : RC (w.heap.size + 1) n0 n1 n2 n3 t (W.setCell ⟨wr.heap.size + 1, k, none⟩ v) := by
  obtain ⟨h0, h1, h2, h3, h4, h5, h6⟩ := h
  exact ⟨setO h0 (by first | (simp; done) | (simp; omega)), setO h1 (by first | (simp; done) | (simp; omega)), setO h2 (by first | (simp; done) | (simp; omega)), setO h3 (by first | (simp; done) | (simp; omega)), setO h4 (by first | (simp; done) | (simp; omega)), fun o => by rw [World.frozen?_setCell]; exact h5 o, by simpa using h6⟩
theorem roB {wr W : World} {x : Bn} {k : Nat} {v : Value} (h : wr.heap.size < W.heap.size ∧ W.cell? ⟨wr.heap.size, 3, none⟩ = some (.int .i64 x.r.a) ∧ W.cell? ⟨wr.heap.size, 4, none⟩ = some (.int .i64 x.r.b) ∧ W.cell? ⟨wr.heap.size, 5, none⟩ = some (.int .i64 x.r.c) ∧ W.cell? ⟨wr.heap.size, 6, none⟩ = some (.int .i64 x.r.d)) :
    wr.heap.size < (W.setCell ⟨wr.heap.size + 1, k, none⟩ v).heap.size ∧ (W.setCell ⟨wr.heap.size + 1, k, none⟩ v).cell? ⟨wr.heap.size, 3, none⟩ = some (.int .i64 x.r.a) ∧ (W.setCell ⟨wr.heap.size + 1, k, none⟩ v).cell? ⟨wr.heap.size, 4, none⟩ = some (.int .i64 x.r.b) ∧ (W.setCell ⟨wr.heap.size + 1, k, none⟩ v).cell? ⟨wr.heap.size, 5, none⟩ = some (.int .i64 x.r.c) ∧ (W.setCell ⟨wr.heap.size + 1, k, none⟩ v).cell? ⟨wr.heap.size, 6, none⟩ = some (.int .i64 x.r.d) := by
  obtain ⟨h0, h1, h2, h3, h4⟩ := h
  exact ⟨by simpa using h0, setO h1 (by simp), setO h2 (by simp), setO h3 (by simp), setO h4 (by simp)⟩
theorem RoI.set0 {w wr W : World} {r : Rw} {x : Bn} {n0 n1 n2 n3 v : Int} (h : RoI w wr r x n0 n1 n2 n3 W) : RoI w wr r x v n1 n2 n3 (W.setCell ⟨wr.heap.size + 1, 0, none⟩ (.int .i64 v)) := by
  obtain ⟨h1, h2, h3, h4, h5, h6⟩ := h
  exact ⟨h1.set0, roRow h2 h6, roB h3, roC h4 h6, h5.setCell (by show w.heap.size ≤ wr.heap.size + 1; omega) _, h6⟩
theorem RoI.set1 {w wr W : World} {r : Rw} {x : Bn} {n0 n1 n2 n3 v : Int} (h : RoI w wr r x n0 n1 n2 n3 W) : RoI w wr r x n0 v n2 n3 (W.setCell ⟨wr.heap.size + 1, 1, none⟩ (.int .i64 v)) := by
  obtain ⟨h1, h2, h3, h4, h5, h6⟩ := h
  exact ⟨h1.set1, roRow h2 h6, roB h3, roC h4 h6, h5.setCell (by show w.heap.size ≤ wr.heap.size + 1; omega) _, h6⟩
theorem RoI.set2 {w wr W : World} {r : Rw} {x : Bn} {n0 n1 n2 n3 v : Int} (h : RoI w wr r x n0 n1 n2 n3 W) : RoI w wr r x n0 n1 v n3 (W.setCell ⟨wr.heap.size + 1, 2, none⟩ (.int .i64 v)) := by
  obtain ⟨h1, h2, h3, h4, h5, h6⟩ := h
  exact ⟨h1.set2, roRow h2 h6, roB h3, roC h4 h6, h5.setCell (by show w.heap.size ≤ wr.heap.size + 1; omega) _, h6⟩
theorem RoI.set3 {w wr W : World} {r : Rw} {x : Bn} {n0 n1 n2 n3 v : Int} (h : RoI w wr r x n0 n1 n2 n3 W) : RoI w wr r x n0 n1 n2 v (W.setCell ⟨wr.heap.size + 1, 3, none⟩ (.int .i64 v)) := by
  obtain ⟨h1, h2, h3, h4, h5, h6⟩ := h
  exact ⟨h1.set3, roRow h2 h6, roB h3, roC h4 h6, h5.setCell (by show w.heap.size ≤ wr.heap.size + 1; omega) _, h6⟩
theorem RoI.drewN {w wr W : World} {r : Rw} {x : Bn} {n0 n1 n2 n3 : Int} (h : RoI w wr r x n0 n1 n2 n3 W) (n : Nat) : RoI w wr r x n0 n1 n2 n3 (W.drewN n) := by
  obtain ⟨h1, h2, h3, h4, h5, h6⟩ := h
  have hb : Below W.heap.size W (W.drewN n) := below_drewN (Below.refl _ _) n
  exact ⟨h1.below hb, h2.below hb, ⟨h3.1, h3.2⟩, h4.below hb, below_drewN h5 n, h6⟩
theorem RoI.drew {w wr W : World} {r : Rw} {x : Bn} {n0 n1 n2 n3 : Int} (h : RoI w wr r x n0 n1 n2 n3 W) : RoI w wr r x n0 n1 n2 n3 W.drew := by
  obtain ⟨h1, h2, h3, h4, h5, h6⟩ := h
  have hb : Below W.heap.size W W.drew := (Below.refl _ _).drew
  exact ⟨h1.below hb, h2.below hb, ⟨h3.1, h3.2⟩, h4.below hb, h5.drew, h6⟩
set_option maxRecDepth 100000 in
set_option maxHeartbeats 8000000 in
theorem rowOf_sl (b off cp : Nat) (xs : List Bn) (r : Rw) (w : World) (h : Hid (BnSl w b off xs)) (hbs : b < w.heap.size) (hv : bsV xs = true) (hr : r.may = true) :
    Calls Try.prog 52 #[.slice (some ⟨b, off, none⟩) xs.length cp, rwV r] w (RoPost xs r w) := by
  have hl : xs.length ≤ 4096 := by unfold bsV at hv; simp only [Bool.and_eq_true, decide_eq_true_eq] at hv; exact hv.1
  have hrm := of_decide_eq_true (show mayR r.a r.b r.c r.d r.t = true from hr)
  have hsame := Lib.hid fun (hh : r.t < 0 ∨ rhB xs r.t = none) => (show (putR (rhB xs) r).cnt = true ∧ roV xs r = r from by
    have e : putR (rhB xs) r = r := putR_none hh
    have c : r.cnt = true := may_cnt hr
    unfold roV; rw [e, c]; exact ⟨rfl, rfl⟩)
  have hmeet := Lib.hid fun (j : Nat) (hj : j < xs.length) (ht : 0 ≤ r.t) (hf : fst (xs.take j) true r.t = none) (hir : (xs.getD j bn0).ir = true) (hvv : (xs.getD j bn0).v = r.t) => (show putR (rhB xs) r = ⟨(xs.getD j bn0).r.a + r.a, (xs.getD j bn0).r.b + r.b, (xs.getD j bn0).r.c + r.c, (xs.getD j bn0).r.d + r.d, (xs.getD j bn0).r.t⟩ ∧ (xs.getD j bn0).r.may = true from by
    have e := rhB_at hj hf hir hvv
    refine ⟨?_, rhB_ok hv _ _ e⟩
    unfold putR; rw [if_neg (by omega), e])
  have hro : roV xs r = if (putR (rhB xs) r).cnt then putR (rhB xs) r else rw0 := rfl
  unfold RoPost
  generalize roV xs r = V at hsame hro ⊢
  generalize hP : putR (rhB xs) r = P at hsame hmeet hro ⊢
  have hro := Lib.hid hro
  have hv := Lib.hid hv
  clear hP hr
  unfold rwV
  go_enter Try.func52, Try.ntmps52
  go_wp2_with fail
  go_loopw [6] (fun i wr => ∃ j : Nat, j ≤ xs.length ∧ i = .int .i64 j ∧ Hid (Below w.heap.size w wr ∧ RowAt wr w.heap.size r ∧ RC (w.heap.size + 1) 0 0 0 0 0 wr) ∧ Hid (r.t < 0 ∨ fst (xs.take j) true r.t = none)) (fun i _ => xs.length - (intOf i).toNat)
  case atStart => exact ⟨0, by omega, rfl, Lib.hid ⟨by (repeat' (first | with_reducible exact Below.refl _ _ | with_reducible assumption | with_reducible apply Below.setCell | with_reducible apply Below.alloc | with_reducible apply Below.drew | with_reducible apply below_drewN | with_reducible exact Nat.le_refl _ | (simp; done) | (simp; omega) | omega | exact Nat.le_refl _)), ⟨by simp; omega, by simp, by simp, by simp, by simp, by simp⟩, ⟨by simp, by simp, by simp, by simp, by simp, by simp [go_sem], by simp⟩⟩, Lib.hid (.inr rfl)⟩
  case round =>
    obtain ⟨j, hj, rfl, hI, hf⟩ := hrel
    obtain ⟨hbw, ⟨r0, r1, r2, r3, r4, r5⟩, hC⟩ := hI.out
    have hC' := Lib.hid hC
    obtain ⟨c0, c1, c2, c3, c4, c5, c6⟩ := hC
    have f0 := c5 0; have f1 := c5 1; have f2 := c5 2; have f3 := c5 3; have f4 := c5 4
    have hbw' := Lib.hid hbw
    by_cases hlt : j < xs.length
    · have hT := (h.out.below hbw hbs j hlt).1
      have htk := Lib.hid (fst_take (ir := true) hlt r.t)
      have hmj := Lib.hid (hmeet.out j hlt)
      have hbr : b < wr.heap.size := by have := hbw.size; omega
      generalize xs.getD j bn0 = x at hT htk hmj
      obtain ⟨e0, e1, e2, e3, e4, e5, e6, e7⟩ := hT
      have hlt' : (j : Int) < (xs.length : Int) := by omega
      have hj0 : (0 : Int) ≤ (j : Int) := by omega
      have hnext : Hid (∀ W, Below wr.heap.size wr W → Below w.heap.size w W ∧ RowAt W w.heap.size r ∧ RC (w.heap.size + 1) 0 0 0 0 0 W) := Lib.hid fun W hW => ⟨belT hbw'.out hW, hI.out.2.1.below hW, hI.out.2.2.below hW⟩
      clear hbw c5
      by_cases hgo : x.ir = true ∧ 0 ≤ r.t ∧ x.v = r.t
      · obtain ⟨g1, g2, g3⟩ := hgo
        obtain ⟨hPe, hxm⟩ := hmj.out g2 (Or.resolve_left hf.out (by omega)) g1 g3
        have hxm := of_decide_eq_true (show mayR x.r.a x.r.b x.r.c x.r.d x.r.t = true from hxm)
        have hPe := Lib.hid hPe
        rw [g1] at e1
        rw [g3] at e0
        clear hmj htk
        have hst : Hid (∀ o : Array Value, RoI w wr r x 0 0 0 0 ((wr.alloc (.cells #[.int .i64 r.t, .bool true, .slice x.ad x.n x.c, .int .i64 x.r.a, .int .i64 x.r.b, .int .i64 x.r.c, .int .i64 x.r.d, .int .i64 x.r.t] 49)).alloc (.cells #[.int .i64 0, .int .i64 0, .int .i64 0, .int .i64 0, .int .i64 x.r.t] 28))) := Lib.hid fun _ => ⟨⟨by simp, by simp, by simp, by simp, by simp, by simp [go_sem], by simp⟩, (hI.out.2.1.below (below_alc2 wr _ _)), ⟨by simp; omega, by simp, by simp, by simp, by simp⟩, hI.out.2.2.below (below_alc2 wr _ _), belT hbw'.out (below_alc2 wr _ _), c6⟩
        go_wp2_with fail
        go_loopw [9] (fun i W => ∃ k : Nat, k ≤ 4 ∧ i = .int .i64 k ∧ Hid (RoI w wr r x (if 0 < k then r.a + x.r.a else 0) (if 1 < k then r.b + x.r.b else 0) (if 2 < k then r.c + x.r.c else 0) (if 3 < k then r.d + x.r.d else 0) W ∧ (0 < k → r.a + x.r.a ≤ 32) ∧ (1 < k → r.b + x.r.b ≤ 32) ∧ (2 < k → r.c + x.r.c ≤ 32) ∧ (3 < k → r.d + x.r.d ≤ 32))) (fun i _ => 4 - (intOf i).toNat)
        case atStart => exact ⟨0, by omega, rfl, Lib.hid ⟨hst.out #[], by omega, by omega, by omega, by omega⟩⟩
        case round =>
          clear hnext
          have hno := Lib.hid fun (hh : 32 < r.a + x.r.a ∨ 32 < r.b + x.r.b ∨ 32 < r.c + x.r.c ∨ 32 < r.d + x.r.d) => (show (Ending.returned (.tuple #[.agg #[.int .i64 0, .int .i64 0, .int .i64 0, .int .i64 0, .int .i64 0], .bool false])) = .returned (.tuple #[.agg #[.int .i64 V.a, .int .i64 V.b, .int .i64 V.c, .int .i64 V.d, .int .i64 V.t], .bool P.cnt]) from by
            have hc : P.cnt = false := by rw [hPe.out]; unfold Rw.cnt cntR; exact decide_eq_false (by simp only []; omega)
            rw [hro.out, hc]; rfl)
          have hyes := Lib.hid fun (hh : r.a + x.r.a ≤ 32 ∧ r.b + x.r.b ≤ 32 ∧ r.c + x.r.c ≤ 32 ∧ r.d + x.r.d ≤ 32) => (show (Ending.returned (.tuple #[.agg #[.int .i64 (r.a + x.r.a), .int .i64 (r.b + x.r.b), .int .i64 (r.c + x.r.c), .int .i64 (r.d + x.r.d), .int .i64 x.r.t], .bool true])) = .returned (.tuple #[.agg #[.int .i64 V.a, .int .i64 V.b, .int .i64 V.c, .int .i64 V.d, .int .i64 V.t], .bool P.cnt]) from by
            have hc : P.cnt = true := by rw [hPe.out]; unfold Rw.cnt cntR; exact decide_eq_true (by simp only []; omega)
            rw [hro.out, hc, if_pos rfl, hPe.out]
            simp only [Int.add_comm])
          obtain ⟨k, hk, rfl, hk2⟩ := hrel
          have hk5 : k = 0 ∨ k = 1 ∨ k = 2 ∨ k = 3 ∨ k = 4 := by omega
          rcases hk5 with rfl | rfl | rfl | rfl | rfl
          · rename World => W
            have hri : RoI w wr r x 0 0 0 0 W := hk2.out.1
            have hRi := Lib.hid hri
            obtain ⟨⟨q0, q1, q2, q3, q4, q5, q6⟩, ⟨p0, p1, p2, p3, p4, p5⟩, ⟨b0, b1, b2, b3, b4⟩, ⟨d0, d1, d2, d3, d4, d5, d6⟩, hbW, _⟩ := hri
            have z0 := q5 0
            have hwr0 : IntKind.i64.wrap (r.a + x.r.a) = r.a + x.r.a := IntWalk.i64_in _ (by omega)
            have t0 := d5 0; have t1 := d5 1; have t2 := d5 2; have t3 := d5 3; have t4 := d5 4
            clear hk2 q5 d5
            by_cases hle : r.a + x.r.a ≤ 32
            · go_wp2_with fail
              go_region
              go_wp2_with fail
              go_roundw
              case rel => exact ⟨1, by omega, rfl, Lib.hid ⟨(RoI.set0 hRi.out).drew, fun _ => hle, by omega, by omega, by omega⟩⟩
              case measure => simp [intOf]
            · have hN := Lib.hid (hno.out (.inl (by omega)))
              go_wp2_with fail
              go_region
              go_wp2_with fail
              exact bodyPost_ret (v := .tuple #[.agg #[.int .i64 0, .int .i64 0, .int .i64 0, .int .i64 0, .int .i64 0], .bool false]) (by simp [results, Try.results52, go_sem, *]) rfl ⟨hN.out, by (repeat' (first | with_reducible exact Below.refl _ _ | with_reducible assumption | with_reducible apply Below.setCell | with_reducible apply Below.alloc | with_reducible apply Below.drew | with_reducible apply below_drewN | with_reducible exact Nat.le_refl _ | (simp; done) | (simp; omega) | omega | exact Nat.le_refl _))⟩
          · rename World => W
            have hri : RoI w wr r x (r.a + x.r.a) 0 0 0 W := hk2.out.1
            have hm0 : r.a + x.r.a ≤ 32 := hk2.out.2.1 (by omega)
            have hRi := Lib.hid hri
            obtain ⟨⟨q0, q1, q2, q3, q4, q5, q6⟩, ⟨p0, p1, p2, p3, p4, p5⟩, ⟨b0, b1, b2, b3, b4⟩, ⟨d0, d1, d2, d3, d4, d5, d6⟩, hbW, _⟩ := hri
            have z0 := q5 1
            have hwr0 : IntKind.i64.wrap (r.b + x.r.b) = r.b + x.r.b := IntWalk.i64_in _ (by omega)
            have t0 := d5 0; have t1 := d5 1; have t2 := d5 2; have t3 := d5 3; have t4 := d5 4
            clear hk2 q5 d5
            by_cases hle : r.b + x.r.b ≤ 32
            · go_wp2_with fail
              go_region
              go_wp2_with fail
              go_roundw
              case rel => exact ⟨2, by omega, rfl, Lib.hid ⟨(RoI.set1 hRi.out).drew, fun _ => hm0, fun _ => hle, by omega, by omega⟩⟩
              case measure => simp [intOf]
            · have hN := Lib.hid (hno.out (.inr (.inl (by omega))))
              go_wp2_with fail
              go_region
              go_wp2_with fail
              exact bodyPost_ret (v := .tuple #[.agg #[.int .i64 0, .int .i64 0, .int .i64 0, .int .i64 0, .int .i64 0], .bool false]) (by simp [results, Try.results52, go_sem, *]) rfl ⟨hN.out, by (repeat' (first | with_reducible exact Below.refl _ _ | with_reducible assumption | with_reducible apply Below.setCell | with_reducible apply Below.alloc | with_reducible apply Below.drew | with_reducible apply below_drewN | with_reducible exact Nat.le_refl _ | (simp; done) | (simp; omega) | omega | exact Nat.le_refl _))⟩
          · rename World => W
            have hri : RoI w wr r x (r.a + x.r.a) (r.b + x.r.b) 0 0 W := hk2.out.1
            have hm0 : r.a + x.r.a ≤ 32 := hk2.out.2.1 (by omega)
            have hm1 : r.b + x.r.b ≤ 32 := hk2.out.2.2.1 (by omega)
            have hRi := Lib.hid hri
            obtain ⟨⟨q0, q1, q2, q3, q4, q5, q6⟩, ⟨p0, p1, p2, p3, p4, p5⟩, ⟨b0, b1, b2, b3, b4⟩, ⟨d0, d1, d2, d3, d4, d5, d6⟩, hbW, _⟩ := hri
            have z0 := q5 2
            have hwr0 : IntKind.i64.wrap (r.c + x.r.c) = r.c + x.r.c := IntWalk.i64_in _ (by omega)
            have t0 := d5 0; have t1 := d5 1; have t2 := d5 2; have t3 := d5 3; have t4 := d5 4
            clear hk2 q5 d5
            by_cases hle : r.c + x.r.c ≤ 32
            · go_wp2_with fail
              go_region
              go_wp2_with fail
              go_roundw
              case rel => exact ⟨3, by omega, rfl, Lib.hid ⟨(RoI.set2 hRi.out).drew, fun _ => hm0, fun _ => hm1, fun _ => hle, by omega⟩⟩
              case measure => simp [intOf]
            · have hN := Lib.hid (hno.out (.inr (.inr (.inl (by omega)))))
              go_wp2_with fail
              go_region
              go_wp2_with fail
              exact bodyPost_ret (v := .tuple #[.agg #[.int .i64 0, .int .i64 0, .int .i64 0, .int .i64 0, .int .i64 0], .bool false]) (by simp [results, Try.results52, go_sem, *]) rfl ⟨hN.out, by (repeat' (first | with_reducible exact Below.refl _ _ | with_reducible assumption | with_reducible apply Below.setCell | with_reducible apply Below.alloc | with_reducible apply Below.drew | with_reducible apply below_drewN | with_reducible exact Nat.le_refl _ | (simp; done) | (simp; omega) | omega | exact Nat.le_refl _))⟩
          · rename World => W
            have hri : RoI w wr r x (r.a + x.r.a) (r.b + x.r.b) (r.c + x.r.c) 0 W := hk2.out.1
            have hm0 : r.a + x.r.a ≤ 32 := hk2.out.2.1 (by omega)
            have hm1 : r.b + x.r.b ≤ 32 := hk2.out.2.2.1 (by omega)
            have hm2 : r.c + x.r.c ≤ 32 := hk2.out.2.2.2.1 (by omega)
            have hRi := Lib.hid hri
            obtain ⟨⟨q0, q1, q2, q3, q4, q5, q6⟩, ⟨p0, p1, p2, p3, p4, p5⟩, ⟨b0, b1, b2, b3, b4⟩, ⟨d0, d1, d2, d3, d4, d5, d6⟩, hbW, _⟩ := hri
            have z0 := q5 3
            have hwr0 : IntKind.i64.wrap (r.d + x.r.d) = r.d + x.r.d := IntWalk.i64_in _ (by omega)
            have t0 := d5 0; have t1 := d5 1; have t2 := d5 2; have t3 := d5 3; have t4 := d5 4
            clear hk2 q5 d5
            by_cases hle : r.d + x.r.d ≤ 32
            · go_wp2_with fail
              go_region
              go_wp2_with fail
              go_roundw
              case rel => exact ⟨4, by omega, rfl, Lib.hid ⟨(RoI.set3 hRi.out).drew, fun _ => hm0, fun _ => hm1, fun _ => hm2, fun _ => hle⟩⟩
              case measure => simp [intOf]
            · have hN := Lib.hid (hno.out (.inr (.inr (.inr (by omega)))))
              go_wp2_with fail
              go_region
              go_wp2_with fail
              exact bodyPost_ret (v := .tuple #[.agg #[.int .i64 0, .int .i64 0, .int .i64 0, .int .i64 0, .int .i64 0], .bool false]) (by simp [results, Try.results52, go_sem, *]) rfl ⟨hN.out, by (repeat' (first | with_reducible exact Below.refl _ _ | with_reducible assumption | with_reducible apply Below.setCell | with_reducible apply Below.alloc | with_reducible apply Below.drew | with_reducible apply below_drewN | with_reducible exact Nat.le_refl _ | (simp; done) | (simp; omega) | omega | exact Nat.le_refl _))⟩
          · rename World => W
            have hri : RoI w wr r x (r.a + x.r.a) (r.b + x.r.b) (r.c + x.r.c) (r.d + x.r.d) W := hk2.out.1
            have hY := Lib.hid (hyes.out ⟨hk2.out.2.1 (by omega), hk2.out.2.2.1 (by omega), hk2.out.2.2.2.1 (by omega), hk2.out.2.2.2.2 (by omega)⟩)
            obtain ⟨⟨q0, q1, q2, q3, q4, q5, q6⟩, ⟨p0, p1, p2, p3, p4, p5⟩, ⟨b0, b1, b2, b3, b4⟩, ⟨d0, d1, d2, d3, d4, d5, d6⟩, hbW, _⟩ := hri
            have t0 := d5 0; have t1 := d5 1; have t2 := d5 2; have t3 := d5 3; have t4 := d5 4
            clear hk2 q5 d5
            go_wp2_with fail
            exact bodyPost_ret (v := .tuple #[.agg #[.int .i64 (r.a + x.r.a), .int .i64 (r.b + x.r.b), .int .i64 (r.c + x.r.c), .int .i64 (r.d + x.r.d), .int .i64 x.r.t], .bool true]) (by simp [results, Try.results52, go_sem, *]) rfl ⟨hY.out, by (repeat' (first | with_reducible exact Below.refl _ _ | with_reducible assumption | with_reducible apply Below.setCell | with_reducible apply Below.alloc | with_reducible apply Below.drew | with_reducible apply below_drewN | with_reducible exact Nat.le_refl _ | (simp; done) | (simp; omega) | omega | exact Nat.le_refl _))⟩
      · have hf2 : Hid (r.t < 0 ∨ fst (xs.take (j + 1)) true r.t = none) := Lib.hid (by
          rcases hf.out with h | h
          · exact .inl h
          · by_cases ht : r.t < 0
            · exact .inl ht
            · refine .inr ?_
              rw [htk.out, h, if_neg (fun hc => hgo ⟨hc.1, by omega, hc.2⟩)]; rfl)
        cases hir : x.ir
        · rw [hir] at e1
          go_wp2_with fail
          go_roundw
          case rel => exact ⟨j + 1, by omega, by go_num, Lib.hid (hnext.out _ (below_alc wr _)), hf2⟩
          case measure => simp [intOf]; omega
        · rw [hir] at e1
          by_cases ht : r.t < 0
          · go_wp2_with fail
            go_roundw
            case rel => exact ⟨j + 1, by omega, by go_num, Lib.hid (hnext.out _ (below_alc wr _)), hf2⟩
            case measure => simp [intOf]; omega
          · have hvt : (x.v == r.t) = false := beq_eq_false_iff_ne.2 (fun e => hgo ⟨hir, by omega, e⟩)
            have hvt2 : (x.v != r.t) = true := by simpa using hvt
            go_wp2_with fail
            go_roundw
            case rel => exact ⟨j + 1, by omega, by go_num, Lib.hid (hnext.out _ (below_alc wr _)), hf2⟩
            case measure => simp [intOf]; omega
    · obtain ⟨hcn, hVe⟩ := hsame.out (by
        rcases hf.out with h | h
        · exact .inl h
        · exact .inr (rhB_no (by rwa [show j = xs.length by omega, List.take_length] at h)))
      have hfin := Lib.hid (show (Ending.returned (.tuple #[.agg #[.int .i64 r.a, .int .i64 r.b, .int .i64 r.c, .int .i64 r.d, .int .i64 r.t], .bool true])) = .returned (.tuple #[.agg #[.int .i64 V.a, .int .i64 V.b, .int .i64 V.c, .int .i64 V.d, .int .i64 V.t], .bool P.cnt]) from by rw [hcn, hVe])
      clear hcn hVe c5
      go_wp2_with fail
      exact bodyPost_ret (v := .tuple #[.agg #[.int .i64 r.a, .int .i64 r.b, .int .i64 r.c, .int .i64 r.d, .int .i64 r.t], .bool true]) (by simp [results, Try.results52, go_sem, *]) rfl ⟨hfin.out, by have := hbw'.out; (repeat' (first | with_reducible exact Below.refl _ _ | with_reducible assumption | with_reducible apply Below.setCell | with_reducible apply Below.alloc | with_reducible apply Below.drew | with_reducible apply below_drewN | with_reducible exact Nat.le_refl _ | (simp; done) | (simp; omega) | omega | exact Nat.le_refl _))⟩
set_option maxHeartbeats 1000000 in
theorem rowOf_nil (a : Option Addr) (c : Nat) (r : Rw) (w : World) (hr : r.may = true) :
    Calls Try.prog 52 #[.slice a 0 c, rwV r] w (RoPost [] r w) := by
  have hfin := Lib.hid (show (Ending.returned (.tuple #[.agg #[.int .i64 r.a, .int .i64 r.b, .int .i64 r.c, .int .i64 r.d, .int .i64 r.t], .bool true])) = .returned (.tuple #[rwV (roV [] r), .bool (putR (rhB []) r).cnt]) from by
    have e : putR (rhB []) r = r := putR_none (.inr rfl)
    have c : r.cnt = true := may_cnt hr
    unfold roV; rw [e, c]; rfl)
  unfold RoPost
  generalize roV [] r = V at hfin ⊢
  generalize (putR (rhB []) r).cnt = C at hfin ⊢
  unfold rwV at *
  clear hr
  go_enter Try.func52, Try.ntmps52
  go_wp2_with fail
  go_loopw [6] (fun i wr => i = .int .i64 0 ∧ Hid (Below w.heap.size w wr ∧ RowAt wr w.heap.size r ∧ RC (w.heap.size + 1) 0 0 0 0 0 wr)) (fun _ _ => 0)
  case atStart => exact ⟨rfl, Lib.hid ⟨by (repeat' (first | with_reducible exact Below.refl _ _ | with_reducible assumption | with_reducible apply Below.setCell | with_reducible apply Below.alloc | with_reducible apply Below.drew | with_reducible apply below_drewN | with_reducible exact Nat.le_refl _ | (simp; done) | (simp; omega) | omega | exact Nat.le_refl _)), ⟨by first | (simp; done) | (simp; omega), by simp, by simp, by simp, by simp, by simp⟩, ⟨by simp, by simp, by simp, by simp, by simp, by simp [go_sem], by simp⟩⟩⟩
  case round =>
    obtain ⟨rfl, hI⟩ := hrel
    obtain ⟨hbw, ⟨r0, r1, r2, r3, r4, r5⟩, ⟨c0, c1, c2, c3, c4, c5, c6⟩⟩ := hI.out
    have f0 := c5 0; have f1 := c5 1; have f2 := c5 2; have f3 := c5 3; have f4 := c5 4
    clear c5
    go_wp2_with fail
    exact bodyPost_ret (v := .tuple #[.agg #[.int .i64 r.a, .int .i64 r.b, .int .i64 r.c, .int .i64 r.d, .int .i64 r.t], .bool true]) (by simp [results, Try.results52, go_sem, *]) rfl ⟨hfin.out, by (repeat' (first | with_reducible exact Below.refl _ _ | with_reducible assumption | with_reducible apply Below.setCell | with_reducible apply Below.alloc | with_reducible apply Below.drew | with_reducible apply below_drewN | with_reducible exact Nat.le_refl _ | (simp; done) | (simp; omega) | omega | exact Nat.le_refl _))⟩
theorem rowOf_any (a : Option Addr) (n c : Nat) (xs : List Bn) (r : Rw) (w : World) (h : Hid (BnArg w a n xs)) (hv : bsV xs = true) (hr : r.may = true) :
    Calls Try.prog 52 #[.slice a n c, rwV r] w (RoPost xs r w) := by
  obtain ⟨rfl, rfl | ⟨b, off, rfl, h1, h2⟩⟩ := h.out
  · exact rowOf_nil _ _ _ _ hr
  · exact rowOf_sl b off c xs r w (Lib.hid h1) h2 hv hr
end Go.Proofs.Ytjhmdobmbajcgaa
