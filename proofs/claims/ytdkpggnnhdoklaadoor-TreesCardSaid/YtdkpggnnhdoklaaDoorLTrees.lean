/- Trees holds for every two programs and every place. No condition but that the listed package variable holds what the program's text lays. -/
import Derived.Test.YtdkpggnnhdoklaaDoorNdAw
import Derived.Test.YtdkpggnnhdoklaaDoorLnd
import Derived.Test.YtdkpggnnhdoklaaDoorNdIn
import Derived.Test.YtdkpggnnhdoklaaDoorCards
import Derived.Test.YtdkpggnnhdoklaaDoorTie
import Derived.Test.YtdkpggnnhdoklaaDoorOpn
import Derived.Test.YtdkpggnnhdoklaaDoorHan
import Derived.WalkKit
import Derived.ProofKit
import Derived.Deep.DeepHandedRow
namespace Go.Proofs.YtdkpggnnhdoklaaDoor.trees
open Go.ChangeShapes Go.WideShapes Go.ChangeAt Go.RowKit
open Go.ChangeMaps (open_string shut_string)
set_option linter.unusedVariables false
set_option linter.unusedSimpArgs false

theorem tabs {W : World} (h : laidMetH Tryd.prog Rows.treesRow.laid W) : Hid (errTy W) := Lib.hid (errTy_of h (.head _))
/-- what stays through the calls. -/
def Keep (w : World) (gO nO cO gN nN cN : Nat) (os : List Or) (ts L : List Nd) (vc vd : Value) (W : World) : Prop :=
  Below w.heap.size w W ∧ OwnO.Lent w.heap.size W gO nO cO os ∧ OwnN.Lent w.heap.size W gN nN cN ts ∧ OwnN w.heap.size W vc L ∧ OwnN w.heap.size W vd L ∧ Hid (errTy W)
theorem Keep.go {w : World} {gO nO cO gN nN cN : Nat} {os : List Or} {ts L : List Nd} {vc vd : Value} {W W' : World} (h : Keep w gO nO cO gN nN cN os ts L vc vd W) (hb : Below W.heap.size W W') : Keep w gO nO cO gN nN cN os ts L vc vd W' :=
  ⟨belT h.1 hb, h.2.1.below hb, h.2.2.1.below hb, h.2.2.2.1.below hb, h.2.2.2.2.1.below hb, Lib.hid (errTy_below h.2.2.2.2.2.out hb)⟩
theorem s_step {w : World} {gO nO cO gN nN cN : Nat} {os : List Or} {ts L : List Nd} {vc vd : Value} {W W' : World} {b3 b4 b7 : Nat} {x3 y3 y4 x7 y7 : Value}
    (h : W.cell? ⟨b3, 0, none⟩ = some x3 ∧ W.cell? ⟨b3, 1, none⟩ = some y3 ∧ W.cell? ⟨b4, 1, none⟩ = some y4 ∧ W.cell? ⟨b7, 0, none⟩ = some x7 ∧ W.cell? ⟨b7, 1, none⟩ = some y7 ∧ Keep w gO nO cO gN nN cN os ts L vc vd W) (hb : Below W.heap.size W W') :
    W'.cell? ⟨b3, 0, none⟩ = some x3 ∧ W'.cell? ⟨b3, 1, none⟩ = some y3 ∧ W'.cell? ⟨b4, 1, none⟩ = some y4 ∧ W'.cell? ⟨b7, 0, none⟩ = some x7 ∧ W'.cell? ⟨b7, 1, none⟩ = some y7 ∧ Keep w gO nO cO gN nN cN os ts L vc vd W' := by
  obtain ⟨h1, h2, h3, h4, h5, h6⟩ := h
  exact ⟨carry hb (World.block_lt_of_cell? _ _ h1) h1, carry hb (World.block_lt_of_cell? _ _ h2) h2, carry hb (World.block_lt_of_cell? _ _ h3) h3, carry hb (World.block_lt_of_cell? _ _ h4) h4, carry hb (World.block_lt_of_cell? _ _ h5) h5, h6.go hb⟩
section
variable {w : World} {gO nO cO gN nN cN : Nat} {os : List Or} {ts L : List Nd} {vc vd : Value} {W : World} {b3 b4 b7 : Nat} {x3 y3 y4 x7 y7 : Value}
  (h : W.cell? ⟨b3, 0, none⟩ = some x3 ∧ W.cell? ⟨b3, 1, none⟩ = some y3 ∧ W.cell? ⟨b4, 1, none⟩ = some y4 ∧ W.cell? ⟨b7, 0, none⟩ = some x7 ∧ W.cell? ⟨b7, 1, none⟩ = some y7 ∧ Keep w gO nO cO gN nN cN os ts L vc vd W)
include h
theorem s_bel : Below w.heap.size w W := h.2.2.2.2.2.1
theorem s_keep : Keep w gO nO cO gN nN cN os ts L vc vd W := h.2.2.2.2.2
theorem s_xo : Hid (OArg W (some ⟨gO, 0, none⟩) nO os) := Lib.hid h.2.2.2.2.2.2.1.arg
theorem s_xn : Hid (NArg W (some ⟨gN, 0, none⟩) nN ts) := Lib.hid h.2.2.2.2.2.2.2.1.arg
theorem s_er : Hid (errTy W) := h.2.2.2.2.2.2.2.2.2.2
end
theorem own_arg2 {B : Nat} {w : World} {v : Value} {l : List Nd} (h : OwnN B w v l) : ∃ a n c, v = .slice a n c ∧ NArg w a n l := by
  rcases h.cases with ⟨rfl, rfl⟩ | ⟨g, c, rfl, h1, h2, h3, h4, _⟩
  · exact ⟨_, _, _, rfl, rfl, .inl rfl⟩
  · exact ⟨_, _, _, rfl, rfl, .inr ⟨g, 0, rfl, h4, h2⟩⟩
theorem same_own {w0 : World} {vc vd : Value} {L : List Nd} (hL : L.length ≤ 512) (W : World) (h1 : OwnN w0.heap.size W vc L) (h2 : OwnN w0.heap.size W vd L) :
    Calls Tryd.prog 13 #[vc, vd] W fun e w' => e = .returned (.bool true) ∧ Below W.heap.size W w' := by
  obtain ⟨a, n, c, rfl, h3⟩ := own_arg2 h1
  obtain ⟨a', n', c', rfl, h4⟩ := own_arg2 h2
  have := sameNodes_any a a' n n' c c' L L W (Lib.hid h3) (Lib.hid h4) (by have := h3.1; omega)
  rwa [sameV_self ndE_self] at this
theorem lentN_belowB {B B' : Nat} {w w' : World} {g n c : Nat} {l : List Nd} (h : OwnN.Lent B w g n c l) (hb : Below B' w w') (hg : g < B') : OwnN.Lent B w' g n c l := by
  obtain ⟨h1, h2, h3, h4⟩ := h
  refine ⟨h1, h2, h3, h4.1, ?_⟩
  rcases h4.2 with h | ⟨g', cap, cur, e1, e2, e3, e4⟩
  · exact .inl h
  · refine .inr ⟨g', cap, cur, e1, e2, ?_, e4⟩
    injection e1 with e1 _ _; injection e1 with e1; injection e1 with e1 _ _; subst e1
    rw [hb.block g hg]; exact e3
theorem lentO_belowB {B B' : Nat} {w w' : World} {g n c : Nat} {l : List Or} (h : OwnO.Lent B w g n c l) (hb : Below B' w w') (hg : g < B') : OwnO.Lent B w' g n c l := by
  obtain ⟨h1, h2, h3, h4⟩ := h
  refine ⟨h1, h2, h3, h4.1, ?_⟩
  rcases h4.2 with h | ⟨g', cap, cur, e1, e2, e3, e4⟩
  · exact .inl h
  · refine .inr ⟨g', cap, cur, e1, e2, ?_, e4⟩
    injection e1 with e1 _ _; injection e1 with e1; injection e1 with e1 _ _; subst e1
    rw [hb.block g hg]; exact e3
theorem num_b (e : Int) (w : World) (h0 : 0 ≤ e) (h1 : e ≤ 9223372036854775807) :
    Calls Tryd.prog 12 #[.int .i64 e] w fun r w' => r = .returned (.int .i64 e) ∧ Below w.heap.size w w' :=
  (num_any e w h0 h1).mono fun _ _ h => ⟨h.1, h.2 ▸ Below.refl _ _⟩
theorem spoil_own {B b : Nat} {W0 W : World} {vc : Value} {L : List Nd} (h0 : OwnN B W0 vc L) (h : OwnN b W vc L) (hl : L.length ≤ 512) :
    Calls Tryd.prog 18 #[vc] W fun e w' => e = .returned (.tuple #[]) ∧ Below B W w' := by
  rcases h0.cases with ⟨rfl, rfl⟩ | ⟨g, c, rfl, hB, _⟩
  · exact (spoilN_nil W).mono fun _ _ h => ⟨h.1, h.2 ▸ Below.refl _ _⟩
  · rcases h.cases with ⟨h1, _⟩ | ⟨g', c', h1, _, _, _, h5, h6⟩
    · cases h1
    · injection h1 with h1 _ h2
      injection h1 with h1
      injection h1 with h1 _ _
      subst h1
      exact (spoilN_sl g c L W (Lib.hid h5) (Lib.hid h6) (by omega)).mono fun _ _ h => ⟨h.1, h.2.1.mono hB⟩
theorem s_all {w : World} {gO nO cO gN nN cN : Nat} {os : List Or} {ts L : List Nd} {vc vd : Value} {W : World} {b3 b4 b7 : Nat} {x3 y3 y4 x7 y7 : Value}
    (h : W.cell? ⟨b3, 0, none⟩ = some x3 ∧ W.cell? ⟨b3, 1, none⟩ = some y3 ∧ W.cell? ⟨b4, 1, none⟩ = some y4 ∧ W.cell? ⟨b7, 0, none⟩ = some x7 ∧ W.cell? ⟨b7, 1, none⟩ = some y7 ∧ Keep w gO nO cO gN nN cN os ts L vc vd W) :
    W.cell? ⟨b3, 0, none⟩ = some x3 ∧ W.cell? ⟨b3, 1, none⟩ = some y3 ∧ W.cell? ⟨b7, 0, none⟩ = some x7 ∧ W.cell? ⟨b7, 1, none⟩ = some y7 ∧ Keep w gO nO cO gN nN cN os ts L vc vd W := ⟨h.1, h.2.1, h.2.2.2.1, h.2.2.2.2.1, h.2.2.2.2.2⟩
theorem s_spoil {B g7 : Nat} {w W W' : World} {gO nO cO gN nN cN : Nat} {os : List Or} {ts L : List Nd} {vc vd : Value} {x3 y3 x7 y7 : Value}
    (h : W.cell? ⟨w.heap.size, 0, none⟩ = some x3 ∧ W.cell? ⟨w.heap.size, 1, none⟩ = some y3 ∧ W.cell? ⟨g7, 0, none⟩ = some x7 ∧ W.cell? ⟨g7, 1, none⟩ = some y7 ∧ Keep w gO nO cO gN nN cN os ts L vc vd W)
    (hb : Below B W W') (hB : w.heap.size < B) (h7 : g7 < B) (hO : gO < B) (hN : gN < B) :
    W'.cell? ⟨w.heap.size, 0, none⟩ = some x3 ∧ W'.cell? ⟨w.heap.size, 1, none⟩ = some y3 ∧ W'.cell? ⟨g7, 0, none⟩ = some x7 ∧ W'.cell? ⟨g7, 1, none⟩ = some y7 ∧ Below w.heap.size w W' ∧ OwnO.Lent w.heap.size W' gO nO cO os ∧ OwnN.Lent w.heap.size W' gN nN cN ts := by
  obtain ⟨h1, h2, h3, h4, h5, h6, h7', _⟩ := h
  refine ⟨?_, ?_, ?_, ?_, h5.trans (hb.mono (by omega)), lentO_belowB h6 hb hO, lentN_belowB h7' hb hN⟩
  · rw [hb.cell (p := ⟨w.heap.size, 0, none⟩) hB]; exact h1
  · rw [hb.cell (p := ⟨w.heap.size, 1, none⟩) hB]; exact h2
  · rw [hb.cell (p := ⟨g7, 0, none⟩) h7]; exact h3
  · rw [hb.cell (p := ⟨g7, 1, none⟩) h7]; exact h4
theorem partV_len (ts : List Nd) (at_ : Int) (h : ts.length ≤ 512 ∨ hasV ts at_ = false) : (partV ts at_).length ≤ 512 := by
  unfold partV
  rcases h with h | h
  · split
    · simp; omega
    · simp
  · rw [h]; simp
theorem partV_len2 (ts : List Nd) (at_ : Int) : (partV ts at_).length ≤ 512 := by
  cases h : hasV ts at_
  · exact partV_len ts at_ (.inr h)
  · obtain ⟨k, _, _, h2, _⟩ := hasV_wf h
    exact partV_len ts at_ (.inl h2)
theorem lentO_lt {B : Nat} {w : World} {g n c : Nat} {l : List Or} (h : OwnO.Lent B w g n c l) : g < w.heap.size := h.marks.2.2
theorem lentN_lt {B : Nat} {w : World} {g n c : Nat} {l : List Nd} (h : OwnN.Lent B w g n c l) : g < w.heap.size := h.marks.2.2
theorem lentO_le {B B' : Nat} {w : World} {g n c : Nat} {l : List Or} (h : OwnO.Lent B' w g n c l) (hB : B ≤ B') : OwnO.Lent B w g n c l := ⟨h.1, h.2.1, by have := h.2.2.1; omega, own_le h.2.2.2 hB⟩
theorem lentN_le {B B' : Nat} {w : World} {g n c : Nat} {l : List Nd} (h : OwnN.Lent B' w g n c l) (hB : B ≤ B') : OwnN.Lent B w g n c l := ⟨h.1, h.2.1, by have := h.2.2.1; omega, own_le h.2.2.2 hB⟩
theorem ownN_le {B B' : Nat} {w : World} {v : Value} {l : List Nd} (h : OwnN B' w v l) (hB : B ≤ B') : OwnN B w v l := own_le h hB

set_option maxRecDepth 100000 in
set_option maxHeartbeats 16000000 in
theorem walk {H : Type} {enc : TypeId × Value → H} (p0 : Option Addr) (n0 c0 : Nat) (p1 : Option Addr) (n1 c1 : Nat) (q0 : Option Addr) (m0 d0 : Nat) (q1 : Option Addr) (m1 d1 : Nat) (at_ : Int) (w : World)
    (f0 : ∃ fuel y, DataW.trod enc Tryd.prog w 0 (fun _ => true) true fuel 22 [.slice p0 n0 c0] = some y ∧ ∀ x ∈ DataW.weights Tryd.prog 22 y.1, x ≤ reachBytes)
    (f1 : ∃ fuel y, DataW.trod enc Tryd.prog w 0 (fun _ => true) true fuel 23 [.slice p1 n1 c1] = some y ∧ ∀ x ∈ DataW.weights Tryd.prog 23 y.1, x ≤ reachBytes)
    (f2 : ∃ fuel y, DataW.trod enc Tryd.prog w 0 (fun _ => true) true fuel 22 [.slice q0 m0 d0] = some y ∧ ∀ x ∈ DataW.weights Tryd.prog 22 y.1, x ≤ reachBytes)
    (f3 : ∃ fuel y, DataW.trod enc Tryd.prog w 0 (fun _ => true) true fuel 23 [.slice q1 m1 d1] = some y ∧ ∀ x ∈ DataW.weights Tryd.prog 23 y.1, x ≤ reachBytes)
    (b2 : -9223372036854775808 ≤ at_ ∧ at_ ≤ 9223372036854775807) (hg : Hid (errTy w)) :
    Calls Tryd.prog 3 #[.agg #[.slice p0 n0 c0, .slice p1 n1 c1], .agg #[.slice q0 m0 d0, .slice q1 m1 d1], .int .i64 at_] w fun e w' => e = .returned (.bool true) ∧ Below w.heap.size w w' := by
  obtain ⟨_, _, t0, t0'⟩ := f0
  obtain ⟨_, hl0, os, hO, hOz⟩ := ops_open t0 t0'
  obtain ⟨_, _, t1, t1'⟩ := f1
  obtain ⟨_, hl1, ts, hN, hNz⟩ := nodes_open t1 t1'
  obtain ⟨_, _, t3, t3'⟩ := f3
  obtain ⟨_, hl3, us, hU, hUz⟩ := nodes_open t3 t3'
  clear t0 t0' t1 t1' t3 t3' f2
  have hO' := Lib.hid hO; have hN' := Lib.hid hN; have hU' := Lib.hid hU
  have hOz' := Lib.hid hOz; have hNz' := Lib.hid hNz
  clear hO hN hU hOz hNz hUz
  have kL := Lib.hid fun (W : World) (hb : Below w.heap.size w W) => lendProgram_any p0 p1 n0 c0 n1 c1 os ts W (Lib.hid (hO'.out.below hb)) (Lib.hid (hN'.out.below hb)) hl0 hl1
  have kD := Lib.hid fun (g c : Nat) (W : World) (h : Hid (NArg W (some ⟨g, 0, none⟩) n1 ts)) (hg : Hid (errTy W)) => tDepth_any (some ⟨g, 0, none⟩) n1 c ts at_ W h hNz' (by omega) hg
  have kD2 := Lib.hid fun (W : World) (hb : Below w.heap.size w W) => rDepth_any p1 n1 c1 ts at_ W (Lib.hid (hN'.out.below hb)) hNz' (by omega)
  have kP := Lib.hid fun (g c : Nat) (W : World) (h : Hid (NArg W (some ⟨g, 0, none⟩) n1 ts)) (hc : n1 ≤ c) (hg : Hid (errTy W)) => tPart_any (some ⟨g, 0, none⟩) n1 c ts at_ W h hNz' (by omega) hc hg
  have kP2 := Lib.hid fun (W : World) (hb : Below w.heap.size w W) => rPart_any p1 n1 c1 ts at_ W (Lib.hid (hN'.out.below hb)) hNz' (by omega)
  have kM := Lib.hid fun (g c g' c' : Nat) (W : World) (h : Hid (OArg W (some ⟨g, 0, none⟩) n0 os)) (h' : Hid (NArg W (some ⟨g', 0, none⟩) n1 ts)) (hg : Hid (errTy W)) => tMay_any (some ⟨g, 0, none⟩) (some ⟨g', 0, none⟩) n0 c n1 c' os ts W h hOz' (by omega) h' hNz' (by omega) hg
  have kM2 := Lib.hid fun (W : World) (hb : Below w.heap.size w W) => rMay_any p0 p1 n0 c0 n1 c1 os ts W (Lib.hid (hO'.out.below hb)) hOz' (by omega) (Lib.hid (hN'.out.below hb)) hNz' (by omega)
  have kS := Lib.hid fun (g c : Nat) (W : World) (h : Hid (NArg W (some ⟨g, 0, none⟩) n1 ts)) (hb : Below w.heap.size w W) => tSame_any (some ⟨g, 0, none⟩) q1 n1 m1 c d1 ts us W h (Lib.hid (hU'.out.below hb)) (by omega)
  have kS2 := Lib.hid fun (W : World) (hb : Below w.heap.size w W) => rSame_any p1 q1 n1 m1 c1 d1 ts us W (Lib.hid (hN'.out.below hb)) (Lib.hid (hU'.out.below hb)) (by omega)
  have hL5 := Lib.hid (partV_len2 ts at_)
  have hdv : (depV ts at_).2 = 0 ∨ (depV ts at_).2 = 300 := by unfold depV; split; exact .inl rfl; exact .inr rfl
  unfold PartPost at kP kP2
  generalize partV ts at_ = L at kP kP2 hL5
  obtain ⟨D, hD⟩ : ∃ x, (depV ts at_).1 = x := ⟨_, rfl⟩
  obtain ⟨E, hE⟩ : ∃ x, (depV ts at_).2 = x := ⟨_, rfl⟩
  rw [hD, hE] at kD kD2
  rw [hE] at kP kP2 hdv
  clear hD hE
  have hE0 : 0 ≤ E := by omega
  have hE1 : E ≤ 300 := by omega
  generalize mayV os ts = mv at kM kM2
  generalize sameV ndS ts us = sv at kS kS2
  have h0l := hgl hg.out
  go_enter Tryd.func3, Tryd.ntmps3
  go_wp2_with fail
  refine (kL.out _ (by (repeat' (first | with_reducible exact Below.refl _ _ | with_reducible assumption | with_reducible apply Below.setCell | with_reducible apply Below.alloc | with_reducible apply Below.drew | with_reducible apply below_drewN | with_reducible exact Nat.le_refl _ | (simp; done) | (simp; omega) | omega | exact Nat.le_refl _)))).mono ?_
  rintro e w1 ⟨gO, cO, gN, cN, rfl, hXO, hXN, hb1⟩
  have hXO' := Lib.hid hXO; have hXN' := Lib.hid hXN
  have hB1 := Lib.hid (belT (show Below w.heap.size w _ from by (repeat' (first | with_reducible exact Below.refl _ _ | with_reducible assumption | with_reducible apply Below.setCell | with_reducible apply Below.alloc | with_reducible apply Below.drew | with_reducible apply below_drewN | with_reducible exact Nat.le_refl _ | (simp; done) | (simp; omega) | omega | exact Nat.le_refl _))) hb1)
  have r30 : w1.cell? ⟨w.heap.size, 0, none⟩ = some (.slice p0 n0 c0) := carry hb1 (by first | (simp; done) | (simp; omega)) (by simp)
  have r31 : w1.cell? ⟨w.heap.size, 1, none⟩ = some (.slice p1 n1 c1) := carry hb1 (by first | (simp; done) | (simp; omega)) (by simp)
  have r41 : w1.cell? ⟨w.heap.size + 1, 1, none⟩ = some (.slice q1 m1 d1) := carry hb1 (by first | (simp; done) | (simp; omega)) (by simp)
  have z1 : w.heap.size + 1 < w1.heap.size := by have := hb1.size; (try simp at this); omega
  have hcN : Hid (n1 ≤ cN) := Lib.hid (by have := hXN.2.1; omega)
  have hOl := Lib.hid (lentO_lt hXO); have hNl := Lib.hid (lentN_lt hXN)
  clear hb1 hXO hXN kL
  go_wp2_with fail
  have e1 := Lib.hid (show Below w1.heap.size w1 (w1.alloc (.cells #[.slice (some ⟨gO, 0, none⟩) n0 cO, .slice (some ⟨gN, 0, none⟩) n1 cN] 25)) from by (repeat' (first | with_reducible exact Below.refl _ _ | with_reducible assumption | with_reducible apply Below.setCell | with_reducible apply Below.alloc | with_reducible apply Below.drew | with_reducible apply below_drewN | with_reducible exact Nat.le_refl _ | (simp; done) | (simp; omega) | omega | exact Nat.le_refl _)))
  refine (kD.out _ _ _ (Lib.hid (hXN'.out.arg.below e1.out)) (Lib.hid (errTy_below hg.out (belT hB1.out e1.out)))).mono ?_
  rintro e w2 ⟨rfl, hb2⟩
  have s30 : w2.cell? ⟨w.heap.size, 0, none⟩ = some (.slice p0 n0 c0) := carry hb2 (by first | (simp; done) | (simp; omega)) (by rw [World.cell?_alloc_past _ _ _ (by omega)]; exact r30)
  have s31 : w2.cell? ⟨w.heap.size, 1, none⟩ = some (.slice p1 n1 c1) := carry hb2 (by first | (simp; done) | (simp; omega)) (by rw [World.cell?_alloc_past _ _ _ (by omega)]; exact r31)
  have s41 : w2.cell? ⟨w.heap.size + 1, 1, none⟩ = some (.slice q1 m1 d1) := carry hb2 (by first | (simp; done) | (simp; omega)) (by rw [World.cell?_alloc_past _ _ _ (by omega)]; exact r41)
  have s70 : w2.cell? ⟨w1.heap.size, 0, none⟩ = some (.slice (some ⟨gO, 0, none⟩) n0 cO) := carry hb2 (by first | (simp; done) | (simp; omega)) (by simp)
  have s71 : w2.cell? ⟨w1.heap.size, 1, none⟩ = some (.slice (some ⟨gN, 0, none⟩) n1 cN) := carry hb2 (by first | (simp; done) | (simp; omega)) (by simp)
  have z2 : w1.heap.size < w2.heap.size := by have := hb2.size; (try simp at this); omega
  have hE12 := Lib.hid (belT e1.out hb2)
  have hB2 := Lib.hid (belT hB1.out hE12.out)
  clear hb2 r30 r31 r41 e1
  obtain ⟨g7, hg7⟩ : ∃ g, w1.heap.size = g := ⟨_, rfl⟩
  rw [hg7] at s70 s71 z1 z2 ⊢
  have hg7' := Lib.hid hg7
  clear hg7
  go_wp2_with fail
  refine (kD2.out _ hB2.out).mono ?_
  rintro e w3 ⟨rfl, hb3⟩
  have hB3 := Lib.hid (belT hB2.out hb3)
  have hE13 := Lib.hid (belT hE12.out hb3)
  have z3 : g7 < w3.heap.size := by have := hb3.size; omega
  have s30 := carry hb3 (by omega) s30
  have s31 := carry hb3 (by omega) s31
  have s41 := carry hb3 (by omega) s41
  have s70 := carry hb3 z2 s70
  have s71 := carry hb3 z2 s71
  clear hb3
  go_wp2_with fail
  refine (kP.out _ _ _ (Lib.hid (hXN'.out.arg.below hE13.out)) hcN.out (Lib.hid (errTy_below hg.out hB3.out))).mono ?_
  rintro e w4 ⟨vc, rfl, hvc, hb4⟩
  have hB4 := Lib.hid (belT hB3.out hb4)
  have hE14 := Lib.hid (belT hE13.out hb4)
  have z4 : g7 < w4.heap.size := by have := hb4.size; omega
  have t30 := carry hb4 (by omega) s30
  have t31 := carry hb4 (by omega) s31
  have t41 := carry hb4 (by omega) s41
  have t70 := carry hb4 z3 s70
  have t71 := carry hb4 z3 s71
  have hvc' := Lib.hid hvc
  clear hb4 hvc s30 s31 s41 s70 s71
  go_wp2_with fail
  refine (kP2.out _ hB4.out).mono ?_
  rintro e w5 ⟨vd, rfl, hvd, hb5⟩
  have hB5 := Lib.hid (belT hB4.out hb5)
  have hE15 := Lib.hid (belT hE14.out hb5)
  have z5 : g7 < w5.heap.size := by have := hb5.size; omega
  have u30 := carry hb5 (by omega) t30
  have u31 := carry hb5 (by omega) t31
  have u41 := carry hb5 (by omega) t41
  have u70 := carry hb5 z4 t70
  have u71 := carry hb5 z4 t71
  have hvc5 := Lib.hid (hvc'.out.below hb5)
  have hvd' := Lib.hid hvd
  have h34 := Lib.hid (show w1.heap.size ≤ w3.heap.size from hE13.out.size)
  have hK5 : Keep w gO n0 cO gN n1 cN os ts L vc vd w5 := ⟨hB5.out, lentO_le (hXO'.out.below hE15.out) (by (try simp); omega), lentN_le (hXN'.out.below hE15.out) (by (try simp); omega), ownN_le hvc5.out (by have := hB3.out.size; omega), ownN_le hvd (by have := hB4.out.size; omega), Lib.hid (errTy_below hg.out hB5.out)⟩
  have hS5 : w5.cell? ⟨w.heap.size, 0, none⟩ = some (.slice p0 n0 c0) ∧ w5.cell? ⟨w.heap.size, 1, none⟩ = some (.slice p1 n1 c1) ∧ w5.cell? ⟨w.heap.size + 1, 1, none⟩ = some (.slice q1 m1 d1) ∧ w5.cell? ⟨g7, 0, none⟩ = some (.slice (some ⟨gO, 0, none⟩) n0 cO) ∧ w5.cell? ⟨g7, 1, none⟩ = some (.slice (some ⟨gN, 0, none⟩) n1 cN) ∧ Keep w gO n0 cO gN n1 cN os ts L vc vd w5 := ⟨u30, u31, u41, u70, u71, hK5⟩
  have hS5' := Lib.hid hS5
  clear hb5 hvd hvc5 hK5 t30 t31 t41 t70 t71
  go_wp2_with fail
  go_region_held3 (fun W => W.cell? ⟨w.heap.size, 0, none⟩ = some (.slice p0 n0 c0) ∧ W.cell? ⟨w.heap.size, 1, none⟩ = some (.slice p1 n1 c1) ∧ W.cell? ⟨w.heap.size + 1, 1, none⟩ = some (.slice q1 m1 d1) ∧ W.cell? ⟨g7, 0, none⟩ = some (.slice (some ⟨gO, 0, none⟩) n0 cO) ∧ W.cell? ⟨g7, 1, none⟩ = some (.slice (some ⟨gN, 0, none⟩) n1 cN) ∧ Keep w gO n0 cO gN n1 cN os ts L vc vd W)
    (first | exact s_step (by assumption) hb9 | exact s_step hS5'.out ((Below.refl _ _).drew))
    ((first
      | (go_at_call 12; refine (num_b _ _ (by omega) (by omega)).mono ?_; rintro e w9 ⟨rfl, hb9⟩)
      | (go_at_call 13; refine (same_own hL5.out _ (s_keep (by assumption)).2.2.2.1 (s_keep (by assumption)).2.2.2.2.1).mono ?_; rintro e w9 ⟨rfl, hb9⟩)
      | (go_at_call 14; refine (kM.out _ _ _ _ _ (s_xo (by assumption)) (s_xn (by assumption)) (s_er (by assumption))).mono ?_; rintro e w9 ⟨rfl, hb9⟩)
      | (go_at_call 15; refine (kM2.out _ (s_bel (by assumption))).mono ?_; rintro e w9 ⟨rfl, hb9⟩)
      | (go_at_call 16; refine (kS.out _ _ _ (s_xn (by assumption)) (s_bel (by assumption))).mono ?_; rintro e w9 ⟨rfl, hb9⟩)
      | (go_at_call 17; refine (kS2.out _ (s_bel (by assumption))).mono ?_; rintro e w9 ⟨rfl, hb9⟩)))
  have hA := Lib.hid (s_all (by assumption))
  go_wp2_with fail
  refine (spoil_own hvc'.out hA.out.2.2.2.2.2.2.2.1 hL5.out).mono ?_
  rintro e w6 ⟨rfl, hb6⟩
  have hlt3 : Hid (w.heap.size < w3.heap.size ∧ g7 < w3.heap.size ∧ gO < w3.heap.size ∧ gN < w3.heap.size) := Lib.hid (by have := hOl.out; have := hNl.out; have := hg7'.out; refine ⟨?_, ?_, ?_, ?_⟩ <;> omega)
  obtain ⟨x30, x31, x70, x71, hB6, hO6, hN6⟩ := s_spoil hA.out hb6 hlt3.out.1 hlt3.out.2.1 hlt3.out.2.2.1 hlt3.out.2.2.2
  have hB6' := Lib.hid hB6; have hO6' := Lib.hid hO6; have hN6' := Lib.hid hN6
  clear hb6 hB6 hO6 hN6 hA hlt3
  go_wp2_with fail
  refine (keptProgram_any gO n0 cO gN n1 cN p0 p1 c0 c1 os ts w6 hO6' (Lib.hid (hO'.out.below hB6'.out)) hN6' (Lib.hid (hN'.out.below hB6'.out)) (by omega) (by omega)).mono ?_
  rintro e w7 ⟨rfl, hb7⟩
  have hB7 := Lib.hid (belT hB6'.out hb7)
  go_wp2_with fail
  refine (awake3_any w7 (Lib.hid (errTy_below hg.out hB7.out))).mono ?_
  rintro e w8 ⟨rfl, hb8⟩
  have hB8 := Lib.hid (belT hB7.out hb8)
  go_wp2_with fail
  go_ret
  exact ⟨rfl, hB8.out⟩
theorem own : ownKnob Tryd.prog.godebug = none := by kernel_rfl
theorem laidOut : laidOutB Tryd.prog = true := by kernel_rfl
set_option maxRecDepth 100000 in
theorem contract (H : Type) (enc : TypeId × Value → H) (W : World) (base : Nat) (args : Array Value) (ds gs : List (DataW H)) (before : List MemPlace)
    (hval0 : ∀ (j : Nat) t v, Tryd.f3.params[j]? = some t → args[j]? = some v → Value.okWide Tryd.prog W .any base t v)
    (hW : DataW.Whole enc Tryd.prog Tryd.f3.params.toList Rows.treesSpec.vars false W args.toList ds gs before)
    (hsz0 : (DataW.weightsEach Tryd.prog (Tryd.f3.params.toList ++ Rows.treesSpec.plain.varTypes Tryd.prog) (ds ++ gs)).all (· ≤ reachBytes) = true)
    (hL : laidMetH Tryd.prog Rows.treesRow.laid W)
    : Calls Tryd.prog 3 args W fun e W' => ∃ v, e = .returned v ∧ Rows.treesSpec.post enc Tryd.prog Tryd.f3 false true false false W args v W' := by
  have hval : ∀ (j : Nat) t v, Tryd.f3.params[j]? = some t → args[j]? = some v → Value.okWide Tryd.prog W .any base t v := hval0
  have hsz : (DataW.weightsEach Tryd.prog (Tryd.f3.params.toList ++ Rows.treesSpec.plain.varTypes Tryd.prog) (ds ++ gs)).all (· ≤ reachBytes) = true := hsz0
  have hW' := hW
  obtain ⟨p, q, hA0, hV, rfl, hfz, hnd⟩ := hW
  have hA : DataW.TrodAll enc Tryd.prog W 0 (fun _ => true) true Tryd.f3.params.toList args.toList ds p := hA0
  rw [Tryd.params3] at hA hval hsz
  obtain ⟨v0, vs0, d0, ds0, p0, q0, hargs, rfl, rfl, h0, r0⟩ := trodAll_cons hA
  obtain ⟨v1, vs1, d1, ds1, p1, q1, rfl, rfl, rfl, h1, r1⟩ := trodAll_cons r0
  obtain ⟨v2, vs2, d2, ds2, p2, q2, rfl, rfl, rfl, h2, r2⟩ := trodAll_cons r1
  obtain ⟨rfl, rfl, rfl⟩ := trodAll_nil r2
  obtain rfl : args = #[v0, v1, v2] := by cases args; simp_all
  obtain ⟨rfl, rfl⟩ := trodVars_none hV
  have k0 := h0
  have lt0 : ∀ x ∈ p0, x.block < W.heap.size := by obtain ⟨m, hm⟩ := k0; exact DataW.trod_lt m _ _ _ hm
  obtain ⟨cs0_0, rfl, fit0_0⟩ := open_struct Tryd.underlying25 (f := 6) (by kernel_rfl : flat Tryd.prog 6 25 = some [.sl 22, .sl 23]) (hval 0 25 v0 rfl rfl) h0 (sized_of hsz (j := 0) (t := 25) rfl rfl)
  obtain ⟨_, cs0_1, rfl, ⟨a0_0, n0_0, c0_0, fu0_0, y0_0, rfl, f0_0, g0_0⟩, fit0_1⟩ := fit_i fit0_0
  obtain ⟨_, cs0_2, rfl, ⟨a0_1, n0_1, c0_1, fu0_1, y0_1, rfl, f0_1, g0_1⟩, fit0_2⟩ := fit_i fit0_1
  obtain rfl := fit_nil fit0_2
  have k1 := h1
  have lt1 : ∀ x ∈ p1, x.block < W.heap.size := by obtain ⟨m, hm⟩ := k1; exact DataW.trod_lt m _ _ _ hm
  obtain ⟨cs1_0, rfl, fit1_0⟩ := open_struct Tryd.underlying25 (f := 6) (by kernel_rfl : flat Tryd.prog 6 25 = some [.sl 22, .sl 23]) (hval 1 25 v1 rfl rfl) h1 (sized_of hsz (j := 1) (t := 25) rfl rfl)
  obtain ⟨_, cs1_1, rfl, ⟨a1_0, n1_0, c1_0, fu1_0, y1_0, rfl, f1_0, g1_0⟩, fit1_1⟩ := fit_i fit1_0
  obtain ⟨_, cs1_2, rfl, ⟨a1_1, n1_1, c1_1, fu1_1, y1_1, rfl, f1_1, g1_1⟩, fit1_2⟩ := fit_i fit1_1
  obtain rfl := fit_nil fit1_2
  have k2 := h2
  have lt2 : ∀ x ∈ p2, x.block < W.heap.size := by obtain ⟨m, hm⟩ := k2; exact DataW.trod_lt m _ _ _ hm
  obtain ⟨a2, rfl, rfl, rfl, m2⟩ := open_int Tryd.underlying3 (hval 2 3 v2 rfl rfl) h2
  clear hA0 hval0
  refine (walk a0_0 n0_0 c0_0 a0_1 n0_1 c0_1 a1_0 n1_0 c1_0 a1_1 n1_1 c1_1 a2 W ⟨_, _, f0_0, g0_0⟩ ⟨_, _, f0_1, g0_1⟩ ⟨_, _, f1_0, g1_0⟩ ⟨_, _, f1_1, g1_1⟩ (bd_i64 m2) (tabs hL)).mono fun e W' ⟨he, bel⟩ => ?_
  subst he
  exact ⟨_, rfl, _, _, _, [], _, [], hW', trodAll_mk1 (shut_bool Tryd.underlying4 _), (trodAll_cons_mk (Below.trod laidOut (by kernel_rfl) (of_decide_eq_true (by kernel_rfl)) k0 bel lt0) (trodAll_cons_mk (Below.trod laidOut (by kernel_rfl) (of_decide_eq_true (by kernel_rfl)) k1 bel lt1) (trodAll_cons_mk (Below.trod laidOut (by kernel_rfl) (of_decide_eq_true (by kernel_rfl)) k2 bel lt2) trodAll_mk0))), rfl, bel.frame _, fun h => by cases h⟩
theorem laid_met (os : Os) : laidMetH Tryd.prog Rows.treesRow.laid ((handleWorld os).forCall (fun _ _ => 0) ⟨#[], #[.agg #[.slice none 0 0, .slice none 0 0], .agg #[.slice none 0 0, .slice none 0 0], .int .i64 0], []⟩).memory := laidMetH_of_parts (laidMet_nil _ _) (by kernel_rfl)
theorem reads (os : Os) {H : Type} (enc : TypeId × Value → H) : ∃ places, DataW.whole enc Tryd.prog ((handleWorld os).forCall (fun _ _ => 0) ⟨#[], #[.agg #[.slice none 0 0, .slice none 0 0], .agg #[.slice none 0 0, .slice none 0 0], .int .i64 0], []⟩).memory Tryd.f3.params.toList Rows.treesSpec.vars false #[(.agg #[.slice none 0 0, .slice none 0 0] : Value), (.agg #[.slice none 0 0, .slice none 0 0] : Value), (.int .i64 0 : Value)].toList 8 = some ([.agg [.nil, .nil], .agg [.nil, .nil], .lit (.int .i64 0)], [], places) := ⟨[], by kernel_rfl⟩
set_option maxRecDepth 100000 in
theorem lifted (os : Os) (started : os.Started) (H : Type) (enc : TypeId × Value → H) (F : Stop.Interp) :
    ReturnsInHanded {} Tryd.checked os 3 .any ((OpenSpec.ofChange Rows.treesSpec).preRow enc Tryd.prog Tryd.f3 Rows.treesRow.domain false Rows.treesRow.laid) (((OpenSpec.ofChange Rows.treesSpec).at F).post enc Tryd.prog Tryd.f3 false true false false) := by
  obtain ⟨places, hx⟩ := reads os enc
  refine returnsInHanded_of_row (C := Tryd.checked) (s := (OpenSpec.ofChange Rows.treesSpec)) own started (by kernel_rfl) Tryd.func3
    (witness_row_at (enc := enc) (C := Tryd.checked) false (handleWorld os) #[.agg #[.slice none 0 0, .slice none 0 0], .agg #[.slice none 0 0, .slice none 0 0], .int .i64 0] rfl (by kernel_rfl) (by kernel_rfl) (by kernel_rfl)
      (OpenSpec.preRow_of_cond 8 hx (by kernel_rfl) (fun k hk => by cases hk) (by kernel_rfl) (laid_met os))) ?_
  intro W base args ds gs before hval hW _ hcnd hsz hL _ _
  exact contract H enc W base args ds gs before hval hW hsz  hL
theorem said : Rows.TreesSaid :=
  OpenClaim.holds_of_cond 3 Tryd.f3 rfl rfl rfl rfl rfl rfl rfl ⟨rfl, rfl, rfl, rfl, rfl⟩ rfl rfl rfl rfl rfl (by kernel_rfl) Tryd.func3 (by kernel_rfl)
    (of_decide_eq_true (by kernel_rfl)) (by unfold Func.isWrapper; first | (rw [if_pos (by decide +kernel)]; kernel_rfl) | (rw [if_neg (by decide +kernel)]; exact ⟨rfl, rfl⟩))
    (fun os started H enc _ F => by rw [OpenClaim.pre_eq_preRow]; exact lifted os started H enc F)
theorem plain (f : FuncId) (fn : Func) (hf : Tryd.pinned.checked.prog.funcNamed "trammel/trammellaw3.Trees" = some f) (hfn : Tryd.pinned.checked.prog.funcs[f]? = some fn) :
    true = Tryd.pinned.checked.prog.looks [] ∧ ∀ (j : Nat) t, fn.params[j]? = some t → Tryd.pinned.checked.prog.wantsStandIn t = false := by
  obtain rfl : f = 3 := Option.some.inj ((show Tryd.prog.funcNamed "trammel/trammellaw3.Trees" = some 3 by kernel_rfl).symm.trans hf) |>.symm
  obtain rfl : fn = Tryd.f3 := (Option.some.inj (Tryd.func3.symm.trans hfn)).symm
  refine ⟨by kernel_rfl, fun j t ht => ?_⟩
  rw [Tryd.params3] at ht
  have hm := Array.mem_of_getElem? ht
  have hm2 : t ∈ ([25, 3] : List Nat) := by simpa using hm
  simp only [List.mem_cons, List.not_mem_nil, or_false] at hm2
  rcases hm2 with rfl | rfl
  · exact (show Tryd.prog.wantsStandIn 25 = false by kernel_rfl)
  · exact (show Tryd.prog.wantsStandIn 3 = false by kernel_rfl)
theorem proved : Rows.TreesCardSaid :=
  Claim7.holds_tied_plain_at .later [] _ _ _ _ said (fun _ h => by cases h) (by kernel_rfl) (fun _ h => by cases h) trees_row_tie rfl ⟨rfl, rfl⟩ (by kernel_rfl) rfl plain (by kernel_rfl)
end Go.Proofs.YtdkpggnnhdoklaaDoor.trees
