/- The machine of layer 21: whether it is over. -/
import Derived.Test.YtnjalpcmjkahkaaRmR
namespace Go.Proofs.Ytnjalpcmjkahkaa
open Go.RowKit
set_option linter.unusedVariables false
set_option linter.unusedSimpArgs false

def overV : Option (Int × Int) → Value
  | some (k, n) => .tuple #[.agg #[.int .i64 k, .int .i64 n], .bool true]
  | none => .tuple #[.agg #[.int .i64 0, .int .i64 0], .bool false]
def OvP (w : World) (o : Option (Int × Int)) (e : Ending) (w' : World) : Prop := e = .returned (overV o) ∧ Below w.heap.size w w'
set_option maxRecDepth 100000 in
set_option maxHeartbeats 1600000 in
theorem over_any (w0 : Gh) (B G : Nat) (tv fv : Value) (m : RM) (w : World) (h : Hid (MR w0 B G tv fv m w)) :
    Calls Try.prog 69 #[.pointer (some ⟨G, 0, none⟩)] w (OvP w (rOver m)) := by
  obtain ⟨sv, c, l, -, hc, hv⟩ := h.out
  obtain ⟨sa, sc, hsv⟩ := own_slF hc.own
  have hed := Lib.hid fun (W : World) (hb : Below w.heap.size w W) => ended_any W G tv fv sv c (Lib.hid (hc.mc.below hb))
  have hfr := Lib.hid fun (W : World) (hb : Below w.heap.size w W) => frames_any W G tv fv sa l.length sc c (Lib.hid (by rw [← hsv]; exact hc.mc.below hb))
  have hG := hc.mc.lt
  have c6 := hc.mc.c6
  cases m with
  | en k n =>
    obtain ⟨h1, h2, h3⟩ := hv
    rw [h1, h2, h3] at hed
    rw [show rOver (.en k n) = some (k, n) from rfl]
    clear h hc hfr h1 h2 h3 c6 hsv
    go_enter Try.func69, Try.ntmps69
    go_wp2_with fail
    refine (hed.out _ (by (repeat' (first | with_reducible exact Below.refl _ _ | with_reducible assumption | with_reducible apply Below.setCell | with_reducible apply Below.alloc | with_reducible apply Below.drew | with_reducible apply below_drewN | with_reducible exact Nat.le_refl _ | (simp; done) | (simp; omega) | omega | exact Nat.le_refl _)))).mono ?_
    rintro e w1 ⟨rfl, hb1⟩
    obtain ⟨hc1, hf1⟩ := bcell hb1
    have hz1_0 : w.heap.size < w1.heap.size := by have := hb1.size; (try simp at this); omega
    have hbw : Below w.heap.size w w1 := belT (by (repeat' (first | with_reducible exact Below.refl _ _ | with_reducible assumption | with_reducible apply Below.setCell | with_reducible apply Below.alloc | with_reducible apply Below.drew | with_reducible apply below_drewN | with_reducible exact Nat.le_refl _ | (simp; done) | (simp; omega) | omega | exact Nat.le_refl _))) hb1
    have hG1 : G < w1.heap.size := Nat.lt_of_lt_of_le hG hbw.size
    go_wp2_with fail
    exact bodyPost_ret (v := .tuple #[.agg #[.int .i64 k, .int .i64 n], .bool true]) (by simp [results, Try.results69, go_sem, *]) rfl ⟨rfl, by (repeat' (first | with_reducible exact Below.refl _ _ | with_reducible assumption | with_reducible apply Below.setCell | with_reducible apply Below.alloc | with_reducible apply Below.drew | with_reducible apply below_drewN | with_reducible exact Nat.le_refl _ | (simp; done) | (simp; omega) | omega | exact Nat.le_refl _))⟩
  | ev stk n env =>
    obtain ⟨h1, h2, -⟩ := hv
    rw [h1] at hed
    rw [h2] at c6
    rw [show rOver (.ev stk n env) = none from rfl]
    clear h hc hfr h1 h2 hsv
    go_enter Try.func69, Try.ntmps69
    go_wp2_with fail
    refine (hed.out _ (by (repeat' (first | with_reducible exact Below.refl _ _ | with_reducible assumption | with_reducible apply Below.setCell | with_reducible apply Below.alloc | with_reducible apply Below.drew | with_reducible apply below_drewN | with_reducible exact Nat.le_refl _ | (simp; done) | (simp; omega) | omega | exact Nat.le_refl _)))).mono ?_
    rintro e w1 ⟨rfl, hb1⟩
    obtain ⟨hc1, hf1⟩ := bcell hb1
    have hz1_0 : w.heap.size < w1.heap.size := by have := hb1.size; (try simp at this); omega
    have hbw : Below w.heap.size w w1 := belT (by (repeat' (first | with_reducible exact Below.refl _ _ | with_reducible assumption | with_reducible apply Below.setCell | with_reducible apply Below.alloc | with_reducible apply Below.drew | with_reducible apply below_drewN | with_reducible exact Nat.le_refl _ | (simp; done) | (simp; omega) | omega | exact Nat.le_refl _))) hb1
    have hG1 : G < w1.heap.size := Nat.lt_of_lt_of_le hG hbw.size
    have c6 : w1.cell? _ = _ := carry hbw hG c6
    go_wp2_with fail
    exact bodyPost_ret (v := .tuple #[.agg #[.int .i64 0, .int .i64 0], .bool false]) (by simp [results, Try.results69, go_sem, *]) rfl ⟨rfl, by (repeat' (first | with_reducible exact Below.refl _ _ | with_reducible assumption | with_reducible apply Below.setCell | with_reducible apply Below.alloc | with_reducible apply Below.drew | with_reducible apply below_drewN | with_reducible exact Nat.le_refl _ | (simp; done) | (simp; omega) | omega | exact Nat.le_refl _))⟩
  | gv stk v =>
    obtain ⟨h1, h2, hst, hvl⟩ := hv
    rw [h1] at hed
    rw [h2] at c6
    have hln := hst.len
    have c7 := hc.mc.c7; have c8 := hc.mc.c8; have c9 := hc.mc.c9; have c10 := hc.mc.c10; have c11 := hc.mc.c11
    cases stk with
    | nil =>
      rw [show rOver (.gv [] v) = some (outR v) from rfl]
      rw [hln] at hfr
      have hfr : Hid (∀ W, Below w.heap.size w W → Calls Try.prog 68 #[.pointer (some ⟨G, 0, none⟩)] W fun e w' => e = .returned (.int .i64 0) ∧ Below W.heap.size W w') := hfr
      have hoc := Lib.hid fun (W : World) (hb : Below w.heap.size w W) => outcome_any (Bp G sv) W v c.th (Lib.hid (hvl.below hb))
      unfold Th.val at hoc
      obtain ⟨o1, o2, ho⟩ : ∃ o1 o2, outR v = (o1, o2) := ⟨_, _, rfl⟩
      rw [ho] at hoc ⊢
      dsimp only at hoc
      clear h hc h1 h2 hst hvl hln ho hsv
      go_enter Try.func69, Try.ntmps69
      go_wp2_with fail
      refine (hed.out _ (by (repeat' (first | with_reducible exact Below.refl _ _ | with_reducible assumption | with_reducible apply Below.setCell | with_reducible apply Below.alloc | with_reducible apply Below.drew | with_reducible apply below_drewN | with_reducible exact Nat.le_refl _ | (simp; done) | (simp; omega) | omega | exact Nat.le_refl _)))).mono ?_
      rintro e w1 ⟨rfl, hb1⟩
      obtain ⟨hc1, hf1⟩ := bcell hb1
      have hz1_0 : w.heap.size < w1.heap.size := by have := hb1.size; (try simp at this); omega
      have hbw : Below w.heap.size w w1 := belT (by (repeat' (first | with_reducible exact Below.refl _ _ | with_reducible assumption | with_reducible apply Below.setCell | with_reducible apply Below.alloc | with_reducible apply Below.drew | with_reducible apply below_drewN | with_reducible exact Nat.le_refl _ | (simp; done) | (simp; omega) | omega | exact Nat.le_refl _))) hb1
      have hG1 : G < w1.heap.size := Nat.lt_of_lt_of_le hG hbw.size
      have c6 : w1.cell? _ = _ := carry hbw hG c6
      have c7 : w1.cell? _ = _ := carry hbw hG c7
      have c8 : w1.cell? _ = _ := carry hbw hG c8
      have c9 : w1.cell? _ = _ := carry hbw hG c9
      have c10 : w1.cell? _ = _ := carry hbw hG c10
      have c11 : w1.cell? _ = _ := carry hbw hG c11
      have x0 : w1.cell? ⟨w.heap.size, 0, none⟩ = some (.int .i64 0) := carry hb1 (by simp) (by simp [go_sem])
      have x1 : w1.cell? ⟨w.heap.size, 1, none⟩ = some (.int .i64 0) := carry hb1 (by simp) (by simp [go_sem])
      have xf : ∀ o, w1.frozen? ⟨w.heap.size, o, none⟩ = false := fun o => by rw [hb1.frozen (p := ⟨w.heap.size, o, none⟩) (by simp)]; simp [go_sem]
      have xl : w.heap.size < w1.heap.size := Nat.lt_of_lt_of_le (by simp) hb1.size
      clear hc1 hf1
      go_wp2_with fail
      refine (hfr.out _ (by (repeat' (first | with_reducible exact Below.refl _ _ | with_reducible assumption | with_reducible apply Below.setCell | with_reducible apply Below.alloc | with_reducible apply Below.drew | with_reducible apply below_drewN | with_reducible exact Nat.le_refl _ | (simp; done) | (simp; omega) | omega | exact Nat.le_refl _)))).mono ?_
      rintro e w2 ⟨rfl, hb2⟩
      have hc2 : Below w1.heap.size w1 w2 := belT (by (repeat' (first | with_reducible exact Below.refl _ _ | with_reducible assumption | with_reducible apply Below.setCell | with_reducible apply Below.alloc | with_reducible apply Below.drew | with_reducible apply below_drewN | with_reducible exact Nat.le_refl _ | (simp; done) | (simp; omega) | omega | exact Nat.le_refl _))) hb2
      have hbw := belT hbw hc2
      have x0 : w2.cell? _ = _ := carry hc2 xl x0
      have x1 : w2.cell? _ = _ := carry hc2 xl x1
      have c7 : w2.cell? _ = _ := carry hc2 hG1 c7
      have c8 : w2.cell? _ = _ := carry hc2 hG1 c8
      have c9 : w2.cell? _ = _ := carry hc2 hG1 c9
      have c10 : w2.cell? _ = _ := carry hc2 hG1 c10
      have c11 : w2.cell? _ = _ := carry hc2 hG1 c11
      have xf0 : w2.frozen? ⟨w.heap.size, 0, none⟩ = false := (hc2.frozen (p := ⟨w.heap.size, 0, none⟩) xl).trans (xf 0)
      have xf1 : w2.frozen? ⟨w.heap.size, 1, none⟩ = false := (hc2.frozen (p := ⟨w.heap.size, 1, none⟩) xl).trans (xf 1)
      have hG1 : G < w2.heap.size := Nat.lt_of_lt_of_le hG1 hc2.size
      have xl2 : w.heap.size < w2.heap.size := Nat.lt_of_lt_of_le xl hc2.size
      clear xf hb1 hb2
      go_wp2_with fail
      refine (hoc.out _ hbw).mono ?_
      rintro e w3 ⟨rfl, hb3⟩
      have hbw := belT hbw hb3
      have x0 : w3.cell? _ = _ := carry hb3 xl2 x0
      have x1 : w3.cell? _ = _ := carry hb3 xl2 x1
      have xf0 : w3.frozen? ⟨w.heap.size, 0, none⟩ = false := (hb3.frozen (p := ⟨w.heap.size, 0, none⟩) xl2).trans xf0
      have xf1 : w3.frozen? ⟨w.heap.size, 1, none⟩ = false := (hb3.frozen (p := ⟨w.heap.size, 1, none⟩) xl2).trans xf1
      have xl3 : w.heap.size < w3.heap.size := Nat.lt_of_lt_of_le xl2 hb3.size
      clear hb3
      go_wp2_with fail
      exact bodyPost_ret (v := .tuple #[.agg #[.int .i64 o1, .int .i64 o2], .bool true]) (by simp [results, Try.results69, go_sem, *]) rfl ⟨rfl, by (repeat' (first | with_reducible exact Below.refl _ _ | with_reducible assumption | with_reducible apply Below.setCell | with_reducible apply Below.alloc | with_reducible apply Below.drew | with_reducible apply below_drewN | with_reducible exact Nat.le_refl _ | (simp; done) | (simp; omega) | omega | exact Nat.le_refl _))⟩
    | cons f stk =>
      rw [show rOver (.gv (f :: stk) v) = none from rfl]
      rw [hln, List.length_cons] at hfr
      have hpos : (0 : Int) < ((stk.length + 1 : Nat) : Int) := by omega
      clear h hc h1 h2 hst hvl hln hsv c7 c8 c9 c10 c11
      go_enter Try.func69, Try.ntmps69
      go_wp2_with fail
      refine (hed.out _ (by (repeat' (first | with_reducible exact Below.refl _ _ | with_reducible assumption | with_reducible apply Below.setCell | with_reducible apply Below.alloc | with_reducible apply Below.drew | with_reducible apply below_drewN | with_reducible exact Nat.le_refl _ | (simp; done) | (simp; omega) | omega | exact Nat.le_refl _)))).mono ?_
      rintro e w1 ⟨rfl, hb1⟩
      obtain ⟨hc1, hf1⟩ := bcell hb1
      have hz1_0 : w.heap.size < w1.heap.size := by have := hb1.size; (try simp at this); omega
      have hbw : Below w.heap.size w w1 := belT (by (repeat' (first | with_reducible exact Below.refl _ _ | with_reducible assumption | with_reducible apply Below.setCell | with_reducible apply Below.alloc | with_reducible apply Below.drew | with_reducible apply below_drewN | with_reducible exact Nat.le_refl _ | (simp; done) | (simp; omega) | omega | exact Nat.le_refl _))) hb1
      have hG1 : G < w1.heap.size := Nat.lt_of_lt_of_le hG hbw.size
      have c6 : w1.cell? _ = _ := carry hbw hG c6
      have x0 : w1.cell? ⟨w.heap.size, 0, none⟩ = some (.int .i64 0) := carry hb1 (by simp) (by simp [go_sem])
      have x1 : w1.cell? ⟨w.heap.size, 1, none⟩ = some (.int .i64 0) := carry hb1 (by simp) (by simp [go_sem])
      have xf : ∀ o, w1.frozen? ⟨w.heap.size, o, none⟩ = false := fun o => by rw [hb1.frozen (p := ⟨w.heap.size, o, none⟩) (by simp)]; simp [go_sem]
      have xl : w.heap.size < w1.heap.size := Nat.lt_of_lt_of_le (by simp) hb1.size
      clear hc1 hf1
      go_wp2_with fail
      refine (hfr.out _ (by (repeat' (first | with_reducible exact Below.refl _ _ | with_reducible assumption | with_reducible apply Below.setCell | with_reducible apply Below.alloc | with_reducible apply Below.drew | with_reducible apply below_drewN | with_reducible exact Nat.le_refl _ | (simp; done) | (simp; omega) | omega | exact Nat.le_refl _)))).mono ?_
      rintro e w2 ⟨rfl, hb2⟩
      have hc2 : Below w1.heap.size w1 w2 := belT (by (repeat' (first | with_reducible exact Below.refl _ _ | with_reducible assumption | with_reducible apply Below.setCell | with_reducible apply Below.alloc | with_reducible apply Below.drew | with_reducible apply below_drewN | with_reducible exact Nat.le_refl _ | (simp; done) | (simp; omega) | omega | exact Nat.le_refl _))) hb2
      have hbw := belT hbw hc2
      have x0 : w2.cell? _ = _ := carry hc2 xl x0
      have x1 : w2.cell? _ = _ := carry hc2 xl x1
      have xf0 : w2.frozen? ⟨w.heap.size, 0, none⟩ = false := (hc2.frozen (p := ⟨w.heap.size, 0, none⟩) xl).trans (xf 0)
      have xf1 : w2.frozen? ⟨w.heap.size, 1, none⟩ = false := (hc2.frozen (p := ⟨w.heap.size, 1, none⟩) xl).trans (xf 1)
      have hG1 : G < w2.heap.size := Nat.lt_of_lt_of_le hG1 hc2.size
      have xl2 : w.heap.size < w2.heap.size := Nat.lt_of_lt_of_le xl hc2.size
      clear xf hb1 hb2
      go_wp2_with fail
      exact bodyPost_ret (v := .tuple #[.agg #[.int .i64 0, .int .i64 0], .bool false]) (by simp [results, Try.results69, go_sem, *]) rfl ⟨rfl, by (repeat' (first | with_reducible exact Below.refl _ _ | with_reducible assumption | with_reducible apply Below.setCell | with_reducible apply Below.alloc | with_reducible apply Below.drew | with_reducible apply below_drewN | with_reducible exact Nat.le_refl _ | (simp; done) | (simp; omega) | omega | exact Nat.le_refl _))⟩
end Go.Proofs.Ytnjalpcmjkahkaa
