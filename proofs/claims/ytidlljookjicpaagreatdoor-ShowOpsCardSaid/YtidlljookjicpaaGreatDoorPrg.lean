/- Programs lent and kept; nodes written over. -/
import Derived.Test.YtidlljookjicpaaGreatDoorNdO
import Derived.Test.YtidlljookjicpaaGreatDoorNaH
import Derived.Deep.RegionHeld3
namespace Go.Proofs.YtidlljookjicpaaGreatDoor
open Go.RowKit
set_option linter.unusedVariables false
set_option linter.unusedSimpArgs false

theorem allR_self {f : Nd → Nd → Bool} (hf : ∀ t, f t t = true) (l : List Nd) (n : Nat) : allR f l l n = true := by
  unfold allR; rw [List.all_eq_true]; intro j _; exact hf _
theorem sameV_self {f : Nd → Nd → Bool} (hf : ∀ t, f t t = true) (l : List Nd) : sameV f l l = true := by
  unfold sameV; rw [allR_self hf, decide_eq_true rfl]; rfl
theorem ndE_self (t : Nd) : ndE t t = true := by unfold ndE ndQ; simp
theorem ndS_self (t : Nd) : ndS t t = true := by unfold ndS ndQ; simp
theorem sameVO_self (l : List Or) : sameVO orE l l = true := by
  unfold sameVO allRO
  rw [decide_eq_true rfl, Bool.true_and, List.all_eq_true]
  intro j _; unfold orE orQ; simp
theorem mkE : ndQ 0 0 0 0 0 ⟨#[]⟩ ⟨#[]⟩ ⟨#[]⟩ ⟨#[]⟩ 77777 0 0 0 0 0 ⟨#[]⟩ ⟨#[]⟩ ⟨#[]⟩ ⟨#[]⟩ 77777 = true := by unfold ndQ; simp
theorem mkO : orQ ⟨#[]⟩ 0 77777 ⟨#[]⟩ 0 77777 = true := by unfold orQ; simp

set_option maxRecDepth 100000 in
set_option maxHeartbeats 4000000 in
theorem keptNodes_any {B : Nat} (g n c : Nat) (a : Option Addr) (c2 : Nat) (l : List Nd) (w : World) (h : Hid (OwnN.Lent B w g n c l)) (h2 : Hid (NArg w a n l)) (hl : n ≤ 14073748835123) :
    Calls Tryz.prog 31 #[.slice (some ⟨g, 0, none⟩) n c, .slice a n c2] w fun e w' => e = .returned (.bool true) ∧ Below w.heap.size w w' := by
  have k1 := Lib.hid fun (W : World) (h1 : Hid (NArg W (some ⟨g, 0, none⟩) n l)) (h2 : Hid (NArg W a n l)) => sameNodes_any (some ⟨g, 0, none⟩) a n n c c2 l l W h1 h2 (by omega)
  rw [sameV_self ndE_self] at k1
  have hnc := h.out.2.1
  have hto := fun (W : World) => nd_to (some ⟨g, 0, none⟩) n c (n + 2) hnc W
  rw [show ((n + 2 : Nat) : Int) = (n : Int) + 2 from rfl] at hto
  go_enter Tryz.func31, Tryz.ntmps31
  go_wp2_with fail
  (try rw [hto]; go_wp2_with fail)
  clear hto
  refine (k1.out _ (Lib.hid h.out.arg) h2).mono ?_
  rintro e w1 ⟨rfl, hb1⟩
  have hB1 := Lib.hid hb1
  obtain ⟨hm1, hm2, hgs⟩ := (h.out.below hb1).marks
  obtain ⟨e0, e1, e2, e3, e4, e5, e6, e7, e8, e9⟩ := hm1
  obtain ⟨d0, d1, d2, d3, d4, d5, d6, d7, d8, d9⟩ := hm2
  simp only [ndMk, Nat.zero_add] at e0 e1 e2 e3 e4 e5 e6 e7 e8 e9 d0 d1 d2 d3 d4 d5 d6 d7 d8 d9
  clear hb1
  have hndq := fun x0 x1 x2 x3 x4 x5 x6 x7 x8 x9 y0 y1 y2 y3 y4 y5 y6 y7 y8 y9 W => nd_in x0 x1 x2 x3 x4 x5 x6 x7 x8 x9 y0 y1 y2 y3 y4 y5 y6 y7 y8 y9 W
  have hq := mkE
  have hn0 : (0 : Int) ≤ (n : Int) := by omega
  have hn1 : (n : Int) < ((n + 2 : Nat) : Int) := by omega
  have hn2 : (n : Int) + 1 < ((n + 2 : Nat) : Int) := by omega
  have hn3 : n < n + 2 := by omega
  have hn4 : n + 1 < n + 2 := by omega
  go_wp2_with fail
  go_ret
  exact ⟨rfl, hB1.out⟩
set_option maxRecDepth 100000 in
set_option maxHeartbeats 4000000 in
theorem keptOps_any {B : Nat} (g n c : Nat) (a : Option Addr) (c2 : Nat) (l : List Or) (w : World) (h : Hid (OwnO.Lent B w g n c l)) (h2 : Hid (OArg w a n l)) (hl : n ≤ 14073748835123) :
    Calls Tryz.prog 30 #[.slice (some ⟨g, 0, none⟩) n c, .slice a n c2] w fun e w' => e = .returned (.bool true) ∧ Below w.heap.size w w' := by
  have k1 := Lib.hid fun (W : World) (h1 : Hid (OArg W (some ⟨g, 0, none⟩) n l)) (h2 : Hid (OArg W a n l)) => sameOps_any (some ⟨g, 0, none⟩) a n n c c2 l l W h1 h2 (by omega)
  rw [sameVO_self] at k1
  have hnc := h.out.2.1
  have hto := fun (W : World) => or_to (some ⟨g, 0, none⟩) n c (n + 2) hnc W
  rw [show ((n + 2 : Nat) : Int) = (n : Int) + 2 from rfl] at hto
  go_enter Tryz.func30, Tryz.ntmps30
  go_wp2_with fail
  (try rw [hto]; go_wp2_with fail)
  clear hto
  refine (k1.out _ (Lib.hid h.out.arg) h2).mono ?_
  rintro e w1 ⟨rfl, hb1⟩
  have hB1 := Lib.hid hb1
  obtain ⟨hm1, hm2, hgs⟩ := (h.out.below hb1).marks
  obtain ⟨e0, e1, e2⟩ := hm1
  obtain ⟨d0, d1, d2⟩ := hm2
  simp only [orMk, Nat.zero_add] at e0 e1 e2 d0 d1 d2
  clear hb1
  have hndq := fun x0 x1 x2 y0 y1 y2 W => or_in x0 x1 x2 y0 y1 y2 W
  have hq := mkO
  have hn0 : (0 : Int) ≤ (n : Int) := by omega
  have hn1 : (n : Int) < ((n + 2 : Nat) : Int) := by omega
  have hn2 : (n : Int) + 1 < ((n + 2 : Nat) : Int) := by omega
  have hn3 : n < n + 2 := by omega
  have hn4 : n + 1 < n + 2 := by omega
  go_wp2_with fail
  go_ret
  exact ⟨rfl, hB1.out⟩
set_option maxHeartbeats 4000000 in
theorem keptProgram_any {B B' : Nat} (g n c g' n' c' : Nat) (a a' : Option Addr) (c2 c2' : Nat) (os : List Or) (ts : List Nd) (w : World) (h1 : Hid (OwnO.Lent B w g n c os)) (h2 : Hid (OArg w a n os)) (h3 : Hid (OwnN.Lent B' w g' n' c' ts)) (h4 : Hid (NArg w a' n' ts)) (hl : n ≤ 14073748835123) (hl' : n' ≤ 14073748835123) :
    Calls Tryz.prog 12 #[.agg #[.slice (some ⟨g, 0, none⟩) n c, .slice (some ⟨g', 0, none⟩) n' c'], .agg #[.slice a n c2, .slice a' n' c2']] w fun e w' => e = .returned (.bool true) ∧ Below w.heap.size w w' := by
  have k1 := Lib.hid fun (W : World) (h1 : Hid (OwnO.Lent B W g n c os)) (h2 : Hid (OArg W a n os)) => keptOps_any g n c a c2 os W h1 h2 hl
  have k2 := Lib.hid fun (W : World) (h1 : Hid (OwnN.Lent B' W g' n' c' ts)) (h2 : Hid (NArg W a' n' ts)) => keptNodes_any g' n' c' a' c2' ts W h1 h2 hl'
  go_enter Tryz.func12, Tryz.ntmps12
  go_wp2_with fail
  refine (k1.out _ (Lib.hid (h1.out.below (by (repeat' (first | with_reducible exact Below.refl _ _ | with_reducible assumption | with_reducible apply Below.setCell | with_reducible apply Below.alloc | with_reducible apply Below.drew | with_reducible apply below_drewN | with_reducible exact Nat.le_refl _ | (simp; done) | (simp; omega) | omega | exact Nat.le_refl _))))) (Lib.hid (h2.out.below (by (repeat' (first | with_reducible exact Below.refl _ _ | with_reducible assumption | with_reducible apply Below.setCell | with_reducible apply Below.alloc | with_reducible apply Below.drew | with_reducible apply below_drewN | with_reducible exact Nat.le_refl _ | (simp; done) | (simp; omega) | omega | exact Nat.le_refl _)))))).mono ?_
  rintro e w1 ⟨rfl, hb1⟩
  have hB1 := Lib.hid (belT (show Below w.heap.size w _ from by (repeat' (first | with_reducible exact Below.refl _ _ | with_reducible assumption | with_reducible apply Below.setCell | with_reducible apply Below.alloc | with_reducible apply Below.drew | with_reducible apply below_drewN | with_reducible exact Nat.le_refl _ | (simp; done) | (simp; omega) | omega | exact Nat.le_refl _))) hb1)
  have q1 : w1.cell? ⟨w.heap.size, 1, none⟩ = some (.slice (some ⟨g', 0, none⟩) n' c') := carry hb1 (by first | (simp; done) | (simp; omega)) (by simp)
  have q2 : w1.cell? ⟨w.heap.size + 1, 1, none⟩ = some (.slice a' n' c2') := carry hb1 (by first | (simp; done) | (simp; omega)) (by simp)
  clear hb1
  go_wp2_with fail
  refine (k2.out _ (Lib.hid (h3.out.below hB1.out)) (Lib.hid (h4.out.below hB1.out))).mono ?_
  rintro e w2 ⟨rfl, hb2⟩
  have hB2 := Lib.hid (belT hB1.out hb2)
  clear hb2
  go_wp2_with fail
  go_ret
  exact ⟨rfl, hB2.out⟩

end Go.Proofs.YtidlljookjicpaaGreatDoor
