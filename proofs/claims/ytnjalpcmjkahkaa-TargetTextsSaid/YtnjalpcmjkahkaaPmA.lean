/- prims.Apply. -/
import Derived.Test.YtnjalpcmjkahkaaPmP
import Derived.Test.YtnjalpcmjkahkaaBarB
namespace Go.Proofs.Ytnjalpcmjkahkaa
open Go.RowKit
set_option linter.unusedVariables false
set_option linter.unusedSimpArgs false

def ocV (o : Int × Int) : Value := .agg #[.int .i64 o.1, .int .i64 o.2]
set_option maxHeartbeats 1000000 in
theorem pmNum_any (n : Int) (w : World) (h1 : -9223372036854775808 ≤ n) (h2 : n ≤ 9223372036854775807) :
    Calls Try.prog 89 #[.int .i64 n] w fun e w' => e = .returned (ocV (numO n)) ∧ Below w.heap.size w w' := by
  obtain ⟨r, hr⟩ : ∃ r, numO n = r := ⟨_, rfl⟩
  have hrr := Lib.hid (show r = if n < -1073741824 ∨ 1073741823 < n then (3, 0) else (0, n) from hr.symm)
  rw [hr]
  clear hr
  by_cases ha : n < -1073741824
  · go_enter Try.func89, Try.ntmps89
    go_wp2_with fail
    refine bodyPost_ret (v := ocV (3, 0)) (by simp [results, Try.results89, go_sem, ocV]) rfl ⟨by rw [hrr.out, if_pos (.inl ha)], by (repeat' (first | with_reducible exact Below.refl _ _ | with_reducible assumption | with_reducible apply Below.setCell | with_reducible apply Below.alloc | with_reducible apply Below.drew | with_reducible apply below_drewN | with_reducible exact Nat.le_refl _ | (simp; done) | (simp; omega) | omega | exact Nat.le_refl _))⟩
  · by_cases hb : 1073741823 < n
    · go_enter Try.func89, Try.ntmps89
      go_wp2_with fail
      refine bodyPost_ret (v := ocV (3, 0)) (by simp [results, Try.results89, go_sem, ocV]) rfl ⟨by rw [hrr.out, if_pos (.inr hb)], by (repeat' (first | with_reducible exact Below.refl _ _ | with_reducible assumption | with_reducible apply Below.setCell | with_reducible apply Below.alloc | with_reducible apply Below.drew | with_reducible apply below_drewN | with_reducible exact Nat.le_refl _ | (simp; done) | (simp; omega) | omega | exact Nat.le_refl _))⟩
    · go_enter Try.func89, Try.ntmps89
      go_wp2_with fail
      refine bodyPost_ret (v := ocV (0, n)) (by simp [results, Try.results89, go_sem, ocV]) rfl ⟨by rw [hrr.out, if_neg (by omega)], by (repeat' (first | with_reducible exact Below.refl _ _ | with_reducible assumption | with_reducible apply Below.setCell | with_reducible apply Below.alloc | with_reducible apply Below.drew | with_reducible apply below_drewN | with_reducible exact Nat.le_refl _ | (simp; done) | (simp; omega) | omega | exact Nat.le_refl _))⟩
theorem pmTru_any (b : Bool) (w : World) :
    Calls Try.prog 90 #[.bool b] w fun e w' => e = .returned (ocV (truO b)) ∧ Below w.heap.size w w' := by
  cases b
  · go_enter Try.func90, Try.ntmps90
    go_wp2_with fail
    refine bodyPost_ret (v := ocV (1, 0)) (by simp [results, Try.results90, go_sem, ocV]) rfl ⟨rfl, by (repeat' (first | with_reducible exact Below.refl _ _ | with_reducible assumption | with_reducible apply Below.setCell | with_reducible apply Below.alloc | with_reducible apply Below.drew | with_reducible apply below_drewN | with_reducible exact Nat.le_refl _ | (simp; done) | (simp; omega) | omega | exact Nat.le_refl _))⟩
  · go_enter Try.func90, Try.ntmps90
    go_wp2_with fail
    refine bodyPost_ret (v := ocV (1, 1)) (by simp [results, Try.results90, go_sem, ocV]) rfl ⟨rfl, by (repeat' (first | with_reducible exact Below.refl _ _ | with_reducible assumption | with_reducible apply Below.setCell | with_reducible apply Below.alloc | with_reducible apply Below.drew | with_reducible apply below_drewN | with_reducible exact Nat.le_refl _ | (simp; done) | (simp; omega) | omega | exact Nat.le_refl _))⟩

theorem bx2 {w w9 : World} {a b : Value} {T : TypeId} (hb : Below (w.alloc (.cells #[a, b] T)).heap.size (w.alloc (.cells #[a, b] T)) w9) :
    w9.cell? ⟨w.heap.size, 0, none⟩ = some a ∧ w9.cell? ⟨w.heap.size, 1, none⟩ = some b ∧ (∀ o, w9.frozen? ⟨w.heap.size, o, none⟩ = false) ∧ Below w.heap.size w w9 ∧ w.heap.size < w9.heap.size := by
  have hB := Bar.of_below (S := fun _ => False) hb
  have hsz := hb.size
  simp at hsz
  refine ⟨hB.cell (by simp [go_sem]) id, hB.cell (by simp [go_sem]) id, fun o => ?_, belT (below_alc w _) hb, by omega⟩
  rw [hB.frozen (a := ⟨w.heap.size, o, none⟩) (by simp) id]
  simp [go_sem]
set_option maxHeartbeats 2000000 in
theorem apply2_any (p u v : Int) (w : World) (hp : 0 ≤ p ∧ p ≤ 5) (hu : -1073741824 ≤ u ∧ u ≤ 1073741823) (hv : -1073741824 ≤ v ∧ v ≤ 1073741823) :
    Calls Try.prog 85 #[.int .i64 p, .int .i64 u, .int .i64 v] w fun e w' => e = .returned (ocV (prmV p u v)) ∧ Below w.heap.size w w' := by
  have hm : -1152921504606846976 ≤ u * v ∧ u * v ≤ 1152921504606846976 := by
    have e := Int.natAbs_mul u v
    have m : u.natAbs * v.natAbs ≤ 1073741824 * 1073741824 := Nat.mul_le_mul (by omega) (by omega)
    omega
  have hd : v ≠ 0 → -1073741824 ≤ u.tdiv v ∧ u.tdiv v ≤ 1073741824 := fun _ => by
    have e := Int.natAbs_tdiv u v
    have e : (u.tdiv v).natAbs = u.natAbs / v.natAbs := e
    have m := Nat.div_le_self u.natAbs v.natAbs
    omega
  have kN := fun (n : Int) (h1 : -9223372036854775808 ≤ n) (h2 : n ≤ 9223372036854775807) (W : World) => Lib.hid (pmNum_any n W h1 h2)
  have kT := fun (b : Bool) (W : World) => Lib.hid (pmTru_any b W)
  have w1 : IntKind.i64.wrap (u + v) = u + v := IntWalk.i64_in _ (by omega)
  have w2 : IntKind.i64.wrap (u - v) = u - v := IntWalk.i64_in _ (by omega)
  have w3 : IntKind.i64.wrap (u * v) = u * v := IntWalk.i64_in _ (by omega)
  have hc : p = 0 ∨ p = 1 ∨ p = 2 ∨ p = 3 ∨ p = 4 ∨ p = 5 := by omega
  rcases hc with rfl | rfl | rfl | rfl | rfl | rfl
  · have hV : prmV 0 u v = numO (u + v) := rfl
    rw [hV]
    go_enter Try.func85, Try.ntmps85
    go_wp2_with fail
    refine (kN (u + v) (by omega) (by omega) _).out.mono ?_
    rintro e w9 ⟨he, hb⟩
    obtain ⟨x0, x1, x2, x3, x4⟩ := bx2 hb
    clear hb
    obtain ⟨o, ho⟩ : ∃ o, numO (u + v) = o := ⟨_, rfl⟩
    rw [ho] at he
    obtain ⟨o1, o2⟩ := o
    have e9 : ocV (o1, o2) = .agg #[.int .i64 o1, .int .i64 o2] := rfl
    rw [e9] at he
    subst he
    go_wp2_with fail
    refine bodyPost_ret (v := ocV (o1, o2)) (by simp [results, Try.results85, go_sem, ocV, x0, x1, x2, x3, x4]) rfl ⟨by rw [ho], by (repeat' (first | with_reducible exact Below.refl _ _ | with_reducible assumption | with_reducible apply Below.setCell | with_reducible apply Below.alloc | with_reducible apply Below.drew | with_reducible apply below_drewN | with_reducible exact Nat.le_refl _ | (simp; done) | (simp; omega) | omega | exact Nat.le_refl _))⟩
  · have hV : prmV 1 u v = numO (u - v) := rfl
    rw [hV]
    go_enter Try.func85, Try.ntmps85
    go_wp2_with fail
    refine (kN (u - v) (by omega) (by omega) _).out.mono ?_
    rintro e w9 ⟨he, hb⟩
    obtain ⟨x0, x1, x2, x3, x4⟩ := bx2 hb
    clear hb
    obtain ⟨o, ho⟩ : ∃ o, numO (u - v) = o := ⟨_, rfl⟩
    rw [ho] at he
    obtain ⟨o1, o2⟩ := o
    have e9 : ocV (o1, o2) = .agg #[.int .i64 o1, .int .i64 o2] := rfl
    rw [e9] at he
    subst he
    go_wp2_with fail
    refine bodyPost_ret (v := ocV (o1, o2)) (by simp [results, Try.results85, go_sem, ocV, x0, x1, x2, x3, x4]) rfl ⟨by rw [ho], by (repeat' (first | with_reducible exact Below.refl _ _ | with_reducible assumption | with_reducible apply Below.setCell | with_reducible apply Below.alloc | with_reducible apply Below.drew | with_reducible apply below_drewN | with_reducible exact Nat.le_refl _ | (simp; done) | (simp; omega) | omega | exact Nat.le_refl _))⟩
  · have hV : prmV 2 u v = numO (u * v) := rfl
    rw [hV]
    go_enter Try.func85, Try.ntmps85
    go_wp2_with fail
    refine (kN (u * v) (by omega) (by omega) _).out.mono ?_
    rintro e w9 ⟨he, hb⟩
    obtain ⟨x0, x1, x2, x3, x4⟩ := bx2 hb
    clear hb
    obtain ⟨o, ho⟩ : ∃ o, numO (u * v) = o := ⟨_, rfl⟩
    rw [ho] at he
    obtain ⟨o1, o2⟩ := o
    have e9 : ocV (o1, o2) = .agg #[.int .i64 o1, .int .i64 o2] := rfl
    rw [e9] at he
    subst he
    go_wp2_with fail
    refine bodyPost_ret (v := ocV (o1, o2)) (by simp [results, Try.results85, go_sem, ocV, x0, x1, x2, x3, x4]) rfl ⟨by rw [ho], by (repeat' (first | with_reducible exact Below.refl _ _ | with_reducible assumption | with_reducible apply Below.setCell | with_reducible apply Below.alloc | with_reducible apply Below.drew | with_reducible apply below_drewN | with_reducible exact Nat.le_refl _ | (simp; done) | (simp; omega) | omega | exact Nat.le_refl _))⟩
  · by_cases hz : v = 0
    · subst hz
      go_enter Try.func85, Try.ntmps85
      go_wp2_with fail
      refine bodyPost_ret (v := ocV (3, 1)) (by simp [results, Try.results85, go_sem, ocV]) rfl ⟨rfl, by (repeat' (first | with_reducible exact Below.refl _ _ | with_reducible assumption | with_reducible apply Below.setCell | with_reducible apply Below.alloc | with_reducible apply Below.drew | with_reducible apply below_drewN | with_reducible exact Nat.le_refl _ | (simp; done) | (simp; omega) | omega | exact Nat.le_refl _))⟩
    · have hd := hd hz
      have hV : prmV 3 u v = numO (u.tdiv v) := if_neg hz
      rw [hV]
      have w4 : IntKind.i64.wrap (u.tdiv v) = u.tdiv v := IntWalk.i64_in _ (by omega)
      go_enter Try.func85, Try.ntmps85
      go_wp2_with fail
      refine (kN (u.tdiv v) (by omega) (by omega) _).out.mono ?_
      rintro e w9 ⟨he, hb⟩
      obtain ⟨x0, x1, x2, x3, x4⟩ := bx2 hb
      clear hb
      obtain ⟨o, ho⟩ : ∃ o, numO (u.tdiv v) = o := ⟨_, rfl⟩
      rw [ho] at he
      obtain ⟨o1, o2⟩ := o
      have e9 : ocV (o1, o2) = .agg #[.int .i64 o1, .int .i64 o2] := rfl
      rw [e9] at he
      subst he
      go_wp2_with fail
      refine bodyPost_ret (v := ocV (o1, o2)) (by simp [results, Try.results85, go_sem, ocV, x0, x1, x2, x3, x4]) rfl ⟨by rw [ho], by (repeat' (first | with_reducible exact Below.refl _ _ | with_reducible assumption | with_reducible apply Below.setCell | with_reducible apply Below.alloc | with_reducible apply Below.drew | with_reducible apply below_drewN | with_reducible exact Nat.le_refl _ | (simp; done) | (simp; omega) | omega | exact Nat.le_refl _))⟩
  · have hV : prmV 4 u v = truO (decide (u = v)) := rfl
    rw [hV]
    go_enter Try.func85, Try.ntmps85
    go_wp2_with fail
    refine (kT (decide (u = v)) _).out.mono ?_
    rintro e w9 ⟨he, hb⟩
    obtain ⟨x0, x1, x2, x3, x4⟩ := bx2 hb
    clear hb
    obtain ⟨o, ho⟩ : ∃ o, truO (decide (u = v)) = o := ⟨_, rfl⟩
    rw [ho] at he
    obtain ⟨o1, o2⟩ := o
    have e9 : ocV (o1, o2) = .agg #[.int .i64 o1, .int .i64 o2] := rfl
    rw [e9] at he
    subst he
    go_wp2_with fail
    refine bodyPost_ret (v := ocV (o1, o2)) (by simp [results, Try.results85, go_sem, ocV, x0, x1, x2, x3, x4]) rfl ⟨by rw [ho], by (repeat' (first | with_reducible exact Below.refl _ _ | with_reducible assumption | with_reducible apply Below.setCell | with_reducible apply Below.alloc | with_reducible apply Below.drew | with_reducible apply below_drewN | with_reducible exact Nat.le_refl _ | (simp; done) | (simp; omega) | omega | exact Nat.le_refl _))⟩
  · have hV : prmV 5 u v = truO (decide (u < v)) := rfl
    rw [hV]
    go_enter Try.func85, Try.ntmps85
    go_wp2_with fail
    refine (kT (decide (u < v)) _).out.mono ?_
    rintro e w9 ⟨he, hb⟩
    obtain ⟨x0, x1, x2, x3, x4⟩ := bx2 hb
    clear hb
    obtain ⟨o, ho⟩ : ∃ o, truO (decide (u < v)) = o := ⟨_, rfl⟩
    rw [ho] at he
    obtain ⟨o1, o2⟩ := o
    have e9 : ocV (o1, o2) = .agg #[.int .i64 o1, .int .i64 o2] := rfl
    rw [e9] at he
    subst he
    go_wp2_with fail
    refine bodyPost_ret (v := ocV (o1, o2)) (by simp [results, Try.results85, go_sem, ocV, x0, x1, x2, x3, x4]) rfl ⟨by rw [ho], by (repeat' (first | with_reducible exact Below.refl _ _ | with_reducible assumption | with_reducible apply Below.setCell | with_reducible apply Below.alloc | with_reducible apply Below.drew | with_reducible apply below_drewN | with_reducible exact Nat.le_refl _ | (simp; done) | (simp; omega) | omega | exact Nat.le_refl _))⟩
theorem apply_any (p u v : Int) (w : World) (hp : 0 ≤ p ∧ p ≤ 5) (hu : 0 ≤ u ∧ u ≤ 1073741823) (hv : 0 ≤ v ∧ v ≤ 1073741823) :
    Calls Try.prog 85 #[.int .i64 p, .int .i64 u, .int .i64 v] w fun e w' => e = .returned (ocV (prmV p u v)) ∧ Below w.heap.size w w' := apply2_any p u v w hp (by omega) (by omega)
end Go.Proofs.Ytnjalpcmjkahkaa
