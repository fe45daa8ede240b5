/- The reference's tfields. -/
import Derived.Test.YtnjalpcmjkahkaaZt4
set_option maxRecDepth 100000
set_option maxHeartbeats 8000000
namespace Go.Proofs.Ytnjalpcmjkahkaa
open Go.RowKit
set_option linter.unusedVariables false
set_option linter.unusedSimpArgs false
def okTf (k a b c n x y z w : Int) : Bool := plainT k a b c n x y z w && numT k n && okNames k n x y z w
theorem tfields_any (k a b c n x y z ww : Int) (w : World) :
  Calls Try.prog 31 #[.agg #[.int .i64 k, .int .i64 a, .int .i64 b, .int .i64 c, .int .i64 n, .int .i64 x, .int .i64 y, .int .i64 z, .int .i64 ww]] w fun e w' => e = .returned (.bool (okTf k a b c n x y z ww)) ∧ Below w.heap.size w w' := by
 go_enter Try.func31, Try.ntmps31
 go_wp2_with fail
 refine (tkids_any _ _).mono ?_
 rintro e w1 ⟨rfl, rfl⟩
 have hk : k = 0 ∨ k = 1 ∨ k = 2 ∨ k = 3 ∨ k = 4 ∨ k = 5 ∨ k = 6 ∨ k = 7 ∨ k = 8 ∨ k = 9 ∨ k = 10 ∨ k = 11 ∨ k = 12 ∨ (k < 0 ∨ 12 < k) := by omega
 rcases hk with rfl | rfl | rfl | rfl | rfl | rfl | rfl | rfl | rfl | rfl | rfl | rfl | rfl | hk
 ·rw [show kidsT 0 = 0 from rfl]
  go_wp2_with (go_at_call 41; refine (name_any _ _).mono ?_; rintro e w' ⟨rfl, rfl⟩)
  all_goals go_ret
  all_goals exact ⟨ret_b (by first | (simp [okTf, plainT, numT, okNames, namesT, *]; done) | (simp [okTf, plainT, numT, okNames, namesT, *]; omega)), by (repeat' (first | (with_reducible first | exact bR _ _ | assumption | apply bS | apply bA | apply bD | apply bN | exact bL _) | (simp; done) | (simp; omega) | omega | exact bL _))⟩
 ·rw [show kidsT 1 = 0 from rfl]
  go_wp2_with (go_at_call 41; refine (name_any _ _).mono ?_; rintro e w' ⟨rfl, rfl⟩)
  all_goals go_ret
  all_goals exact ⟨ret_b (by first | (simp [okTf, plainT, numT, okNames, namesT, *]; done) | (simp [okTf, plainT, numT, okNames, namesT, *]; omega)), by (repeat' (first | (with_reducible first | exact bR _ _ | assumption | apply bS | apply bA | apply bD | apply bN | exact bL _) | (simp; done) | (simp; omega) | omega | exact bL _))⟩
 ·rw [show kidsT 2 = 0 from rfl]
  go_wp2_with (go_at_call 41; refine (name_any _ _).mono ?_; rintro e w' ⟨rfl, rfl⟩)
  all_goals go_ret
  all_goals exact ⟨ret_b (by first | (simp [okTf, plainT, numT, okNames, namesT, *]; done) | (simp [okTf, plainT, numT, okNames, namesT, *]; omega)), by (repeat' (first | (with_reducible first | exact bR _ _ | assumption | apply bS | apply bA | apply bD | apply bN | exact bL _) | (simp; done) | (simp; omega) | omega | exact bL _))⟩
 ·rw [show kidsT 3 = 1 from rfl]
  go_wp2_with (go_at_call 41; refine (name_any _ _).mono ?_; rintro e w' ⟨rfl, rfl⟩)
  all_goals go_ret
  all_goals exact ⟨ret_b (by first | (simp [okTf, plainT, numT, okNames, namesT, *]; done) | (simp [okTf, plainT, numT, okNames, namesT, *]; omega)), by (repeat' (first | (with_reducible first | exact bR _ _ | assumption | apply bS | apply bA | apply bD | apply bN | exact bL _) | (simp; done) | (simp; omega) | omega | exact bL _))⟩
 ·rw [show kidsT 4 = 1 from rfl]
  go_wp2_with (go_at_call 41; refine (name_any _ _).mono ?_; rintro e w' ⟨rfl, rfl⟩)
  all_goals go_ret
  all_goals exact ⟨ret_b (by first | (simp [okTf, plainT, numT, okNames, namesT, *]; done) | (simp [okTf, plainT, numT, okNames, namesT, *]; omega)), by (repeat' (first | (with_reducible first | exact bR _ _ | assumption | apply bS | apply bA | apply bD | apply bN | exact bL _) | (simp; done) | (simp; omega) | omega | exact bL _))⟩
 ·rw [show kidsT 5 = 2 from rfl]
  go_wp2_with (go_at_call 41; refine (name_any _ _).mono ?_; rintro e w' ⟨rfl, rfl⟩)
  all_goals go_ret
  all_goals exact ⟨ret_b (by first | (simp [okTf, plainT, numT, okNames, namesT, *]; done) | (simp [okTf, plainT, numT, okNames, namesT, *]; omega)), by (repeat' (first | (with_reducible first | exact bR _ _ | assumption | apply bS | apply bA | apply bD | apply bN | exact bL _) | (simp; done) | (simp; omega) | omega | exact bL _))⟩
 ·rw [show kidsT 6 = 2 from rfl]
  go_wp2_with (go_at_call 41; refine (name_any _ _).mono ?_; rintro e w' ⟨rfl, rfl⟩)
  all_goals go_ret
  all_goals exact ⟨ret_b (by first | (simp [okTf, plainT, numT, okNames, namesT, *]; done) | (simp [okTf, plainT, numT, okNames, namesT, *]; omega)), by (repeat' (first | (with_reducible first | exact bR _ _ | assumption | apply bS | apply bA | apply bD | apply bN | exact bL _) | (simp; done) | (simp; omega) | omega | exact bL _))⟩
 ·rw [show kidsT 7 = 3 from rfl]
  go_wp2_with (go_at_call 41; refine (name_any _ _).mono ?_; rintro e w' ⟨rfl, rfl⟩)
  all_goals go_ret
  all_goals exact ⟨ret_b (by first | (simp [okTf, plainT, numT, okNames, namesT, *]; done) | (simp [okTf, plainT, numT, okNames, namesT, *]; omega)), by (repeat' (first | (with_reducible first | exact bR _ _ | assumption | apply bS | apply bA | apply bD | apply bN | exact bL _) | (simp; done) | (simp; omega) | omega | exact bL _))⟩
 ·rw [show kidsT 8 = 2 from rfl]
  go_wp2_with (go_at_call 41; refine (name_any _ _).mono ?_; rintro e w' ⟨rfl, rfl⟩)
  all_goals go_ret
  all_goals exact ⟨ret_b (by first | (simp [okTf, plainT, numT, okNames, namesT, *]; done) | (simp [okTf, plainT, numT, okNames, namesT, *]; omega)), by (repeat' (first | (with_reducible first | exact bR _ _ | assumption | apply bS | apply bA | apply bD | apply bN | exact bL _) | (simp; done) | (simp; omega) | omega | exact bL _))⟩
 ·rw [show kidsT 9 = 1 from rfl]
  go_wp2_with (go_at_call 41; refine (name_any _ _).mono ?_; rintro e w' ⟨rfl, rfl⟩)
  all_goals go_ret
  all_goals exact ⟨ret_b (by first | (simp [okTf, plainT, numT, okNames, namesT, *]; done) | (simp [okTf, plainT, numT, okNames, namesT, *]; omega)), by (repeat' (first | (with_reducible first | exact bR _ _ | assumption | apply bS | apply bA | apply bD | apply bN | exact bL _) | (simp; done) | (simp; omega) | omega | exact bL _))⟩
 ·rw [show kidsT 10 = 2 from rfl]
  go_wp2_with (go_at_call 41; refine (name_any _ _).mono ?_; rintro e w' ⟨rfl, rfl⟩)
  all_goals go_ret
  all_goals exact ⟨ret_b (by first | (simp [okTf, plainT, numT, okNames, namesT, *]; done) | (simp [okTf, plainT, numT, okNames, namesT, *]; omega)), by (repeat' (first | (with_reducible first | exact bR _ _ | assumption | apply bS | apply bA | apply bD | apply bN | exact bL _) | (simp; done) | (simp; omega) | omega | exact bL _))⟩
 ·rw [show kidsT 11 = 2 from rfl]
  go_wp2_with (go_at_call 41; refine (name_any _ _).mono ?_; rintro e w' ⟨rfl, rfl⟩)
  all_goals go_ret
  all_goals exact ⟨ret_b (by first | (simp [okTf, plainT, numT, okNames, namesT, *]; done) | (simp [okTf, plainT, numT, okNames, namesT, *]; omega)), by (repeat' (first | (with_reducible first | exact bR _ _ | assumption | apply bS | apply bA | apply bD | apply bN | exact bL _) | (simp; done) | (simp; omega) | omega | exact bL _))⟩
 ·rw [show kidsT 12 = 3 from rfl]
  go_wp2_with (go_at_call 41; refine (name_any _ _).mono ?_; rintro e w' ⟨rfl, rfl⟩)
  all_goals go_ret
  all_goals exact ⟨ret_b (by first | (simp [okTf, plainT, numT, okNames, namesT, *]; done) | (simp [okTf, plainT, numT, okNames, namesT, *]; omega)), by (repeat' (first | (with_reducible first | exact bR _ _ | assumption | apply bS | apply bA | apply bD | apply bN | exact bL _) | (simp; done) | (simp; omega) | omega | exact bL _))⟩
 ·rw [show kidsT k = -1 from by unfold kidsT; (repeat' split) <;> omega]
  have e0 : (k == 0) = false := by simp; omega
  have hv : Hid (okTf k a b c n x y z ww = false) := Lib.hid (by
   unfold okTf plainT
   repeat' split
   all_goals first | (exfalso; omega) | (rw [decide_eq_false (by omega)]; rfl))
  go_wp2_with (go_at_call 41; refine (name_any _ _).mono ?_; rintro e w' ⟨rfl, rfl⟩)
  all_goals go_ret
  all_goals exact ⟨ret_b (by rw [hv.out]), by (repeat' (first | (with_reducible first | exact bR _ _ | assumption | apply bS | apply bA | apply bD | apply bN | exact bL _) | (simp; done) | (simp; omega) | omega | exact bL _))⟩
end Go.Proofs.Ytnjalpcmjkahkaa
