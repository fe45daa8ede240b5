/- The reference's fields: no names. -/
import Derived.Test.YthpcbgljbpmafaaGreatDoorU5
import Derived.Test.YthpcbgljbpmafaaGreatDoorU9
import Derived.Test.YthpcbgljbpmafaaGreatDoorU15
set_option maxRecDepth 100000
set_option maxHeartbeats 8000000
namespace Go.Proofs.YthpcbgljbpmafaaGreatDoor
open Go.RowKit
set_option linter.unusedVariables false
set_option linter.unusedSimpArgs false
theorem fields0r (a b c nm at_ : Int) (s1 s2 s3 s4 : ByteArray) (w : World) (hz : s1.size ≤ 1125899906842624 ∧ s2.size ≤ 1125899906842624 ∧ s3.size ≤ 1125899906842624 ∧ s4.size ≤ 1125899906842624) :
  Calls Tryz.prog 63 #[.agg #[.int .i64 0, .int .i64 a, .int .i64 b, .int .i64 c, .int .i64 nm, .string s1, .string s2, .string s3, .string s4, .int .i64 at_], .bool false] w fun e w' => e = .returned (.bool (okF false 0 a b c nm s1 s2 s3 s4 at_)) ∧ Below w.heap.size w w' := by
 have kK := Lib.hid fun (W : World) => (show Calls Tryz.prog 85 #[.int .i64 0] W fun e w' => e = .returned (.int .i64 0) ∧ Below W.heap.size W w' from kids_any 0 W)
 rw [okF0r]
 obtain ⟨bq, hq⟩ : ∃ x, ndQ 0 a b c nm s1 s2 s3 s4 at_ 0 0 0 0 nm (⟨#[]⟩ : ByteArray) (⟨#[]⟩ : ByteArray) (⟨#[]⟩ : ByteArray) (⟨#[]⟩ : ByteArray) at_ = x := ⟨_, rfl⟩
 rw [hq]
 have hq' := Lib.hid hq; clear hq hz
 go_enter Tryz.func63, Tryz.ntmps63
 go_wp2_with fail
 refine (kK.out _).mono ?_
 rintro e w1 ⟨rfl, hb1⟩
 have hB1 := Lib.hid (belT (show Below w.heap.size w _ from by (repeat' (first | (with_reducible first | exact bR _ _ | assumption | apply bS | apply bA | apply bD | apply bN | exact bL _) | (simp; done) | (simp; omega) | omega | exact bL _))) hb1)
 obtain ⟨⟨q0, q1, q2, q3, q4, q5, q6, q7, q8, q9⟩, ⟨r0, r1, r2, r3, r4, r5, r6, r7, r8, r9⟩, hfy, hs1⟩ := fl_two hb1
 have hfy := Lib.hid hfy
 have f4 := hfy.out 4
 clear hb1 kK
 have hndq := fun x0 x1 x2 x3 x4 x5 x6 x7 x8 x9 y0 y1 y2 y3 y4 y5 y6 y7 y8 y9 W => nd_in x0 x1 x2 x3 x4 x5 x6 x7 x8 x9 y0 y1 y2 y3 y4 y5 y6 y7 y8 y9 W
 have hq := hq'.out
 rcases bq_four bq at_ with rfl | ⟨rfl, h0⟩ | ⟨rfl, h0, h1⟩ | ⟨rfl, h0, h1⟩
 all_goals
  go_wp2_with fail
  all_goals
   go_ret
   exact ⟨ret_bb (by first | (simp [*]; done) | (simp [*]; omega)), by have := hB1.out; have := this.size; (repeat' (first | (with_reducible first | exact bR _ _ | assumption | apply bS | apply bA | apply bD | apply bN | exact bL _) | (simp; done) | (simp; omega) | omega | exact bL _))⟩
theorem fields1r (a b c nm at_ : Int) (s1 s2 s3 s4 : ByteArray) (w : World) (hz : s1.size ≤ 1125899906842624 ∧ s2.size ≤ 1125899906842624 ∧ s3.size ≤ 1125899906842624 ∧ s4.size ≤ 1125899906842624) :
  Calls Tryz.prog 63 #[.agg #[.int .i64 1, .int .i64 a, .int .i64 b, .int .i64 c, .int .i64 nm, .string s1, .string s2, .string s3, .string s4, .int .i64 at_], .bool false] w fun e w' => e = .returned (.bool (okF false 1 a b c nm s1 s2 s3 s4 at_)) ∧ Below w.heap.size w w' := by
 have kK := Lib.hid fun (W : World) => (show Calls Tryz.prog 85 #[.int .i64 1] W fun e w' => e = .returned (.int .i64 0) ∧ Below W.heap.size W w' from kids_any 1 W)
 rw [okF1r]
 obtain ⟨bq, hq⟩ : ∃ x, ndQ 1 a b c nm s1 s2 s3 s4 at_ 1 0 0 0 nm (⟨#[]⟩ : ByteArray) (⟨#[]⟩ : ByteArray) (⟨#[]⟩ : ByteArray) (⟨#[]⟩ : ByteArray) at_ = x := ⟨_, rfl⟩
 rw [hq]
 have hq' := Lib.hid hq; clear hq hz
 go_enter Tryz.func63, Tryz.ntmps63
 go_wp2_with fail
 refine (kK.out _).mono ?_
 rintro e w1 ⟨rfl, hb1⟩
 have hB1 := Lib.hid (belT (show Below w.heap.size w _ from by (repeat' (first | (with_reducible first | exact bR _ _ | assumption | apply bS | apply bA | apply bD | apply bN | exact bL _) | (simp; done) | (simp; omega) | omega | exact bL _))) hb1)
 obtain ⟨⟨q0, q1, q2, q3, q4, q5, q6, q7, q8, q9⟩, ⟨r0, r1, r2, r3, r4, r5, r6, r7, r8, r9⟩, hfy, hs1⟩ := fl_two hb1
 have hfy := Lib.hid hfy
 have f4 := hfy.out 4
 clear hb1 kK
 have hndq := fun x0 x1 x2 x3 x4 x5 x6 x7 x8 x9 y0 y1 y2 y3 y4 y5 y6 y7 y8 y9 W => nd_in x0 x1 x2 x3 x4 x5 x6 x7 x8 x9 y0 y1 y2 y3 y4 y5 y6 y7 y8 y9 W
 have hq := hq'.out
 rcases bq_four bq at_ with rfl | ⟨rfl, h0⟩ | ⟨rfl, h0, h1⟩ | ⟨rfl, h0, h1⟩
 all_goals
  go_wp2_with fail
  all_goals
   go_ret
   exact ⟨ret_bb (by first | (simp [*]; done) | (simp [*]; omega)), by have := hB1.out; have := this.size; (repeat' (first | (with_reducible first | exact bR _ _ | assumption | apply bS | apply bA | apply bD | apply bN | exact bL _) | (simp; done) | (simp; omega) | omega | exact bL _))⟩
theorem fields2r (a b c nm at_ : Int) (s1 s2 s3 s4 : ByteArray) (w : World) (hz : s1.size ≤ 1125899906842624 ∧ s2.size ≤ 1125899906842624 ∧ s3.size ≤ 1125899906842624 ∧ s4.size ≤ 1125899906842624) :
  Calls Tryz.prog 63 #[.agg #[.int .i64 2, .int .i64 a, .int .i64 b, .int .i64 c, .int .i64 nm, .string s1, .string s2, .string s3, .string s4, .int .i64 at_], .bool false] w fun e w' => e = .returned (.bool (okF false 2 a b c nm s1 s2 s3 s4 at_)) ∧ Below w.heap.size w w' := by
 have kK := Lib.hid fun (W : World) => (show Calls Tryz.prog 85 #[.int .i64 2] W fun e w' => e = .returned (.int .i64 0) ∧ Below W.heap.size W w' from kids_any 2 W)
 rw [okF2r]
 obtain ⟨bq, hq⟩ : ∃ x, ndQ 2 a b c nm s1 s2 s3 s4 at_ 2 0 0 0 nm (⟨#[]⟩ : ByteArray) (⟨#[]⟩ : ByteArray) (⟨#[]⟩ : ByteArray) (⟨#[]⟩ : ByteArray) at_ = x := ⟨_, rfl⟩
 rw [hq]
 have hq' := Lib.hid hq; clear hq hz
 go_enter Tryz.func63, Tryz.ntmps63
 go_wp2_with fail
 refine (kK.out _).mono ?_
 rintro e w1 ⟨rfl, hb1⟩
 have hB1 := Lib.hid (belT (show Below w.heap.size w _ from by (repeat' (first | (with_reducible first | exact bR _ _ | assumption | apply bS | apply bA | apply bD | apply bN | exact bL _) | (simp; done) | (simp; omega) | omega | exact bL _))) hb1)
 obtain ⟨⟨q0, q1, q2, q3, q4, q5, q6, q7, q8, q9⟩, ⟨r0, r1, r2, r3, r4, r5, r6, r7, r8, r9⟩, hfy, hs1⟩ := fl_two hb1
 have hfy := Lib.hid hfy
 have f4 := hfy.out 4
 clear hb1 kK
 have hndq := fun x0 x1 x2 x3 x4 x5 x6 x7 x8 x9 y0 y1 y2 y3 y4 y5 y6 y7 y8 y9 W => nd_in x0 x1 x2 x3 x4 x5 x6 x7 x8 x9 y0 y1 y2 y3 y4 y5 y6 y7 y8 y9 W
 have hq := hq'.out
 rcases bq_four bq at_ with rfl | ⟨rfl, h0⟩ | ⟨rfl, h0, h1⟩ | ⟨rfl, h0, h1⟩
 all_goals
  go_wp2_with fail
  all_goals
   go_ret
   exact ⟨ret_bb (by first | (simp [*]; done) | (simp [*]; omega)), by have := hB1.out; have := this.size; (repeat' (first | (with_reducible first | exact bR _ _ | assumption | apply bS | apply bA | apply bD | apply bN | exact bL _) | (simp; done) | (simp; omega) | omega | exact bL _))⟩
theorem fields3r (a b c nm at_ : Int) (s1 s2 s3 s4 : ByteArray) (w : World) (hz : s1.size ≤ 1125899906842624 ∧ s2.size ≤ 1125899906842624 ∧ s3.size ≤ 1125899906842624 ∧ s4.size ≤ 1125899906842624) :
  Calls Tryz.prog 63 #[.agg #[.int .i64 3, .int .i64 a, .int .i64 b, .int .i64 c, .int .i64 nm, .string s1, .string s2, .string s3, .string s4, .int .i64 at_], .bool false] w fun e w' => e = .returned (.bool (okF false 3 a b c nm s1 s2 s3 s4 at_)) ∧ Below w.heap.size w w' := by
 have kK := Lib.hid fun (W : World) => (show Calls Tryz.prog 85 #[.int .i64 3] W fun e w' => e = .returned (.int .i64 1) ∧ Below W.heap.size W w' from kids_any 3 W)
 rw [okF3r]
 obtain ⟨bq, hq⟩ : ∃ x, ndQ 3 a b c nm s1 s2 s3 s4 at_ 3 a 0 0 0 (⟨#[]⟩ : ByteArray) (⟨#[]⟩ : ByteArray) (⟨#[]⟩ : ByteArray) (⟨#[]⟩ : ByteArray) at_ = x := ⟨_, rfl⟩
 rw [hq]
 have hq' := Lib.hid hq; clear hq hz
 go_enter Tryz.func63, Tryz.ntmps63
 go_wp2_with fail
 refine (kK.out _).mono ?_
 rintro e w1 ⟨rfl, hb1⟩
 have hB1 := Lib.hid (belT (show Below w.heap.size w _ from by (repeat' (first | (with_reducible first | exact bR _ _ | assumption | apply bS | apply bA | apply bD | apply bN | exact bL _) | (simp; done) | (simp; omega) | omega | exact bL _))) hb1)
 obtain ⟨⟨q0, q1, q2, q3, q4, q5, q6, q7, q8, q9⟩, ⟨r0, r1, r2, r3, r4, r5, r6, r7, r8, r9⟩, hfy, hs1⟩ := fl_two hb1
 have hfy := Lib.hid hfy
 have f1 := hfy.out 1
 clear hb1 kK
 have hndq := fun x0 x1 x2 x3 x4 x5 x6 x7 x8 x9 y0 y1 y2 y3 y4 y5 y6 y7 y8 y9 W => nd_in x0 x1 x2 x3 x4 x5 x6 x7 x8 x9 y0 y1 y2 y3 y4 y5 y6 y7 y8 y9 W
 have hq := hq'.out
 rcases bq_four bq at_ with rfl | ⟨rfl, h0⟩ | ⟨rfl, h0, h1⟩ | ⟨rfl, h0, h1⟩
 all_goals
  go_wp2_with fail
  all_goals
   go_ret
   exact ⟨ret_bb (by first | (simp [*]; done) | (simp [*]; omega)), by have := hB1.out; have := this.size; (repeat' (first | (with_reducible first | exact bR _ _ | assumption | apply bS | apply bA | apply bD | apply bN | exact bL _) | (simp; done) | (simp; omega) | omega | exact bL _))⟩
theorem fields4r (a b c nm at_ : Int) (s1 s2 s3 s4 : ByteArray) (w : World) (hz : s1.size ≤ 1125899906842624 ∧ s2.size ≤ 1125899906842624 ∧ s3.size ≤ 1125899906842624 ∧ s4.size ≤ 1125899906842624) :
  Calls Tryz.prog 63 #[.agg #[.int .i64 4, .int .i64 a, .int .i64 b, .int .i64 c, .int .i64 nm, .string s1, .string s2, .string s3, .string s4, .int .i64 at_], .bool false] w fun e w' => e = .returned (.bool (okF false 4 a b c nm s1 s2 s3 s4 at_)) ∧ Below w.heap.size w w' := by
 have kK := Lib.hid fun (W : World) => (show Calls Tryz.prog 85 #[.int .i64 4] W fun e w' => e = .returned (.int .i64 2) ∧ Below W.heap.size W w' from kids_any 4 W)
 rw [okF4r]
 obtain ⟨bq, hq⟩ : ∃ x, ndQ 4 a b c nm s1 s2 s3 s4 at_ 4 a b 0 0 (⟨#[]⟩ : ByteArray) (⟨#[]⟩ : ByteArray) (⟨#[]⟩ : ByteArray) (⟨#[]⟩ : ByteArray) at_ = x := ⟨_, rfl⟩
 rw [hq]
 have hq' := Lib.hid hq; clear hq hz
 go_enter Tryz.func63, Tryz.ntmps63
 go_wp2_with fail
 refine (kK.out _).mono ?_
 rintro e w1 ⟨rfl, hb1⟩
 have hB1 := Lib.hid (belT (show Below w.heap.size w _ from by (repeat' (first | (with_reducible first | exact bR _ _ | assumption | apply bS | apply bA | apply bD | apply bN | exact bL _) | (simp; done) | (simp; omega) | omega | exact bL _))) hb1)
 obtain ⟨⟨q0, q1, q2, q3, q4, q5, q6, q7, q8, q9⟩, ⟨r0, r1, r2, r3, r4, r5, r6, r7, r8, r9⟩, hfy, hs1⟩ := fl_two hb1
 have hfy := Lib.hid hfy
 have f1 := hfy.out 1
 have f2 := hfy.out 2
 clear hb1 kK
 have hndq := fun x0 x1 x2 x3 x4 x5 x6 x7 x8 x9 y0 y1 y2 y3 y4 y5 y6 y7 y8 y9 W => nd_in x0 x1 x2 x3 x4 x5 x6 x7 x8 x9 y0 y1 y2 y3 y4 y5 y6 y7 y8 y9 W
 have hq := hq'.out
 rcases bq_four bq at_ with rfl | ⟨rfl, h0⟩ | ⟨rfl, h0, h1⟩ | ⟨rfl, h0, h1⟩
 all_goals
  go_wp2_with fail
  all_goals
   go_ret
   exact ⟨ret_bb (by first | (simp [*]; done) | (simp [*]; omega)), by have := hB1.out; have := this.size; (repeat' (first | (with_reducible first | exact bR _ _ | assumption | apply bS | apply bA | apply bD | apply bN | exact bL _) | (simp; done) | (simp; omega) | omega | exact bL _))⟩
theorem fields5r (a b c nm at_ : Int) (s1 s2 s3 s4 : ByteArray) (w : World) (hz : s1.size ≤ 1125899906842624 ∧ s2.size ≤ 1125899906842624 ∧ s3.size ≤ 1125899906842624 ∧ s4.size ≤ 1125899906842624) :
  Calls Tryz.prog 63 #[.agg #[.int .i64 5, .int .i64 a, .int .i64 b, .int .i64 c, .int .i64 nm, .string s1, .string s2, .string s3, .string s4, .int .i64 at_], .bool false] w fun e w' => e = .returned (.bool (okF false 5 a b c nm s1 s2 s3 s4 at_)) ∧ Below w.heap.size w w' := by
 have kK := Lib.hid fun (W : World) => (show Calls Tryz.prog 85 #[.int .i64 5] W fun e w' => e = .returned (.int .i64 2) ∧ Below W.heap.size W w' from kids_any 5 W)
 rw [okF5r]
 obtain ⟨bq, hq⟩ : ∃ x, ndQ 5 a b c nm s1 s2 s3 s4 at_ 5 a b 0 0 (⟨#[]⟩ : ByteArray) (⟨#[]⟩ : ByteArray) (⟨#[]⟩ : ByteArray) (⟨#[]⟩ : ByteArray) at_ = x := ⟨_, rfl⟩
 rw [hq]
 have hq' := Lib.hid hq; clear hq hz
 go_enter Tryz.func63, Tryz.ntmps63
 go_wp2_with fail
 refine (kK.out _).mono ?_
 rintro e w1 ⟨rfl, hb1⟩
 have hB1 := Lib.hid (belT (show Below w.heap.size w _ from by (repeat' (first | (with_reducible first | exact bR _ _ | assumption | apply bS | apply bA | apply bD | apply bN | exact bL _) | (simp; done) | (simp; omega) | omega | exact bL _))) hb1)
 obtain ⟨⟨q0, q1, q2, q3, q4, q5, q6, q7, q8, q9⟩, ⟨r0, r1, r2, r3, r4, r5, r6, r7, r8, r9⟩, hfy, hs1⟩ := fl_two hb1
 have hfy := Lib.hid hfy
 have f1 := hfy.out 1
 have f2 := hfy.out 2
 clear hb1 kK
 have hndq := fun x0 x1 x2 x3 x4 x5 x6 x7 x8 x9 y0 y1 y2 y3 y4 y5 y6 y7 y8 y9 W => nd_in x0 x1 x2 x3 x4 x5 x6 x7 x8 x9 y0 y1 y2 y3 y4 y5 y6 y7 y8 y9 W
 have hq := hq'.out
 rcases bq_four bq at_ with rfl | ⟨rfl, h0⟩ | ⟨rfl, h0, h1⟩ | ⟨rfl, h0, h1⟩
 all_goals
  go_wp2_with fail
  all_goals
   go_ret
   exact ⟨ret_bb (by first | (simp [*]; done) | (simp [*]; omega)), by have := hB1.out; have := this.size; (repeat' (first | (with_reducible first | exact bR _ _ | assumption | apply bS | apply bA | apply bD | apply bN | exact bL _) | (simp; done) | (simp; omega) | omega | exact bL _))⟩
theorem fields6r (a b c nm at_ : Int) (s1 s2 s3 s4 : ByteArray) (w : World) (hz : s1.size ≤ 1125899906842624 ∧ s2.size ≤ 1125899906842624 ∧ s3.size ≤ 1125899906842624 ∧ s4.size ≤ 1125899906842624) :
  Calls Tryz.prog 63 #[.agg #[.int .i64 6, .int .i64 a, .int .i64 b, .int .i64 c, .int .i64 nm, .string s1, .string s2, .string s3, .string s4, .int .i64 at_], .bool false] w fun e w' => e = .returned (.bool (okF false 6 a b c nm s1 s2 s3 s4 at_)) ∧ Below w.heap.size w w' := by
 have kK := Lib.hid fun (W : World) => (show Calls Tryz.prog 85 #[.int .i64 6] W fun e w' => e = .returned (.int .i64 2) ∧ Below W.heap.size W w' from kids_any 6 W)
 rw [okF6r]
 obtain ⟨bq, hq⟩ : ∃ x, ndQ 6 a b c nm s1 s2 s3 s4 at_ 6 a b 0 0 (⟨#[]⟩ : ByteArray) (⟨#[]⟩ : ByteArray) (⟨#[]⟩ : ByteArray) (⟨#[]⟩ : ByteArray) at_ = x := ⟨_, rfl⟩
 rw [hq]
 have hq' := Lib.hid hq; clear hq hz
 go_enter Tryz.func63, Tryz.ntmps63
 go_wp2_with fail
 refine (kK.out _).mono ?_
 rintro e w1 ⟨rfl, hb1⟩
 have hB1 := Lib.hid (belT (show Below w.heap.size w _ from by (repeat' (first | (with_reducible first | exact bR _ _ | assumption | apply bS | apply bA | apply bD | apply bN | exact bL _) | (simp; done) | (simp; omega) | omega | exact bL _))) hb1)
 obtain ⟨⟨q0, q1, q2, q3, q4, q5, q6, q7, q8, q9⟩, ⟨r0, r1, r2, r3, r4, r5, r6, r7, r8, r9⟩, hfy, hs1⟩ := fl_two hb1
 have hfy := Lib.hid hfy
 have f1 := hfy.out 1
 have f2 := hfy.out 2
 clear hb1 kK
 have hndq := fun x0 x1 x2 x3 x4 x5 x6 x7 x8 x9 y0 y1 y2 y3 y4 y5 y6 y7 y8 y9 W => nd_in x0 x1 x2 x3 x4 x5 x6 x7 x8 x9 y0 y1 y2 y3 y4 y5 y6 y7 y8 y9 W
 have hq := hq'.out
 rcases bq_four bq at_ with rfl | ⟨rfl, h0⟩ | ⟨rfl, h0, h1⟩ | ⟨rfl, h0, h1⟩
 all_goals
  go_wp2_with fail
  all_goals
   go_ret
   exact ⟨ret_bb (by first | (simp [*]; done) | (simp [*]; omega)), by have := hB1.out; have := this.size; (repeat' (first | (with_reducible first | exact bR _ _ | assumption | apply bS | apply bA | apply bD | apply bN | exact bL _) | (simp; done) | (simp; omega) | omega | exact bL _))⟩
theorem fields7r (a b c nm at_ : Int) (s1 s2 s3 s4 : ByteArray) (w : World) (hz : s1.size ≤ 1125899906842624 ∧ s2.size ≤ 1125899906842624 ∧ s3.size ≤ 1125899906842624 ∧ s4.size ≤ 1125899906842624) :
  Calls Tryz.prog 63 #[.agg #[.int .i64 7, .int .i64 a, .int .i64 b, .int .i64 c, .int .i64 nm, .string s1, .string s2, .string s3, .string s4, .int .i64 at_], .bool false] w fun e w' => e = .returned (.bool (okF false 7 a b c nm s1 s2 s3 s4 at_)) ∧ Below w.heap.size w w' := by
 have kK := Lib.hid fun (W : World) => (show Calls Tryz.prog 85 #[.int .i64 7] W fun e w' => e = .returned (.int .i64 3) ∧ Below W.heap.size W w' from kids_any 7 W)
 rw [okF7r]
 obtain ⟨bq, hq⟩ : ∃ x, ndQ 7 a b c nm s1 s2 s3 s4 at_ 7 a b c 0 (⟨#[]⟩ : ByteArray) (⟨#[]⟩ : ByteArray) (⟨#[]⟩ : ByteArray) (⟨#[]⟩ : ByteArray) at_ = x := ⟨_, rfl⟩
 rw [hq]
 have hq' := Lib.hid hq; clear hq hz
 go_enter Tryz.func63, Tryz.ntmps63
 go_wp2_with fail
 refine (kK.out _).mono ?_
 rintro e w1 ⟨rfl, hb1⟩
 have hB1 := Lib.hid (belT (show Below w.heap.size w _ from by (repeat' (first | (with_reducible first | exact bR _ _ | assumption | apply bS | apply bA | apply bD | apply bN | exact bL _) | (simp; done) | (simp; omega) | omega | exact bL _))) hb1)
 obtain ⟨⟨q0, q1, q2, q3, q4, q5, q6, q7, q8, q9⟩, ⟨r0, r1, r2, r3, r4, r5, r6, r7, r8, r9⟩, hfy, hs1⟩ := fl_two hb1
 have hfy := Lib.hid hfy
 have f1 := hfy.out 1
 have f2 := hfy.out 2
 have f3 := hfy.out 3
 clear hb1 kK
 have hndq := fun x0 x1 x2 x3 x4 x5 x6 x7 x8 x9 y0 y1 y2 y3 y4 y5 y6 y7 y8 y9 W => nd_in x0 x1 x2 x3 x4 x5 x6 x7 x8 x9 y0 y1 y2 y3 y4 y5 y6 y7 y8 y9 W
 have hq := hq'.out
 rcases bq_four bq at_ with rfl | ⟨rfl, h0⟩ | ⟨rfl, h0, h1⟩ | ⟨rfl, h0, h1⟩
 all_goals
  go_wp2_with fail
  all_goals
   go_ret
   exact ⟨ret_bb (by first | (simp [*]; done) | (simp [*]; omega)), by have := hB1.out; have := this.size; (repeat' (first | (with_reducible first | exact bR _ _ | assumption | apply bS | apply bA | apply bD | apply bN | exact bL _) | (simp; done) | (simp; omega) | omega | exact bL _))⟩
theorem fields8r (a b c nm at_ : Int) (s1 s2 s3 s4 : ByteArray) (w : World) (hz : s1.size ≤ 1125899906842624 ∧ s2.size ≤ 1125899906842624 ∧ s3.size ≤ 1125899906842624 ∧ s4.size ≤ 1125899906842624) :
  Calls Tryz.prog 63 #[.agg #[.int .i64 8, .int .i64 a, .int .i64 b, .int .i64 c, .int .i64 nm, .string s1, .string s2, .string s3, .string s4, .int .i64 at_], .bool false] w fun e w' => e = .returned (.bool (okF false 8 a b c nm s1 s2 s3 s4 at_)) ∧ Below w.heap.size w w' := by
 have kK := Lib.hid fun (W : World) => (show Calls Tryz.prog 85 #[.int .i64 8] W fun e w' => e = .returned (.int .i64 2) ∧ Below W.heap.size W w' from kids_any 8 W)
 rw [okF8r]
 obtain ⟨bq, hq⟩ : ∃ x, ndQ 8 a b c nm s1 s2 s3 s4 at_ 8 a b 0 nm (⟨#[]⟩ : ByteArray) (⟨#[]⟩ : ByteArray) (⟨#[]⟩ : ByteArray) (⟨#[]⟩ : ByteArray) at_ = x := ⟨_, rfl⟩
 rw [hq]
 have hq' := Lib.hid hq; clear hq hz
 go_enter Tryz.func63, Tryz.ntmps63
 go_wp2_with fail
 refine (kK.out _).mono ?_
 rintro e w1 ⟨rfl, hb1⟩
 have hB1 := Lib.hid (belT (show Below w.heap.size w _ from by (repeat' (first | (with_reducible first | exact bR _ _ | assumption | apply bS | apply bA | apply bD | apply bN | exact bL _) | (simp; done) | (simp; omega) | omega | exact bL _))) hb1)
 obtain ⟨⟨q0, q1, q2, q3, q4, q5, q6, q7, q8, q9⟩, ⟨r0, r1, r2, r3, r4, r5, r6, r7, r8, r9⟩, hfy, hs1⟩ := fl_two hb1
 have hfy := Lib.hid hfy
 have f1 := hfy.out 1
 have f2 := hfy.out 2
 have f4 := hfy.out 4
 clear hb1 kK
 have hndq := fun x0 x1 x2 x3 x4 x5 x6 x7 x8 x9 y0 y1 y2 y3 y4 y5 y6 y7 y8 y9 W => nd_in x0 x1 x2 x3 x4 x5 x6 x7 x8 x9 y0 y1 y2 y3 y4 y5 y6 y7 y8 y9 W
 have hq := hq'.out
 rcases bq_four bq at_ with rfl | ⟨rfl, h0⟩ | ⟨rfl, h0, h1⟩ | ⟨rfl, h0, h1⟩
 all_goals
  go_wp2_with fail
  all_goals
   go_ret
   exact ⟨ret_bb (by first | (simp [*]; done) | (simp [*]; omega)), by have := hB1.out; have := this.size; (repeat' (first | (with_reducible first | exact bR _ _ | assumption | apply bS | apply bA | apply bD | apply bN | exact bL _) | (simp; done) | (simp; omega) | omega | exact bL _))⟩
theorem fields9r (a b c nm at_ : Int) (s1 s2 s3 s4 : ByteArray) (w : World) (hz : s1.size ≤ 1125899906842624 ∧ s2.size ≤ 1125899906842624 ∧ s3.size ≤ 1125899906842624 ∧ s4.size ≤ 1125899906842624) :
  Calls Tryz.prog 63 #[.agg #[.int .i64 9, .int .i64 a, .int .i64 b, .int .i64 c, .int .i64 nm, .string s1, .string s2, .string s3, .string s4, .int .i64 at_], .bool false] w fun e w' => e = .returned (.bool (okF false 9 a b c nm s1 s2 s3 s4 at_)) ∧ Below w.heap.size w w' := by
 have kK := Lib.hid fun (W : World) => (show Calls Tryz.prog 85 #[.int .i64 9] W fun e w' => e = .returned (.int .i64 1) ∧ Below W.heap.size W w' from kids_any 9 W)
 rw [okF9r]
 obtain ⟨bq, hq⟩ : ∃ x, ndQ 9 a b c nm s1 s2 s3 s4 at_ 9 a 0 0 nm (⟨#[]⟩ : ByteArray) (⟨#[]⟩ : ByteArray) (⟨#[]⟩ : ByteArray) (⟨#[]⟩ : ByteArray) at_ = x := ⟨_, rfl⟩
 rw [hq]
 have hq' := Lib.hid hq; clear hq hz
 go_enter Tryz.func63, Tryz.ntmps63
 go_wp2_with fail
 refine (kK.out _).mono ?_
 rintro e w1 ⟨rfl, hb1⟩
 have hB1 := Lib.hid (belT (show Below w.heap.size w _ from by (repeat' (first | (with_reducible first | exact bR _ _ | assumption | apply bS | apply bA | apply bD | apply bN | exact bL _) | (simp; done) | (simp; omega) | omega | exact bL _))) hb1)
 obtain ⟨⟨q0, q1, q2, q3, q4, q5, q6, q7, q8, q9⟩, ⟨r0, r1, r2, r3, r4, r5, r6, r7, r8, r9⟩, hfy, hs1⟩ := fl_two hb1
 have hfy := Lib.hid hfy
 have f1 := hfy.out 1
 have f4 := hfy.out 4
 clear hb1 kK
 have hndq := fun x0 x1 x2 x3 x4 x5 x6 x7 x8 x9 y0 y1 y2 y3 y4 y5 y6 y7 y8 y9 W => nd_in x0 x1 x2 x3 x4 x5 x6 x7 x8 x9 y0 y1 y2 y3 y4 y5 y6 y7 y8 y9 W
 have hq := hq'.out
 rcases bq_four bq at_ with rfl | ⟨rfl, h0⟩ | ⟨rfl, h0, h1⟩ | ⟨rfl, h0, h1⟩
 all_goals
  go_wp2_with fail
  all_goals
   go_ret
   exact ⟨ret_bb (by first | (simp [*]; done) | (simp [*]; omega)), by have := hB1.out; have := this.size; (repeat' (first | (with_reducible first | exact bR _ _ | assumption | apply bS | apply bA | apply bD | apply bN | exact bL _) | (simp; done) | (simp; omega) | omega | exact bL _))⟩
theorem fields10r (a b c nm at_ : Int) (s1 s2 s3 s4 : ByteArray) (w : World) (hz : s1.size ≤ 1125899906842624 ∧ s2.size ≤ 1125899906842624 ∧ s3.size ≤ 1125899906842624 ∧ s4.size ≤ 1125899906842624) :
  Calls Tryz.prog 63 #[.agg #[.int .i64 10, .int .i64 a, .int .i64 b, .int .i64 c, .int .i64 nm, .string s1, .string s2, .string s3, .string s4, .int .i64 at_], .bool false] w fun e w' => e = .returned (.bool (okF false 10 a b c nm s1 s2 s3 s4 at_)) ∧ Below w.heap.size w w' := by
 have kK := Lib.hid fun (W : World) => (show Calls Tryz.prog 85 #[.int .i64 10] W fun e w' => e = .returned (.int .i64 3) ∧ Below W.heap.size W w' from kids_any 10 W)
 rw [okF10r]
 obtain ⟨bq, hq⟩ : ∃ x, ndQ 10 a b c nm s1 s2 s3 s4 at_ 10 a b c nm (⟨#[]⟩ : ByteArray) (⟨#[]⟩ : ByteArray) (⟨#[]⟩ : ByteArray) (⟨#[]⟩ : ByteArray) at_ = x := ⟨_, rfl⟩
 rw [hq]
 have hq' := Lib.hid hq; clear hq hz
 go_enter Tryz.func63, Tryz.ntmps63
 go_wp2_with fail
 refine (kK.out _).mono ?_
 rintro e w1 ⟨rfl, hb1⟩
 have hB1 := Lib.hid (belT (show Below w.heap.size w _ from by (repeat' (first | (with_reducible first | exact bR _ _ | assumption | apply bS | apply bA | apply bD | apply bN | exact bL _) | (simp; done) | (simp; omega) | omega | exact bL _))) hb1)
 obtain ⟨⟨q0, q1, q2, q3, q4, q5, q6, q7, q8, q9⟩, ⟨r0, r1, r2, r3, r4, r5, r6, r7, r8, r9⟩, hfy, hs1⟩ := fl_two hb1
 have hfy := Lib.hid hfy
 have f1 := hfy.out 1
 have f2 := hfy.out 2
 have f3 := hfy.out 3
 have f4 := hfy.out 4
 clear hb1 kK
 have hndq := fun x0 x1 x2 x3 x4 x5 x6 x7 x8 x9 y0 y1 y2 y3 y4 y5 y6 y7 y8 y9 W => nd_in x0 x1 x2 x3 x4 x5 x6 x7 x8 x9 y0 y1 y2 y3 y4 y5 y6 y7 y8 y9 W
 have hq := hq'.out
 rcases bq_four bq at_ with rfl | ⟨rfl, h0⟩ | ⟨rfl, h0, h1⟩ | ⟨rfl, h0, h1⟩
 all_goals
  go_wp2_with fail
  all_goals
   go_ret
   exact ⟨ret_bb (by first | (simp [*]; done) | (simp [*]; omega)), by have := hB1.out; have := this.size; (repeat' (first | (with_reducible first | exact bR _ _ | assumption | apply bS | apply bA | apply bD | apply bN | exact bL _) | (simp; done) | (simp; omega) | omega | exact bL _))⟩
open Go.RowKit
def ocV (o : Int × Int) : Value := .agg #[.int .i64 o.1, .int .i64 o.2]
theorem pmNum_any (n : Int) (w : World) (h1 : -9223372036854775808 ≤ n) (h2 : n ≤ 9223372036854775807) :
  Calls Tryz.prog 81 #[.int .i64 n] w fun e w' => e = .returned (ocV (numO n)) ∧ Below w.heap.size w w' := by
 obtain ⟨r, hr⟩ : ∃ r, numO n = r := ⟨_, rfl⟩
 have hrr := Lib.hid (show r = if n < -1073741824 ∨ 1073741823 < n then (3, 0) else (0, n) from hr.symm)
 rw [hr]
 clear hr
 by_cases ha : n < -1073741824
 ·go_enter Tryz.func81, Tryz.ntmps81
  go_wp2_with fail
  refine bodyPost_ret (v := ocV (3, 0)) (by simp [results, Tryz.results81, go_sem, ocV]) rfl ⟨by rw [hrr.out, if_pos (.inl ha)], by (repeat' (first | (with_reducible first | exact bR _ _ | assumption | apply bS | apply bA | apply bD | apply bN | exact bL _) | (simp; done) | (simp; omega) | omega | exact bL _))⟩
 ·by_cases hb : 1073741823 < n
  ·go_enter Tryz.func81, Tryz.ntmps81
   go_wp2_with fail
   refine bodyPost_ret (v := ocV (3, 0)) (by simp [results, Tryz.results81, go_sem, ocV]) rfl ⟨by rw [hrr.out, if_pos (.inr hb)], by (repeat' (first | (with_reducible first | exact bR _ _ | assumption | apply bS | apply bA | apply bD | apply bN | exact bL _) | (simp; done) | (simp; omega) | omega | exact bL _))⟩
  ·go_enter Tryz.func81, Tryz.ntmps81
   go_wp2_with fail
   refine bodyPost_ret (v := ocV (0, n)) (by simp [results, Tryz.results81, go_sem, ocV]) rfl ⟨by rw [hrr.out, if_neg (by omega)], by (repeat' (first | (with_reducible first | exact bR _ _ | assumption | apply bS | apply bA | apply bD | apply bN | exact bL _) | (simp; done) | (simp; omega) | omega | exact bL _))⟩
theorem pmTru_any (b : Bool) (w : World) :
  Calls Tryz.prog 82 #[.bool b] w fun e w' => e = .returned (ocV (truO b)) ∧ Below w.heap.size w w' := by
 cases b
 ·go_enter Tryz.func82, Tryz.ntmps82
  go_wp2_with fail
  refine bodyPost_ret (v := ocV (1, 0)) (by simp [results, Tryz.results82, go_sem, ocV]) rfl ⟨rfl, by (repeat' (first | (with_reducible first | exact bR _ _ | assumption | apply bS | apply bA | apply bD | apply bN | exact bL _) | (simp; done) | (simp; omega) | omega | exact bL _))⟩
 ·go_enter Tryz.func82, Tryz.ntmps82
  go_wp2_with fail
  refine bodyPost_ret (v := ocV (1, 1)) (by simp [results, Tryz.results82, go_sem, ocV]) rfl ⟨rfl, by (repeat' (first | (with_reducible first | exact bR _ _ | assumption | apply bS | apply bA | apply bD | apply bN | exact bL _) | (simp; done) | (simp; omega) | omega | exact bL _))⟩
theorem bx2 {w w9 : World} {a b : Value} {T : TypeId} (hb : Below (w.alloc (.cells #[a, b] T)).heap.size (w.alloc (.cells #[a, b] T)) w9) :
  w9.cell? ⟨w.heap.size, 0, none⟩ = some a ∧ w9.cell? ⟨w.heap.size, 1, none⟩ = some b ∧ (∀ o, w9.frozen? ⟨w.heap.size, o, none⟩ = false) ∧ Below w.heap.size w w9 ∧ w.heap.size < w9.heap.size := by
 have hB := Bar.of_below (S := fun _ => False) hb
 have hsz := hb.size
 simp at hsz
 refine ⟨hB.cell (by simp [go_sem]) id, hB.cell (by simp [go_sem]) id, fun o => ?_, belT (below_alc w _) hb, by omega⟩
 rw [hB.frozen (a := ⟨w.heap.size, o, none⟩) (by simp) id]
 simp [go_sem]
theorem apply_any (p u v : Int) (w : World) (hp : 0 ≤ p ∧ p ≤ 5) (hu : 0 ≤ u ∧ u ≤ 1073741823) (hv : 0 ≤ v ∧ v ≤ 1073741823) :
  Calls Tryz.prog 60 #[.int .i64 p, .int .i64 u, .int .i64 v] w fun e w' => e = .returned (ocV (prmV p u v)) ∧ Below w.heap.size w w' := by
 have hm : 0 ≤ u * v ∧ u * v ≤ 1152921504606846976 := ⟨Int.mul_nonneg hu.1 hv.1, Int.le_trans (Int.mul_le_mul hu.2 hv.2 hv.1 (by omega)) (by decide)⟩
 have hd : v ≠ 0 → 0 ≤ u.tdiv v ∧ u.tdiv v ≤ 1073741823 := fun _ => ⟨Int.tdiv_nonneg hu.1 hv.1, Int.le_trans (Int.tdiv_le_self v hu.1) hu.2⟩
 have kN := fun (n : Int) (h1 : -9223372036854775808 ≤ n) (h2 : n ≤ 9223372036854775807) (W : World) => Lib.hid (pmNum_any n W h1 h2)
 have kT := fun (b : Bool) (W : World) => Lib.hid (pmTru_any b W)
 have w1 : IntKind.i64.wrap (u + v) = u + v := IntWalk.i64_in _ (by omega)
 have w2 : IntKind.i64.wrap (u - v) = u - v := IntWalk.i64_in _ (by omega)
 have w3 : IntKind.i64.wrap (u * v) = u * v := IntWalk.i64_in _ (by omega)
 have hc : p = 0 ∨ p = 1 ∨ p = 2 ∨ p = 3 ∨ p = 4 ∨ p = 5 := by omega
 rcases hc with rfl | rfl | rfl | rfl | rfl | rfl
 ·have hV : prmV 0 u v = numO (u + v) := rfl
  rw [hV]
  go_enter Tryz.func60, Tryz.ntmps60
  go_wp2_with fail
  refine (kN (u + v) (by omega) (by omega) _).out.mono ?_
  rintro e w9 ⟨he, hb⟩
  obtain ⟨x0, x1, x2, x3, x4⟩ := bx2 hb
  clear hb
  obtain ⟨o, ho⟩ : ∃ o, numO (u + v) = o := ⟨_, rfl⟩
  rw [ho] at he
  obtain ⟨o1, o2⟩ := o
  have e9 : ocV (o1, o2) = .agg #[.int .i64 o1, .int .i64 o2] := rfl
  rw [e9] at he
  subst he
  go_wp2_with fail
  refine bodyPost_ret (v := ocV (o1, o2)) (by simp [results, Tryz.results60, go_sem, ocV, x0, x1, x2, x3, x4]) rfl ⟨by rw [ho], by (repeat' (first | (with_reducible first | exact bR _ _ | assumption | apply bS | apply bA | apply bD | apply bN | exact bL _) | (simp; done) | (simp; omega) | omega | exact bL _))⟩
 ·have hV : prmV 1 u v = numO (u - v) := rfl
  rw [hV]
  go_enter Tryz.func60, Tryz.ntmps60
  go_wp2_with fail
  refine (kN (u - v) (by omega) (by omega) _).out.mono ?_
  rintro e w9 ⟨he, hb⟩
  obtain ⟨x0, x1, x2, x3, x4⟩ := bx2 hb
  clear hb
  obtain ⟨o, ho⟩ : ∃ o, numO (u - v) = o := ⟨_, rfl⟩
  rw [ho] at he
  obtain ⟨o1, o2⟩ := o
  have e9 : ocV (o1, o2) = .agg #[.int .i64 o1, .int .i64 o2] := rfl
  rw [e9] at he
  subst he
  go_wp2_with fail
  refine bodyPost_ret (v := ocV (o1, o2)) (by simp [results, Tryz.results60, go_sem, ocV, x0, x1, x2, x3, x4]) rfl ⟨by rw [ho], by (repeat' (first | (with_reducible first | exact bR _ _ | assumption | apply bS | apply bA | apply bD | apply bN | exact bL _) | (simp; done) | (simp; omega) | omega | exact bL _))⟩
 ·have hV : prmV 2 u v = numO (u * v) := rfl
  rw [hV]
  go_enter Tryz.func60, Tryz.ntmps60
  go_wp2_with fail
  refine (kN (u * v) (by omega) (by omega) _).out.mono ?_
  rintro e w9 ⟨he, hb⟩
  obtain ⟨x0, x1, x2, x3, x4⟩ := bx2 hb
  clear hb
  obtain ⟨o, ho⟩ : ∃ o, numO (u * v) = o := ⟨_, rfl⟩
  rw [ho] at he
  obtain ⟨o1, o2⟩ := o
  have e9 : ocV (o1, o2) = .agg #[.int .i64 o1, .int .i64 o2] := rfl
  rw [e9] at he
  subst he
  go_wp2_with fail
  refine bodyPost_ret (v := ocV (o1, o2)) (by simp [results, Tryz.results60, go_sem, ocV, x0, x1, x2, x3, x4]) rfl ⟨by rw [ho], by (repeat' (first | (with_reducible first | exact bR _ _ | assumption | apply bS | apply bA | apply bD | apply bN | exact bL _) | (simp; done) | (simp; omega) | omega | exact bL _))⟩
 ·by_cases hz : v = 0
  ·subst hz
   go_enter Tryz.func60, Tryz.ntmps60
   go_wp2_with fail
   refine bodyPost_ret (v := ocV (3, 1)) (by simp [results, Tryz.results60, go_sem, ocV]) rfl ⟨rfl, by (repeat' (first | (with_reducible first | exact bR _ _ | assumption | apply bS | apply bA | apply bD | apply bN | exact bL _) | (simp; done) | (simp; omega) | omega | exact bL _))⟩
  ·have hd := hd hz
   have hV : prmV 3 u v = numO (u.tdiv v) := if_neg hz
   rw [hV]
   have w4 : IntKind.i64.wrap (u.tdiv v) = u.tdiv v := IntWalk.i64_in _ (by omega)
   go_enter Tryz.func60, Tryz.ntmps60
   go_wp2_with fail
   refine (kN (u.tdiv v) (by omega) (by omega) _).out.mono ?_
   rintro e w9 ⟨he, hb⟩
   obtain ⟨x0, x1, x2, x3, x4⟩ := bx2 hb
   clear hb
   obtain ⟨o, ho⟩ : ∃ o, numO (u.tdiv v) = o := ⟨_, rfl⟩
   rw [ho] at he
   obtain ⟨o1, o2⟩ := o
   have e9 : ocV (o1, o2) = .agg #[.int .i64 o1, .int .i64 o2] := rfl
   rw [e9] at he
   subst he
   go_wp2_with fail
   refine bodyPost_ret (v := ocV (o1, o2)) (by simp [results, Tryz.results60, go_sem, ocV, x0, x1, x2, x3, x4]) rfl ⟨by rw [ho], by (repeat' (first | (with_reducible first | exact bR _ _ | assumption | apply bS | apply bA | apply bD | apply bN | exact bL _) | (simp; done) | (simp; omega) | omega | exact bL _))⟩
 ·have hV : prmV 4 u v = truO (decide (u = v)) := rfl
  rw [hV]
  go_enter Tryz.func60, Tryz.ntmps60
  go_wp2_with fail
  refine (kT (decide (u = v)) _).out.mono ?_
  rintro e w9 ⟨he, hb⟩
  obtain ⟨x0, x1, x2, x3, x4⟩ := bx2 hb
  clear hb
  obtain ⟨o, ho⟩ : ∃ o, truO (decide (u = v)) = o := ⟨_, rfl⟩
  rw [ho] at he
  obtain ⟨o1, o2⟩ := o
  have e9 : ocV (o1, o2) = .agg #[.int .i64 o1, .int .i64 o2] := rfl
  rw [e9] at he
  subst he
  go_wp2_with fail
  refine bodyPost_ret (v := ocV (o1, o2)) (by simp [results, Tryz.results60, go_sem, ocV, x0, x1, x2, x3, x4]) rfl ⟨by rw [ho], by (repeat' (first | (with_reducible first | exact bR _ _ | assumption | apply bS | apply bA | apply bD | apply bN | exact bL _) | (simp; done) | (simp; omega) | omega | exact bL _))⟩
 ·have hV : prmV 5 u v = truO (decide (u < v)) := rfl
  rw [hV]
  go_enter Tryz.func60, Tryz.ntmps60
  go_wp2_with fail
  refine (kT (decide (u < v)) _).out.mono ?_
  rintro e w9 ⟨he, hb⟩
  obtain ⟨x0, x1, x2, x3, x4⟩ := bx2 hb
  clear hb
  obtain ⟨o, ho⟩ : ∃ o, truO (decide (u < v)) = o := ⟨_, rfl⟩
  rw [ho] at he
  obtain ⟨o1, o2⟩ := o
  have e9 : ocV (o1, o2) = .agg #[.int .i64 o1, .int .i64 o2] := rfl
  rw [e9] at he
  subst he
  go_wp2_with fail
  refine bodyPost_ret (v := ocV (o1, o2)) (by simp [results, Tryz.results60, go_sem, ocV, x0, x1, x2, x3, x4]) rfl ⟨by rw [ho], by (repeat' (first | (with_reducible first | exact bR _ _ | assumption | apply bS | apply bA | apply bD | apply bN | exact bL _) | (simp; done) | (simp; omega) | omega | exact bL _))⟩
end Go.Proofs.YthpcbgljbpmafaaGreatDoor
