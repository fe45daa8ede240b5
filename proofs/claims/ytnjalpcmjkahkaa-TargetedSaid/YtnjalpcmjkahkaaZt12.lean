/- The resolver of layer 21: it goes over a node's part. -/
import Derived.Test.YtnjalpcmjkahkaaZt10
import Derived.Test.YtnjalpcmjkahkaaZt11
set_option maxRecDepth 100000
set_option maxHeartbeats 8000000
namespace Go.Proofs.Ytnjalpcmjkahkaa
open Go.RowKit
set_option linter.unusedVariables false
set_option linter.unusedSimpArgs false
def NamIn (ts : List Tg) : Prop := ∀ i, i < ts.length → ((ts.getD i tg0).k = 0 → -1000000000 ≤ (ts.getD i tg0).n ∧ (ts.getD i tg0).n ≤ 1000000000) ∧ (-1000000000 ≤ (ts.getD i tg0).x ∧ (ts.getD i tg0).x ≤ 1000000000) ∧ (-1000000000 ≤ (ts.getD i tg0).y ∧ (ts.getD i tg0).y ≤ 1000000000) ∧ (-1000000000 ≤ (ts.getD i tg0).z ∧ (ts.getD i tg0).z ≤ 1000000000) ∧ (-1000000000 ≤ (ts.getD i tg0).w ∧ (ts.getD i tg0).w ≤ 1000000000)
theorem un1 {R F bm cp T off ct n : Nat} {ts : List Tg} {a : Int} (ha : 0 ≤ a) (hw : Hid (WkOk R F bm cp T off ct ts n a)) {w : World} {N : Nat} {fur : List Int} {lv : Lv} {m : Nat} {b x : Int} (h : Hid (RzC R F bm cp T off ct ts w fur lv m))
  (hN : N < w.heap.size) (hS : ¬ Sz F bm N) (hc : w.cell? ⟨N, 0, none⟩ = some (.int .i64 x)) (hx : -1000000000 ≤ x ∧ x ≤ 1000000000) (hb : 0 ≤ b) (hbi : b + 1 + 2 * a ≤ 999990) (hmi : (m : Int) + 1 + 2 * a ≤ 999990) (ho : lv.ok b) :
  Calls Try.prog 39 #[.pointer (some ⟨R, 0, none⟩), .int .i64 a, .int .i64 b, .slice (some ⟨N, 0, none⟩) 1 1] w (RzP R F bm cp T off ct ts w (rsW ts n a (b + 1) (lv.up x b) fur) lv m) :=
 under_any R F bm cp T off ct ts n a ha hw [x] w N 0 1 _ fur lv m b h (Nat.le_refl _) (fun _ => ⟨rfl, hN, hS⟩) (fun j hj => by
  have hj : j = 0 := by simpa using hj
  subst hj; exact ⟨hc, hx⟩) hb (by simpa using hbi) (by simpa using hmi) ho
theorem un2 {R F bm cp T off ct n : Nat} {ts : List Tg} {a : Int} (ha : 0 ≤ a) (hw : Hid (WkOk R F bm cp T off ct ts n a)) {w : World} {N : Nat} {fur : List Int} {lv : Lv} {m : Nat} {b x y : Int} (h : Hid (RzC R F bm cp T off ct ts w fur lv m))
  (hN : N < w.heap.size) (hS : ¬ Sz F bm N) (hc : w.cell? ⟨N, 0, none⟩ = some (.int .i64 x)) (hx : -1000000000 ≤ x ∧ x ≤ 1000000000) (hc2 : w.cell? ⟨N, 1, none⟩ = some (.int .i64 y)) (hy : -1000000000 ≤ y ∧ y ≤ 1000000000) (hb : 0 ≤ b) (hbi : b + 2 + 2 * a ≤ 999990) (hmi : (m : Int) + 2 + 2 * a ≤ 999990) (ho : lv.ok b) :
  Calls Try.prog 39 #[.pointer (some ⟨R, 0, none⟩), .int .i64 a, .int .i64 b, .slice (some ⟨N, 0, none⟩) 2 2] w (RzP R F bm cp T off ct ts w (rsW ts n a (b + 2) ((lv.up x b).up y (b + 1)) fur) lv m) :=
 under_any R F bm cp T off ct ts n a ha hw [x, y] w N 0 2 _ fur lv m b h (Nat.le_refl _) (fun _ => ⟨rfl, hN, hS⟩) (fun j hj => by
  have hj : j = 0 ∨ j = 1 := by simp at hj; omega
  rcases hj with rfl | rfl
  ·exact ⟨hc, hx⟩
  ·exact ⟨hc2, hy⟩) hb (by simpa using hbi) (by simpa using hmi) ho
theorem RzC.new {R F bm cp T off ct m : Nat} {ts : List Tg} {w : World} {fur : List Int} {lv : Lv} (h : RzC R F bm cp T off ct ts w fur lv m) {k : Nat} (hk : w.heap.size ≤ k) : ¬ Sz F bm k := fun e => by
 have h1 := h.f; have h2 := h.lv.lt
 rcases e with e | e <;> omega
theorem walk_0 (R F bm cp T off ct : Nat) (ts : List Tg) (n i : Nat) (hi : i < ts.length) (w : World) (fur : List Int) (lv : Lv) (m : Nat) (b : Int) (h : Hid (RzC R F bm cp T off ct ts w fur lv m)) (hb : 0 ≤ b) (hbi : b + 2 * (i : Int) ≤ 999990) (hmi : (m : Int) + 2 * (i : Int) ≤ 999990) (ho : lv.ok b)
  (xa xb xc xn xx xy xz xw : Int) (hx : ts.getD i tg0 = ⟨0, xa, xb, xc, xn, xx, xy, xz, xw⟩) (hnn : -1000000000 ≤ xn ∧ xn ≤ 1000000000) :
  Calls Try.prog 30 #[.pointer (some ⟨R, 0, none⟩), .int .i64 i, .int .i64 b] w (RzP R F bm cp T off ct ts w (fur.set i (findV lv xn b)) lv m) := by
 have r0 := h.out.r0
 have hR := h.out.r
 have hT := h.out.t
 obtain ⟨t0, t1, t2, t3, t4, t5, t6, t7, t8⟩ := h.out.ts i hi
 rw [hx] at t0 t1 t2 t3 t4 t5 t6 t7 t8
 dsimp only at t0 t1 t2 t3 t4 t5 t6 t7 t8
 have hi0 : (0 : Int) ≤ (i : Int) := by omega
 have hi1 : (i : Int) < (ts.length : Int) := by omega
 clear hx
 have hnN := Lib.hid fun (k : Nat) (hk : w.heap.size ≤ k) => h.out.new hk
 go_enter Try.func30, Try.ntmps30
 go_wp2_with fail
 obtain ⟨W0, hW0⟩ : ∃ W, w.alloc (.cells #[.int .i64 0, .int .i64 xa, .int .i64 xb, .int .i64 xc, .int .i64 xn, .int .i64 xx, .int .i64 xy, .int .i64 xz, .int .i64 xw] 37) = W := ⟨_, rfl⟩
 rw [hW0]
 have hB0 : Below w.heap.size w W0 := by rw [← hW0]; (repeat' (first | (with_reducible first | exact bR _ _ | assumption | apply bS | apply bA | apply bD | apply bN | exact bL _) | (simp; done) | (simp; omega) | omega | exact bL _))
 have hl0 : w.heap.size < W0.heap.size := by rw [← hW0]; simp
 have hs0 := Lib.hid (show W0.heap.size = w.heap.size + 1 from by rw [← hW0]; simp)
 have q0 : W0.cell? ⟨w.heap.size, 0, none⟩ = some (.int .i64 0) := by rw [← hW0]; simp [go_sem]
 have q1 : W0.cell? ⟨w.heap.size, 1, none⟩ = some (.int .i64 xa) := by rw [← hW0]; simp [go_sem]
 have q2 : W0.cell? ⟨w.heap.size, 2, none⟩ = some (.int .i64 xb) := by rw [← hW0]; simp [go_sem]
 have q3 : W0.cell? ⟨w.heap.size, 3, none⟩ = some (.int .i64 xc) := by rw [← hW0]; simp [go_sem]
 have q4 : W0.cell? ⟨w.heap.size, 4, none⟩ = some (.int .i64 xn) := by rw [← hW0]; simp [go_sem]
 have q5 : W0.cell? ⟨w.heap.size, 5, none⟩ = some (.int .i64 xx) := by rw [← hW0]; simp [go_sem]
 have q6 : W0.cell? ⟨w.heap.size, 6, none⟩ = some (.int .i64 xy) := by rw [← hW0]; simp [go_sem]
 have q7 : W0.cell? ⟨w.heap.size, 7, none⟩ = some (.int .i64 xz) := by rw [← hW0]; simp [go_sem]
 have q8 : W0.cell? ⟨w.heap.size, 8, none⟩ = some (.int .i64 xw) := by rw [← hW0]; simp [go_sem]
 have z0 := h.out.below hB0
 have hb0 := Bar.of_below (S := Sz F bm) hB0
 clear hW0 hB0 t0 t1 t2 t3 t4 t5 t6 t7 t8 r0 hR hT
 have hqS := hnN.out w.heap.size (Nat.le_refl _)
 have r1 := z0.r1
 have hR0 := z0.r
 have hF0 := z0.f
 have hRS : ¬ Sz F bm R := fun e => by rcases e with e | e; exact z0.d1 e; exact z0.d2 e
 have z0h := Lib.hid z0
 have hb0h := Lib.hid hb0
 clear z0 hb0
 have hfi := Lib.hid fun (W : World) (hb2 : Below W0.heap.size W0 W) => find_any R F bm cp T off ct m ts W fur lv xn b (Lib.hid (z0h.out.below hb2)) hnn (by omega) ho
 refine wp_region_held_drew (S := fun W => Bar (Sz F bm) W0 W) (by kernel_rfl) (Bar.of_below ((Below.refl _ _).drew)) (fun hHeld => ?_)
 refine rg_take 0 (some 35) (v := ?v1) rfl rfl (by kernel_rfl) (by kernel_rfl) (by kernel_rfl) (fun _ _ _ h => h) (by rfl) ?hy1 (by assumption) ?_
 case hy1 => intro W hSW; (try dsimp only at hSW); have z1 := hSW.cell r1 hRS; have z2 := hSW.cell q4 hqS; have y1 := Nat.lt_of_lt_of_le hR0 hSW.size; have y2 := Nat.lt_of_lt_of_le hl0 hSW.size; go_simp; (try with_reducible rfl)
 try simp only [Act.put, bP, bQ, bT]
 refine rg_take 1 (some 36) (v := ?v2) rfl rfl (by kernel_rfl) (by kernel_rfl) (by kernel_rfl) (fun _ _ _ h => h) (by rfl) ?hy2 (by assumption) ?_
 case hy2 => intro W hSW; (try dsimp only at hSW); have z1 := hSW.cell r1 hRS; have z2 := hSW.cell q4 hqS; have y1 := Nat.lt_of_lt_of_le hR0 hSW.size; have y2 := Nat.lt_of_lt_of_le hl0 hSW.size; go_simp; (try with_reducible rfl)
 try simp only [Act.put, bP, bQ, bT]
 refine rg_take 2 (some 37) (v := ?v3) rfl rfl (by kernel_rfl) (by kernel_rfl) (by kernel_rfl) (fun _ _ _ h => h) (by rfl) ?hy3 (by assumption) ?_
 case hy3 => intro W hSW; (try dsimp only at hSW); have z1 := hSW.cell r1 hRS; have z2 := hSW.cell q4 hqS; have y1 := Nat.lt_of_lt_of_le hR0 hSW.size; have y2 := Nat.lt_of_lt_of_le hl0 hSW.size; go_simp; (try with_reducible rfl)
 try simp only [Act.put, bP, bQ, bT]
 refine rg_take 3 (some 38) (v := ?v4) rfl rfl (by kernel_rfl) (by kernel_rfl) (by kernel_rfl) (fun _ _ _ h => h) (by rfl) ?hy4 (by assumption) ?_
 case hy4 => intro W hSW; (try dsimp only at hSW); have z1 := hSW.cell r1 hRS; have z2 := hSW.cell q4 hqS; have y1 := Nat.lt_of_lt_of_le hR0 hSW.size; have y2 := Nat.lt_of_lt_of_le hl0 hSW.size; go_simp; (try with_reducible rfl)
 try simp only [Act.put, bP, bQ, bT]
 refine rg_take 4 (some 39) (v := ?v5) rfl rfl (by kernel_rfl) (by kernel_rfl) (by kernel_rfl) (fun _ _ _ h => h) (by rfl) ?hy5 (by assumption) ?_
 case hy5 => intro W hSW; (try dsimp only at hSW); have z1 := hSW.cell r1 hRS; have z2 := hSW.cell q4 hqS; have y1 := Nat.lt_of_lt_of_le hR0 hSW.size; have y2 := Nat.lt_of_lt_of_le hl0 hSW.size; go_simp; (try with_reducible rfl)
 try simp only [Act.put, bP, bQ, bT]
 refine rg_take 5 (some 40) (v := ?v6) rfl rfl (by kernel_rfl) (by kernel_rfl) (by kernel_rfl) (fun _ _ _ h => h) (by rfl) ?hy6 (by assumption) ?_
 case hy6 => intro W hSW; (try dsimp only at hSW); have z1 := hSW.cell r1 hRS; have z2 := hSW.cell q4 hqS; have y1 := Nat.lt_of_lt_of_le hR0 hSW.size; have y2 := Nat.lt_of_lt_of_le hl0 hSW.size; go_simp; (try with_reducible rfl)
 try simp only [Act.put, bP, bQ, bT]
 refine rg_take 6 (some 41) (v := ?v7) rfl rfl (by kernel_rfl) (by kernel_rfl) (by kernel_rfl) (fun _ _ _ h => h) (by rfl) ?hy7 (by assumption) ?_
 case hy7 => intro W hSW; (try dsimp only at hSW); have z1 := hSW.cell r1 hRS; have z2 := hSW.cell q4 hqS; have y1 := Nat.lt_of_lt_of_le hR0 hSW.size; have y2 := Nat.lt_of_lt_of_le hl0 hSW.size; go_simp; (try with_reducible rfl)
 try simp only [Act.put, bP, bQ, bT]
 refine rg_take 7 (some 42) (v := ?v8) rfl rfl (by kernel_rfl) (by kernel_rfl) (by kernel_rfl) (fun _ _ _ h => h) (by rfl) ?hy8 (by assumption) ?_
 case hy8 => intro W hSW; (try dsimp only at hSW); have z1 := hSW.cell r1 hRS; have z2 := hSW.cell q4 hqS; have y1 := Nat.lt_of_lt_of_le hR0 hSW.size; have y2 := Nat.lt_of_lt_of_le hl0 hSW.size; go_simp; (try with_reducible rfl)
 try simp only [Act.put, bP, bQ, bT]
 refine rg_take 8 (some 43) (v := ?v9) rfl rfl (by kernel_rfl) (by kernel_rfl) (by kernel_rfl) (fun _ _ _ h => h) (by rfl) ?hy9 (by assumption) ?_
 case hy9 => intro W hSW; (try dsimp only at hSW); have z1 := hSW.cell r1 hRS; have z2 := hSW.cell q4 hqS; have y1 := Nat.lt_of_lt_of_le hR0 hSW.size; have y2 := Nat.lt_of_lt_of_le hl0 hSW.size; go_simp; (try with_reducible rfl)
 try simp only [Act.put, bP, bQ, bT]
 refine rg_one 9 rfl (by kernel_rfl) (by rfl) (fun K hK => ?_)
 go_simp
 refine (hfi.out _ ((Below.refl _ _).drew)).mono ?_
 rintro e9 w9 ⟨rfl, hb9⟩
 have hc9 : Below W0.heap.size W0 w9 := belT ((Below.refl _ _).drew) hb9
 refine hK.out _ _ (Bar.of_below hc9) (fun hH9 => ?_)
 clear hK K
 try simp only [Act.put, bP, bQ, bT]
 refine rg_take 10 (some 45) (v := ?v10) rfl rfl (by kernel_rfl) (by kernel_rfl) (by kernel_rfl) (fun _ _ _ h => h) (by rfl) ?hy10 (by assumption) ?_
 case hy10 => intro W hSW; (try dsimp only at hSW); have z1 := hSW.cell r1 hRS; have z2 := hSW.cell q4 hqS; have y1 := Nat.lt_of_lt_of_le hR0 hSW.size; have y2 := Nat.lt_of_lt_of_le hl0 hSW.size; go_simp; (try with_reducible rfl)
 try simp only [Act.put, bP, bQ, bT]
 refine rg_one 11 rfl (by kernel_rfl) (by rfl) (fun K hK => ?_)
 have f9 := (z0h.out.below hc9).fs i (by rw [z0h.out.len]; exact hi)
 have g9 := (z0h.out.below hc9).fz i
 have l9 := (z0h.out.below hc9).f
 go_simp
 refine hK.out _ _ ((Bar.of_below hc9).trans ((z0h.out.below hc9).setF i _).2 fun _ _ h => h) (fun hH11 => ?_)
 clear hK K
 try simp only [Act.put, bP, bQ, bT]
 refine wpAnyH_done (by kernel_rfl) ?_ _
 obtain ⟨z1, hb1'⟩ := (z0h.out.below hc9).setF i (findV lv xn b)
 have hb1 := (hb0h.out.next hc9).trans hb1' fun _ _ h => h
 obtain ⟨W1, hW1⟩ : ∃ W, w9.setCell ⟨F, i, none⟩ (.int .i64 (findV lv xn b)) = W := ⟨_, rfl⟩
 rw [hW1] at z1 hb1 hb1'
 rw [hW1]
 have q0 : W1.cell? _ = _ := hb1'.cell (carry hc9 hl0 q0) hqS
 have q1 : W1.cell? _ = _ := hb1'.cell (carry hc9 hl0 q1) hqS
 have q2 : W1.cell? _ = _ := hb1'.cell (carry hc9 hl0 q2) hqS
 have q3 : W1.cell? _ = _ := hb1'.cell (carry hc9 hl0 q3) hqS
 have q4 : W1.cell? _ = _ := hb1'.cell (carry hc9 hl0 q4) hqS
 have q5 : W1.cell? _ = _ := hb1'.cell (carry hc9 hl0 q5) hqS
 have q6 : W1.cell? _ = _ := hb1'.cell (carry hc9 hl0 q6) hqS
 have q7 : W1.cell? _ = _ := hb1'.cell (carry hc9 hl0 q7) hqS
 have q8 : W1.cell? _ = _ := hb1'.cell (carry hc9 hl0 q8) hqS
 have hl0 : w.heap.size < W1.heap.size := Nat.lt_of_lt_of_le (Nat.lt_of_lt_of_le hl0 hc9.size) hb1'.size
 clear hW1 hb1' hH9 hH11 hc9 hb9 f9 g9 l9 r1 hR0 hF0 hfi
 go_wp2_with fail
 all_goals go_end0
 all_goals exact ⟨rfl, z1, hb1⟩
theorem walk_3 (R F bm cp T off ct : Nat) (ts : List Tg) (n i : Nat) (hi : i < ts.length) (w : World) (fur : List Int) (lv : Lv) (m : Nat) (b : Int) (h : Hid (RzC R F bm cp T off ct ts w fur lv m)) (hb : 0 ≤ b) (hbi : b + 2 * (i : Int) ≤ 999990) (hmi : (m : Int) + 2 * (i : Int) ≤ 999990) (ho : lv.ok b)
  (xa xb xc xn xx xy xz xw : Int) (hx : ts.getD i tg0 = ⟨3, xa, xb, xc, xn, xx, xy, xz, xw⟩) (ha0 : 0 ≤ xa) (ha1 : xa < i) (hwa : Hid (WkOk R F bm cp T off ct ts n xa)) (hnx : -1000000000 ≤ xx ∧ xx ≤ 1000000000) :
  Calls Try.prog 30 #[.pointer (some ⟨R, 0, none⟩), .int .i64 i, .int .i64 b] w (RzP R F bm cp T off ct ts w (rsW ts n xa (b + 1) (lv.up xx b) fur) lv m) := by
 have r0 := h.out.r0
 have hR := h.out.r
 have hT := h.out.t
 obtain ⟨t0, t1, t2, t3, t4, t5, t6, t7, t8⟩ := h.out.ts i hi
 rw [hx] at t0 t1 t2 t3 t4 t5 t6 t7 t8
 dsimp only at t0 t1 t2 t3 t4 t5 t6 t7 t8
 have hi0 : (0 : Int) ≤ (i : Int) := by omega
 have hi1 : (i : Int) < (ts.length : Int) := by omega
 clear hx
 have hnN := Lib.hid fun (k : Nat) (hk : w.heap.size ≤ k) => h.out.new hk
 go_enter Try.func30, Try.ntmps30
 go_wp2_with fail
 obtain ⟨W0, hW0⟩ : ∃ W, w.alloc (.cells #[.int .i64 3, .int .i64 xa, .int .i64 xb, .int .i64 xc, .int .i64 xn, .int .i64 xx, .int .i64 xy, .int .i64 xz, .int .i64 xw] 37) = W := ⟨_, rfl⟩
 rw [hW0]
 have hB0 : Below w.heap.size w W0 := by rw [← hW0]; (repeat' (first | (with_reducible first | exact bR _ _ | assumption | apply bS | apply bA | apply bD | apply bN | exact bL _) | (simp; done) | (simp; omega) | omega | exact bL _))
 have hl0 : w.heap.size < W0.heap.size := by rw [← hW0]; simp
 have hs0 := Lib.hid (show W0.heap.size = w.heap.size + 1 from by rw [← hW0]; simp)
 have q0 : W0.cell? ⟨w.heap.size, 0, none⟩ = some (.int .i64 3) := by rw [← hW0]; simp [go_sem]
 have q1 : W0.cell? ⟨w.heap.size, 1, none⟩ = some (.int .i64 xa) := by rw [← hW0]; simp [go_sem]
 have q2 : W0.cell? ⟨w.heap.size, 2, none⟩ = some (.int .i64 xb) := by rw [← hW0]; simp [go_sem]
 have q3 : W0.cell? ⟨w.heap.size, 3, none⟩ = some (.int .i64 xc) := by rw [← hW0]; simp [go_sem]
 have q4 : W0.cell? ⟨w.heap.size, 4, none⟩ = some (.int .i64 xn) := by rw [← hW0]; simp [go_sem]
 have q5 : W0.cell? ⟨w.heap.size, 5, none⟩ = some (.int .i64 xx) := by rw [← hW0]; simp [go_sem]
 have q6 : W0.cell? ⟨w.heap.size, 6, none⟩ = some (.int .i64 xy) := by rw [← hW0]; simp [go_sem]
 have q7 : W0.cell? ⟨w.heap.size, 7, none⟩ = some (.int .i64 xz) := by rw [← hW0]; simp [go_sem]
 have q8 : W0.cell? ⟨w.heap.size, 8, none⟩ = some (.int .i64 xw) := by rw [← hW0]; simp [go_sem]
 have z0 := h.out.below hB0
 have hb0 := Bar.of_below (S := Sz F bm) hB0
 clear hW0 hB0 t0 t1 t2 t3 t4 t5 t6 t7 t8 r0 hR hT
 have hqS := hnN.out w.heap.size (Nat.le_refl _)
 have hA0 : Below W0.heap.size W0 (W0.alloc (.cells #[.int .i64 xx] 3)) := by (repeat' (first | (with_reducible first | exact bR _ _ | assumption | apply bS | apply bA | apply bD | apply bN | exact bL _) | (simp; done) | (simp; omega) | omega | exact bL _))
 have hsz0 := hb0.size
 refine (un1 ha0 hwa (w := (W0.alloc (.cells #[.int .i64 xx] 3))) (N := w.heap.size + 1) (fur := fur) (lv := lv) (m := m) (b := b) (x := xx) (Lib.hid (z0.below hA0)) (by simp [hs0.out]) (hnN.out _ (Nat.le_succ _)) (by rw [← hs0.out]; simp [go_sem]) hnx hb (by omega) (by omega) ho).mono ?_
 rintro e1 W1 ⟨rfl, z1, hb1'⟩
 have hb1 := (hb0.next hA0).trans hb1' fun _ _ h => h
 have q0 : W1.cell? _ = _ := hb1'.cell (carry hA0 hl0 q0) hqS
 have q1 : W1.cell? _ = _ := hb1'.cell (carry hA0 hl0 q1) hqS
 have q2 : W1.cell? _ = _ := hb1'.cell (carry hA0 hl0 q2) hqS
 have q3 : W1.cell? _ = _ := hb1'.cell (carry hA0 hl0 q3) hqS
 have q4 : W1.cell? _ = _ := hb1'.cell (carry hA0 hl0 q4) hqS
 have q5 : W1.cell? _ = _ := hb1'.cell (carry hA0 hl0 q5) hqS
 have q6 : W1.cell? _ = _ := hb1'.cell (carry hA0 hl0 q6) hqS
 have q7 : W1.cell? _ = _ := hb1'.cell (carry hA0 hl0 q7) hqS
 have q8 : W1.cell? _ = _ := hb1'.cell (carry hA0 hl0 q8) hqS
 have hl0 : w.heap.size < W1.heap.size := Nat.lt_of_lt_of_le (Nat.lt_of_lt_of_le hl0 hA0.size) hb1'.size
 clear hb1' z0 hb0 hA0 hsz0
 go_wp2_with fail
 all_goals go_end0
 all_goals exact ⟨rfl, z1, hb1⟩
theorem walk_4 (R F bm cp T off ct : Nat) (ts : List Tg) (n i : Nat) (hi : i < ts.length) (w : World) (fur : List Int) (lv : Lv) (m : Nat) (b : Int) (h : Hid (RzC R F bm cp T off ct ts w fur lv m)) (hb : 0 ≤ b) (hbi : b + 2 * (i : Int) ≤ 999990) (hmi : (m : Int) + 2 * (i : Int) ≤ 999990) (ho : lv.ok b)
  (xa xb xc xn xx xy xz xw : Int) (hx : ts.getD i tg0 = ⟨4, xa, xb, xc, xn, xx, xy, xz, xw⟩) (ha0 : 0 ≤ xa) (ha1 : xa < i) (hwa : Hid (WkOk R F bm cp T off ct ts n xa)) (hnx : -1000000000 ≤ xx ∧ xx ≤ 1000000000) (hny : -1000000000 ≤ xy ∧ xy ≤ 1000000000) :
  Calls Try.prog 30 #[.pointer (some ⟨R, 0, none⟩), .int .i64 i, .int .i64 b] w (RzP R F bm cp T off ct ts w (rsW ts n xa (b + 2) ((lv.up xx b).up xy (b + 1)) fur) lv m) := by
 have r0 := h.out.r0
 have hR := h.out.r
 have hT := h.out.t
 obtain ⟨t0, t1, t2, t3, t4, t5, t6, t7, t8⟩ := h.out.ts i hi
 rw [hx] at t0 t1 t2 t3 t4 t5 t6 t7 t8
 dsimp only at t0 t1 t2 t3 t4 t5 t6 t7 t8
 have hi0 : (0 : Int) ≤ (i : Int) := by omega
 have hi1 : (i : Int) < (ts.length : Int) := by omega
 clear hx
 have hnN := Lib.hid fun (k : Nat) (hk : w.heap.size ≤ k) => h.out.new hk
 go_enter Try.func30, Try.ntmps30
 go_wp2_with fail
 obtain ⟨W0, hW0⟩ : ∃ W, w.alloc (.cells #[.int .i64 4, .int .i64 xa, .int .i64 xb, .int .i64 xc, .int .i64 xn, .int .i64 xx, .int .i64 xy, .int .i64 xz, .int .i64 xw] 37) = W := ⟨_, rfl⟩
 rw [hW0]
 have hB0 : Below w.heap.size w W0 := by rw [← hW0]; (repeat' (first | (with_reducible first | exact bR _ _ | assumption | apply bS | apply bA | apply bD | apply bN | exact bL _) | (simp; done) | (simp; omega) | omega | exact bL _))
 have hl0 : w.heap.size < W0.heap.size := by rw [← hW0]; simp
 have hs0 := Lib.hid (show W0.heap.size = w.heap.size + 1 from by rw [← hW0]; simp)
 have q0 : W0.cell? ⟨w.heap.size, 0, none⟩ = some (.int .i64 4) := by rw [← hW0]; simp [go_sem]
 have q1 : W0.cell? ⟨w.heap.size, 1, none⟩ = some (.int .i64 xa) := by rw [← hW0]; simp [go_sem]
 have q2 : W0.cell? ⟨w.heap.size, 2, none⟩ = some (.int .i64 xb) := by rw [← hW0]; simp [go_sem]
 have q3 : W0.cell? ⟨w.heap.size, 3, none⟩ = some (.int .i64 xc) := by rw [← hW0]; simp [go_sem]
 have q4 : W0.cell? ⟨w.heap.size, 4, none⟩ = some (.int .i64 xn) := by rw [← hW0]; simp [go_sem]
 have q5 : W0.cell? ⟨w.heap.size, 5, none⟩ = some (.int .i64 xx) := by rw [← hW0]; simp [go_sem]
 have q6 : W0.cell? ⟨w.heap.size, 6, none⟩ = some (.int .i64 xy) := by rw [← hW0]; simp [go_sem]
 have q7 : W0.cell? ⟨w.heap.size, 7, none⟩ = some (.int .i64 xz) := by rw [← hW0]; simp [go_sem]
 have q8 : W0.cell? ⟨w.heap.size, 8, none⟩ = some (.int .i64 xw) := by rw [← hW0]; simp [go_sem]
 have z0 := h.out.below hB0
 have hb0 := Bar.of_below (S := Sz F bm) hB0
 clear hW0 hB0 t0 t1 t2 t3 t4 t5 t6 t7 t8 r0 hR hT
 have hqS := hnN.out w.heap.size (Nat.le_refl _)
 have hA0 : Below W0.heap.size W0 (W0.alloc (.cells #[.int .i64 xx, .int .i64 xy] 3)) := by (repeat' (first | (with_reducible first | exact bR _ _ | assumption | apply bS | apply bA | apply bD | apply bN | exact bL _) | (simp; done) | (simp; omega) | omega | exact bL _))
 have hsz0 := hb0.size
 refine (un2 ha0 hwa (w := (W0.alloc (.cells #[.int .i64 xx, .int .i64 xy] 3))) (N := w.heap.size + 1) (fur := fur) (lv := lv) (m := m) (b := b) (x := xx) (y := xy) (Lib.hid (z0.below hA0)) (by simp [hs0.out]) (hnN.out _ (Nat.le_succ _)) (by rw [← hs0.out]; simp [go_sem]) hnx (by rw [← hs0.out]; simp [go_sem]) hny hb (by omega) (by omega) ho).mono ?_
 rintro e1 W1 ⟨rfl, z1, hb1'⟩
 have hb1 := (hb0.next hA0).trans hb1' fun _ _ h => h
 have q0 : W1.cell? _ = _ := hb1'.cell (carry hA0 hl0 q0) hqS
 have q1 : W1.cell? _ = _ := hb1'.cell (carry hA0 hl0 q1) hqS
 have q2 : W1.cell? _ = _ := hb1'.cell (carry hA0 hl0 q2) hqS
 have q3 : W1.cell? _ = _ := hb1'.cell (carry hA0 hl0 q3) hqS
 have q4 : W1.cell? _ = _ := hb1'.cell (carry hA0 hl0 q4) hqS
 have q5 : W1.cell? _ = _ := hb1'.cell (carry hA0 hl0 q5) hqS
 have q6 : W1.cell? _ = _ := hb1'.cell (carry hA0 hl0 q6) hqS
 have q7 : W1.cell? _ = _ := hb1'.cell (carry hA0 hl0 q7) hqS
 have q8 : W1.cell? _ = _ := hb1'.cell (carry hA0 hl0 q8) hqS
 have hl0 : w.heap.size < W1.heap.size := Nat.lt_of_lt_of_le (Nat.lt_of_lt_of_le hl0 hA0.size) hb1'.size
 clear hb1' z0 hb0 hA0 hsz0
 go_wp2_with fail
 all_goals go_end0
 all_goals exact ⟨rfl, z1, hb1⟩
theorem walk_9 (R F bm cp T off ct : Nat) (ts : List Tg) (n i : Nat) (hi : i < ts.length) (w : World) (fur : List Int) (lv : Lv) (m : Nat) (b : Int) (h : Hid (RzC R F bm cp T off ct ts w fur lv m)) (hb : 0 ≤ b) (hbi : b + 2 * (i : Int) ≤ 999990) (hmi : (m : Int) + 2 * (i : Int) ≤ 999990) (ho : lv.ok b)
  (xa xb xc xn xx xy xz xw : Int) (hx : ts.getD i tg0 = ⟨9, xa, xb, xc, xn, xx, xy, xz, xw⟩) (ha0 : 0 ≤ xa) (ha1 : xa < i) (hwa : Hid (WkOk R F bm cp T off ct ts n xa)) :
  Calls Try.prog 30 #[.pointer (some ⟨R, 0, none⟩), .int .i64 i, .int .i64 b] w (RzP R F bm cp T off ct ts w (rsW ts n xa b lv fur) lv m) := by
 have r0 := h.out.r0
 have hR := h.out.r
 have hT := h.out.t
 obtain ⟨t0, t1, t2, t3, t4, t5, t6, t7, t8⟩ := h.out.ts i hi
 rw [hx] at t0 t1 t2 t3 t4 t5 t6 t7 t8
 dsimp only at t0 t1 t2 t3 t4 t5 t6 t7 t8
 have hi0 : (0 : Int) ≤ (i : Int) := by omega
 have hi1 : (i : Int) < (ts.length : Int) := by omega
 clear hx
 have hnN := Lib.hid fun (k : Nat) (hk : w.heap.size ≤ k) => h.out.new hk
 go_enter Try.func30, Try.ntmps30
 go_wp2_with fail
 obtain ⟨W0, hW0⟩ : ∃ W, w.alloc (.cells #[.int .i64 9, .int .i64 xa, .int .i64 xb, .int .i64 xc, .int .i64 xn, .int .i64 xx, .int .i64 xy, .int .i64 xz, .int .i64 xw] 37) = W := ⟨_, rfl⟩
 rw [hW0]
 have hB0 : Below w.heap.size w W0 := by rw [← hW0]; (repeat' (first | (with_reducible first | exact bR _ _ | assumption | apply bS | apply bA | apply bD | apply bN | exact bL _) | (simp; done) | (simp; omega) | omega | exact bL _))
 have hl0 : w.heap.size < W0.heap.size := by rw [← hW0]; simp
 have hs0 := Lib.hid (show W0.heap.size = w.heap.size + 1 from by rw [← hW0]; simp)
 have q0 : W0.cell? ⟨w.heap.size, 0, none⟩ = some (.int .i64 9) := by rw [← hW0]; simp [go_sem]
 have q1 : W0.cell? ⟨w.heap.size, 1, none⟩ = some (.int .i64 xa) := by rw [← hW0]; simp [go_sem]
 have q2 : W0.cell? ⟨w.heap.size, 2, none⟩ = some (.int .i64 xb) := by rw [← hW0]; simp [go_sem]
 have q3 : W0.cell? ⟨w.heap.size, 3, none⟩ = some (.int .i64 xc) := by rw [← hW0]; simp [go_sem]
 have q4 : W0.cell? ⟨w.heap.size, 4, none⟩ = some (.int .i64 xn) := by rw [← hW0]; simp [go_sem]
 have q5 : W0.cell? ⟨w.heap.size, 5, none⟩ = some (.int .i64 xx) := by rw [← hW0]; simp [go_sem]
 have q6 : W0.cell? ⟨w.heap.size, 6, none⟩ = some (.int .i64 xy) := by rw [← hW0]; simp [go_sem]
 have q7 : W0.cell? ⟨w.heap.size, 7, none⟩ = some (.int .i64 xz) := by rw [← hW0]; simp [go_sem]
 have q8 : W0.cell? ⟨w.heap.size, 8, none⟩ = some (.int .i64 xw) := by rw [← hW0]; simp [go_sem]
 have z0 := h.out.below hB0
 have hb0 := Bar.of_below (S := Sz F bm) hB0
 clear hW0 hB0 t0 t1 t2 t3 t4 t5 t6 t7 t8 r0 hR hT
 have hqS := hnN.out w.heap.size (Nat.le_refl _)
 refine (hwa.out W0 fur lv m b (Lib.hid z0) hb (by omega) (by omega) ho).mono ?_
 rintro e1 W1 ⟨rfl, z1, hb1'⟩
 have hb1 := hb0.trans hb1' fun _ _ h => h
 have q0 : W1.cell? _ = _ := hb1'.cell q0 hqS
 have q1 : W1.cell? _ = _ := hb1'.cell q1 hqS
 have q2 : W1.cell? _ = _ := hb1'.cell q2 hqS
 have q3 : W1.cell? _ = _ := hb1'.cell q3 hqS
 have q4 : W1.cell? _ = _ := hb1'.cell q4 hqS
 have q5 : W1.cell? _ = _ := hb1'.cell q5 hqS
 have q6 : W1.cell? _ = _ := hb1'.cell q6 hqS
 have q7 : W1.cell? _ = _ := hb1'.cell q7 hqS
 have q8 : W1.cell? _ = _ := hb1'.cell q8 hqS
 have hl0 : w.heap.size < W1.heap.size := Nat.lt_of_lt_of_le hl0 hb1'.size
 clear hb1' z0 hb0
 go_wp2_with fail
 all_goals go_end0
 all_goals exact ⟨rfl, z1, hb1⟩
theorem walk_6 (R F bm cp T off ct : Nat) (ts : List Tg) (n i : Nat) (hi : i < ts.length) (w : World) (fur : List Int) (lv : Lv) (m : Nat) (b : Int) (h : Hid (RzC R F bm cp T off ct ts w fur lv m)) (hb : 0 ≤ b) (hbi : b + 2 * (i : Int) ≤ 999990) (hmi : (m : Int) + 2 * (i : Int) ≤ 999990) (ho : lv.ok b)
  (xa xb xc xn xx xy xz xw : Int) (hx : ts.getD i tg0 = ⟨6, xa, xb, xc, xn, xx, xy, xz, xw⟩) (ha0 : 0 ≤ xa) (ha1 : xa < i) (hwa : Hid (WkOk R F bm cp T off ct ts n xa)) (hb0 : 0 ≤ xb) (hb1 : xb < i) (hwb : Hid (WkOk R F bm cp T off ct ts n xb)) (hnx : -1000000000 ≤ xx ∧ xx ≤ 1000000000) :
  Calls Try.prog 30 #[.pointer (some ⟨R, 0, none⟩), .int .i64 i, .int .i64 b] w (RzP R F bm cp T off ct ts w (rsW ts n xb (b + 1) (lv.up xx b) (rsW ts n xa b lv fur)) lv m) := by
 have r0 := h.out.r0
 have hR := h.out.r
 have hT := h.out.t
 obtain ⟨t0, t1, t2, t3, t4, t5, t6, t7, t8⟩ := h.out.ts i hi
 rw [hx] at t0 t1 t2 t3 t4 t5 t6 t7 t8
 dsimp only at t0 t1 t2 t3 t4 t5 t6 t7 t8
 have hi0 : (0 : Int) ≤ (i : Int) := by omega
 have hi1 : (i : Int) < (ts.length : Int) := by omega
 clear hx
 have hnN := Lib.hid fun (k : Nat) (hk : w.heap.size ≤ k) => h.out.new hk
 go_enter Try.func30, Try.ntmps30
 go_wp2_with fail
 obtain ⟨W0, hW0⟩ : ∃ W, w.alloc (.cells #[.int .i64 6, .int .i64 xa, .int .i64 xb, .int .i64 xc, .int .i64 xn, .int .i64 xx, .int .i64 xy, .int .i64 xz, .int .i64 xw] 37) = W := ⟨_, rfl⟩
 rw [hW0]
 have hB0 : Below w.heap.size w W0 := by rw [← hW0]; (repeat' (first | (with_reducible first | exact bR _ _ | assumption | apply bS | apply bA | apply bD | apply bN | exact bL _) | (simp; done) | (simp; omega) | omega | exact bL _))
 have hl0 : w.heap.size < W0.heap.size := by rw [← hW0]; simp
 have hs0 := Lib.hid (show W0.heap.size = w.heap.size + 1 from by rw [← hW0]; simp)
 have q0 : W0.cell? ⟨w.heap.size, 0, none⟩ = some (.int .i64 6) := by rw [← hW0]; simp [go_sem]
 have q1 : W0.cell? ⟨w.heap.size, 1, none⟩ = some (.int .i64 xa) := by rw [← hW0]; simp [go_sem]
 have q2 : W0.cell? ⟨w.heap.size, 2, none⟩ = some (.int .i64 xb) := by rw [← hW0]; simp [go_sem]
 have q3 : W0.cell? ⟨w.heap.size, 3, none⟩ = some (.int .i64 xc) := by rw [← hW0]; simp [go_sem]
 have q4 : W0.cell? ⟨w.heap.size, 4, none⟩ = some (.int .i64 xn) := by rw [← hW0]; simp [go_sem]
 have q5 : W0.cell? ⟨w.heap.size, 5, none⟩ = some (.int .i64 xx) := by rw [← hW0]; simp [go_sem]
 have q6 : W0.cell? ⟨w.heap.size, 6, none⟩ = some (.int .i64 xy) := by rw [← hW0]; simp [go_sem]
 have q7 : W0.cell? ⟨w.heap.size, 7, none⟩ = some (.int .i64 xz) := by rw [← hW0]; simp [go_sem]
 have q8 : W0.cell? ⟨w.heap.size, 8, none⟩ = some (.int .i64 xw) := by rw [← hW0]; simp [go_sem]
 have z0 := h.out.below hB0
 have hb0 := Bar.of_below (S := Sz F bm) hB0
 clear hW0 hB0 t0 t1 t2 t3 t4 t5 t6 t7 t8 r0 hR hT
 have hqS := hnN.out w.heap.size (Nat.le_refl _)
 refine (hwa.out W0 fur lv m b (Lib.hid z0) hb (by omega) (by omega) ho).mono ?_
 rintro e1 W1 ⟨rfl, z1, hb1'⟩
 have hb1 := hb0.trans hb1' fun _ _ h => h
 have q0 : W1.cell? _ = _ := hb1'.cell q0 hqS
 have q1 : W1.cell? _ = _ := hb1'.cell q1 hqS
 have q2 : W1.cell? _ = _ := hb1'.cell q2 hqS
 have q3 : W1.cell? _ = _ := hb1'.cell q3 hqS
 have q4 : W1.cell? _ = _ := hb1'.cell q4 hqS
 have q5 : W1.cell? _ = _ := hb1'.cell q5 hqS
 have q6 : W1.cell? _ = _ := hb1'.cell q6 hqS
 have q7 : W1.cell? _ = _ := hb1'.cell q7 hqS
 have q8 : W1.cell? _ = _ := hb1'.cell q8 hqS
 have hl0 : w.heap.size < W1.heap.size := Nat.lt_of_lt_of_le hl0 hb1'.size
 clear hb1' z0 hb0
 go_wp2_with fail
 have hA1 : Below W1.heap.size W1 (W1.alloc (.cells #[.int .i64 xx] 3)) := by (repeat' (first | (with_reducible first | exact bR _ _ | assumption | apply bS | apply bA | apply bD | apply bN | exact bL _) | (simp; done) | (simp; omega) | omega | exact bL _))
 have hsz1 := hb1.size
 refine (un1 hb0 hwb (w := (W1.alloc (.cells #[.int .i64 xx] 3))) (N := W1.heap.size) (fur := (rsW ts n xa b lv fur)) (lv := lv) (m := m) (b := b) (x := xx) (Lib.hid (z1.below hA1)) (by simp) (hnN.out _ hsz1) (by simp [go_sem]) hnx hb (by omega) (by omega) ho).mono ?_
 rintro e2 W2 ⟨rfl, z2, hb2'⟩
 have hb2 := (hb1.next hA1).trans hb2' fun _ _ h => h
 have q0 : W2.cell? _ = _ := hb2'.cell (carry hA1 hl0 q0) hqS
 have q1 : W2.cell? _ = _ := hb2'.cell (carry hA1 hl0 q1) hqS
 have q2 : W2.cell? _ = _ := hb2'.cell (carry hA1 hl0 q2) hqS
 have q3 : W2.cell? _ = _ := hb2'.cell (carry hA1 hl0 q3) hqS
 have q4 : W2.cell? _ = _ := hb2'.cell (carry hA1 hl0 q4) hqS
 have q5 : W2.cell? _ = _ := hb2'.cell (carry hA1 hl0 q5) hqS
 have q6 : W2.cell? _ = _ := hb2'.cell (carry hA1 hl0 q6) hqS
 have q7 : W2.cell? _ = _ := hb2'.cell (carry hA1 hl0 q7) hqS
 have q8 : W2.cell? _ = _ := hb2'.cell (carry hA1 hl0 q8) hqS
 have hl0 : w.heap.size < W2.heap.size := Nat.lt_of_lt_of_le (Nat.lt_of_lt_of_le hl0 hA1.size) hb2'.size
 clear hb2' z1 hb1 hA1 hsz1
 go_wp2_with fail
 all_goals go_end0
 all_goals exact ⟨rfl, z2, hb2⟩
theorem walk_11 (R F bm cp T off ct : Nat) (ts : List Tg) (n i : Nat) (hi : i < ts.length) (w : World) (fur : List Int) (lv : Lv) (m : Nat) (b : Int) (h : Hid (RzC R F bm cp T off ct ts w fur lv m)) (hb : 0 ≤ b) (hbi : b + 2 * (i : Int) ≤ 999990) (hmi : (m : Int) + 2 * (i : Int) ≤ 999990) (ho : lv.ok b)
  (xa xb xc xn xx xy xz xw : Int) (hx : ts.getD i tg0 = ⟨11, xa, xb, xc, xn, xx, xy, xz, xw⟩) (ha0 : 0 ≤ xa) (ha1 : xa < i) (hwa : Hid (WkOk R F bm cp T off ct ts n xa)) (hb0 : 0 ≤ xb) (hb1 : xb < i) (hwb : Hid (WkOk R F bm cp T off ct ts n xb)) (hnx : -1000000000 ≤ xx ∧ xx ≤ 1000000000) :
  Calls Try.prog 30 #[.pointer (some ⟨R, 0, none⟩), .int .i64 i, .int .i64 b] w (RzP R F bm cp T off ct ts w (rsW ts n xb (b + 1) (lv.up xx b) (rsW ts n xa b lv fur)) lv m) := by
 have r0 := h.out.r0
 have hR := h.out.r
 have hT := h.out.t
 obtain ⟨t0, t1, t2, t3, t4, t5, t6, t7, t8⟩ := h.out.ts i hi
 rw [hx] at t0 t1 t2 t3 t4 t5 t6 t7 t8
 dsimp only at t0 t1 t2 t3 t4 t5 t6 t7 t8
 have hi0 : (0 : Int) ≤ (i : Int) := by omega
 have hi1 : (i : Int) < (ts.length : Int) := by omega
 clear hx
 have hnN := Lib.hid fun (k : Nat) (hk : w.heap.size ≤ k) => h.out.new hk
 go_enter Try.func30, Try.ntmps30
 go_wp2_with fail
 obtain ⟨W0, hW0⟩ : ∃ W, w.alloc (.cells #[.int .i64 11, .int .i64 xa, .int .i64 xb, .int .i64 xc, .int .i64 xn, .int .i64 xx, .int .i64 xy, .int .i64 xz, .int .i64 xw] 37) = W := ⟨_, rfl⟩
 rw [hW0]
 have hB0 : Below w.heap.size w W0 := by rw [← hW0]; (repeat' (first | (with_reducible first | exact bR _ _ | assumption | apply bS | apply bA | apply bD | apply bN | exact bL _) | (simp; done) | (simp; omega) | omega | exact bL _))
 have hl0 : w.heap.size < W0.heap.size := by rw [← hW0]; simp
 have hs0 := Lib.hid (show W0.heap.size = w.heap.size + 1 from by rw [← hW0]; simp)
 have q0 : W0.cell? ⟨w.heap.size, 0, none⟩ = some (.int .i64 11) := by rw [← hW0]; simp [go_sem]
 have q1 : W0.cell? ⟨w.heap.size, 1, none⟩ = some (.int .i64 xa) := by rw [← hW0]; simp [go_sem]
 have q2 : W0.cell? ⟨w.heap.size, 2, none⟩ = some (.int .i64 xb) := by rw [← hW0]; simp [go_sem]
 have q3 : W0.cell? ⟨w.heap.size, 3, none⟩ = some (.int .i64 xc) := by rw [← hW0]; simp [go_sem]
 have q4 : W0.cell? ⟨w.heap.size, 4, none⟩ = some (.int .i64 xn) := by rw [← hW0]; simp [go_sem]
 have q5 : W0.cell? ⟨w.heap.size, 5, none⟩ = some (.int .i64 xx) := by rw [← hW0]; simp [go_sem]
 have q6 : W0.cell? ⟨w.heap.size, 6, none⟩ = some (.int .i64 xy) := by rw [← hW0]; simp [go_sem]
 have q7 : W0.cell? ⟨w.heap.size, 7, none⟩ = some (.int .i64 xz) := by rw [← hW0]; simp [go_sem]
 have q8 : W0.cell? ⟨w.heap.size, 8, none⟩ = some (.int .i64 xw) := by rw [← hW0]; simp [go_sem]
 have z0 := h.out.below hB0
 have hb0 := Bar.of_below (S := Sz F bm) hB0
 clear hW0 hB0 t0 t1 t2 t3 t4 t5 t6 t7 t8 r0 hR hT
 have hqS := hnN.out w.heap.size (Nat.le_refl _)
 refine (hwa.out W0 fur lv m b (Lib.hid z0) hb (by omega) (by omega) ho).mono ?_
 rintro e1 W1 ⟨rfl, z1, hb1'⟩
 have hb1 := hb0.trans hb1' fun _ _ h => h
 have q0 : W1.cell? _ = _ := hb1'.cell q0 hqS
 have q1 : W1.cell? _ = _ := hb1'.cell q1 hqS
 have q2 : W1.cell? _ = _ := hb1'.cell q2 hqS
 have q3 : W1.cell? _ = _ := hb1'.cell q3 hqS
 have q4 : W1.cell? _ = _ := hb1'.cell q4 hqS
 have q5 : W1.cell? _ = _ := hb1'.cell q5 hqS
 have q6 : W1.cell? _ = _ := hb1'.cell q6 hqS
 have q7 : W1.cell? _ = _ := hb1'.cell q7 hqS
 have q8 : W1.cell? _ = _ := hb1'.cell q8 hqS
 have hl0 : w.heap.size < W1.heap.size := Nat.lt_of_lt_of_le hl0 hb1'.size
 clear hb1' z0 hb0
 go_wp2_with fail
 have hA1 : Below W1.heap.size W1 (W1.alloc (.cells #[.int .i64 xx] 3)) := by (repeat' (first | (with_reducible first | exact bR _ _ | assumption | apply bS | apply bA | apply bD | apply bN | exact bL _) | (simp; done) | (simp; omega) | omega | exact bL _))
 have hsz1 := hb1.size
 refine (un1 hb0 hwb (w := (W1.alloc (.cells #[.int .i64 xx] 3))) (N := W1.heap.size) (fur := (rsW ts n xa b lv fur)) (lv := lv) (m := m) (b := b) (x := xx) (Lib.hid (z1.below hA1)) (by simp) (hnN.out _ hsz1) (by simp [go_sem]) hnx hb (by omega) (by omega) ho).mono ?_
 rintro e2 W2 ⟨rfl, z2, hb2'⟩
 have hb2 := (hb1.next hA1).trans hb2' fun _ _ h => h
 have q0 : W2.cell? _ = _ := hb2'.cell (carry hA1 hl0 q0) hqS
 have q1 : W2.cell? _ = _ := hb2'.cell (carry hA1 hl0 q1) hqS
 have q2 : W2.cell? _ = _ := hb2'.cell (carry hA1 hl0 q2) hqS
 have q3 : W2.cell? _ = _ := hb2'.cell (carry hA1 hl0 q3) hqS
 have q4 : W2.cell? _ = _ := hb2'.cell (carry hA1 hl0 q4) hqS
 have q5 : W2.cell? _ = _ := hb2'.cell (carry hA1 hl0 q5) hqS
 have q6 : W2.cell? _ = _ := hb2'.cell (carry hA1 hl0 q6) hqS
 have q7 : W2.cell? _ = _ := hb2'.cell (carry hA1 hl0 q7) hqS
 have q8 : W2.cell? _ = _ := hb2'.cell (carry hA1 hl0 q8) hqS
 have hl0 : w.heap.size < W2.heap.size := Nat.lt_of_lt_of_le (Nat.lt_of_lt_of_le hl0 hA1.size) hb2'.size
 clear hb2' z1 hb1 hA1 hsz1
 go_wp2_with fail
 all_goals go_end0
 all_goals exact ⟨rfl, z2, hb2⟩
theorem walk_12 (R F bm cp T off ct : Nat) (ts : List Tg) (n i : Nat) (hi : i < ts.length) (w : World) (fur : List Int) (lv : Lv) (m : Nat) (b : Int) (h : Hid (RzC R F bm cp T off ct ts w fur lv m)) (hb : 0 ≤ b) (hbi : b + 2 * (i : Int) ≤ 999990) (hmi : (m : Int) + 2 * (i : Int) ≤ 999990) (ho : lv.ok b)
  (xa xb xc xn xx xy xz xw : Int) (hx : ts.getD i tg0 = ⟨12, xa, xb, xc, xn, xx, xy, xz, xw⟩) (ha0 : 0 ≤ xa) (ha1 : xa < i) (hwa : Hid (WkOk R F bm cp T off ct ts n xa)) (hb0 : 0 ≤ xb) (hb1 : xb < i) (hwb : Hid (WkOk R F bm cp T off ct ts n xb)) (hc0 : 0 ≤ xc) (hc1 : xc < i) (hwc : Hid (WkOk R F bm cp T off ct ts n xc)) (hnw : -1000000000 ≤ xw ∧ xw ≤ 1000000000) (hnx : -1000000000 ≤ xx ∧ xx ≤ 1000000000) (hny : -1000000000 ≤ xy ∧ xy ≤ 1000000000) (hnz : -1000000000 ≤ xz ∧ xz ≤ 1000000000) :
  Calls Try.prog 30 #[.pointer (some ⟨R, 0, none⟩), .int .i64 i, .int .i64 b] w (RzP R F bm cp T off ct ts w (rsW ts n xc (b + 2) ((lv.up xy b).up xz (b + 1)) (rsW ts n xb (b + 1) (lv.up xx b) (rsW ts n xa b lv (fur.set i (findV lv xw b))))) lv m) := by
 have r0 := h.out.r0
 have hR := h.out.r
 have hT := h.out.t
 obtain ⟨t0, t1, t2, t3, t4, t5, t6, t7, t8⟩ := h.out.ts i hi
 rw [hx] at t0 t1 t2 t3 t4 t5 t6 t7 t8
 dsimp only at t0 t1 t2 t3 t4 t5 t6 t7 t8
 have hi0 : (0 : Int) ≤ (i : Int) := by omega
 have hi1 : (i : Int) < (ts.length : Int) := by omega
 clear hx
 have hnN := Lib.hid fun (k : Nat) (hk : w.heap.size ≤ k) => h.out.new hk
 go_enter Try.func30, Try.ntmps30
 go_wp2_with fail
 obtain ⟨W0, hW0⟩ : ∃ W, w.alloc (.cells #[.int .i64 12, .int .i64 xa, .int .i64 xb, .int .i64 xc, .int .i64 xn, .int .i64 xx, .int .i64 xy, .int .i64 xz, .int .i64 xw] 37) = W := ⟨_, rfl⟩
 rw [hW0]
 have hB0 : Below w.heap.size w W0 := by rw [← hW0]; (repeat' (first | (with_reducible first | exact bR _ _ | assumption | apply bS | apply bA | apply bD | apply bN | exact bL _) | (simp; done) | (simp; omega) | omega | exact bL _))
 have hl0 : w.heap.size < W0.heap.size := by rw [← hW0]; simp
 have hs0 := Lib.hid (show W0.heap.size = w.heap.size + 1 from by rw [← hW0]; simp)
 have q0 : W0.cell? ⟨w.heap.size, 0, none⟩ = some (.int .i64 12) := by rw [← hW0]; simp [go_sem]
 have q1 : W0.cell? ⟨w.heap.size, 1, none⟩ = some (.int .i64 xa) := by rw [← hW0]; simp [go_sem]
 have q2 : W0.cell? ⟨w.heap.size, 2, none⟩ = some (.int .i64 xb) := by rw [← hW0]; simp [go_sem]
 have q3 : W0.cell? ⟨w.heap.size, 3, none⟩ = some (.int .i64 xc) := by rw [← hW0]; simp [go_sem]
 have q4 : W0.cell? ⟨w.heap.size, 4, none⟩ = some (.int .i64 xn) := by rw [← hW0]; simp [go_sem]
 have q5 : W0.cell? ⟨w.heap.size, 5, none⟩ = some (.int .i64 xx) := by rw [← hW0]; simp [go_sem]
 have q6 : W0.cell? ⟨w.heap.size, 6, none⟩ = some (.int .i64 xy) := by rw [← hW0]; simp [go_sem]
 have q7 : W0.cell? ⟨w.heap.size, 7, none⟩ = some (.int .i64 xz) := by rw [← hW0]; simp [go_sem]
 have q8 : W0.cell? ⟨w.heap.size, 8, none⟩ = some (.int .i64 xw) := by rw [← hW0]; simp [go_sem]
 have z0 := h.out.below hB0
 have hb0 := Bar.of_below (S := Sz F bm) hB0
 clear hW0 hB0 t0 t1 t2 t3 t4 t5 t6 t7 t8 r0 hR hT
 have hqS := hnN.out w.heap.size (Nat.le_refl _)
 have r1 := z0.r1
 have hR0 := z0.r
 have hF0 := z0.f
 have hRS : ¬ Sz F bm R := fun e => by rcases e with e | e; exact z0.d1 e; exact z0.d2 e
 have z0h := Lib.hid z0
 have hb0h := Lib.hid hb0
 clear z0 hb0
 have hfi := Lib.hid fun (W : World) (hb2 : Below W0.heap.size W0 W) => find_any R F bm cp T off ct m ts W fur lv xw b (Lib.hid (z0h.out.below hb2)) hnw (by omega) ho
 refine wp_region_held_drew (S := fun W => Bar (Sz F bm) W0 W) (by kernel_rfl) (Bar.of_below ((Below.refl _ _).drew)) (fun hHeld => ?_)
 refine rg_take 0 (some 82) (v := ?v11) rfl rfl (by kernel_rfl) (by kernel_rfl) (by kernel_rfl) (fun _ _ _ h => h) (by rfl) ?hy11 (by assumption) ?_
 case hy11 => intro W hSW; (try dsimp only at hSW); have z1 := hSW.cell r1 hRS; have z2 := hSW.cell q8 hqS; have y1 := Nat.lt_of_lt_of_le hR0 hSW.size; have y2 := Nat.lt_of_lt_of_le hl0 hSW.size; go_simp; (try with_reducible rfl)
 try simp only [Act.put, bP, bQ, bT]
 refine rg_take 1 (some 83) (v := ?v12) rfl rfl (by kernel_rfl) (by kernel_rfl) (by kernel_rfl) (fun _ _ _ h => h) (by rfl) ?hy12 (by assumption) ?_
 case hy12 => intro W hSW; (try dsimp only at hSW); have z1 := hSW.cell r1 hRS; have z2 := hSW.cell q8 hqS; have y1 := Nat.lt_of_lt_of_le hR0 hSW.size; have y2 := Nat.lt_of_lt_of_le hl0 hSW.size; go_simp; (try with_reducible rfl)
 try simp only [Act.put, bP, bQ, bT]
 refine rg_take 2 (some 84) (v := ?v13) rfl rfl (by kernel_rfl) (by kernel_rfl) (by kernel_rfl) (fun _ _ _ h => h) (by rfl) ?hy13 (by assumption) ?_
 case hy13 => intro W hSW; (try dsimp only at hSW); have z1 := hSW.cell r1 hRS; have z2 := hSW.cell q8 hqS; have y1 := Nat.lt_of_lt_of_le hR0 hSW.size; have y2 := Nat.lt_of_lt_of_le hl0 hSW.size; go_simp; (try with_reducible rfl)
 try simp only [Act.put, bP, bQ, bT]
 refine rg_take 3 (some 85) (v := ?v14) rfl rfl (by kernel_rfl) (by kernel_rfl) (by kernel_rfl) (fun _ _ _ h => h) (by rfl) ?hy14 (by assumption) ?_
 case hy14 => intro W hSW; (try dsimp only at hSW); have z1 := hSW.cell r1 hRS; have z2 := hSW.cell q8 hqS; have y1 := Nat.lt_of_lt_of_le hR0 hSW.size; have y2 := Nat.lt_of_lt_of_le hl0 hSW.size; go_simp; (try with_reducible rfl)
 try simp only [Act.put, bP, bQ, bT]
 refine rg_take 4 (some 86) (v := ?v15) rfl rfl (by kernel_rfl) (by kernel_rfl) (by kernel_rfl) (fun _ _ _ h => h) (by rfl) ?hy15 (by assumption) ?_
 case hy15 => intro W hSW; (try dsimp only at hSW); have z1 := hSW.cell r1 hRS; have z2 := hSW.cell q8 hqS; have y1 := Nat.lt_of_lt_of_le hR0 hSW.size; have y2 := Nat.lt_of_lt_of_le hl0 hSW.size; go_simp; (try with_reducible rfl)
 try simp only [Act.put, bP, bQ, bT]
 refine rg_take 5 (some 87) (v := ?v16) rfl rfl (by kernel_rfl) (by kernel_rfl) (by kernel_rfl) (fun _ _ _ h => h) (by rfl) ?hy16 (by assumption) ?_
 case hy16 => intro W hSW; (try dsimp only at hSW); have z1 := hSW.cell r1 hRS; have z2 := hSW.cell q8 hqS; have y1 := Nat.lt_of_lt_of_le hR0 hSW.size; have y2 := Nat.lt_of_lt_of_le hl0 hSW.size; go_simp; (try with_reducible rfl)
 try simp only [Act.put, bP, bQ, bT]
 refine rg_take 6 (some 88) (v := ?v17) rfl rfl (by kernel_rfl) (by kernel_rfl) (by kernel_rfl) (fun _ _ _ h => h) (by rfl) ?hy17 (by assumption) ?_
 case hy17 => intro W hSW; (try dsimp only at hSW); have z1 := hSW.cell r1 hRS; have z2 := hSW.cell q8 hqS; have y1 := Nat.lt_of_lt_of_le hR0 hSW.size; have y2 := Nat.lt_of_lt_of_le hl0 hSW.size; go_simp; (try with_reducible rfl)
 try simp only [Act.put, bP, bQ, bT]
 refine rg_take 7 (some 89) (v := ?v18) rfl rfl (by kernel_rfl) (by kernel_rfl) (by kernel_rfl) (fun _ _ _ h => h) (by rfl) ?hy18 (by assumption) ?_
 case hy18 => intro W hSW; (try dsimp only at hSW); have z1 := hSW.cell r1 hRS; have z2 := hSW.cell q8 hqS; have y1 := Nat.lt_of_lt_of_le hR0 hSW.size; have y2 := Nat.lt_of_lt_of_le hl0 hSW.size; go_simp; (try with_reducible rfl)
 try simp only [Act.put, bP, bQ, bT]
 refine rg_take 8 (some 90) (v := ?v19) rfl rfl (by kernel_rfl) (by kernel_rfl) (by kernel_rfl) (fun _ _ _ h => h) (by rfl) ?hy19 (by assumption) ?_
 case hy19 => intro W hSW; (try dsimp only at hSW); have z1 := hSW.cell r1 hRS; have z2 := hSW.cell q8 hqS; have y1 := Nat.lt_of_lt_of_le hR0 hSW.size; have y2 := Nat.lt_of_lt_of_le hl0 hSW.size; go_simp; (try with_reducible rfl)
 try simp only [Act.put, bP, bQ, bT]
 refine rg_one 9 rfl (by kernel_rfl) (by rfl) (fun K hK => ?_)
 go_simp
 refine (hfi.out _ ((Below.refl _ _).drew)).mono ?_
 rintro e9 w9 ⟨rfl, hb9⟩
 have hc9 : Below W0.heap.size W0 w9 := belT ((Below.refl _ _).drew) hb9
 refine hK.out _ _ (Bar.of_below hc9) (fun hH9 => ?_)
 clear hK K
 try simp only [Act.put, bP, bQ, bT]
 refine rg_take 10 (some 92) (v := ?v20) rfl rfl (by kernel_rfl) (by kernel_rfl) (by kernel_rfl) (fun _ _ _ h => h) (by rfl) ?hy20 (by assumption) ?_
 case hy20 => intro W hSW; (try dsimp only at hSW); have z1 := hSW.cell r1 hRS; have z2 := hSW.cell q8 hqS; have y1 := Nat.lt_of_lt_of_le hR0 hSW.size; have y2 := Nat.lt_of_lt_of_le hl0 hSW.size; go_simp; (try with_reducible rfl)
 try simp only [Act.put, bP, bQ, bT]
 refine rg_one 11 rfl (by kernel_rfl) (by rfl) (fun K hK => ?_)
 have f9 := (z0h.out.below hc9).fs i (by rw [z0h.out.len]; exact hi)
 have g9 := (z0h.out.below hc9).fz i
 have l9 := (z0h.out.below hc9).f
 go_simp
 refine hK.out _ _ ((Bar.of_below hc9).trans ((z0h.out.below hc9).setF i _).2 fun _ _ h => h) (fun hH11 => ?_)
 clear hK K
 try simp only [Act.put, bP, bQ, bT]
 refine wpAnyH_done (by kernel_rfl) ?_ _
 obtain ⟨z1, hb1'⟩ := (z0h.out.below hc9).setF i (findV lv xw b)
 have hb1 := (hb0h.out.next hc9).trans hb1' fun _ _ h => h
 obtain ⟨W1, hW1⟩ : ∃ W, w9.setCell ⟨F, i, none⟩ (.int .i64 (findV lv xw b)) = W := ⟨_, rfl⟩
 rw [hW1] at z1 hb1 hb1'
 rw [hW1]
 have q0 : W1.cell? _ = _ := hb1'.cell (carry hc9 hl0 q0) hqS
 have q1 : W1.cell? _ = _ := hb1'.cell (carry hc9 hl0 q1) hqS
 have q2 : W1.cell? _ = _ := hb1'.cell (carry hc9 hl0 q2) hqS
 have q3 : W1.cell? _ = _ := hb1'.cell (carry hc9 hl0 q3) hqS
 have q4 : W1.cell? _ = _ := hb1'.cell (carry hc9 hl0 q4) hqS
 have q5 : W1.cell? _ = _ := hb1'.cell (carry hc9 hl0 q5) hqS
 have q6 : W1.cell? _ = _ := hb1'.cell (carry hc9 hl0 q6) hqS
 have q7 : W1.cell? _ = _ := hb1'.cell (carry hc9 hl0 q7) hqS
 have q8 : W1.cell? _ = _ := hb1'.cell (carry hc9 hl0 q8) hqS
 have hl0 : w.heap.size < W1.heap.size := Nat.lt_of_lt_of_le (Nat.lt_of_lt_of_le hl0 hc9.size) hb1'.size
 clear hW1 hb1' hH9 hH11 hc9 hb9 f9 g9 l9 r1 hR0 hF0 hfi
 go_wp2_with fail
 refine (hwa.out W1 (fur.set i (findV lv xw b)) lv m b (Lib.hid z1) hb (by omega) (by omega) ho).mono ?_
 rintro e2 W2 ⟨rfl, z2, hb2'⟩
 have hb2 := hb1.trans hb2' fun _ _ h => h
 have q0 : W2.cell? _ = _ := hb2'.cell q0 hqS
 have q1 : W2.cell? _ = _ := hb2'.cell q1 hqS
 have q2 : W2.cell? _ = _ := hb2'.cell q2 hqS
 have q3 : W2.cell? _ = _ := hb2'.cell q3 hqS
 have q4 : W2.cell? _ = _ := hb2'.cell q4 hqS
 have q5 : W2.cell? _ = _ := hb2'.cell q5 hqS
 have q6 : W2.cell? _ = _ := hb2'.cell q6 hqS
 have q7 : W2.cell? _ = _ := hb2'.cell q7 hqS
 have q8 : W2.cell? _ = _ := hb2'.cell q8 hqS
 have hl0 : w.heap.size < W2.heap.size := Nat.lt_of_lt_of_le hl0 hb2'.size
 clear hb2' z1 hb1
 go_wp2_with fail
 have hA2 : Below W2.heap.size W2 (W2.alloc (.cells #[.int .i64 xx] 3)) := by (repeat' (first | (with_reducible first | exact bR _ _ | assumption | apply bS | apply bA | apply bD | apply bN | exact bL _) | (simp; done) | (simp; omega) | omega | exact bL _))
 have hsz2 := hb2.size
 refine (un1 hb0 hwb (w := (W2.alloc (.cells #[.int .i64 xx] 3))) (N := W2.heap.size) (fur := (rsW ts n xa b lv (fur.set i (findV lv xw b)))) (lv := lv) (m := m) (b := b) (x := xx) (Lib.hid (z2.below hA2)) (by simp) (hnN.out _ hsz2) (by simp [go_sem]) hnx hb (by omega) (by omega) ho).mono ?_
 rintro e3 W3 ⟨rfl, z3, hb3'⟩
 have hb3 := (hb2.next hA2).trans hb3' fun _ _ h => h
 have q0 : W3.cell? _ = _ := hb3'.cell (carry hA2 hl0 q0) hqS
 have q1 : W3.cell? _ = _ := hb3'.cell (carry hA2 hl0 q1) hqS
 have q2 : W3.cell? _ = _ := hb3'.cell (carry hA2 hl0 q2) hqS
 have q3 : W3.cell? _ = _ := hb3'.cell (carry hA2 hl0 q3) hqS
 have q4 : W3.cell? _ = _ := hb3'.cell (carry hA2 hl0 q4) hqS
 have q5 : W3.cell? _ = _ := hb3'.cell (carry hA2 hl0 q5) hqS
 have q6 : W3.cell? _ = _ := hb3'.cell (carry hA2 hl0 q6) hqS
 have q7 : W3.cell? _ = _ := hb3'.cell (carry hA2 hl0 q7) hqS
 have q8 : W3.cell? _ = _ := hb3'.cell (carry hA2 hl0 q8) hqS
 have hl0 : w.heap.size < W3.heap.size := Nat.lt_of_lt_of_le (Nat.lt_of_lt_of_le hl0 hA2.size) hb3'.size
 clear hb3' z2 hb2 hA2 hsz2
 go_wp2_with fail
 have hA3 : Below W3.heap.size W3 (W3.alloc (.cells #[.int .i64 xy, .int .i64 xz] 3)) := by (repeat' (first | (with_reducible first | exact bR _ _ | assumption | apply bS | apply bA | apply bD | apply bN | exact bL _) | (simp; done) | (simp; omega) | omega | exact bL _))
 have hsz3 := hb3.size
 refine (un2 hc0 hwc (w := (W3.alloc (.cells #[.int .i64 xy, .int .i64 xz] 3))) (N := W3.heap.size) (fur := (rsW ts n xb (b + 1) (lv.up xx b) (rsW ts n xa b lv (fur.set i (findV lv xw b))))) (lv := lv) (m := m) (b := b) (x := xy) (y := xz) (Lib.hid (z3.below hA3)) (by simp) (hnN.out _ hsz3) (by simp [go_sem]) hny (by simp [go_sem]) hnz hb (by omega) (by omega) ho).mono ?_
 rintro e4 W4 ⟨rfl, z4, hb4'⟩
 have hb4 := (hb3.next hA3).trans hb4' fun _ _ h => h
 have q0 : W4.cell? _ = _ := hb4'.cell (carry hA3 hl0 q0) hqS
 have q1 : W4.cell? _ = _ := hb4'.cell (carry hA3 hl0 q1) hqS
 have q2 : W4.cell? _ = _ := hb4'.cell (carry hA3 hl0 q2) hqS
 have q3 : W4.cell? _ = _ := hb4'.cell (carry hA3 hl0 q3) hqS
 have q4 : W4.cell? _ = _ := hb4'.cell (carry hA3 hl0 q4) hqS
 have q5 : W4.cell? _ = _ := hb4'.cell (carry hA3 hl0 q5) hqS
 have q6 : W4.cell? _ = _ := hb4'.cell (carry hA3 hl0 q6) hqS
 have q7 : W4.cell? _ = _ := hb4'.cell (carry hA3 hl0 q7) hqS
 have q8 : W4.cell? _ = _ := hb4'.cell (carry hA3 hl0 q8) hqS
 have hl0 : w.heap.size < W4.heap.size := Nat.lt_of_lt_of_le (Nat.lt_of_lt_of_le hl0 hA3.size) hb4'.size
 clear hb4' z3 hb3 hA3 hsz3
 go_wp2_with fail
 all_goals go_end0
 all_goals exact ⟨rfl, z4, hb4⟩
theorem walk_7 (R F bm cp T off ct : Nat) (ts : List Tg) (n i : Nat) (hi : i < ts.length) (w : World) (fur : List Int) (lv : Lv) (m : Nat) (b : Int) (h : Hid (RzC R F bm cp T off ct ts w fur lv m)) (hb : 0 ≤ b) (hbi : b + 2 * (i : Int) ≤ 999990) (hmi : (m : Int) + 2 * (i : Int) ≤ 999990) (ho : lv.ok b)
  (xa xb xc xn xx xy xz xw : Int) (hx : ts.getD i tg0 = ⟨7, xa, xb, xc, xn, xx, xy, xz, xw⟩) (ha0 : 0 ≤ xa) (ha1 : xa < i) (hwa : Hid (WkOk R F bm cp T off ct ts n xa)) (hb0 : 0 ≤ xb) (hb1 : xb < i) (hwb : Hid (WkOk R F bm cp T off ct ts n xb)) (hc0 : 0 ≤ xc) (hc1 : xc < i) (hwc : Hid (WkOk R F bm cp T off ct ts n xc)) :
  Calls Try.prog 30 #[.pointer (some ⟨R, 0, none⟩), .int .i64 i, .int .i64 b] w (RzP R F bm cp T off ct ts w (rsW ts n xb b lv (rsW ts n xa b lv (rsW ts n xc b lv fur))) lv m) := by
 have r0 := h.out.r0
 have hR := h.out.r
 have hT := h.out.t
 obtain ⟨t0, t1, t2, t3, t4, t5, t6, t7, t8⟩ := h.out.ts i hi
 rw [hx] at t0 t1 t2 t3 t4 t5 t6 t7 t8
 dsimp only at t0 t1 t2 t3 t4 t5 t6 t7 t8
 have hi0 : (0 : Int) ≤ (i : Int) := by omega
 have hi1 : (i : Int) < (ts.length : Int) := by omega
 clear hx
 have hnN := Lib.hid fun (k : Nat) (hk : w.heap.size ≤ k) => h.out.new hk
 go_enter Try.func30, Try.ntmps30
 go_wp2_with fail
 obtain ⟨W0, hW0⟩ : ∃ W, w.alloc (.cells #[.int .i64 7, .int .i64 xa, .int .i64 xb, .int .i64 xc, .int .i64 xn, .int .i64 xx, .int .i64 xy, .int .i64 xz, .int .i64 xw] 37) = W := ⟨_, rfl⟩
 rw [hW0]
 have hB0 : Below w.heap.size w W0 := by rw [← hW0]; (repeat' (first | (with_reducible first | exact bR _ _ | assumption | apply bS | apply bA | apply bD | apply bN | exact bL _) | (simp; done) | (simp; omega) | omega | exact bL _))
 have hl0 : w.heap.size < W0.heap.size := by rw [← hW0]; simp
 have hs0 := Lib.hid (show W0.heap.size = w.heap.size + 1 from by rw [← hW0]; simp)
 have q0 : W0.cell? ⟨w.heap.size, 0, none⟩ = some (.int .i64 7) := by rw [← hW0]; simp [go_sem]
 have q1 : W0.cell? ⟨w.heap.size, 1, none⟩ = some (.int .i64 xa) := by rw [← hW0]; simp [go_sem]
 have q2 : W0.cell? ⟨w.heap.size, 2, none⟩ = some (.int .i64 xb) := by rw [← hW0]; simp [go_sem]
 have q3 : W0.cell? ⟨w.heap.size, 3, none⟩ = some (.int .i64 xc) := by rw [← hW0]; simp [go_sem]
 have q4 : W0.cell? ⟨w.heap.size, 4, none⟩ = some (.int .i64 xn) := by rw [← hW0]; simp [go_sem]
 have q5 : W0.cell? ⟨w.heap.size, 5, none⟩ = some (.int .i64 xx) := by rw [← hW0]; simp [go_sem]
 have q6 : W0.cell? ⟨w.heap.size, 6, none⟩ = some (.int .i64 xy) := by rw [← hW0]; simp [go_sem]
 have q7 : W0.cell? ⟨w.heap.size, 7, none⟩ = some (.int .i64 xz) := by rw [← hW0]; simp [go_sem]
 have q8 : W0.cell? ⟨w.heap.size, 8, none⟩ = some (.int .i64 xw) := by rw [← hW0]; simp [go_sem]
 have z0 := h.out.below hB0
 have hb0 := Bar.of_below (S := Sz F bm) hB0
 clear hW0 hB0 t0 t1 t2 t3 t4 t5 t6 t7 t8 r0 hR hT
 have hqS := hnN.out w.heap.size (Nat.le_refl _)
 refine (hwc.out W0 fur lv m b (Lib.hid z0) hb (by omega) (by omega) ho).mono ?_
 rintro e1 W1 ⟨rfl, z1, hb1'⟩
 have hb1 := hb0.trans hb1' fun _ _ h => h
 have q0 : W1.cell? _ = _ := hb1'.cell q0 hqS
 have q1 : W1.cell? _ = _ := hb1'.cell q1 hqS
 have q2 : W1.cell? _ = _ := hb1'.cell q2 hqS
 have q3 : W1.cell? _ = _ := hb1'.cell q3 hqS
 have q4 : W1.cell? _ = _ := hb1'.cell q4 hqS
 have q5 : W1.cell? _ = _ := hb1'.cell q5 hqS
 have q6 : W1.cell? _ = _ := hb1'.cell q6 hqS
 have q7 : W1.cell? _ = _ := hb1'.cell q7 hqS
 have q8 : W1.cell? _ = _ := hb1'.cell q8 hqS
 have hl0 : w.heap.size < W1.heap.size := Nat.lt_of_lt_of_le hl0 hb1'.size
 clear hb1' z0 hb0
 go_wp2_with fail
 refine (hwa.out W1 (rsW ts n xc b lv fur) lv m b (Lib.hid z1) hb (by omega) (by omega) ho).mono ?_
 rintro e2 W2 ⟨rfl, z2, hb2'⟩
 have hb2 := hb1.trans hb2' fun _ _ h => h
 have q0 : W2.cell? _ = _ := hb2'.cell q0 hqS
 have q1 : W2.cell? _ = _ := hb2'.cell q1 hqS
 have q2 : W2.cell? _ = _ := hb2'.cell q2 hqS
 have q3 : W2.cell? _ = _ := hb2'.cell q3 hqS
 have q4 : W2.cell? _ = _ := hb2'.cell q4 hqS
 have q5 : W2.cell? _ = _ := hb2'.cell q5 hqS
 have q6 : W2.cell? _ = _ := hb2'.cell q6 hqS
 have q7 : W2.cell? _ = _ := hb2'.cell q7 hqS
 have q8 : W2.cell? _ = _ := hb2'.cell q8 hqS
 have hl0 : w.heap.size < W2.heap.size := Nat.lt_of_lt_of_le hl0 hb2'.size
 clear hb2' z1 hb1
 go_wp2_with fail
 refine (hwb.out W2 (rsW ts n xa b lv (rsW ts n xc b lv fur)) lv m b (Lib.hid z2) hb (by omega) (by omega) ho).mono ?_
 rintro e3 W3 ⟨rfl, z3, hb3'⟩
 have hb3 := hb2.trans hb3' fun _ _ h => h
 have q0 : W3.cell? _ = _ := hb3'.cell q0 hqS
 have q1 : W3.cell? _ = _ := hb3'.cell q1 hqS
 have q2 : W3.cell? _ = _ := hb3'.cell q2 hqS
 have q3 : W3.cell? _ = _ := hb3'.cell q3 hqS
 have q4 : W3.cell? _ = _ := hb3'.cell q4 hqS
 have q5 : W3.cell? _ = _ := hb3'.cell q5 hqS
 have q6 : W3.cell? _ = _ := hb3'.cell q6 hqS
 have q7 : W3.cell? _ = _ := hb3'.cell q7 hqS
 have q8 : W3.cell? _ = _ := hb3'.cell q8 hqS
 have hl0 : w.heap.size < W3.heap.size := Nat.lt_of_lt_of_le hl0 hb3'.size
 clear hb3' z2 hb2
 go_wp2_with fail
 all_goals go_end0
 all_goals exact ⟨rfl, z3, hb3⟩
theorem walk_5 (R F bm cp T off ct : Nat) (ts : List Tg) (n i : Nat) (hi : i < ts.length) (w : World) (fur : List Int) (lv : Lv) (m : Nat) (b : Int) (h : Hid (RzC R F bm cp T off ct ts w fur lv m)) (hb : 0 ≤ b) (hbi : b + 2 * (i : Int) ≤ 999990) (hmi : (m : Int) + 2 * (i : Int) ≤ 999990) (ho : lv.ok b)
  (xa xb xc xn xx xy xz xw : Int) (hx : ts.getD i tg0 = ⟨5, xa, xb, xc, xn, xx, xy, xz, xw⟩) (ha0 : 0 ≤ xa) (ha1 : xa < i) (hwa : Hid (WkOk R F bm cp T off ct ts n xa)) (hb0 : 0 ≤ xb) (hb1 : xb < i) (hwb : Hid (WkOk R F bm cp T off ct ts n xb)) :
  Calls Try.prog 30 #[.pointer (some ⟨R, 0, none⟩), .int .i64 i, .int .i64 b] w (RzP R F bm cp T off ct ts w (rsW ts n xb b lv (rsW ts n xa b lv fur)) lv m) := by
 have r0 := h.out.r0
 have hR := h.out.r
 have hT := h.out.t
 obtain ⟨t0, t1, t2, t3, t4, t5, t6, t7, t8⟩ := h.out.ts i hi
 rw [hx] at t0 t1 t2 t3 t4 t5 t6 t7 t8
 dsimp only at t0 t1 t2 t3 t4 t5 t6 t7 t8
 have hi0 : (0 : Int) ≤ (i : Int) := by omega
 have hi1 : (i : Int) < (ts.length : Int) := by omega
 clear hx
 have hnN := Lib.hid fun (k : Nat) (hk : w.heap.size ≤ k) => h.out.new hk
 go_enter Try.func30, Try.ntmps30
 go_wp2_with fail
 obtain ⟨W0, hW0⟩ : ∃ W, w.alloc (.cells #[.int .i64 5, .int .i64 xa, .int .i64 xb, .int .i64 xc, .int .i64 xn, .int .i64 xx, .int .i64 xy, .int .i64 xz, .int .i64 xw] 37) = W := ⟨_, rfl⟩
 rw [hW0]
 have hB0 : Below w.heap.size w W0 := by rw [← hW0]; (repeat' (first | (with_reducible first | exact bR _ _ | assumption | apply bS | apply bA | apply bD | apply bN | exact bL _) | (simp; done) | (simp; omega) | omega | exact bL _))
 have hl0 : w.heap.size < W0.heap.size := by rw [← hW0]; simp
 have hs0 := Lib.hid (show W0.heap.size = w.heap.size + 1 from by rw [← hW0]; simp)
 have q0 : W0.cell? ⟨w.heap.size, 0, none⟩ = some (.int .i64 5) := by rw [← hW0]; simp [go_sem]
 have q1 : W0.cell? ⟨w.heap.size, 1, none⟩ = some (.int .i64 xa) := by rw [← hW0]; simp [go_sem]
 have q2 : W0.cell? ⟨w.heap.size, 2, none⟩ = some (.int .i64 xb) := by rw [← hW0]; simp [go_sem]
 have q3 : W0.cell? ⟨w.heap.size, 3, none⟩ = some (.int .i64 xc) := by rw [← hW0]; simp [go_sem]
 have q4 : W0.cell? ⟨w.heap.size, 4, none⟩ = some (.int .i64 xn) := by rw [← hW0]; simp [go_sem]
 have q5 : W0.cell? ⟨w.heap.size, 5, none⟩ = some (.int .i64 xx) := by rw [← hW0]; simp [go_sem]
 have q6 : W0.cell? ⟨w.heap.size, 6, none⟩ = some (.int .i64 xy) := by rw [← hW0]; simp [go_sem]
 have q7 : W0.cell? ⟨w.heap.size, 7, none⟩ = some (.int .i64 xz) := by rw [← hW0]; simp [go_sem]
 have q8 : W0.cell? ⟨w.heap.size, 8, none⟩ = some (.int .i64 xw) := by rw [← hW0]; simp [go_sem]
 have z0 := h.out.below hB0
 have hb0 := Bar.of_below (S := Sz F bm) hB0
 clear hW0 hB0 t0 t1 t2 t3 t4 t5 t6 t7 t8 r0 hR hT
 have hqS := hnN.out w.heap.size (Nat.le_refl _)
 refine (hwa.out W0 fur lv m b (Lib.hid z0) hb (by omega) (by omega) ho).mono ?_
 rintro e1 W1 ⟨rfl, z1, hb1'⟩
 have hb1 := hb0.trans hb1' fun _ _ h => h
 have q0 : W1.cell? _ = _ := hb1'.cell q0 hqS
 have q1 : W1.cell? _ = _ := hb1'.cell q1 hqS
 have q2 : W1.cell? _ = _ := hb1'.cell q2 hqS
 have q3 : W1.cell? _ = _ := hb1'.cell q3 hqS
 have q4 : W1.cell? _ = _ := hb1'.cell q4 hqS
 have q5 : W1.cell? _ = _ := hb1'.cell q5 hqS
 have q6 : W1.cell? _ = _ := hb1'.cell q6 hqS
 have q7 : W1.cell? _ = _ := hb1'.cell q7 hqS
 have q8 : W1.cell? _ = _ := hb1'.cell q8 hqS
 have hl0 : w.heap.size < W1.heap.size := Nat.lt_of_lt_of_le hl0 hb1'.size
 clear hb1' z0 hb0
 go_wp2_with fail
 refine (hwb.out W1 (rsW ts n xa b lv fur) lv m b (Lib.hid z1) hb (by omega) (by omega) ho).mono ?_
 rintro e2 W2 ⟨rfl, z2, hb2'⟩
 have hb2 := hb1.trans hb2' fun _ _ h => h
 have q0 : W2.cell? _ = _ := hb2'.cell q0 hqS
 have q1 : W2.cell? _ = _ := hb2'.cell q1 hqS
 have q2 : W2.cell? _ = _ := hb2'.cell q2 hqS
 have q3 : W2.cell? _ = _ := hb2'.cell q3 hqS
 have q4 : W2.cell? _ = _ := hb2'.cell q4 hqS
 have q5 : W2.cell? _ = _ := hb2'.cell q5 hqS
 have q6 : W2.cell? _ = _ := hb2'.cell q6 hqS
 have q7 : W2.cell? _ = _ := hb2'.cell q7 hqS
 have q8 : W2.cell? _ = _ := hb2'.cell q8 hqS
 have hl0 : w.heap.size < W2.heap.size := Nat.lt_of_lt_of_le hl0 hb2'.size
 clear hb2' z1 hb1
 go_wp2_with fail
 all_goals go_end0
 all_goals exact ⟨rfl, z2, hb2⟩
theorem walk_8 (R F bm cp T off ct : Nat) (ts : List Tg) (n i : Nat) (hi : i < ts.length) (w : World) (fur : List Int) (lv : Lv) (m : Nat) (b : Int) (h : Hid (RzC R F bm cp T off ct ts w fur lv m)) (hb : 0 ≤ b) (hbi : b + 2 * (i : Int) ≤ 999990) (hmi : (m : Int) + 2 * (i : Int) ≤ 999990) (ho : lv.ok b)
  (xa xb xc xn xx xy xz xw : Int) (hx : ts.getD i tg0 = ⟨8, xa, xb, xc, xn, xx, xy, xz, xw⟩) (ha0 : 0 ≤ xa) (ha1 : xa < i) (hwa : Hid (WkOk R F bm cp T off ct ts n xa)) (hb0 : 0 ≤ xb) (hb1 : xb < i) (hwb : Hid (WkOk R F bm cp T off ct ts n xb)) :
  Calls Try.prog 30 #[.pointer (some ⟨R, 0, none⟩), .int .i64 i, .int .i64 b] w (RzP R F bm cp T off ct ts w (rsW ts n xb b lv (rsW ts n xa b lv fur)) lv m) := by
 have r0 := h.out.r0
 have hR := h.out.r
 have hT := h.out.t
 obtain ⟨t0, t1, t2, t3, t4, t5, t6, t7, t8⟩ := h.out.ts i hi
 rw [hx] at t0 t1 t2 t3 t4 t5 t6 t7 t8
 dsimp only at t0 t1 t2 t3 t4 t5 t6 t7 t8
 have hi0 : (0 : Int) ≤ (i : Int) := by omega
 have hi1 : (i : Int) < (ts.length : Int) := by omega
 clear hx
 have hnN := Lib.hid fun (k : Nat) (hk : w.heap.size ≤ k) => h.out.new hk
 go_enter Try.func30, Try.ntmps30
 go_wp2_with fail
 obtain ⟨W0, hW0⟩ : ∃ W, w.alloc (.cells #[.int .i64 8, .int .i64 xa, .int .i64 xb, .int .i64 xc, .int .i64 xn, .int .i64 xx, .int .i64 xy, .int .i64 xz, .int .i64 xw] 37) = W := ⟨_, rfl⟩
 rw [hW0]
 have hB0 : Below w.heap.size w W0 := by rw [← hW0]; (repeat' (first | (with_reducible first | exact bR _ _ | assumption | apply bS | apply bA | apply bD | apply bN | exact bL _) | (simp; done) | (simp; omega) | omega | exact bL _))
 have hl0 : w.heap.size < W0.heap.size := by rw [← hW0]; simp
 have hs0 := Lib.hid (show W0.heap.size = w.heap.size + 1 from by rw [← hW0]; simp)
 have q0 : W0.cell? ⟨w.heap.size, 0, none⟩ = some (.int .i64 8) := by rw [← hW0]; simp [go_sem]
 have q1 : W0.cell? ⟨w.heap.size, 1, none⟩ = some (.int .i64 xa) := by rw [← hW0]; simp [go_sem]
 have q2 : W0.cell? ⟨w.heap.size, 2, none⟩ = some (.int .i64 xb) := by rw [← hW0]; simp [go_sem]
 have q3 : W0.cell? ⟨w.heap.size, 3, none⟩ = some (.int .i64 xc) := by rw [← hW0]; simp [go_sem]
 have q4 : W0.cell? ⟨w.heap.size, 4, none⟩ = some (.int .i64 xn) := by rw [← hW0]; simp [go_sem]
 have q5 : W0.cell? ⟨w.heap.size, 5, none⟩ = some (.int .i64 xx) := by rw [← hW0]; simp [go_sem]
 have q6 : W0.cell? ⟨w.heap.size, 6, none⟩ = some (.int .i64 xy) := by rw [← hW0]; simp [go_sem]
 have q7 : W0.cell? ⟨w.heap.size, 7, none⟩ = some (.int .i64 xz) := by rw [← hW0]; simp [go_sem]
 have q8 : W0.cell? ⟨w.heap.size, 8, none⟩ = some (.int .i64 xw) := by rw [← hW0]; simp [go_sem]
 have z0 := h.out.below hB0
 have hb0 := Bar.of_below (S := Sz F bm) hB0
 clear hW0 hB0 t0 t1 t2 t3 t4 t5 t6 t7 t8 r0 hR hT
 have hqS := hnN.out w.heap.size (Nat.le_refl _)
 refine (hwa.out W0 fur lv m b (Lib.hid z0) hb (by omega) (by omega) ho).mono ?_
 rintro e1 W1 ⟨rfl, z1, hb1'⟩
 have hb1 := hb0.trans hb1' fun _ _ h => h
 have q0 : W1.cell? _ = _ := hb1'.cell q0 hqS
 have q1 : W1.cell? _ = _ := hb1'.cell q1 hqS
 have q2 : W1.cell? _ = _ := hb1'.cell q2 hqS
 have q3 : W1.cell? _ = _ := hb1'.cell q3 hqS
 have q4 : W1.cell? _ = _ := hb1'.cell q4 hqS
 have q5 : W1.cell? _ = _ := hb1'.cell q5 hqS
 have q6 : W1.cell? _ = _ := hb1'.cell q6 hqS
 have q7 : W1.cell? _ = _ := hb1'.cell q7 hqS
 have q8 : W1.cell? _ = _ := hb1'.cell q8 hqS
 have hl0 : w.heap.size < W1.heap.size := Nat.lt_of_lt_of_le hl0 hb1'.size
 clear hb1' z0 hb0
 go_wp2_with fail
 refine (hwb.out W1 (rsW ts n xa b lv fur) lv m b (Lib.hid z1) hb (by omega) (by omega) ho).mono ?_
 rintro e2 W2 ⟨rfl, z2, hb2'⟩
 have hb2 := hb1.trans hb2' fun _ _ h => h
 have q0 : W2.cell? _ = _ := hb2'.cell q0 hqS
 have q1 : W2.cell? _ = _ := hb2'.cell q1 hqS
 have q2 : W2.cell? _ = _ := hb2'.cell q2 hqS
 have q3 : W2.cell? _ = _ := hb2'.cell q3 hqS
 have q4 : W2.cell? _ = _ := hb2'.cell q4 hqS
 have q5 : W2.cell? _ = _ := hb2'.cell q5 hqS
 have q6 : W2.cell? _ = _ := hb2'.cell q6 hqS
 have q7 : W2.cell? _ = _ := hb2'.cell q7 hqS
 have q8 : W2.cell? _ = _ := hb2'.cell q8 hqS
 have hl0 : w.heap.size < W2.heap.size := Nat.lt_of_lt_of_le hl0 hb2'.size
 clear hb2' z1 hb1
 go_wp2_with fail
 all_goals go_end0
 all_goals exact ⟨rfl, z2, hb2⟩
theorem walk_10 (R F bm cp T off ct : Nat) (ts : List Tg) (n i : Nat) (hi : i < ts.length) (w : World) (fur : List Int) (lv : Lv) (m : Nat) (b : Int) (h : Hid (RzC R F bm cp T off ct ts w fur lv m)) (hb : 0 ≤ b) (hbi : b + 2 * (i : Int) ≤ 999990) (hmi : (m : Int) + 2 * (i : Int) ≤ 999990) (ho : lv.ok b)
  (xa xb xc xn xx xy xz xw : Int) (hx : ts.getD i tg0 = ⟨10, xa, xb, xc, xn, xx, xy, xz, xw⟩) (ha0 : 0 ≤ xa) (ha1 : xa < i) (hwa : Hid (WkOk R F bm cp T off ct ts n xa)) (hb0 : 0 ≤ xb) (hb1 : xb < i) (hwb : Hid (WkOk R F bm cp T off ct ts n xb)) :
  Calls Try.prog 30 #[.pointer (some ⟨R, 0, none⟩), .int .i64 i, .int .i64 b] w (RzP R F bm cp T off ct ts w (rsW ts n xb b lv (rsW ts n xa b lv fur)) lv m) := by
 have r0 := h.out.r0
 have hR := h.out.r
 have hT := h.out.t
 obtain ⟨t0, t1, t2, t3, t4, t5, t6, t7, t8⟩ := h.out.ts i hi
 rw [hx] at t0 t1 t2 t3 t4 t5 t6 t7 t8
 dsimp only at t0 t1 t2 t3 t4 t5 t6 t7 t8
 have hi0 : (0 : Int) ≤ (i : Int) := by omega
 have hi1 : (i : Int) < (ts.length : Int) := by omega
 clear hx
 have hnN := Lib.hid fun (k : Nat) (hk : w.heap.size ≤ k) => h.out.new hk
 go_enter Try.func30, Try.ntmps30
 go_wp2_with fail
 obtain ⟨W0, hW0⟩ : ∃ W, w.alloc (.cells #[.int .i64 10, .int .i64 xa, .int .i64 xb, .int .i64 xc, .int .i64 xn, .int .i64 xx, .int .i64 xy, .int .i64 xz, .int .i64 xw] 37) = W := ⟨_, rfl⟩
 rw [hW0]
 have hB0 : Below w.heap.size w W0 := by rw [← hW0]; (repeat' (first | (with_reducible first | exact bR _ _ | assumption | apply bS | apply bA | apply bD | apply bN | exact bL _) | (simp; done) | (simp; omega) | omega | exact bL _))
 have hl0 : w.heap.size < W0.heap.size := by rw [← hW0]; simp
 have hs0 := Lib.hid (show W0.heap.size = w.heap.size + 1 from by rw [← hW0]; simp)
 have q0 : W0.cell? ⟨w.heap.size, 0, none⟩ = some (.int .i64 10) := by rw [← hW0]; simp [go_sem]
 have q1 : W0.cell? ⟨w.heap.size, 1, none⟩ = some (.int .i64 xa) := by rw [← hW0]; simp [go_sem]
 have q2 : W0.cell? ⟨w.heap.size, 2, none⟩ = some (.int .i64 xb) := by rw [← hW0]; simp [go_sem]
 have q3 : W0.cell? ⟨w.heap.size, 3, none⟩ = some (.int .i64 xc) := by rw [← hW0]; simp [go_sem]
 have q4 : W0.cell? ⟨w.heap.size, 4, none⟩ = some (.int .i64 xn) := by rw [← hW0]; simp [go_sem]
 have q5 : W0.cell? ⟨w.heap.size, 5, none⟩ = some (.int .i64 xx) := by rw [← hW0]; simp [go_sem]
 have q6 : W0.cell? ⟨w.heap.size, 6, none⟩ = some (.int .i64 xy) := by rw [← hW0]; simp [go_sem]
 have q7 : W0.cell? ⟨w.heap.size, 7, none⟩ = some (.int .i64 xz) := by rw [← hW0]; simp [go_sem]
 have q8 : W0.cell? ⟨w.heap.size, 8, none⟩ = some (.int .i64 xw) := by rw [← hW0]; simp [go_sem]
 have z0 := h.out.below hB0
 have hb0 := Bar.of_below (S := Sz F bm) hB0
 clear hW0 hB0 t0 t1 t2 t3 t4 t5 t6 t7 t8 r0 hR hT
 have hqS := hnN.out w.heap.size (Nat.le_refl _)
 refine (hwa.out W0 fur lv m b (Lib.hid z0) hb (by omega) (by omega) ho).mono ?_
 rintro e1 W1 ⟨rfl, z1, hb1'⟩
 have hb1 := hb0.trans hb1' fun _ _ h => h
 have q0 : W1.cell? _ = _ := hb1'.cell q0 hqS
 have q1 : W1.cell? _ = _ := hb1'.cell q1 hqS
 have q2 : W1.cell? _ = _ := hb1'.cell q2 hqS
 have q3 : W1.cell? _ = _ := hb1'.cell q3 hqS
 have q4 : W1.cell? _ = _ := hb1'.cell q4 hqS
 have q5 : W1.cell? _ = _ := hb1'.cell q5 hqS
 have q6 : W1.cell? _ = _ := hb1'.cell q6 hqS
 have q7 : W1.cell? _ = _ := hb1'.cell q7 hqS
 have q8 : W1.cell? _ = _ := hb1'.cell q8 hqS
 have hl0 : w.heap.size < W1.heap.size := Nat.lt_of_lt_of_le hl0 hb1'.size
 clear hb1' z0 hb0
 go_wp2_with fail
 refine (hwb.out W1 (rsW ts n xa b lv fur) lv m b (Lib.hid z1) hb (by omega) (by omega) ho).mono ?_
 rintro e2 W2 ⟨rfl, z2, hb2'⟩
 have hb2 := hb1.trans hb2' fun _ _ h => h
 have q0 : W2.cell? _ = _ := hb2'.cell q0 hqS
 have q1 : W2.cell? _ = _ := hb2'.cell q1 hqS
 have q2 : W2.cell? _ = _ := hb2'.cell q2 hqS
 have q3 : W2.cell? _ = _ := hb2'.cell q3 hqS
 have q4 : W2.cell? _ = _ := hb2'.cell q4 hqS
 have q5 : W2.cell? _ = _ := hb2'.cell q5 hqS
 have q6 : W2.cell? _ = _ := hb2'.cell q6 hqS
 have q7 : W2.cell? _ = _ := hb2'.cell q7 hqS
 have q8 : W2.cell? _ = _ := hb2'.cell q8 hqS
 have hl0 : w.heap.size < W2.heap.size := Nat.lt_of_lt_of_le hl0 hb2'.size
 clear hb2' z1 hb1
 go_wp2_with fail
 all_goals go_end0
 all_goals exact ⟨rfl, z2, hb2⟩
theorem walk_no (R F bm cp T off ct : Nat) (ts : List Tg) (n i : Nat) (hi : i < ts.length) (w : World) (fur : List Int) (lv : Lv) (m : Nat) (b : Int) (h : Hid (RzC R F bm cp T off ct ts w fur lv m)) (hb : 0 ≤ b) (hbi : b + 2 * (i : Int) ≤ 999990) (hmi : (m : Int) + 2 * (i : Int) ≤ 999990) (ho : lv.ok b)
  (xk xa xb xc xn xx xy xz xw : Int) (hx : ts.getD i tg0 = ⟨xk, xa, xb, xc, xn, xx, xy, xz, xw⟩) (hk : xk ≠ 0 ∧ xk ≠ 3 ∧ xk ≠ 4 ∧ xk ≠ 9 ∧ xk ≠ 6 ∧ xk ≠ 11 ∧ xk ≠ 12 ∧ xk ≠ 7 ∧ xk ≠ 5 ∧ xk ≠ 8 ∧ xk ≠ 10) :
  Calls Try.prog 30 #[.pointer (some ⟨R, 0, none⟩), .int .i64 i, .int .i64 b] w (RzP R F bm cp T off ct ts w fur lv m) := by
 have r0 := h.out.r0
 have hR := h.out.r
 have hT := h.out.t
 obtain ⟨t0, t1, t2, t3, t4, t5, t6, t7, t8⟩ := h.out.ts i hi
 rw [hx] at t0 t1 t2 t3 t4 t5 t6 t7 t8
 dsimp only at t0 t1 t2 t3 t4 t5 t6 t7 t8
 have hi0 : (0 : Int) ≤ (i : Int) := by omega
 have hi1 : (i : Int) < (ts.length : Int) := by omega
 obtain ⟨k0, k3, k4, k9, k6, k11, k12, k7, k5, k8, k10⟩ := hk
 clear hx
 have hnN := Lib.hid fun (k : Nat) (hk : w.heap.size ≤ k) => h.out.new hk
 go_enter Try.func30, Try.ntmps30
 go_wp2_with fail
 all_goals go_end0
 all_goals exact ⟨rfl, h.out.below (by (repeat' (first | (with_reducible first | exact bR _ _ | assumption | apply bS | apply bA | apply bD | apply bN | exact bL _) | (simp; done) | (simp; omega) | omega | exact bL _))), Bar.of_below (by (repeat' (first | (with_reducible first | exact bR _ _ | assumption | apply bS | apply bA | apply bD | apply bN | exact bL _) | (simp; done) | (simp; omega) | omega | exact bL _)))⟩
end Go.Proofs.Ytnjalpcmjkahkaa
