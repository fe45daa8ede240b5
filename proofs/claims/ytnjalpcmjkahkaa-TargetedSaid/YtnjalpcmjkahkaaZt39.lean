/- The reference's engine for targets: a value for a frame. -/
import Derived.Test.YtnjalpcmjkahkaaZt37
import Derived.Test.YtnjalpcmjkahkaaZt38
set_option maxRecDepth 100000
set_option maxHeartbeats 8000000
namespace Go.Proofs.Ytnjalpcmjkahkaa
open Go.RowKit
set_option linter.unusedVariables false
set_option linter.unusedSimpArgs false
theorem bx_fx {w W : World} {x : Fx} (hW : w.alloc (.cells #[.int .i64 x.st, .int .i64 x.nd, .pointer x.en, .int .i64 x.th.k, .int .i64 x.th.n, .int .i64 x.th.nd, .pointer x.th.en, .slice none 0 0, .pointer x.th.one, .pointer x.th.two] 91) = W) :
  Below w.heap.size w W ∧ W.heap.size = w.heap.size + 1 ∧ W.cell? ⟨w.heap.size, 0, none⟩ = some (.int .i64 x.st) ∧ W.cell? ⟨w.heap.size, 1, none⟩ = some (.int .i64 x.nd) ∧ W.cell? ⟨w.heap.size, 2, none⟩ = some (.pointer x.en) ∧ W.cell? ⟨w.heap.size, 3, none⟩ = some (.int .i64 x.th.k) ∧ W.cell? ⟨w.heap.size, 4, none⟩ = some (.int .i64 x.th.n) ∧ W.cell? ⟨w.heap.size, 5, none⟩ = some (.int .i64 x.th.nd) ∧ W.cell? ⟨w.heap.size, 6, none⟩ = some (.pointer x.th.en) ∧ W.cell? ⟨w.heap.size, 7, none⟩ = some (.slice none 0 0) ∧ W.cell? ⟨w.heap.size, 8, none⟩ = some (.pointer x.th.one) ∧ W.cell? ⟨w.heap.size, 9, none⟩ = some (.pointer x.th.two) := by
 subst hW
 refine ⟨by (repeat' (first | (with_reducible first | exact bR _ _ | assumption | apply bS | apply bA | apply bD | apply bN | exact bL _) | (simp; done) | (simp; omega) | omega | exact bL _)), by simp, by simp [go_sem], by simp [go_sem], by simp [go_sem], by simp [go_sem], by simp [go_sem], by simp [go_sem], by simp [go_sem], by simp [go_sem], by simp [go_sem], by simp [go_sem]⟩
theorem back_arg (B G : Nat) (tv sv : Value) (c : Ec) (l : List Fx) (ts : List Tg) (w : World) (stk : List NF) (v : NV) (i : Nat) (xen : Option Addr) (y : V7) (h : Hid (ERc B G tv sv c l w)) (hs : Hid (StX ts w stk l)) (hv : Hid (VR w v (.inl c.th))) (ht : Hid (TvR B G w tv ts)) (hi : i < ts.length) (hl : l.length ≤ 4096) (env : NV) (henv : Hid (VR w env (.inr xen))) (hk : (ndT ts i).k = 5) :
  Calls Try.prog 35 #[.pointer (some ⟨G, 0, none⟩), (Fx.mk 0 i xen y).val] w (NxP c.w0 ts B G tv (nFirst (ndT ts i) ⟨0, i, env, .num 0⟩ v stk)) := by
 obtain ⟨y0, y1, y2, y3, y4, y5⟩ := y
 unfold Fx.val
 dsimp only
 have hG := h.out.ec.lt
 have c0 := h.out.ec.c0
 have hth := h.out.ec.thG
 obtain ⟨T, off, cp, rfl, hTB, hTG, hTw, hT⟩ := ht.out
 have hx0 := hT i hi
 have hnd : ndT ts (i : Int) = ts.getD i tg0 := rfl
 obtain ⟨ct, hct⟩ : ∃ a, c.th = a := ⟨_, rfl⟩
 rw [hct] at hth
 obtain ⟨x, hx⟩ : ∃ x, ts.getD i tg0 = x := ⟨_, rfl⟩
 rw [hx] at hx0 hnd
 rw [hnd] at hk ⊢
 have hgoal : nFirst x ⟨0, i, env, .num 0⟩ v stk = .ev (⟨2, i, .nil, v⟩ :: stk) x.b env := by unfold nFirst; simp [hk]
 rw [hgoal]
 have hfx := Lib.hid (show FX ts w ⟨2, i, .nil, v⟩ ⟨1, i, none, ct⟩ from ⟨⟨by show (0 : Int) ≤ i; omega, by show (i : Int) < _; omega⟩, .inr (.inr ⟨rfl, rfl, hct ▸ hv.out⟩)⟩)
 have hq := Lib.hid fun (W : World) (hb : Below w.heap.size w W) => push_st h.out (ts := ts) ⟨1, i, none, ct⟩ W hb (by omega)
 have hnb := Lib.hid (h.out.nbox (g := w.heap.size) (Nat.le_refl _))
 have hnb2 := Lib.hid (h.out.nbox (g := w.heap.size + 1) (by omega))
 obtain ⟨z0, z1, z2, z3, z4, z5⟩ := ct
 obtain ⟨xk, xa, xb, xc, xn, xx, xy, xz, xw⟩ := x
 obtain ⟨t0, t1, t2, t3, t4, t5, t6, t7, t8⟩ := hx0
 dsimp only at t0 t1 t2 t3 t4 t5 t6 t7 t8
 have hct := Lib.hid hct
 clear hT hx hnd hv ht hgoal h
 go_enter Try.func35, Try.ntmps35
 go_upto_region 1 with fail
 obtain ⟨W1, hW1⟩ : ∃ W, w.alloc (.cells #[.int .i64 0, .int .i64 i, .pointer xen, .int .i64 y0, .int .i64 y1, .int .i64 y2, .pointer y3, .slice none 0 0, .pointer y4, .pointer y5] 91) = W := ⟨_, rfl⟩
 rw [hW1]
 obtain ⟨hb1, hs1, f0, f1, f2, f3, f4, f5, f6, f7, f8, f9⟩ := bx_fx (x := ⟨0, i, xen, ⟨y0, y1, y2, y3, y4, y5⟩⟩) hW1
 dsimp only at f0 f1 f2 f3 f4 f5 f6 f7 f8 f9
 have hG1 : G < W1.heap.size := Nat.lt_of_lt_of_le hG hb1.size
 have hT1 : T < W1.heap.size := Nat.lt_of_lt_of_le hTw hb1.size
 have hl1 : w.heap.size < W1.heap.size := by omega
 have c0 : W1.cell? _ = _ := carry hb1 hG c0
 have t0 : W1.cell? _ = _ := carry hb1 hTw t0
 have t1 : W1.cell? _ = _ := carry hb1 hTw t1
 have t2 : W1.cell? _ = _ := carry hb1 hTw t2
 have t3 : W1.cell? _ = _ := carry hb1 hTw t3
 have t4 : W1.cell? _ = _ := carry hb1 hTw t4
 have t5 : W1.cell? _ = _ := carry hb1 hTw t5
 have t6 : W1.cell? _ = _ := carry hb1 hTw t6
 have t7 : W1.cell? _ = _ := carry hb1 hTw t7
 have t8 : W1.cell? _ = _ := carry hb1 hTw t8
 have hi0 : (0 : Int) ≤ (i : Int) := by omega
 have hi1 : (i : Int) < (ts.length : Int) := by omega
 have hb1 := Lib.hid hb1
 clear hW1
 go_region
 obtain ⟨W0, hW0⟩ : ∃ W, (W1.alloc (.cells #[.int .i64 xk, .int .i64 xa, .int .i64 xb, .int .i64 xc, .int .i64 xn, .int .i64 xx, .int .i64 xy, .int .i64 xz, .int .i64 xw] 37)).drew = W := ⟨_, rfl⟩
 have hb2 : Below W1.heap.size W1 W0 := by rw [← hW0]; (repeat' (first | (with_reducible first | exact bR _ _ | assumption | apply bS | apply bA | apply bD | apply bN | exact bL _) | (simp; done) | (simp; omega) | omega | exact bL _))
 have hs2 : W0.heap.size = w.heap.size + 2 := by rw [← hW0]; simp; omega
 have n0 : W0.cell? ⟨w.heap.size + 1, 0, none⟩ = some (.int .i64 xk) := by rw [← hW0, ← hs1]; simp [go_sem]
 have n1 : W0.cell? ⟨w.heap.size + 1, 1, none⟩ = some (.int .i64 xa) := by rw [← hW0, ← hs1]; simp [go_sem]
 have n2 : W0.cell? ⟨w.heap.size + 1, 2, none⟩ = some (.int .i64 xb) := by rw [← hW0, ← hs1]; simp [go_sem]
 have n3 : W0.cell? ⟨w.heap.size + 1, 3, none⟩ = some (.int .i64 xc) := by rw [← hW0, ← hs1]; simp [go_sem]
 have n4 : W0.cell? ⟨w.heap.size + 1, 4, none⟩ = some (.int .i64 xn) := by rw [← hW0, ← hs1]; simp [go_sem]
 have n5 : W0.cell? ⟨w.heap.size + 1, 5, none⟩ = some (.int .i64 xx) := by rw [← hW0, ← hs1]; simp [go_sem]
 have n6 : W0.cell? ⟨w.heap.size + 1, 6, none⟩ = some (.int .i64 xy) := by rw [← hW0, ← hs1]; simp [go_sem]
 have n7 : W0.cell? ⟨w.heap.size + 1, 7, none⟩ = some (.int .i64 xz) := by rw [← hW0, ← hs1]; simp [go_sem]
 have n8 : W0.cell? ⟨w.heap.size + 1, 8, none⟩ = some (.int .i64 xw) := by rw [← hW0, ← hs1]; simp [go_sem]
 rw [hW0]
 have f0 : W0.cell? _ = _ := carry hb2 hl1 f0
 have f1 : W0.cell? _ = _ := carry hb2 hl1 f1
 have f2 : W0.cell? _ = _ := carry hb2 hl1 f2
 have f3 : W0.cell? _ = _ := carry hb2 hl1 f3
 have f4 : W0.cell? _ = _ := carry hb2 hl1 f4
 have f5 : W0.cell? _ = _ := carry hb2 hl1 f5
 have f6 : W0.cell? _ = _ := carry hb2 hl1 f6
 have f7 : W0.cell? _ = _ := carry hb2 hl1 f7
 have f8 : W0.cell? _ = _ := carry hb2 hl1 f8
 have f9 : W0.cell? _ = _ := carry hb2 hl1 f9
 have hb0 : Below w.heap.size w W0 := belT hb1.out hb2
 have hG0 : G < W0.heap.size := Nat.lt_of_lt_of_le hG hb0.size
 have hl0 : w.heap.size < W0.heap.size := by omega
 have hl2 : w.heap.size + 1 < W0.heap.size := by omega
 have hT0 := hth.below hG hb0
 have hT0 := Lib.hid hT0
 obtain ⟨c5, c6, c7, c8, c9, c10, c11⟩ := hT0.out
 dsimp only at c5 c6 c7 c8 c9 c10 c11
 have hnf : ¬ Bq G w.heap.size := fun e => by have e : w.heap.size = G := e; omega
 have hnv : ¬ Bq G (w.heap.size + 1) := fun e => by have e : w.heap.size + 1 = G := e; omega
 have hb0 := Lib.hid hb0
 clear hW0 hb2 hs1 hs2 t0 t1 t2 t3 t4 t5 t6 t7 t8 c0 hG1 hT1 hl1 hi0 hi1 hb1
 go_upto_region 13 with fail
 go_region_with (refine (hq.out _ (belT hb0.out (by (repeat' (first | (with_reducible first | exact bR _ _ | assumption | apply bS | apply bA | apply bD | apply bN | exact bL _) | (simp; done) | (simp; omega) | omega | exact bL _))))).mono ?_; rintro e1 w1 ⟨rfl, sv1, h1, hr1, hst1, hvr1⟩)
 all_goals
  have hB : Bar (Bp G sv) W0 w1 := (Bar.of_below (show Below W0.heap.size W0 _ by (repeat' (first | (with_reducible first | exact bR _ _ | assumption | apply bS | apply bA | apply bD | apply bN | exact bL _) | (simp; done) | (simp; omega) | omega | exact bL _)))).trans hr1 fun _ _ h => h
  have f2 : w1.cell? _ = _ := hB.cell f2 hnb.out
  have n2 : w1.cell? _ = _ := hB.cell n2 hnb2.out
  have q0 : w.heap.size < w1.heap.size := Nat.lt_of_lt_of_le hl0 hB.size
  have q1 : w.heap.size + 1 < w1.heap.size := Nat.lt_of_lt_of_le hl2 hB.size
  have hst2 := Lib.hid (hst1 hs.out hfx.out)
  have hen1 := Lib.hid (hvr1 henv.out)
  have h1 := Lib.hid h1
  clear hB hr1 hst1 hvr1 hq hfx hs henv f0 f1 f3 f4 f5 f6 f7 f8 f9 n0 n1 n3 n4 n5 n6 n7 n8 c5 c6 c7 c8 c9 c10 c11
  go_wp2_with fail
  refine (goes_st h1.out xb _ (by (repeat' (first | (with_reducible first | exact bR _ _ | assumption | apply bS | apply bA | apply bD | apply bN | exact bL _) | (simp; done) | (simp; omega) | omega | exact bL _))) (hst2.out.below (by (repeat' (first | (with_reducible first | exact bR _ _ | assumption | apply bS | apply bA | apply bD | apply bN | exact bL _) | (simp; done) | (simp; omega) | omega | exact bL _)))) (hen1.out.below (by (repeat' (first | (with_reducible first | exact bR _ _ | assumption | apply bS | apply bA | apply bD | apply bN | exact bL _) | (simp; done) | (simp; omega) | omega | exact bL _))))).mono ?_
  rintro e2 w2 ⟨hf, -, -⟩
  have he2 := hf.1
  subst he2
  have hf := Lib.hid hf
  clear h1 hst2 hen1
  go_wp2_with fail
  all_goals go_end0
  all_goals exact hf.out
theorem back_left (B G : Nat) (tv sv : Value) (c : Ec) (l : List Fx) (ts : List Tg) (w : World) (stk : List NF) (v : NV) (i : Nat) (xen : Option Addr) (y : V7) (h : Hid (ERc B G tv sv c l w)) (hs : Hid (StX ts w stk l)) (hv : Hid (VR w v (.inl c.th))) (ht : Hid (TvR B G w tv ts)) (hi : i < ts.length) (hl : l.length ≤ 4096) (env : NV) (henv : Hid (VR w env (.inr xen))) (hk : (ndT ts i).k = 8) :
  Calls Try.prog 35 #[.pointer (some ⟨G, 0, none⟩), (Fx.mk 4 i xen y).val] w (NxP c.w0 ts B G tv (nFirst (ndT ts i) ⟨0, i, env, .num 0⟩ v stk)) := by
 obtain ⟨y0, y1, y2, y3, y4, y5⟩ := y
 unfold Fx.val
 dsimp only
 have hG := h.out.ec.lt
 have c0 := h.out.ec.c0
 have hth := h.out.ec.thG
 obtain ⟨T, off, cp, rfl, hTB, hTG, hTw, hT⟩ := ht.out
 have hx0 := hT i hi
 have hnd : ndT ts (i : Int) = ts.getD i tg0 := rfl
 obtain ⟨ct, hct⟩ : ∃ a, c.th = a := ⟨_, rfl⟩
 rw [hct] at hth
 obtain ⟨x, hx⟩ : ∃ x, ts.getD i tg0 = x := ⟨_, rfl⟩
 rw [hx] at hx0 hnd
 rw [hnd] at hk ⊢
 have hgoal : nFirst x ⟨0, i, env, .num 0⟩ v stk = .ev (⟨1, i, .nil, v⟩ :: stk) x.b env := by unfold nFirst; simp [hk]
 rw [hgoal]
 have hfx := Lib.hid (show FX ts w ⟨1, i, .nil, v⟩ ⟨5, i, none, ct⟩ from ⟨⟨by show (0 : Int) ≤ i; omega, by show (i : Int) < _; omega⟩, .inr (.inl ⟨rfl, rfl, .inl ⟨by rw [hnd]; exact hk, rfl⟩, hct ▸ hv.out⟩)⟩)
 have hq := Lib.hid fun (W : World) (hb : Below w.heap.size w W) => push_st h.out (ts := ts) ⟨5, i, none, ct⟩ W hb (by omega)
 have hnb := Lib.hid (h.out.nbox (g := w.heap.size) (Nat.le_refl _))
 have hnb2 := Lib.hid (h.out.nbox (g := w.heap.size + 1) (by omega))
 obtain ⟨z0, z1, z2, z3, z4, z5⟩ := ct
 obtain ⟨xk, xa, xb, xc, xn, xx, xy, xz, xw⟩ := x
 obtain ⟨t0, t1, t2, t3, t4, t5, t6, t7, t8⟩ := hx0
 dsimp only at t0 t1 t2 t3 t4 t5 t6 t7 t8
 have hct := Lib.hid hct
 clear hT hx hnd hv ht hgoal h
 go_enter Try.func35, Try.ntmps35
 go_upto_region 1 with fail
 obtain ⟨W1, hW1⟩ : ∃ W, w.alloc (.cells #[.int .i64 4, .int .i64 i, .pointer xen, .int .i64 y0, .int .i64 y1, .int .i64 y2, .pointer y3, .slice none 0 0, .pointer y4, .pointer y5] 91) = W := ⟨_, rfl⟩
 rw [hW1]
 obtain ⟨hb1, hs1, f0, f1, f2, f3, f4, f5, f6, f7, f8, f9⟩ := bx_fx (x := ⟨4, i, xen, ⟨y0, y1, y2, y3, y4, y5⟩⟩) hW1
 dsimp only at f0 f1 f2 f3 f4 f5 f6 f7 f8 f9
 have hG1 : G < W1.heap.size := Nat.lt_of_lt_of_le hG hb1.size
 have hT1 : T < W1.heap.size := Nat.lt_of_lt_of_le hTw hb1.size
 have hl1 : w.heap.size < W1.heap.size := by omega
 have c0 : W1.cell? _ = _ := carry hb1 hG c0
 have t0 : W1.cell? _ = _ := carry hb1 hTw t0
 have t1 : W1.cell? _ = _ := carry hb1 hTw t1
 have t2 : W1.cell? _ = _ := carry hb1 hTw t2
 have t3 : W1.cell? _ = _ := carry hb1 hTw t3
 have t4 : W1.cell? _ = _ := carry hb1 hTw t4
 have t5 : W1.cell? _ = _ := carry hb1 hTw t5
 have t6 : W1.cell? _ = _ := carry hb1 hTw t6
 have t7 : W1.cell? _ = _ := carry hb1 hTw t7
 have t8 : W1.cell? _ = _ := carry hb1 hTw t8
 have hi0 : (0 : Int) ≤ (i : Int) := by omega
 have hi1 : (i : Int) < (ts.length : Int) := by omega
 have hb1 := Lib.hid hb1
 clear hW1
 go_region
 obtain ⟨W0, hW0⟩ : ∃ W, (W1.alloc (.cells #[.int .i64 xk, .int .i64 xa, .int .i64 xb, .int .i64 xc, .int .i64 xn, .int .i64 xx, .int .i64 xy, .int .i64 xz, .int .i64 xw] 37)).drew = W := ⟨_, rfl⟩
 have hb2 : Below W1.heap.size W1 W0 := by rw [← hW0]; (repeat' (first | (with_reducible first | exact bR _ _ | assumption | apply bS | apply bA | apply bD | apply bN | exact bL _) | (simp; done) | (simp; omega) | omega | exact bL _))
 have hs2 : W0.heap.size = w.heap.size + 2 := by rw [← hW0]; simp; omega
 have n0 : W0.cell? ⟨w.heap.size + 1, 0, none⟩ = some (.int .i64 xk) := by rw [← hW0, ← hs1]; simp [go_sem]
 have n1 : W0.cell? ⟨w.heap.size + 1, 1, none⟩ = some (.int .i64 xa) := by rw [← hW0, ← hs1]; simp [go_sem]
 have n2 : W0.cell? ⟨w.heap.size + 1, 2, none⟩ = some (.int .i64 xb) := by rw [← hW0, ← hs1]; simp [go_sem]
 have n3 : W0.cell? ⟨w.heap.size + 1, 3, none⟩ = some (.int .i64 xc) := by rw [← hW0, ← hs1]; simp [go_sem]
 have n4 : W0.cell? ⟨w.heap.size + 1, 4, none⟩ = some (.int .i64 xn) := by rw [← hW0, ← hs1]; simp [go_sem]
 have n5 : W0.cell? ⟨w.heap.size + 1, 5, none⟩ = some (.int .i64 xx) := by rw [← hW0, ← hs1]; simp [go_sem]
 have n6 : W0.cell? ⟨w.heap.size + 1, 6, none⟩ = some (.int .i64 xy) := by rw [← hW0, ← hs1]; simp [go_sem]
 have n7 : W0.cell? ⟨w.heap.size + 1, 7, none⟩ = some (.int .i64 xz) := by rw [← hW0, ← hs1]; simp [go_sem]
 have n8 : W0.cell? ⟨w.heap.size + 1, 8, none⟩ = some (.int .i64 xw) := by rw [← hW0, ← hs1]; simp [go_sem]
 rw [hW0]
 have f0 : W0.cell? _ = _ := carry hb2 hl1 f0
 have f1 : W0.cell? _ = _ := carry hb2 hl1 f1
 have f2 : W0.cell? _ = _ := carry hb2 hl1 f2
 have f3 : W0.cell? _ = _ := carry hb2 hl1 f3
 have f4 : W0.cell? _ = _ := carry hb2 hl1 f4
 have f5 : W0.cell? _ = _ := carry hb2 hl1 f5
 have f6 : W0.cell? _ = _ := carry hb2 hl1 f6
 have f7 : W0.cell? _ = _ := carry hb2 hl1 f7
 have f8 : W0.cell? _ = _ := carry hb2 hl1 f8
 have f9 : W0.cell? _ = _ := carry hb2 hl1 f9
 have hb0 : Below w.heap.size w W0 := belT hb1.out hb2
 have hG0 : G < W0.heap.size := Nat.lt_of_lt_of_le hG hb0.size
 have hl0 : w.heap.size < W0.heap.size := by omega
 have hl2 : w.heap.size + 1 < W0.heap.size := by omega
 have hT0 := hth.below hG hb0
 have hT0 := Lib.hid hT0
 obtain ⟨c5, c6, c7, c8, c9, c10, c11⟩ := hT0.out
 dsimp only at c5 c6 c7 c8 c9 c10 c11
 have hnf : ¬ Bq G w.heap.size := fun e => by have e : w.heap.size = G := e; omega
 have hnv : ¬ Bq G (w.heap.size + 1) := fun e => by have e : w.heap.size + 1 = G := e; omega
 have hb0 := Lib.hid hb0
 clear hW0 hb2 hs1 hs2 t0 t1 t2 t3 t4 t5 t6 t7 t8 c0 hG1 hT1 hl1 hi0 hi1 hb1
 go_upto_region 13 with fail
 go_region_with (refine (hq.out _ (belT hb0.out (by (repeat' (first | (with_reducible first | exact bR _ _ | assumption | apply bS | apply bA | apply bD | apply bN | exact bL _) | (simp; done) | (simp; omega) | omega | exact bL _))))).mono ?_; rintro e1 w1 ⟨rfl, sv1, h1, hr1, hst1, hvr1⟩)
 all_goals
  have hB : Bar (Bp G sv) W0 w1 := (Bar.of_below (show Below W0.heap.size W0 _ by (repeat' (first | (with_reducible first | exact bR _ _ | assumption | apply bS | apply bA | apply bD | apply bN | exact bL _) | (simp; done) | (simp; omega) | omega | exact bL _)))).trans hr1 fun _ _ h => h
  have f2 : w1.cell? _ = _ := hB.cell f2 hnb.out
  have n2 : w1.cell? _ = _ := hB.cell n2 hnb2.out
  have q0 : w.heap.size < w1.heap.size := Nat.lt_of_lt_of_le hl0 hB.size
  have q1 : w.heap.size + 1 < w1.heap.size := Nat.lt_of_lt_of_le hl2 hB.size
  have hst2 := Lib.hid (hst1 hs.out hfx.out)
  have hen1 := Lib.hid (hvr1 henv.out)
  have h1 := Lib.hid h1
  clear hB hr1 hst1 hvr1 hq hfx hs henv f0 f1 f3 f4 f5 f6 f7 f8 f9 n0 n1 n3 n4 n5 n6 n7 n8 c5 c6 c7 c8 c9 c10 c11
  go_wp2_with fail
  refine (goes_st h1.out xb _ (by (repeat' (first | (with_reducible first | exact bR _ _ | assumption | apply bS | apply bA | apply bD | apply bN | exact bL _) | (simp; done) | (simp; omega) | omega | exact bL _))) (hst2.out.below (by (repeat' (first | (with_reducible first | exact bR _ _ | assumption | apply bS | apply bA | apply bD | apply bN | exact bL _) | (simp; done) | (simp; omega) | omega | exact bL _)))) (hen1.out.below (by (repeat' (first | (with_reducible first | exact bR _ _ | assumption | apply bS | apply bA | apply bD | apply bN | exact bL _) | (simp; done) | (simp; omega) | omega | exact bL _))))).mono ?_
  rintro e2 w2 ⟨hf, -, -⟩
  have he2 := hf.1
  subst he2
  have hf := Lib.hid hf
  clear h1 hst2 hen1
  go_wp2_with fail
  all_goals go_end0
  all_goals exact hf.out
theorem back_opk (B G : Nat) (tv sv : Value) (c : Ec) (l : List Fx) (ts : List Tg) (w : World) (stk : List NF) (v : NV) (i : Nat) (xen : Option Addr) (y : V7) (h : Hid (ERc B G tv sv c l w)) (hs : Hid (StX ts w stk l)) (hv : Hid (VR w v (.inl c.th))) (ht : Hid (TvR B G w tv ts)) (hi : i < ts.length) (hl : l.length ≤ 4096) (env : NV) (henv : Hid (VR w env (.inr xen))) (hk : (ndT ts i).k = 10) :
  Calls Try.prog 35 #[.pointer (some ⟨G, 0, none⟩), (Fx.mk 9 i xen y).val] w (NxP c.w0 ts B G tv (nFirst (ndT ts i) ⟨0, i, env, .num 0⟩ v stk)) := by
 obtain ⟨y0, y1, y2, y3, y4, y5⟩ := y
 unfold Fx.val
 dsimp only
 have hG := h.out.ec.lt
 have c0 := h.out.ec.c0
 have hth := h.out.ec.thG
 obtain ⟨T, off, cp, rfl, hTB, hTG, hTw, hT⟩ := ht.out
 have hx0 := hT i hi
 have hnd : ndT ts (i : Int) = ts.getD i tg0 := rfl
 obtain ⟨ct, hct⟩ : ∃ a, c.th = a := ⟨_, rfl⟩
 rw [hct] at hth
 obtain ⟨x, hx⟩ : ∃ x, ts.getD i tg0 = x := ⟨_, rfl⟩
 rw [hx] at hx0 hnd
 rw [hnd] at hk ⊢
 have hgoal : nFirst x ⟨0, i, env, .num 0⟩ v stk = .ev (⟨1, i, .nil, v⟩ :: stk) x.b env := by unfold nFirst; simp [hk]
 rw [hgoal]
 have hfx := Lib.hid (show FX ts w ⟨1, i, .nil, v⟩ ⟨10, i, none, ct⟩ from ⟨⟨by show (0 : Int) ≤ i; omega, by show (i : Int) < _; omega⟩, .inr (.inl ⟨rfl, rfl, .inr ⟨by rw [hnd]; exact hk, rfl⟩, hct ▸ hv.out⟩)⟩)
 have hq := Lib.hid fun (W : World) (hb : Below w.heap.size w W) => push_st h.out (ts := ts) ⟨10, i, none, ct⟩ W hb (by omega)
 have hnb := Lib.hid (h.out.nbox (g := w.heap.size) (Nat.le_refl _))
 have hnb2 := Lib.hid (h.out.nbox (g := w.heap.size + 1) (by omega))
 obtain ⟨z0, z1, z2, z3, z4, z5⟩ := ct
 obtain ⟨xk, xa, xb, xc, xn, xx, xy, xz, xw⟩ := x
 obtain ⟨t0, t1, t2, t3, t4, t5, t6, t7, t8⟩ := hx0
 dsimp only at t0 t1 t2 t3 t4 t5 t6 t7 t8
 have hct := Lib.hid hct
 clear hT hx hnd hv ht hgoal h
 go_enter Try.func35, Try.ntmps35
 go_upto_region 1 with fail
 obtain ⟨W1, hW1⟩ : ∃ W, w.alloc (.cells #[.int .i64 9, .int .i64 i, .pointer xen, .int .i64 y0, .int .i64 y1, .int .i64 y2, .pointer y3, .slice none 0 0, .pointer y4, .pointer y5] 91) = W := ⟨_, rfl⟩
 rw [hW1]
 obtain ⟨hb1, hs1, f0, f1, f2, f3, f4, f5, f6, f7, f8, f9⟩ := bx_fx (x := ⟨9, i, xen, ⟨y0, y1, y2, y3, y4, y5⟩⟩) hW1
 dsimp only at f0 f1 f2 f3 f4 f5 f6 f7 f8 f9
 have hG1 : G < W1.heap.size := Nat.lt_of_lt_of_le hG hb1.size
 have hT1 : T < W1.heap.size := Nat.lt_of_lt_of_le hTw hb1.size
 have hl1 : w.heap.size < W1.heap.size := by omega
 have c0 : W1.cell? _ = _ := carry hb1 hG c0
 have t0 : W1.cell? _ = _ := carry hb1 hTw t0
 have t1 : W1.cell? _ = _ := carry hb1 hTw t1
 have t2 : W1.cell? _ = _ := carry hb1 hTw t2
 have t3 : W1.cell? _ = _ := carry hb1 hTw t3
 have t4 : W1.cell? _ = _ := carry hb1 hTw t4
 have t5 : W1.cell? _ = _ := carry hb1 hTw t5
 have t6 : W1.cell? _ = _ := carry hb1 hTw t6
 have t7 : W1.cell? _ = _ := carry hb1 hTw t7
 have t8 : W1.cell? _ = _ := carry hb1 hTw t8
 have hi0 : (0 : Int) ≤ (i : Int) := by omega
 have hi1 : (i : Int) < (ts.length : Int) := by omega
 have hb1 := Lib.hid hb1
 clear hW1
 go_region
 obtain ⟨W0, hW0⟩ : ∃ W, (W1.alloc (.cells #[.int .i64 xk, .int .i64 xa, .int .i64 xb, .int .i64 xc, .int .i64 xn, .int .i64 xx, .int .i64 xy, .int .i64 xz, .int .i64 xw] 37)).drew = W := ⟨_, rfl⟩
 have hb2 : Below W1.heap.size W1 W0 := by rw [← hW0]; (repeat' (first | (with_reducible first | exact bR _ _ | assumption | apply bS | apply bA | apply bD | apply bN | exact bL _) | (simp; done) | (simp; omega) | omega | exact bL _))
 have hs2 : W0.heap.size = w.heap.size + 2 := by rw [← hW0]; simp; omega
 have n0 : W0.cell? ⟨w.heap.size + 1, 0, none⟩ = some (.int .i64 xk) := by rw [← hW0, ← hs1]; simp [go_sem]
 have n1 : W0.cell? ⟨w.heap.size + 1, 1, none⟩ = some (.int .i64 xa) := by rw [← hW0, ← hs1]; simp [go_sem]
 have n2 : W0.cell? ⟨w.heap.size + 1, 2, none⟩ = some (.int .i64 xb) := by rw [← hW0, ← hs1]; simp [go_sem]
 have n3 : W0.cell? ⟨w.heap.size + 1, 3, none⟩ = some (.int .i64 xc) := by rw [← hW0, ← hs1]; simp [go_sem]
 have n4 : W0.cell? ⟨w.heap.size + 1, 4, none⟩ = some (.int .i64 xn) := by rw [← hW0, ← hs1]; simp [go_sem]
 have n5 : W0.cell? ⟨w.heap.size + 1, 5, none⟩ = some (.int .i64 xx) := by rw [← hW0, ← hs1]; simp [go_sem]
 have n6 : W0.cell? ⟨w.heap.size + 1, 6, none⟩ = some (.int .i64 xy) := by rw [← hW0, ← hs1]; simp [go_sem]
 have n7 : W0.cell? ⟨w.heap.size + 1, 7, none⟩ = some (.int .i64 xz) := by rw [← hW0, ← hs1]; simp [go_sem]
 have n8 : W0.cell? ⟨w.heap.size + 1, 8, none⟩ = some (.int .i64 xw) := by rw [← hW0, ← hs1]; simp [go_sem]
 rw [hW0]
 have f0 : W0.cell? _ = _ := carry hb2 hl1 f0
 have f1 : W0.cell? _ = _ := carry hb2 hl1 f1
 have f2 : W0.cell? _ = _ := carry hb2 hl1 f2
 have f3 : W0.cell? _ = _ := carry hb2 hl1 f3
 have f4 : W0.cell? _ = _ := carry hb2 hl1 f4
 have f5 : W0.cell? _ = _ := carry hb2 hl1 f5
 have f6 : W0.cell? _ = _ := carry hb2 hl1 f6
 have f7 : W0.cell? _ = _ := carry hb2 hl1 f7
 have f8 : W0.cell? _ = _ := carry hb2 hl1 f8
 have f9 : W0.cell? _ = _ := carry hb2 hl1 f9
 have hb0 : Below w.heap.size w W0 := belT hb1.out hb2
 have hG0 : G < W0.heap.size := Nat.lt_of_lt_of_le hG hb0.size
 have hl0 : w.heap.size < W0.heap.size := by omega
 have hl2 : w.heap.size + 1 < W0.heap.size := by omega
 have hT0 := hth.below hG hb0
 have hT0 := Lib.hid hT0
 obtain ⟨c5, c6, c7, c8, c9, c10, c11⟩ := hT0.out
 dsimp only at c5 c6 c7 c8 c9 c10 c11
 have hnf : ¬ Bq G w.heap.size := fun e => by have e : w.heap.size = G := e; omega
 have hnv : ¬ Bq G (w.heap.size + 1) := fun e => by have e : w.heap.size + 1 = G := e; omega
 have hb0 := Lib.hid hb0
 clear hW0 hb2 hs1 hs2 t0 t1 t2 t3 t4 t5 t6 t7 t8 c0 hG1 hT1 hl1 hi0 hi1 hb1
 go_upto_region 13 with fail
 go_region_with (refine (hq.out _ (belT hb0.out (by (repeat' (first | (with_reducible first | exact bR _ _ | assumption | apply bS | apply bA | apply bD | apply bN | exact bL _) | (simp; done) | (simp; omega) | omega | exact bL _))))).mono ?_; rintro e1 w1 ⟨rfl, sv1, h1, hr1, hst1, hvr1⟩)
 all_goals
  have hB : Bar (Bp G sv) W0 w1 := (Bar.of_below (show Below W0.heap.size W0 _ by (repeat' (first | (with_reducible first | exact bR _ _ | assumption | apply bS | apply bA | apply bD | apply bN | exact bL _) | (simp; done) | (simp; omega) | omega | exact bL _)))).trans hr1 fun _ _ h => h
  have f2 : w1.cell? _ = _ := hB.cell f2 hnb.out
  have n2 : w1.cell? _ = _ := hB.cell n2 hnb2.out
  have q0 : w.heap.size < w1.heap.size := Nat.lt_of_lt_of_le hl0 hB.size
  have q1 : w.heap.size + 1 < w1.heap.size := Nat.lt_of_lt_of_le hl2 hB.size
  have hst2 := Lib.hid (hst1 hs.out hfx.out)
  have hen1 := Lib.hid (hvr1 henv.out)
  have h1 := Lib.hid h1
  clear hB hr1 hst1 hvr1 hq hfx hs henv f0 f1 f3 f4 f5 f6 f7 f8 f9 n0 n1 n3 n4 n5 n6 n7 n8 c5 c6 c7 c8 c9 c10 c11
  go_wp2_with fail
  refine (goes_st h1.out xb _ (by (repeat' (first | (with_reducible first | exact bR _ _ | assumption | apply bS | apply bA | apply bD | apply bN | exact bL _) | (simp; done) | (simp; omega) | omega | exact bL _))) (hst2.out.below (by (repeat' (first | (with_reducible first | exact bR _ _ | assumption | apply bS | apply bA | apply bD | apply bN | exact bL _) | (simp; done) | (simp; omega) | omega | exact bL _)))) (hen1.out.below (by (repeat' (first | (with_reducible first | exact bR _ _ | assumption | apply bS | apply bA | apply bD | apply bN | exact bL _) | (simp; done) | (simp; omega) | omega | exact bL _))))).mono ?_
  rintro e2 w2 ⟨hf, -, -⟩
  have he2 := hf.1
  subst he2
  have hf := Lib.hid hf
  clear h1 hst2 hen1
  go_wp2_with fail
  all_goals go_end0
  all_goals exact hf.out
end Go.Proofs.Ytnjalpcmjkahkaa
