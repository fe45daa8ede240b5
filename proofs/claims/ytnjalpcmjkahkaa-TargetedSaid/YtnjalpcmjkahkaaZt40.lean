/- The reference's engine for targets: a value for a frame. -/
import Derived.Test.YtnjalpcmjkahkaaZt39
set_option maxRecDepth 100000
set_option maxHeartbeats 8000000
namespace Go.Proofs.Ytnjalpcmjkahkaa
open Go.RowKit
set_option linter.unusedVariables false
set_option linter.unusedSimpArgs false
theorem back_bind (B G : Nat) (tv sv : Value) (c : Ec) (l : List Fx) (ts : List Tg) (w : World) (stk : List NF) (v : NV) (i : Nat) (xen : Option Addr) (y : V7) (h : Hid (ERc B G tv sv c l w)) (hs : Hid (StX ts w stk l)) (hv : Hid (VR w v (.inl c.th))) (ht : Hid (TvR B G w tv ts)) (hi : i < ts.length) (hl : l.length ≤ 4096) (env : NV) (henv : Hid (VR w env (.inr xen))) (hk : (ndT ts i).k = 11) :
  Calls Try.prog 35 #[.pointer (some ⟨G, 0, none⟩), (Fx.mk 11 i xen y).val] w (NxP c.w0 ts B G tv (nFirst (ndT ts i) ⟨0, i, env, .num 0⟩ v stk)) := by
 obtain ⟨y0, y1, y2, y3, y4, y5⟩ := y
 unfold Fx.val
 dsimp only
 have hG := h.out.ec.lt
 have c0 := h.out.ec.c0
 have hth := h.out.ec.thG
 obtain ⟨T, off, cp, rfl, hTB, hTG, hTw, hT⟩ := ht.out
 have hx0 := hT i hi
 have hnd : ndT ts (i : Int) = ts.getD i tg0 := rfl
 obtain ⟨ct, hct⟩ : ∃ a, c.th = a := ⟨_, rfl⟩
 rw [hct] at hth
 obtain ⟨x, hx⟩ : ∃ x, ts.getD i tg0 = x := ⟨_, rfl⟩
 rw [hx] at hx0 hnd
 rw [hnd] at hk ⊢
 have hgoal : nFirst x ⟨0, i, env, .num 0⟩ v stk = nBind x stk i env v := by unfold nFirst; simp [hk]
 rw [hgoal]
 have hcall := Lib.hid fun (W : World) (hb : Below w.heap.size w W) => bind17_any B G (.slice (some ⟨T, off, none⟩) ts.length cp) sv c l ts W stk env v ⟨11, i, xen, ⟨y0, y1, y2, y3, y4, y5⟩⟩ x (Lib.hid (h.out.below hb)) (Lib.hid (hs.out.below hb)) (Lib.hid (henv.out.below hb)) (Lib.hid (hv.out.below hb)) hl
 obtain ⟨z0, z1, z2, z3, z4, z5⟩ := ct
 obtain ⟨xk, xa, xb, xc, xn, xx, xy, xz, xw⟩ := x
 obtain ⟨t0, t1, t2, t3, t4, t5, t6, t7, t8⟩ := hx0
 dsimp only at t0 t1 t2 t3 t4 t5 t6 t7 t8
 have hct := Lib.hid hct
 obtain ⟨R, hR⟩ : ∃ R, nBind ⟨xk, xa, xb, xc, xn, xx, xy, xz, xw⟩ stk i env v = R := ⟨_, rfl⟩
 rw [hR] at hcall ⊢
 unfold Fx.val Tg.val7 at hcall
 dsimp only at hcall
 clear hT hx hnd hv ht hgoal h hs hR hk henv
 go_enter Try.func35, Try.ntmps35
 go_upto_region 1 with fail
 obtain ⟨W1, hW1⟩ : ∃ W, w.alloc (.cells #[.int .i64 11, .int .i64 i, .pointer xen, .int .i64 y0, .int .i64 y1, .int .i64 y2, .pointer y3, .slice none 0 0, .pointer y4, .pointer y5] 91) = W := ⟨_, rfl⟩
 rw [hW1]
 obtain ⟨hb1, hs1, f0, f1, f2, f3, f4, f5, f6, f7, f8, f9⟩ := bx_fx (x := ⟨11, i, xen, ⟨y0, y1, y2, y3, y4, y5⟩⟩) hW1
 dsimp only at f0 f1 f2 f3 f4 f5 f6 f7 f8 f9
 have hG1 : G < W1.heap.size := Nat.lt_of_lt_of_le hG hb1.size
 have hT1 : T < W1.heap.size := Nat.lt_of_lt_of_le hTw hb1.size
 have hl1 : w.heap.size < W1.heap.size := by omega
 have c0 : W1.cell? _ = _ := carry hb1 hG c0
 have t0 : W1.cell? _ = _ := carry hb1 hTw t0
 have t1 : W1.cell? _ = _ := carry hb1 hTw t1
 have t2 : W1.cell? _ = _ := carry hb1 hTw t2
 have t3 : W1.cell? _ = _ := carry hb1 hTw t3
 have t4 : W1.cell? _ = _ := carry hb1 hTw t4
 have t5 : W1.cell? _ = _ := carry hb1 hTw t5
 have t6 : W1.cell? _ = _ := carry hb1 hTw t6
 have t7 : W1.cell? _ = _ := carry hb1 hTw t7
 have t8 : W1.cell? _ = _ := carry hb1 hTw t8
 have hi0 : (0 : Int) ≤ (i : Int) := by omega
 have hi1 : (i : Int) < (ts.length : Int) := by omega
 have hb1 := Lib.hid hb1
 clear hW1
 go_region
 obtain ⟨W0, hW0⟩ : ∃ W, (W1.alloc (.cells #[.int .i64 xk, .int .i64 xa, .int .i64 xb, .int .i64 xc, .int .i64 xn, .int .i64 xx, .int .i64 xy, .int .i64 xz, .int .i64 xw] 37)).drew = W := ⟨_, rfl⟩
 have hb2 : Below W1.heap.size W1 W0 := by rw [← hW0]; (repeat' (first | (with_reducible first | exact bR _ _ | assumption | apply bS | apply bA | apply bD | apply bN | exact bL _) | (simp; done) | (simp; omega) | omega | exact bL _))
 have hs2 : W0.heap.size = w.heap.size + 2 := by rw [← hW0]; simp; omega
 have n0 : W0.cell? ⟨w.heap.size + 1, 0, none⟩ = some (.int .i64 xk) := by rw [← hW0, ← hs1]; simp [go_sem]
 have n1 : W0.cell? ⟨w.heap.size + 1, 1, none⟩ = some (.int .i64 xa) := by rw [← hW0, ← hs1]; simp [go_sem]
 have n2 : W0.cell? ⟨w.heap.size + 1, 2, none⟩ = some (.int .i64 xb) := by rw [← hW0, ← hs1]; simp [go_sem]
 have n3 : W0.cell? ⟨w.heap.size + 1, 3, none⟩ = some (.int .i64 xc) := by rw [← hW0, ← hs1]; simp [go_sem]
 have n4 : W0.cell? ⟨w.heap.size + 1, 4, none⟩ = some (.int .i64 xn) := by rw [← hW0, ← hs1]; simp [go_sem]
 have n5 : W0.cell? ⟨w.heap.size + 1, 5, none⟩ = some (.int .i64 xx) := by rw [← hW0, ← hs1]; simp [go_sem]
 have n6 : W0.cell? ⟨w.heap.size + 1, 6, none⟩ = some (.int .i64 xy) := by rw [← hW0, ← hs1]; simp [go_sem]
 have n7 : W0.cell? ⟨w.heap.size + 1, 7, none⟩ = some (.int .i64 xz) := by rw [← hW0, ← hs1]; simp [go_sem]
 have n8 : W0.cell? ⟨w.heap.size + 1, 8, none⟩ = some (.int .i64 xw) := by rw [← hW0, ← hs1]; simp [go_sem]
 rw [hW0]
 have f0 : W0.cell? _ = _ := carry hb2 hl1 f0
 have f1 : W0.cell? _ = _ := carry hb2 hl1 f1
 have f2 : W0.cell? _ = _ := carry hb2 hl1 f2
 have f3 : W0.cell? _ = _ := carry hb2 hl1 f3
 have f4 : W0.cell? _ = _ := carry hb2 hl1 f4
 have f5 : W0.cell? _ = _ := carry hb2 hl1 f5
 have f6 : W0.cell? _ = _ := carry hb2 hl1 f6
 have f7 : W0.cell? _ = _ := carry hb2 hl1 f7
 have f8 : W0.cell? _ = _ := carry hb2 hl1 f8
 have f9 : W0.cell? _ = _ := carry hb2 hl1 f9
 have hb0 : Below w.heap.size w W0 := belT hb1.out hb2
 have hG0 : G < W0.heap.size := Nat.lt_of_lt_of_le hG hb0.size
 have hl0 : w.heap.size < W0.heap.size := by omega
 have hl2 : w.heap.size + 1 < W0.heap.size := by omega
 have hT0 := hth.below hG hb0
 have hT0 := Lib.hid hT0
 obtain ⟨c5, c6, c7, c8, c9, c10, c11⟩ := hT0.out
 dsimp only at c5 c6 c7 c8 c9 c10 c11
 have hnf : ¬ Bq G w.heap.size := fun e => by have e : w.heap.size = G := e; omega
 have hnv : ¬ Bq G (w.heap.size + 1) := fun e => by have e : w.heap.size + 1 = G := e; omega
 have hb0 := Lib.hid hb0
 clear hW0 hb2 hs1 hs2 t0 t1 t2 t3 t4 t5 t6 t7 t8 c0 hG1 hT1 hl1 hi0 hi1 hb1
 go_wp2_with fail
 refine (hcall.out _ (belT hb0.out (by (repeat' (first | (with_reducible first | exact bR _ _ | assumption | apply bS | apply bA | apply bD | apply bN | exact bL _) | (simp; done) | (simp; omega) | omega | exact bL _))))).mono ?_
 rintro e2 w2 hf
 have he2 := hf.1
 subst he2
 have hf := Lib.hid hf
 clear hcall
 go_wp2_with fail
 all_goals go_end0
 all_goals exact hf.out
theorem back_case (B G : Nat) (tv sv : Value) (c : Ec) (l : List Fx) (ts : List Tg) (w : World) (stk : List NF) (v : NV) (i : Nat) (xen : Option Addr) (y : V7) (h : Hid (ERc B G tv sv c l w)) (hs : Hid (StX ts w stk l)) (hv : Hid (VR w v (.inl c.th))) (ht : Hid (TvR B G w tv ts)) (hi : i < ts.length) (hl : l.length ≤ 4096) (env : NV) (henv : Hid (VR w env (.inr xen))) (hk : (ndT ts i).k = 12) :
  Calls Try.prog 35 #[.pointer (some ⟨G, 0, none⟩), (Fx.mk 12 i xen y).val] w (NxP c.w0 ts B G tv (nFirst (ndT ts i) ⟨0, i, env, .num 0⟩ v stk)) := by
 obtain ⟨y0, y1, y2, y3, y4, y5⟩ := y
 unfold Fx.val
 dsimp only
 have hG := h.out.ec.lt
 have c0 := h.out.ec.c0
 have hth := h.out.ec.thG
 obtain ⟨T, off, cp, rfl, hTB, hTG, hTw, hT⟩ := ht.out
 have hx0 := hT i hi
 have hnd : ndT ts (i : Int) = ts.getD i tg0 := rfl
 obtain ⟨ct, hct⟩ : ∃ a, c.th = a := ⟨_, rfl⟩
 rw [hct] at hth
 obtain ⟨x, hx⟩ : ∃ x, ts.getD i tg0 = x := ⟨_, rfl⟩
 rw [hx] at hx0 hnd
 rw [hnd] at hk ⊢
 have hgoal : nFirst x ⟨0, i, env, .num 0⟩ v stk = nCase x stk env v := by unfold nFirst; simp [hk]
 rw [hgoal]
 have hcall := Lib.hid fun (W : World) (hb : Below w.heap.size w W) => cases17_any B G (.slice (some ⟨T, off, none⟩) ts.length cp) sv c l ts W stk env v ⟨12, i, xen, ⟨y0, y1, y2, y3, y4, y5⟩⟩ x (Lib.hid (h.out.below hb)) (Lib.hid (hs.out.below hb)) (Lib.hid (henv.out.below hb)) (Lib.hid (hv.out.below hb)) hl
 obtain ⟨z0, z1, z2, z3, z4, z5⟩ := ct
 obtain ⟨xk, xa, xb, xc, xn, xx, xy, xz, xw⟩ := x
 obtain ⟨t0, t1, t2, t3, t4, t5, t6, t7, t8⟩ := hx0
 dsimp only at t0 t1 t2 t3 t4 t5 t6 t7 t8
 have hct := Lib.hid hct
 obtain ⟨R, hR⟩ : ∃ R, nCase ⟨xk, xa, xb, xc, xn, xx, xy, xz, xw⟩ stk env v = R := ⟨_, rfl⟩
 rw [hR] at hcall ⊢
 unfold Fx.val Tg.val7 at hcall
 dsimp only at hcall
 clear hT hx hnd hv ht hgoal h hs hR hk henv
 go_enter Try.func35, Try.ntmps35
 go_upto_region 1 with fail
 obtain ⟨W1, hW1⟩ : ∃ W, w.alloc (.cells #[.int .i64 12, .int .i64 i, .pointer xen, .int .i64 y0, .int .i64 y1, .int .i64 y2, .pointer y3, .slice none 0 0, .pointer y4, .pointer y5] 91) = W := ⟨_, rfl⟩
 rw [hW1]
 obtain ⟨hb1, hs1, f0, f1, f2, f3, f4, f5, f6, f7, f8, f9⟩ := bx_fx (x := ⟨12, i, xen, ⟨y0, y1, y2, y3, y4, y5⟩⟩) hW1
 dsimp only at f0 f1 f2 f3 f4 f5 f6 f7 f8 f9
 have hG1 : G < W1.heap.size := Nat.lt_of_lt_of_le hG hb1.size
 have hT1 : T < W1.heap.size := Nat.lt_of_lt_of_le hTw hb1.size
 have hl1 : w.heap.size < W1.heap.size := by omega
 have c0 : W1.cell? _ = _ := carry hb1 hG c0
 have t0 : W1.cell? _ = _ := carry hb1 hTw t0
 have t1 : W1.cell? _ = _ := carry hb1 hTw t1
 have t2 : W1.cell? _ = _ := carry hb1 hTw t2
 have t3 : W1.cell? _ = _ := carry hb1 hTw t3
 have t4 : W1.cell? _ = _ := carry hb1 hTw t4
 have t5 : W1.cell? _ = _ := carry hb1 hTw t5
 have t6 : W1.cell? _ = _ := carry hb1 hTw t6
 have t7 : W1.cell? _ = _ := carry hb1 hTw t7
 have t8 : W1.cell? _ = _ := carry hb1 hTw t8
 have hi0 : (0 : Int) ≤ (i : Int) := by omega
 have hi1 : (i : Int) < (ts.length : Int) := by omega
 have hb1 := Lib.hid hb1
 clear hW1
 go_region
 obtain ⟨W0, hW0⟩ : ∃ W, (W1.alloc (.cells #[.int .i64 xk, .int .i64 xa, .int .i64 xb, .int .i64 xc, .int .i64 xn, .int .i64 xx, .int .i64 xy, .int .i64 xz, .int .i64 xw] 37)).drew = W := ⟨_, rfl⟩
 have hb2 : Below W1.heap.size W1 W0 := by rw [← hW0]; (repeat' (first | (with_reducible first | exact bR _ _ | assumption | apply bS | apply bA | apply bD | apply bN | exact bL _) | (simp; done) | (simp; omega) | omega | exact bL _))
 have hs2 : W0.heap.size = w.heap.size + 2 := by rw [← hW0]; simp; omega
 have n0 : W0.cell? ⟨w.heap.size + 1, 0, none⟩ = some (.int .i64 xk) := by rw [← hW0, ← hs1]; simp [go_sem]
 have n1 : W0.cell? ⟨w.heap.size + 1, 1, none⟩ = some (.int .i64 xa) := by rw [← hW0, ← hs1]; simp [go_sem]
 have n2 : W0.cell? ⟨w.heap.size + 1, 2, none⟩ = some (.int .i64 xb) := by rw [← hW0, ← hs1]; simp [go_sem]
 have n3 : W0.cell? ⟨w.heap.size + 1, 3, none⟩ = some (.int .i64 xc) := by rw [← hW0, ← hs1]; simp [go_sem]
 have n4 : W0.cell? ⟨w.heap.size + 1, 4, none⟩ = some (.int .i64 xn) := by rw [← hW0, ← hs1]; simp [go_sem]
 have n5 : W0.cell? ⟨w.heap.size + 1, 5, none⟩ = some (.int .i64 xx) := by rw [← hW0, ← hs1]; simp [go_sem]
 have n6 : W0.cell? ⟨w.heap.size + 1, 6, none⟩ = some (.int .i64 xy) := by rw [← hW0, ← hs1]; simp [go_sem]
 have n7 : W0.cell? ⟨w.heap.size + 1, 7, none⟩ = some (.int .i64 xz) := by rw [← hW0, ← hs1]; simp [go_sem]
 have n8 : W0.cell? ⟨w.heap.size + 1, 8, none⟩ = some (.int .i64 xw) := by rw [← hW0, ← hs1]; simp [go_sem]
 rw [hW0]
 have f0 : W0.cell? _ = _ := carry hb2 hl1 f0
 have f1 : W0.cell? _ = _ := carry hb2 hl1 f1
 have f2 : W0.cell? _ = _ := carry hb2 hl1 f2
 have f3 : W0.cell? _ = _ := carry hb2 hl1 f3
 have f4 : W0.cell? _ = _ := carry hb2 hl1 f4
 have f5 : W0.cell? _ = _ := carry hb2 hl1 f5
 have f6 : W0.cell? _ = _ := carry hb2 hl1 f6
 have f7 : W0.cell? _ = _ := carry hb2 hl1 f7
 have f8 : W0.cell? _ = _ := carry hb2 hl1 f8
 have f9 : W0.cell? _ = _ := carry hb2 hl1 f9
 have hb0 : Below w.heap.size w W0 := belT hb1.out hb2
 have hG0 : G < W0.heap.size := Nat.lt_of_lt_of_le hG hb0.size
 have hl0 : w.heap.size < W0.heap.size := by omega
 have hl2 : w.heap.size + 1 < W0.heap.size := by omega
 have hT0 := hth.below hG hb0
 have hT0 := Lib.hid hT0
 obtain ⟨c5, c6, c7, c8, c9, c10, c11⟩ := hT0.out
 dsimp only at c5 c6 c7 c8 c9 c10 c11
 have hnf : ¬ Bq G w.heap.size := fun e => by have e : w.heap.size = G := e; omega
 have hnv : ¬ Bq G (w.heap.size + 1) := fun e => by have e : w.heap.size + 1 = G := e; omega
 have hb0 := Lib.hid hb0
 clear hW0 hb2 hs1 hs2 t0 t1 t2 t3 t4 t5 t6 t7 t8 c0 hG1 hT1 hl1 hi0 hi1 hb1
 go_wp2_with fail
 refine (hcall.out _ (belT hb0.out (by (repeat' (first | (with_reducible first | exact bR _ _ | assumption | apply bS | apply bA | apply bD | apply bN | exact bL _) | (simp; done) | (simp; omega) | omega | exact bL _))))).mono ?_
 rintro e2 w2 hf
 have he2 := hf.1
 subst he2
 have hf := Lib.hid hf
 clear hcall
 go_wp2_with fail
 all_goals go_end0
 all_goals exact hf.out
theorem back_call (B G : Nat) (tv sv : Value) (c : Ec) (l : List Fx) (ts : List Tg) (w : World) (stk : List NF) (v : NV) (i : Nat) (xen : Option Addr) (y : V7) (h : Hid (ERc B G tv sv c l w)) (hs : Hid (StX ts w stk l)) (hv : Hid (VR w v (.inl c.th))) (ht : Hid (TvR B G w tv ts)) (hi : i < ts.length) (hl : l.length ≤ 4096) (u : NV) (hu : Hid (VR w u (.inl y))) (hce : Hid (c.ev = false)) (fur : List Int) {K : Nat} (hfit : u.er.fit ts.length K) (hsc : u.sc ts fur) :
  Calls Try.prog 35 #[.pointer (some ⟨G, 0, none⟩), (Fx.mk 1 i xen y).val] w (NxP c.w0 ts B G tv (nApply ts u v stk)) := by
 have hcall := Lib.hid fun (W : World) (hb : Below w.heap.size w W) (ht : Hid (TvR B G W tv ts)) => call17_any B G tv sv c l ts fur W stk u v y (Lib.hid (h.out.below hb)) hce (Lib.hid (hs.out.below hb)) (Lib.hid (hu.out.below hb)) (Lib.hid (hv.out.below hb)) ht (by omega) hfit hsc hl
 have htv := Lib.hid fun (W : World) (hb : Below w.heap.size w W) => (by
  obtain ⟨T, off, cp, e, hTB, hTG, hTw, hT⟩ := ht.out
  exact ⟨T, off, cp, e, hTB, hTG, Nat.lt_of_lt_of_le hTw hb.size, hT.below hb hTw⟩ : TvR B G W tv ts)
 obtain ⟨y0, y1, y2, y3, y4, y5⟩ := y
 unfold Fx.val
 dsimp only
 have hG := h.out.ec.lt
 have c0 := h.out.ec.c0
 have hth := h.out.ec.thG
 obtain ⟨T, off, cp, rfl, hTB, hTG, hTw, hT⟩ := ht.out
 have hx0 := hT i hi
 have hnd : ndT ts (i : Int) = ts.getD i tg0 := rfl
 obtain ⟨ct, hct⟩ : ∃ a, c.th = a := ⟨_, rfl⟩
 rw [hct] at hth
 obtain ⟨x, hx⟩ : ∃ x, ts.getD i tg0 = x := ⟨_, rfl⟩
 rw [hx] at hx0 hnd
 obtain ⟨z0, z1, z2, z3, z4, z5⟩ := ct
 obtain ⟨xk, xa, xb, xc, xn, xx, xy, xz, xw⟩ := x
 obtain ⟨t0, t1, t2, t3, t4, t5, t6, t7, t8⟩ := hx0
 dsimp only at t0 t1 t2 t3 t4 t5 t6 t7 t8
 have hct := Lib.hid hct
 obtain ⟨R, hR⟩ : ∃ R, nApply ts u v stk = R := ⟨_, rfl⟩
 rw [hR] at hcall ⊢
 unfold V7.val at hcall
 dsimp only at hcall
 clear hT hx hnd hv ht h hs hR hu hsc hfit
 go_enter Try.func35, Try.ntmps35
 go_upto_region 1 with fail
 obtain ⟨W1, hW1⟩ : ∃ W, w.alloc (.cells #[.int .i64 1, .int .i64 i, .pointer xen, .int .i64 y0, .int .i64 y1, .int .i64 y2, .pointer y3, .slice none 0 0, .pointer y4, .pointer y5] 91) = W := ⟨_, rfl⟩
 rw [hW1]
 obtain ⟨hb1, hs1, f0, f1, f2, f3, f4, f5, f6, f7, f8, f9⟩ := bx_fx (x := ⟨1, i, xen, ⟨y0, y1, y2, y3, y4, y5⟩⟩) hW1
 dsimp only at f0 f1 f2 f3 f4 f5 f6 f7 f8 f9
 have hG1 : G < W1.heap.size := Nat.lt_of_lt_of_le hG hb1.size
 have hT1 : T < W1.heap.size := Nat.lt_of_lt_of_le hTw hb1.size
 have hl1 : w.heap.size < W1.heap.size := by omega
 have c0 : W1.cell? _ = _ := carry hb1 hG c0
 have t0 : W1.cell? _ = _ := carry hb1 hTw t0
 have t1 : W1.cell? _ = _ := carry hb1 hTw t1
 have t2 : W1.cell? _ = _ := carry hb1 hTw t2
 have t3 : W1.cell? _ = _ := carry hb1 hTw t3
 have t4 : W1.cell? _ = _ := carry hb1 hTw t4
 have t5 : W1.cell? _ = _ := carry hb1 hTw t5
 have t6 : W1.cell? _ = _ := carry hb1 hTw t6
 have t7 : W1.cell? _ = _ := carry hb1 hTw t7
 have t8 : W1.cell? _ = _ := carry hb1 hTw t8
 have hi0 : (0 : Int) ≤ (i : Int) := by omega
 have hi1 : (i : Int) < (ts.length : Int) := by omega
 have hb1 := Lib.hid hb1
 clear hW1
 go_region
 obtain ⟨W0, hW0⟩ : ∃ W, (W1.alloc (.cells #[.int .i64 xk, .int .i64 xa, .int .i64 xb, .int .i64 xc, .int .i64 xn, .int .i64 xx, .int .i64 xy, .int .i64 xz, .int .i64 xw] 37)).drew = W := ⟨_, rfl⟩
 have hb2 : Below W1.heap.size W1 W0 := by rw [← hW0]; (repeat' (first | (with_reducible first | exact bR _ _ | assumption | apply bS | apply bA | apply bD | apply bN | exact bL _) | (simp; done) | (simp; omega) | omega | exact bL _))
 have hs2 : W0.heap.size = w.heap.size + 2 := by rw [← hW0]; simp; omega
 have n0 : W0.cell? ⟨w.heap.size + 1, 0, none⟩ = some (.int .i64 xk) := by rw [← hW0, ← hs1]; simp [go_sem]
 have n1 : W0.cell? ⟨w.heap.size + 1, 1, none⟩ = some (.int .i64 xa) := by rw [← hW0, ← hs1]; simp [go_sem]
 have n2 : W0.cell? ⟨w.heap.size + 1, 2, none⟩ = some (.int .i64 xb) := by rw [← hW0, ← hs1]; simp [go_sem]
 have n3 : W0.cell? ⟨w.heap.size + 1, 3, none⟩ = some (.int .i64 xc) := by rw [← hW0, ← hs1]; simp [go_sem]
 have n4 : W0.cell? ⟨w.heap.size + 1, 4, none⟩ = some (.int .i64 xn) := by rw [← hW0, ← hs1]; simp [go_sem]
 have n5 : W0.cell? ⟨w.heap.size + 1, 5, none⟩ = some (.int .i64 xx) := by rw [← hW0, ← hs1]; simp [go_sem]
 have n6 : W0.cell? ⟨w.heap.size + 1, 6, none⟩ = some (.int .i64 xy) := by rw [← hW0, ← hs1]; simp [go_sem]
 have n7 : W0.cell? ⟨w.heap.size + 1, 7, none⟩ = some (.int .i64 xz) := by rw [← hW0, ← hs1]; simp [go_sem]
 have n8 : W0.cell? ⟨w.heap.size + 1, 8, none⟩ = some (.int .i64 xw) := by rw [← hW0, ← hs1]; simp [go_sem]
 rw [hW0]
 have f0 : W0.cell? _ = _ := carry hb2 hl1 f0
 have f1 : W0.cell? _ = _ := carry hb2 hl1 f1
 have f2 : W0.cell? _ = _ := carry hb2 hl1 f2
 have f3 : W0.cell? _ = _ := carry hb2 hl1 f3
 have f4 : W0.cell? _ = _ := carry hb2 hl1 f4
 have f5 : W0.cell? _ = _ := carry hb2 hl1 f5
 have f6 : W0.cell? _ = _ := carry hb2 hl1 f6
 have f7 : W0.cell? _ = _ := carry hb2 hl1 f7
 have f8 : W0.cell? _ = _ := carry hb2 hl1 f8
 have f9 : W0.cell? _ = _ := carry hb2 hl1 f9
 have hb0 : Below w.heap.size w W0 := belT hb1.out hb2
 have hG0 : G < W0.heap.size := Nat.lt_of_lt_of_le hG hb0.size
 have hl0 : w.heap.size < W0.heap.size := by omega
 have hl2 : w.heap.size + 1 < W0.heap.size := by omega
 have hT0 := hth.below hG hb0
 have hT0 := Lib.hid hT0
 obtain ⟨c5, c6, c7, c8, c9, c10, c11⟩ := hT0.out
 dsimp only at c5 c6 c7 c8 c9 c10 c11
 have hnf : ¬ Bq G w.heap.size := fun e => by have e : w.heap.size = G := e; omega
 have hnv : ¬ Bq G (w.heap.size + 1) := fun e => by have e : w.heap.size + 1 = G := e; omega
 have hb0 := Lib.hid hb0
 clear hW0 hb2 hs1 hs2 t0 t1 t2 t3 t4 t5 t6 t7 t8 c0 hG1 hT1 hl1 hi0 hi1 hb1
 go_wp2_with fail
 refine (hcall.out _ (belT hb0.out (by (repeat' (first | (with_reducible first | exact bR _ _ | assumption | apply bS | apply bA | apply bD | apply bN | exact bL _) | (simp; done) | (simp; omega) | omega | exact bL _)))) (Lib.hid (htv.out _ (belT hb0.out (by (repeat' (first | (with_reducible first | exact bR _ _ | assumption | apply bS | apply bA | apply bD | apply bN | exact bL _) | (simp; done) | (simp; omega) | omega | exact bL _))))))).mono ?_
 rintro e2 w2 hf
 have he2 := hf.1
 subst he2
 have hf := Lib.hid hf
 clear hcall
 go_wp2_with fail
 all_goals go_end0
 all_goals exact hf.out
end Go.Proofs.Ytnjalpcmjkahkaa
