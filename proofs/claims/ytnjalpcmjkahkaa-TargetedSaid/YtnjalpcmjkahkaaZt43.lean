/- The reference's engine for targets: a value for a frame. -/
import Derived.Test.YtnjalpcmjkahkaaZt27
import Derived.Test.YtnjalpcmjkahkaaZt39
import Derived.Test.YtnjalpcmjkahkaaZt42
import Derived.Deep.DeepCutAuto
set_option maxRecDepth 100000
set_option maxHeartbeats 8000000
namespace Go.Proofs.Ytnjalpcmjkahkaa
open Go.RowKit
set_option linter.unusedVariables false
set_option linter.unusedSimpArgs false
theorem back_let (B G : Nat) (tv sv : Value) (c : Ec) (l : List Fx) (ts : List Tg) (w : World) (stk : List NF) (v : NV) (i : Nat) (xen : Option Addr) (y : V7) (h : Hid (ERc B G tv sv c l w)) (hs : Hid (StX ts w stk l)) (hv : Hid (VR w v (.inl c.th))) (ht : Hid (TvR B G w tv ts)) (hi : i < ts.length) (hl : l.length ≤ 4096) (env : NV) (henv : Hid (VR w env (.inr xen))) (hk : (ndT ts i).k = 6) :
  Calls Try.prog 35 #[.pointer (some ⟨G, 0, none⟩), (Fx.mk 2 i xen y).val] w (NxP c.w0 ts B G tv (nFirst (ndT ts i) ⟨0, i, env, .num 0⟩ v stk)) := by
 obtain ⟨y0, y1, y2, y3, y4, y5⟩ := y
 unfold Fx.val
 dsimp only
 have hG := h.out.ec.lt
 have c0 := h.out.ec.c0
 have hth := h.out.ec.thG
 obtain ⟨T, off, cp, rfl, hTB, hTG, hTw, hT⟩ := ht.out
 have hx0 := hT i hi
 have hnd : ndT ts (i : Int) = ts.getD i tg0 := rfl
 obtain ⟨ct, hct⟩ : ∃ a, c.th = a := ⟨_, rfl⟩
 rw [hct] at hth
 obtain ⟨x, hx⟩ : ∃ x, ts.getD i tg0 = x := ⟨_, rfl⟩
 rw [hx] at hx0 hnd
 rw [hnd] at hk ⊢
 have hgoal : nFirst x ⟨0, i, env, .num 0⟩ v stk = .ev stk x.b (.cons x.x v env) := by unfold nFirst; simp [hk]
 rw [hgoal]
 have hgo := Lib.hid fun (env : NV) (p : Option Addr) (n : Int) (W : World) (hb : Below w.heap.size w W) (he : VR W env (.inr p)) => goes_st h.out n W hb (hs.out.below hb) he
 have henv := Lib.hid fun (W : World) hb => henv.out.below (W' := W) hb
 have hvv := Lib.hid fun (W : World) hb => hv.out.below (W' := W) hb
 rw [hct] at hvv
 obtain ⟨z0, z1, z2, z3, z4, z5⟩ := ct
 obtain ⟨xk, xa, xb, xc, xn, xx, xy, xz, xw⟩ := x
 obtain ⟨t0, t1, t2, t3, t4, t5, t6, t7, t8⟩ := hx0
 dsimp only at t0 t1 t2 t3 t4 t5 t6 t7 t8
 have hct := Lib.hid hct
 dsimp only
 clear hT hx hnd hv ht hgoal h hs
 go_enter Try.func35, Try.ntmps35
 go_upto_region 1 with fail
 obtain ⟨W1, hW1⟩ : ∃ W, w.alloc (.cells #[.int .i64 2, .int .i64 i, .pointer xen, .int .i64 y0, .int .i64 y1, .int .i64 y2, .pointer y3, .slice none 0 0, .pointer y4, .pointer y5] 91) = W := ⟨_, rfl⟩
 rw [hW1]
 obtain ⟨hb1, hs1, f0, f1, f2, f3, f4, f5, f6, f7, f8, f9⟩ := bx_fx (x := ⟨2, i, xen, ⟨y0, y1, y2, y3, y4, y5⟩⟩) hW1
 dsimp only at f0 f1 f2 f3 f4 f5 f6 f7 f8 f9
 have hG1 : G < W1.heap.size := Nat.lt_of_lt_of_le hG hb1.size
 have hT1 : T < W1.heap.size := Nat.lt_of_lt_of_le hTw hb1.size
 have hl1 : w.heap.size < W1.heap.size := by omega
 have c0 : W1.cell? _ = _ := carry hb1 hG c0
 have t0 : W1.cell? _ = _ := carry hb1 hTw t0
 have t1 : W1.cell? _ = _ := carry hb1 hTw t1
 have t2 : W1.cell? _ = _ := carry hb1 hTw t2
 have t3 : W1.cell? _ = _ := carry hb1 hTw t3
 have t4 : W1.cell? _ = _ := carry hb1 hTw t4
 have t5 : W1.cell? _ = _ := carry hb1 hTw t5
 have t6 : W1.cell? _ = _ := carry hb1 hTw t6
 have t7 : W1.cell? _ = _ := carry hb1 hTw t7
 have t8 : W1.cell? _ = _ := carry hb1 hTw t8
 have hi0 : (0 : Int) ≤ (i : Int) := by omega
 have hi1 : (i : Int) < (ts.length : Int) := by omega
 have hb1 := Lib.hid hb1
 clear hW1
 go_region
 obtain ⟨W0, hW0⟩ : ∃ W, (W1.alloc (.cells #[.int .i64 xk, .int .i64 xa, .int .i64 xb, .int .i64 xc, .int .i64 xn, .int .i64 xx, .int .i64 xy, .int .i64 xz, .int .i64 xw] 37)).drew = W := ⟨_, rfl⟩
 have hb2 : Below W1.heap.size W1 W0 := by rw [← hW0]; (repeat' (first | (with_reducible first | exact bR _ _ | assumption | apply bS | apply bA | apply bD | apply bN | exact bL _) | (simp; done) | (simp; omega) | omega | exact bL _))
 have hs2 : W0.heap.size = w.heap.size + 2 := by rw [← hW0]; simp; omega
 have n0 : W0.cell? ⟨w.heap.size + 1, 0, none⟩ = some (.int .i64 xk) := by rw [← hW0, ← hs1]; simp [go_sem]
 have n1 : W0.cell? ⟨w.heap.size + 1, 1, none⟩ = some (.int .i64 xa) := by rw [← hW0, ← hs1]; simp [go_sem]
 have n2 : W0.cell? ⟨w.heap.size + 1, 2, none⟩ = some (.int .i64 xb) := by rw [← hW0, ← hs1]; simp [go_sem]
 have n3 : W0.cell? ⟨w.heap.size + 1, 3, none⟩ = some (.int .i64 xc) := by rw [← hW0, ← hs1]; simp [go_sem]
 have n4 : W0.cell? ⟨w.heap.size + 1, 4, none⟩ = some (.int .i64 xn) := by rw [← hW0, ← hs1]; simp [go_sem]
 have n5 : W0.cell? ⟨w.heap.size + 1, 5, none⟩ = some (.int .i64 xx) := by rw [← hW0, ← hs1]; simp [go_sem]
 have n6 : W0.cell? ⟨w.heap.size + 1, 6, none⟩ = some (.int .i64 xy) := by rw [← hW0, ← hs1]; simp [go_sem]
 have n7 : W0.cell? ⟨w.heap.size + 1, 7, none⟩ = some (.int .i64 xz) := by rw [← hW0, ← hs1]; simp [go_sem]
 have n8 : W0.cell? ⟨w.heap.size + 1, 8, none⟩ = some (.int .i64 xw) := by rw [← hW0, ← hs1]; simp [go_sem]
 rw [hW0]
 have f0 : W0.cell? _ = _ := carry hb2 hl1 f0
 have f1 : W0.cell? _ = _ := carry hb2 hl1 f1
 have f2 : W0.cell? _ = _ := carry hb2 hl1 f2
 have f3 : W0.cell? _ = _ := carry hb2 hl1 f3
 have f4 : W0.cell? _ = _ := carry hb2 hl1 f4
 have f5 : W0.cell? _ = _ := carry hb2 hl1 f5
 have f6 : W0.cell? _ = _ := carry hb2 hl1 f6
 have f7 : W0.cell? _ = _ := carry hb2 hl1 f7
 have f8 : W0.cell? _ = _ := carry hb2 hl1 f8
 have f9 : W0.cell? _ = _ := carry hb2 hl1 f9
 have hb0 : Below w.heap.size w W0 := belT hb1.out hb2
 have hG0 : G < W0.heap.size := Nat.lt_of_lt_of_le hG hb0.size
 have hl0 : w.heap.size < W0.heap.size := by omega
 have hl2 : w.heap.size + 1 < W0.heap.size := by omega
 have hT0 := hth.below hG hb0
 have hT0 := Lib.hid hT0
 obtain ⟨c5, c6, c7, c8, c9, c10, c11⟩ := hT0.out
 dsimp only at c5 c6 c7 c8 c9 c10 c11
 have hnf : ¬ Bq G w.heap.size := fun e => by have e : w.heap.size = G := e; omega
 have hnv : ¬ Bq G (w.heap.size + 1) := fun e => by have e : w.heap.size + 1 = G := e; omega
 have hb0 := Lib.hid hb0
 clear hW0 hb2 hs1 hs2 t0 t1 t2 t3 t4 t5 t6 t7 t8 c0 hG1 hT1 hl1 hi0 hi1 hb1
 go_upto_region 18 with fail
 refine wp_region_held_drew (S := fun W => Bar (Bq G) W0 W ∧ ThG W G ⟨z0, z1, z2, z3, z4, z5⟩) (by kernel_rfl) (⟨Bar.of_below ((Below.refl _ _).drew), hT0.out.below hG0 ((Below.refl _ _).drew)⟩) (fun hHeld => ?_)
 refine rg_take 0 (some 58) (v := ?v1) rfl rfl (by kernel_rfl) (by kernel_rfl) (by kernel_rfl) (fun _ _ _ h => h) (by rfl) ?hy1 (by assumption) ?_
 case hy1 => intro W hSW; (try dsimp only at hSW); have q0 := Nat.lt_of_lt_of_le hG0 hSW.1.size; have q1 := Nat.lt_of_lt_of_le hl0 hSW.1.size; have q2 := Nat.lt_of_lt_of_le hl2 hSW.1.size; have z0 := hSW.1.cell f2 hnf; have z7 := hSW.1.cell n2 hnv; have z8 := hSW.1.cell n5 hnv; have k0 := hSW.2; obtain ⟨k5, k6, k7, k8, k9, k10, k11⟩ := k0; dsimp only at k5 k6 k7 k8 k10 k11; go_simp; (try with_reducible rfl)
 try simp only [Act.put, bP, bQ, bT]
 refine rg_take 1 (some 59) (v := ?v2) rfl rfl (by kernel_rfl) (by kernel_rfl) (by kernel_rfl) (fun _ _ _ h => h) (by rfl) ?hy2 (by assumption) ?_
 case hy2 => intro W hSW; (try dsimp only at hSW); have q0 := Nat.lt_of_lt_of_le hG0 hSW.1.size; have q1 := Nat.lt_of_lt_of_le hl0 hSW.1.size; have q2 := Nat.lt_of_lt_of_le hl2 hSW.1.size; have z0 := hSW.1.cell f2 hnf; have z7 := hSW.1.cell n2 hnv; have z8 := hSW.1.cell n5 hnv; have k0 := hSW.2; obtain ⟨k5, k6, k7, k8, k9, k10, k11⟩ := k0; dsimp only at k5 k6 k7 k8 k10 k11; go_simp; (try with_reducible rfl)
 try simp only [Act.put, bP, bQ, bT]
 refine rg_take 2 (some 60) (v := ?v3) rfl rfl (by kernel_rfl) (by kernel_rfl) (by kernel_rfl) (fun _ _ _ h => h) (by rfl) ?hy3 (by assumption) ?_
 case hy3 => intro W hSW; (try dsimp only at hSW); have q0 := Nat.lt_of_lt_of_le hG0 hSW.1.size; have q1 := Nat.lt_of_lt_of_le hl0 hSW.1.size; have q2 := Nat.lt_of_lt_of_le hl2 hSW.1.size; have z0 := hSW.1.cell f2 hnf; have z7 := hSW.1.cell n2 hnv; have z8 := hSW.1.cell n5 hnv; have k0 := hSW.2; obtain ⟨k5, k6, k7, k8, k9, k10, k11⟩ := k0; dsimp only at k5 k6 k7 k8 k10 k11; go_simp; (try with_reducible rfl)
 try simp only [Act.put, bP, bQ, bT]
 refine rg_take 3 (some 61) (v := ?v4) rfl rfl (by kernel_rfl) (by kernel_rfl) (by kernel_rfl) (fun _ _ _ h => h) (by rfl) ?hy4 (by assumption) ?_
 case hy4 => intro W hSW; (try dsimp only at hSW); have q0 := Nat.lt_of_lt_of_le hG0 hSW.1.size; have q1 := Nat.lt_of_lt_of_le hl0 hSW.1.size; have q2 := Nat.lt_of_lt_of_le hl2 hSW.1.size; have z0 := hSW.1.cell f2 hnf; have z7 := hSW.1.cell n2 hnv; have z8 := hSW.1.cell n5 hnv; have k0 := hSW.2; obtain ⟨k5, k6, k7, k8, k9, k10, k11⟩ := k0; dsimp only at k5 k6 k7 k8 k10 k11; go_simp; (try with_reducible rfl)
 try simp only [Act.put, bP, bQ, bT]
 refine rg_take 4 (some 62) (v := ?v5) rfl rfl (by kernel_rfl) (by kernel_rfl) (by kernel_rfl) (fun _ _ _ h => h) (by rfl) ?hy5 (by assumption) ?_
 case hy5 => intro W hSW; (try dsimp only at hSW); have q0 := Nat.lt_of_lt_of_le hG0 hSW.1.size; have q1 := Nat.lt_of_lt_of_le hl0 hSW.1.size; have q2 := Nat.lt_of_lt_of_le hl2 hSW.1.size; have z0 := hSW.1.cell f2 hnf; have z7 := hSW.1.cell n2 hnv; have z8 := hSW.1.cell n5 hnv; have k0 := hSW.2; obtain ⟨k5, k6, k7, k8, k9, k10, k11⟩ := k0; dsimp only at k5 k6 k7 k8 k10 k11; go_simp; (try with_reducible rfl)
 try simp only [Act.put, bP, bQ, bT]
 refine rg_take 5 (some 63) (v := ?v6) rfl rfl (by kernel_rfl) (by kernel_rfl) (by kernel_rfl) (fun _ _ _ h => h) (by rfl) ?hy6 (by assumption) ?_
 case hy6 => intro W hSW; (try dsimp only at hSW); have q0 := Nat.lt_of_lt_of_le hG0 hSW.1.size; have q1 := Nat.lt_of_lt_of_le hl0 hSW.1.size; have q2 := Nat.lt_of_lt_of_le hl2 hSW.1.size; have z0 := hSW.1.cell f2 hnf; have z7 := hSW.1.cell n2 hnv; have z8 := hSW.1.cell n5 hnv; have k0 := hSW.2; obtain ⟨k5, k6, k7, k8, k9, k10, k11⟩ := k0; dsimp only at k5 k6 k7 k8 k10 k11; go_simp; (try with_reducible rfl)
 try simp only [Act.put, bP, bQ, bT]
 refine rg_take 6 (some 64) (v := ?v7) rfl rfl (by kernel_rfl) (by kernel_rfl) (by kernel_rfl) (fun _ _ _ h => h) (by rfl) ?hy7 (by assumption) ?_
 case hy7 => intro W hSW; (try dsimp only at hSW); have q0 := Nat.lt_of_lt_of_le hG0 hSW.1.size; have q1 := Nat.lt_of_lt_of_le hl0 hSW.1.size; have q2 := Nat.lt_of_lt_of_le hl2 hSW.1.size; have z0 := hSW.1.cell f2 hnf; have z7 := hSW.1.cell n2 hnv; have z8 := hSW.1.cell n5 hnv; have k0 := hSW.2; obtain ⟨k5, k6, k7, k8, k9, k10, k11⟩ := k0; dsimp only at k5 k6 k7 k8 k10 k11; go_simp; (try with_reducible rfl)
 try simp only [Act.put, bP, bQ, bT]
 refine rg_take 7 (some 65) (v := ?v8) rfl rfl (by kernel_rfl) (by kernel_rfl) (by kernel_rfl) (fun _ _ _ h => h) (by rfl) ?hy8 (by assumption) ?_
 case hy8 => intro W hSW; (try dsimp only at hSW); have q0 := Nat.lt_of_lt_of_le hG0 hSW.1.size; have q1 := Nat.lt_of_lt_of_le hl0 hSW.1.size; have q2 := Nat.lt_of_lt_of_le hl2 hSW.1.size; have z0 := hSW.1.cell f2 hnf; have z7 := hSW.1.cell n2 hnv; have z8 := hSW.1.cell n5 hnv; have k0 := hSW.2; obtain ⟨k5, k6, k7, k8, k9, k10, k11⟩ := k0; dsimp only at k5 k6 k7 k8 k10 k11; go_simp; (try with_reducible rfl)
 try simp only [Act.put, bP, bQ, bT]
 refine rg_take 8 (some 66) (v := ?v9) rfl rfl (by kernel_rfl) (by kernel_rfl) (by kernel_rfl) (fun _ _ _ h => h) (by rfl) ?hy9 (by assumption) ?_
 case hy9 => intro W hSW; (try dsimp only at hSW); have q0 := Nat.lt_of_lt_of_le hG0 hSW.1.size; have q1 := Nat.lt_of_lt_of_le hl0 hSW.1.size; have q2 := Nat.lt_of_lt_of_le hl2 hSW.1.size; have z0 := hSW.1.cell f2 hnf; have z7 := hSW.1.cell n2 hnv; have z8 := hSW.1.cell n5 hnv; have k0 := hSW.2; obtain ⟨k5, k6, k7, k8, k9, k10, k11⟩ := k0; dsimp only at k5 k6 k7 k8 k10 k11; go_simp; (try with_reducible rfl)
 try simp only [Act.put, bP, bQ, bT]
 refine rg_take 9 (some 67) (v := ?v10) rfl rfl (by kernel_rfl) (by kernel_rfl) (by kernel_rfl) (fun _ _ _ h => h) (by rfl) ?hy10 (by assumption) ?_
 case hy10 => intro W hSW; (try dsimp only at hSW); have q0 := Nat.lt_of_lt_of_le hG0 hSW.1.size; have q1 := Nat.lt_of_lt_of_le hl0 hSW.1.size; have q2 := Nat.lt_of_lt_of_le hl2 hSW.1.size; have z0 := hSW.1.cell f2 hnf; have z7 := hSW.1.cell n2 hnv; have z8 := hSW.1.cell n5 hnv; have k0 := hSW.2; obtain ⟨k5, k6, k7, k8, k9, k10, k11⟩ := k0; dsimp only at k5 k6 k7 k8 k10 k11; go_simp; (try with_reducible rfl)
 try simp only [Act.put, bP, bQ, bT]
 refine rg_take 10 (some 68) (v := ?v11) rfl rfl (by kernel_rfl) (by kernel_rfl) (by kernel_rfl) (fun _ _ _ h => h) (by rfl) ?hy11 (by assumption) ?_
 case hy11 => intro W hSW; (try dsimp only at hSW); have q0 := Nat.lt_of_lt_of_le hG0 hSW.1.size; have q1 := Nat.lt_of_lt_of_le hl0 hSW.1.size; have q2 := Nat.lt_of_lt_of_le hl2 hSW.1.size; have z0 := hSW.1.cell f2 hnf; have z7 := hSW.1.cell n2 hnv; have z8 := hSW.1.cell n5 hnv; have k0 := hSW.2; obtain ⟨k5, k6, k7, k8, k9, k10, k11⟩ := k0; dsimp only at k5 k6 k7 k8 k10 k11; go_simp; (try with_reducible rfl)
 try simp only [Act.put, bP, bQ, bT]
 refine rg_one 11 rfl (by kernel_rfl) (by rfl) (fun K hK => ?_)
 go_simp
 refine (named_any _ env v xen xx ⟨z0, z1, z2, z3, z4, z5⟩ (Lib.hid (henv.out _ (belT hb0.out ((Below.refl _ _).drew)))) (Lib.hid (hvv.out _ (belT hb0.out ((Below.refl _ _).drew))))).mono ?_
 rintro e9 w9 ⟨g9, rfl, hr9, hb9⟩
 have hc9 : Below W0.heap.size W0 w9 := belT ((Below.refl _ _).drew) hb9
 refine hK.out _ _ ⟨Bar.of_below hc9, hT0.out.below hG0 hc9⟩ (fun hH9 => ?_)
 clear hK K
 try simp only [Act.put, bP, bQ, bT]
 refine rg_one 12 rfl (by kernel_rfl) (by rfl) (fun K hK => ?_)
 go_simp
 refine (hgo.out _ (some ⟨g9, 0, none⟩) xb w9 (belT hb0.out hc9) hr9).mono ?_
 rintro e8 w8 ⟨hf, hb8, hE8⟩
 have he8 := hf.1
 subst he8
 have hf := Lib.hid hf
 refine hK.out _ _ ⟨(Bar.of_below hc9).trans hb8 fun _ _ h => h, by have := hE8.thG; dsimp only at this; rw [hct.out] at this; exact this⟩ (fun hH8 => ?_)
 clear hK K
 try simp only [Act.put, bP, bQ, bT]
 refine wpAnyH_done (by kernel_rfl) ?_ _
 go_wp2_with fail
 all_goals go_end0
 all_goals exact hf.out
theorem vr_tru {W : World} {v : NV} {t : V7} (h : VR W v (.inl t)) : (∃ n, v = .tru n ∧ t = ⟨1, n, 0, none, none, none⟩) ∨ (t.k ≠ 1 ∧ ∀ x stk env, nIf x stk env v = .en 5 0) := by
 have hno : ∀ k : Int, k ≠ 1 → t.k = k → t.k ≠ 1 := fun k h e => by rw [e]; exact h
 cases v with
 | num n => cases h; exact .inr ⟨hno 0 (by decide) rfl, fun _ _ _ => rfl⟩
 | tru n => cases h; exact .inl ⟨n, rfl, rfl⟩
 | fn n e => obtain ⟨_, h, _⟩ := h; cases h; exact .inr ⟨hno 2 (by decide) rfl, fun _ _ _ => rfl⟩
 | bnd n e f => obtain ⟨_, _, _, h, _⟩ := h; cases h; exact .inr ⟨hno 7 (by decide) rfl, fun _ _ _ => rfl⟩
 | fwd f g => obtain ⟨_, _, _, _, h, _⟩ := h; cases h; exact .inr ⟨hno 8 (by decide) rfl, fun _ _ _ => rfl⟩
 | ret u => obtain ⟨_, _, h, _⟩ := h; cases h; exact .inr ⟨hno 5 (by decide) rfl, fun _ _ _ => rfl⟩
 | op n u f => obtain ⟨_, _, _, _, h, _⟩ := h; cases h; exact .inr ⟨hno 6 (by decide) rfl, fun _ _ _ => rfl⟩
 | nil => cases h
 | cons x u r => obtain ⟨_, _, _, h, _⟩ := h; cases h
theorem back_if (B G : Nat) (tv sv : Value) (c : Ec) (l : List Fx) (ts : List Tg) (w : World) (stk : List NF) (v : NV) (i : Nat) (xen : Option Addr) (y : V7) (h : Hid (ERc B G tv sv c l w)) (hs : Hid (StX ts w stk l)) (hv : Hid (VR w v (.inl c.th))) (ht : Hid (TvR B G w tv ts)) (hi : i < ts.length) (hl : l.length ≤ 4096) (env : NV) (henv : Hid (VR w env (.inr xen))) (hk : (ndT ts i).k = 7) :
  Calls Try.prog 35 #[.pointer (some ⟨G, 0, none⟩), (Fx.mk 3 i xen y).val] w (NxP c.w0 ts B G tv (nFirst (ndT ts i) ⟨0, i, env, .num 0⟩ v stk)) := by
 obtain ⟨y0, y1, y2, y3, y4, y5⟩ := y
 unfold Fx.val
 dsimp only
 have hG := h.out.ec.lt
 have c0 := h.out.ec.c0
 have hth := h.out.ec.thG
 obtain ⟨T, off, cp, rfl, hTB, hTG, hTw, hT⟩ := ht.out
 have hx0 := hT i hi
 have hnd : ndT ts (i : Int) = ts.getD i tg0 := rfl
 obtain ⟨ct, hct⟩ : ∃ a, c.th = a := ⟨_, rfl⟩
 rw [hct] at hth
 obtain ⟨x, hx⟩ : ∃ x, ts.getD i tg0 = x := ⟨_, rfl⟩
 rw [hx] at hx0 hnd
 rw [hnd] at hk ⊢
 have hgoal : nFirst x ⟨0, i, env, .num 0⟩ v stk = nIf x stk env v := by unfold nFirst; simp [hk]
 rw [hgoal]
 have hgo := Lib.hid fun (env : NV) (p : Option Addr) (n : Int) (W : World) (hb : Below w.heap.size w W) (he : VR W env (.inr p)) => goes_st h.out n W hb (hs.out.below hb) he
 have hend := Lib.hid fun (k n : Int) (W : World) (hb : Below w.heap.size w W) => end_st2 h.out (ts := ts) k n W hb hl
 have henv := Lib.hid fun (W : World) hb => henv.out.below (W' := W) hb
 rcases vr_tru hv.out with ⟨m, rfl, hcm⟩ | ⟨hne, he⟩
 ·obtain rfl : ct = ⟨1, m, 0, none, none, none⟩ := hct.symm.trans hcm
  by_cases hm : m = 1
  ·have hg2 : nIf x stk env (.tru m) = .ev stk x.b env := if_pos hm
   rw [hg2]
   subst hm
   obtain ⟨xk, xa, xb, xc, xn, xx, xy, xz, xw⟩ := x
   obtain ⟨t0, t1, t2, t3, t4, t5, t6, t7, t8⟩ := hx0
   dsimp only at t0 t1 t2 t3 t4 t5 t6 t7 t8
   have hct := Lib.hid hct
   dsimp only
   clear hT hx hnd hv ht hgoal h hs hg2 hcm
   go_enter Try.func35, Try.ntmps35
   go_upto_region 1 with fail
   obtain ⟨W1, hW1⟩ : ∃ W, w.alloc (.cells #[.int .i64 3, .int .i64 i, .pointer xen, .int .i64 y0, .int .i64 y1, .int .i64 y2, .pointer y3, .slice none 0 0, .pointer y4, .pointer y5] 91) = W := ⟨_, rfl⟩
   rw [hW1]
   obtain ⟨hb1, hs1, f0, f1, f2, f3, f4, f5, f6, f7, f8, f9⟩ := bx_fx (x := ⟨3, i, xen, ⟨y0, y1, y2, y3, y4, y5⟩⟩) hW1
   dsimp only at f0 f1 f2 f3 f4 f5 f6 f7 f8 f9
   have hG1 : G < W1.heap.size := Nat.lt_of_lt_of_le hG hb1.size
   have hT1 : T < W1.heap.size := Nat.lt_of_lt_of_le hTw hb1.size
   have hl1 : w.heap.size < W1.heap.size := by omega
   have c0 : W1.cell? _ = _ := carry hb1 hG c0
   have t0 : W1.cell? _ = _ := carry hb1 hTw t0
   have t1 : W1.cell? _ = _ := carry hb1 hTw t1
   have t2 : W1.cell? _ = _ := carry hb1 hTw t2
   have t3 : W1.cell? _ = _ := carry hb1 hTw t3
   have t4 : W1.cell? _ = _ := carry hb1 hTw t4
   have t5 : W1.cell? _ = _ := carry hb1 hTw t5
   have t6 : W1.cell? _ = _ := carry hb1 hTw t6
   have t7 : W1.cell? _ = _ := carry hb1 hTw t7
   have t8 : W1.cell? _ = _ := carry hb1 hTw t8
   have hi0 : (0 : Int) ≤ (i : Int) := by omega
   have hi1 : (i : Int) < (ts.length : Int) := by omega
   have hb1 := Lib.hid hb1
   clear hW1
   go_region
   obtain ⟨W0, hW0⟩ : ∃ W, (W1.alloc (.cells #[.int .i64 xk, .int .i64 xa, .int .i64 xb, .int .i64 xc, .int .i64 xn, .int .i64 xx, .int .i64 xy, .int .i64 xz, .int .i64 xw] 37)).drew = W := ⟨_, rfl⟩
   have hb2 : Below W1.heap.size W1 W0 := by rw [← hW0]; (repeat' (first | (with_reducible first | exact bR _ _ | assumption | apply bS | apply bA | apply bD | apply bN | exact bL _) | (simp; done) | (simp; omega) | omega | exact bL _))
   have hs2 : W0.heap.size = w.heap.size + 2 := by rw [← hW0]; simp; omega
   have n0 : W0.cell? ⟨w.heap.size + 1, 0, none⟩ = some (.int .i64 xk) := by rw [← hW0, ← hs1]; simp [go_sem]
   have n1 : W0.cell? ⟨w.heap.size + 1, 1, none⟩ = some (.int .i64 xa) := by rw [← hW0, ← hs1]; simp [go_sem]
   have n2 : W0.cell? ⟨w.heap.size + 1, 2, none⟩ = some (.int .i64 xb) := by rw [← hW0, ← hs1]; simp [go_sem]
   have n3 : W0.cell? ⟨w.heap.size + 1, 3, none⟩ = some (.int .i64 xc) := by rw [← hW0, ← hs1]; simp [go_sem]
   have n4 : W0.cell? ⟨w.heap.size + 1, 4, none⟩ = some (.int .i64 xn) := by rw [← hW0, ← hs1]; simp [go_sem]
   have n5 : W0.cell? ⟨w.heap.size + 1, 5, none⟩ = some (.int .i64 xx) := by rw [← hW0, ← hs1]; simp [go_sem]
   have n6 : W0.cell? ⟨w.heap.size + 1, 6, none⟩ = some (.int .i64 xy) := by rw [← hW0, ← hs1]; simp [go_sem]
   have n7 : W0.cell? ⟨w.heap.size + 1, 7, none⟩ = some (.int .i64 xz) := by rw [← hW0, ← hs1]; simp [go_sem]
   have n8 : W0.cell? ⟨w.heap.size + 1, 8, none⟩ = some (.int .i64 xw) := by rw [← hW0, ← hs1]; simp [go_sem]
   rw [hW0]
   have f0 : W0.cell? _ = _ := carry hb2 hl1 f0
   have f1 : W0.cell? _ = _ := carry hb2 hl1 f1
   have f2 : W0.cell? _ = _ := carry hb2 hl1 f2
   have f3 : W0.cell? _ = _ := carry hb2 hl1 f3
   have f4 : W0.cell? _ = _ := carry hb2 hl1 f4
   have f5 : W0.cell? _ = _ := carry hb2 hl1 f5
   have f6 : W0.cell? _ = _ := carry hb2 hl1 f6
   have f7 : W0.cell? _ = _ := carry hb2 hl1 f7
   have f8 : W0.cell? _ = _ := carry hb2 hl1 f8
   have f9 : W0.cell? _ = _ := carry hb2 hl1 f9
   have hb0 : Below w.heap.size w W0 := belT hb1.out hb2
   have hG0 : G < W0.heap.size := Nat.lt_of_lt_of_le hG hb0.size
   have hl0 : w.heap.size < W0.heap.size := by omega
   have hl2 : w.heap.size + 1 < W0.heap.size := by omega
   have hT0 := hth.below hG hb0
   have hT0 := Lib.hid hT0
   obtain ⟨c5, c6, c7, c8, c9, c10, c11⟩ := hT0.out
   dsimp only at c5 c6 c7 c8 c9 c10 c11
   have hnf : ¬ Bq G w.heap.size := fun e => by have e : w.heap.size = G := e; omega
   have hnv : ¬ Bq G (w.heap.size + 1) := fun e => by have e : w.heap.size + 1 = G := e; omega
   have hb0 := Lib.hid hb0
   clear hW0 hb2 hs1 hs2 t0 t1 t2 t3 t4 t5 t6 t7 t8 c0 hG1 hT1 hl1 hi0 hi1 hb1
   go_wp2_with fail
   refine (hgo.out env xen xb _ (belT hb0.out (by (repeat' (first | (with_reducible first | exact bR _ _ | assumption | apply bS | apply bA | apply bD | apply bN | exact bL _) | (simp; done) | (simp; omega) | omega | exact bL _)))) (henv.out _ (belT hb0.out (by (repeat' (first | (with_reducible first | exact bR _ _ | assumption | apply bS | apply bA | apply bD | apply bN | exact bL _) | (simp; done) | (simp; omega) | omega | exact bL _)))))).mono ?_
   rintro e2 w2 ⟨hf, -, -⟩
   have he2 := hf.1
   subst he2
   have hf := Lib.hid hf
   go_wp2_with fail
   all_goals go_end0
   all_goals exact hf.out
  ·have hg2 : nIf x stk env (.tru m) = .ev stk x.c env := if_neg hm
   rw [hg2]
   have hbm : ((m == 1) : Bool) = false := by simpa using hm
   obtain ⟨xk, xa, xb, xc, xn, xx, xy, xz, xw⟩ := x
   obtain ⟨t0, t1, t2, t3, t4, t5, t6, t7, t8⟩ := hx0
   dsimp only at t0 t1 t2 t3 t4 t5 t6 t7 t8
   have hct := Lib.hid hct
   dsimp only
   clear hT hx hnd hv ht hgoal h hs hg2 hcm
   go_enter Try.func35, Try.ntmps35
   go_upto_region 1 with fail
   obtain ⟨W1, hW1⟩ : ∃ W, w.alloc (.cells #[.int .i64 3, .int .i64 i, .pointer xen, .int .i64 y0, .int .i64 y1, .int .i64 y2, .pointer y3, .slice none 0 0, .pointer y4, .pointer y5] 91) = W := ⟨_, rfl⟩
   rw [hW1]
   obtain ⟨hb1, hs1, f0, f1, f2, f3, f4, f5, f6, f7, f8, f9⟩ := bx_fx (x := ⟨3, i, xen, ⟨y0, y1, y2, y3, y4, y5⟩⟩) hW1
   dsimp only at f0 f1 f2 f3 f4 f5 f6 f7 f8 f9
   have hG1 : G < W1.heap.size := Nat.lt_of_lt_of_le hG hb1.size
   have hT1 : T < W1.heap.size := Nat.lt_of_lt_of_le hTw hb1.size
   have hl1 : w.heap.size < W1.heap.size := by omega
   have c0 : W1.cell? _ = _ := carry hb1 hG c0
   have t0 : W1.cell? _ = _ := carry hb1 hTw t0
   have t1 : W1.cell? _ = _ := carry hb1 hTw t1
   have t2 : W1.cell? _ = _ := carry hb1 hTw t2
   have t3 : W1.cell? _ = _ := carry hb1 hTw t3
   have t4 : W1.cell? _ = _ := carry hb1 hTw t4
   have t5 : W1.cell? _ = _ := carry hb1 hTw t5
   have t6 : W1.cell? _ = _ := carry hb1 hTw t6
   have t7 : W1.cell? _ = _ := carry hb1 hTw t7
   have t8 : W1.cell? _ = _ := carry hb1 hTw t8
   have hi0 : (0 : Int) ≤ (i : Int) := by omega
   have hi1 : (i : Int) < (ts.length : Int) := by omega
   have hb1 := Lib.hid hb1
   clear hW1
   go_region
   obtain ⟨W0, hW0⟩ : ∃ W, (W1.alloc (.cells #[.int .i64 xk, .int .i64 xa, .int .i64 xb, .int .i64 xc, .int .i64 xn, .int .i64 xx, .int .i64 xy, .int .i64 xz, .int .i64 xw] 37)).drew = W := ⟨_, rfl⟩
   have hb2 : Below W1.heap.size W1 W0 := by rw [← hW0]; (repeat' (first | (with_reducible first | exact bR _ _ | assumption | apply bS | apply bA | apply bD | apply bN | exact bL _) | (simp; done) | (simp; omega) | omega | exact bL _))
   have hs2 : W0.heap.size = w.heap.size + 2 := by rw [← hW0]; simp; omega
   have n0 : W0.cell? ⟨w.heap.size + 1, 0, none⟩ = some (.int .i64 xk) := by rw [← hW0, ← hs1]; simp [go_sem]
   have n1 : W0.cell? ⟨w.heap.size + 1, 1, none⟩ = some (.int .i64 xa) := by rw [← hW0, ← hs1]; simp [go_sem]
   have n2 : W0.cell? ⟨w.heap.size + 1, 2, none⟩ = some (.int .i64 xb) := by rw [← hW0, ← hs1]; simp [go_sem]
   have n3 : W0.cell? ⟨w.heap.size + 1, 3, none⟩ = some (.int .i64 xc) := by rw [← hW0, ← hs1]; simp [go_sem]
   have n4 : W0.cell? ⟨w.heap.size + 1, 4, none⟩ = some (.int .i64 xn) := by rw [← hW0, ← hs1]; simp [go_sem]
   have n5 : W0.cell? ⟨w.heap.size + 1, 5, none⟩ = some (.int .i64 xx) := by rw [← hW0, ← hs1]; simp [go_sem]
   have n6 : W0.cell? ⟨w.heap.size + 1, 6, none⟩ = some (.int .i64 xy) := by rw [← hW0, ← hs1]; simp [go_sem]
   have n7 : W0.cell? ⟨w.heap.size + 1, 7, none⟩ = some (.int .i64 xz) := by rw [← hW0, ← hs1]; simp [go_sem]
   have n8 : W0.cell? ⟨w.heap.size + 1, 8, none⟩ = some (.int .i64 xw) := by rw [← hW0, ← hs1]; simp [go_sem]
   rw [hW0]
   have f0 : W0.cell? _ = _ := carry hb2 hl1 f0
   have f1 : W0.cell? _ = _ := carry hb2 hl1 f1
   have f2 : W0.cell? _ = _ := carry hb2 hl1 f2
   have f3 : W0.cell? _ = _ := carry hb2 hl1 f3
   have f4 : W0.cell? _ = _ := carry hb2 hl1 f4
   have f5 : W0.cell? _ = _ := carry hb2 hl1 f5
   have f6 : W0.cell? _ = _ := carry hb2 hl1 f6
   have f7 : W0.cell? _ = _ := carry hb2 hl1 f7
   have f8 : W0.cell? _ = _ := carry hb2 hl1 f8
   have f9 : W0.cell? _ = _ := carry hb2 hl1 f9
   have hb0 : Below w.heap.size w W0 := belT hb1.out hb2
   have hG0 : G < W0.heap.size := Nat.lt_of_lt_of_le hG hb0.size
   have hl0 : w.heap.size < W0.heap.size := by omega
   have hl2 : w.heap.size + 1 < W0.heap.size := by omega
   have hT0 := hth.below hG hb0
   have hT0 := Lib.hid hT0
   obtain ⟨c5, c6, c7, c8, c9, c10, c11⟩ := hT0.out
   dsimp only at c5 c6 c7 c8 c9 c10 c11
   have hnf : ¬ Bq G w.heap.size := fun e => by have e : w.heap.size = G := e; omega
   have hnv : ¬ Bq G (w.heap.size + 1) := fun e => by have e : w.heap.size + 1 = G := e; omega
   have hb0 := Lib.hid hb0
   clear hW0 hb2 hs1 hs2 t0 t1 t2 t3 t4 t5 t6 t7 t8 c0 hG1 hT1 hl1 hi0 hi1 hb1
   go_wp2_with fail
   refine (hgo.out env xen xc _ (belT hb0.out (by (repeat' (first | (with_reducible first | exact bR _ _ | assumption | apply bS | apply bA | apply bD | apply bN | exact bL _) | (simp; done) | (simp; omega) | omega | exact bL _)))) (henv.out _ (belT hb0.out (by (repeat' (first | (with_reducible first | exact bR _ _ | assumption | apply bS | apply bA | apply bD | apply bN | exact bL _) | (simp; done) | (simp; omega) | omega | exact bL _)))))).mono ?_
   rintro e2 w2 ⟨hf, -, -⟩
   have he2 := hf.1
   subst he2
   have hf := Lib.hid hf
   go_wp2_with fail
   all_goals go_end0
   all_goals exact hf.out
 ·rw [he]
  rw [hct] at hne
  obtain ⟨z0, z1, z2, z3, z4, z5⟩ := ct
  obtain ⟨xk, xa, xb, xc, xn, xx, xy, xz, xw⟩ := x
  obtain ⟨t0, t1, t2, t3, t4, t5, t6, t7, t8⟩ := hx0
  dsimp only at t0 t1 t2 t3 t4 t5 t6 t7 t8
  have hct := Lib.hid hct
  dsimp only at hne
  have hbm : ((z0 == 1) : Bool) = false := by simpa using hne
  clear hT hx hnd hv ht hgoal h hs he
  go_enter Try.func35, Try.ntmps35
  go_upto_region 1 with fail
  obtain ⟨W1, hW1⟩ : ∃ W, w.alloc (.cells #[.int .i64 3, .int .i64 i, .pointer xen, .int .i64 y0, .int .i64 y1, .int .i64 y2, .pointer y3, .slice none 0 0, .pointer y4, .pointer y5] 91) = W := ⟨_, rfl⟩
  rw [hW1]
  obtain ⟨hb1, hs1, f0, f1, f2, f3, f4, f5, f6, f7, f8, f9⟩ := bx_fx (x := ⟨3, i, xen, ⟨y0, y1, y2, y3, y4, y5⟩⟩) hW1
  dsimp only at f0 f1 f2 f3 f4 f5 f6 f7 f8 f9
  have hG1 : G < W1.heap.size := Nat.lt_of_lt_of_le hG hb1.size
  have hT1 : T < W1.heap.size := Nat.lt_of_lt_of_le hTw hb1.size
  have hl1 : w.heap.size < W1.heap.size := by omega
  have c0 : W1.cell? _ = _ := carry hb1 hG c0
  have t0 : W1.cell? _ = _ := carry hb1 hTw t0
  have t1 : W1.cell? _ = _ := carry hb1 hTw t1
  have t2 : W1.cell? _ = _ := carry hb1 hTw t2
  have t3 : W1.cell? _ = _ := carry hb1 hTw t3
  have t4 : W1.cell? _ = _ := carry hb1 hTw t4
  have t5 : W1.cell? _ = _ := carry hb1 hTw t5
  have t6 : W1.cell? _ = _ := carry hb1 hTw t6
  have t7 : W1.cell? _ = _ := carry hb1 hTw t7
  have t8 : W1.cell? _ = _ := carry hb1 hTw t8
  have hi0 : (0 : Int) ≤ (i : Int) := by omega
  have hi1 : (i : Int) < (ts.length : Int) := by omega
  have hb1 := Lib.hid hb1
  clear hW1
  go_region
  obtain ⟨W0, hW0⟩ : ∃ W, (W1.alloc (.cells #[.int .i64 xk, .int .i64 xa, .int .i64 xb, .int .i64 xc, .int .i64 xn, .int .i64 xx, .int .i64 xy, .int .i64 xz, .int .i64 xw] 37)).drew = W := ⟨_, rfl⟩
  have hb2 : Below W1.heap.size W1 W0 := by rw [← hW0]; (repeat' (first | (with_reducible first | exact bR _ _ | assumption | apply bS | apply bA | apply bD | apply bN | exact bL _) | (simp; done) | (simp; omega) | omega | exact bL _))
  have hs2 : W0.heap.size = w.heap.size + 2 := by rw [← hW0]; simp; omega
  have n0 : W0.cell? ⟨w.heap.size + 1, 0, none⟩ = some (.int .i64 xk) := by rw [← hW0, ← hs1]; simp [go_sem]
  have n1 : W0.cell? ⟨w.heap.size + 1, 1, none⟩ = some (.int .i64 xa) := by rw [← hW0, ← hs1]; simp [go_sem]
  have n2 : W0.cell? ⟨w.heap.size + 1, 2, none⟩ = some (.int .i64 xb) := by rw [← hW0, ← hs1]; simp [go_sem]
  have n3 : W0.cell? ⟨w.heap.size + 1, 3, none⟩ = some (.int .i64 xc) := by rw [← hW0, ← hs1]; simp [go_sem]
  have n4 : W0.cell? ⟨w.heap.size + 1, 4, none⟩ = some (.int .i64 xn) := by rw [← hW0, ← hs1]; simp [go_sem]
  have n5 : W0.cell? ⟨w.heap.size + 1, 5, none⟩ = some (.int .i64 xx) := by rw [← hW0, ← hs1]; simp [go_sem]
  have n6 : W0.cell? ⟨w.heap.size + 1, 6, none⟩ = some (.int .i64 xy) := by rw [← hW0, ← hs1]; simp [go_sem]
  have n7 : W0.cell? ⟨w.heap.size + 1, 7, none⟩ = some (.int .i64 xz) := by rw [← hW0, ← hs1]; simp [go_sem]
  have n8 : W0.cell? ⟨w.heap.size + 1, 8, none⟩ = some (.int .i64 xw) := by rw [← hW0, ← hs1]; simp [go_sem]
  rw [hW0]
  have f0 : W0.cell? _ = _ := carry hb2 hl1 f0
  have f1 : W0.cell? _ = _ := carry hb2 hl1 f1
  have f2 : W0.cell? _ = _ := carry hb2 hl1 f2
  have f3 : W0.cell? _ = _ := carry hb2 hl1 f3
  have f4 : W0.cell? _ = _ := carry hb2 hl1 f4
  have f5 : W0.cell? _ = _ := carry hb2 hl1 f5
  have f6 : W0.cell? _ = _ := carry hb2 hl1 f6
  have f7 : W0.cell? _ = _ := carry hb2 hl1 f7
  have f8 : W0.cell? _ = _ := carry hb2 hl1 f8
  have f9 : W0.cell? _ = _ := carry hb2 hl1 f9
  have hb0 : Below w.heap.size w W0 := belT hb1.out hb2
  have hG0 : G < W0.heap.size := Nat.lt_of_lt_of_le hG hb0.size
  have hl0 : w.heap.size < W0.heap.size := by omega
  have hl2 : w.heap.size + 1 < W0.heap.size := by omega
  have hT0 := hth.below hG hb0
  have hT0 := Lib.hid hT0
  obtain ⟨c5, c6, c7, c8, c9, c10, c11⟩ := hT0.out
  dsimp only at c5 c6 c7 c8 c9 c10 c11
  have hnf : ¬ Bq G w.heap.size := fun e => by have e : w.heap.size = G := e; omega
  have hnv : ¬ Bq G (w.heap.size + 1) := fun e => by have e : w.heap.size + 1 = G := e; omega
  have hb0 := Lib.hid hb0
  clear hW0 hb2 hs1 hs2 t0 t1 t2 t3 t4 t5 t6 t7 t8 c0 hG1 hT1 hl1 hi0 hi1 hb1
  go_wp2_with fail
  refine (hend.out 5 0 _ (belT hb0.out (by (repeat' (first | (with_reducible first | exact bR _ _ | assumption | apply bS | apply bA | apply bD | apply bN | exact bL _) | (simp; done) | (simp; omega) | omega | exact bL _))))).mono ?_
  rintro e2 w2 ⟨hf, -, -⟩
  have he2 := hf.1
  subst he2
  have hf := Lib.hid hf
  go_wp2_with fail
  all_goals go_end0
  all_goals exact hf.out
theorem back_ret (B G : Nat) (tv sv : Value) (c : Ec) (l : List Fx) (ts : List Tg) (w : World) (stk : List NF) (v : NV) (i : Nat) (xen : Option Addr) (y : V7) (h : Hid (ERc B G tv sv c l w)) (hs : Hid (StX ts w stk l)) (hv : Hid (VR w v (.inl c.th))) (ht : Hid (TvR B G w tv ts)) (hi : i < ts.length) (hl : l.length ≤ 4096) (env : NV) (henv : Hid (VR w env (.inr xen))) (hk : (ndT ts i).k = 9) :
  Calls Try.prog 35 #[.pointer (some ⟨G, 0, none⟩), (Fx.mk 8 i xen y).val] w (NxP c.w0 ts B G tv (nFirst (ndT ts i) ⟨0, i, env, .num 0⟩ v stk)) := by
 obtain ⟨y0, y1, y2, y3, y4, y5⟩ := y
 unfold Fx.val
 dsimp only
 have hG := h.out.ec.lt
 have c0 := h.out.ec.c0
 have hth := h.out.ec.thG
 obtain ⟨T, off, cp, rfl, hTB, hTG, hTw, hT⟩ := ht.out
 have hx0 := hT i hi
 have hnd : ndT ts (i : Int) = ts.getD i tg0 := rfl
 obtain ⟨ct, hct⟩ : ∃ a, c.th = a := ⟨_, rfl⟩
 rw [hct] at hth
 obtain ⟨x, hx⟩ : ∃ x, ts.getD i tg0 = x := ⟨_, rfl⟩
 rw [hx] at hx0 hnd
 rw [hnd] at hk ⊢
 have hgoal : nFirst x ⟨0, i, env, .num 0⟩ v stk = .gv stk (.ret v) := by unfold nFirst; simp [hk]
 rw [hgoal]
 have hgv := Lib.hid fun (v : NV) (t : V7) (W : World) (hb : Below w.heap.size w W) (hh : VR W v (.inl t)) => gives_st2 h.out t W hb (hs.out.below hb) hh
 have hvv := Lib.hid fun (W : World) hb => hv.out.below (W' := W) hb
 rw [hct] at hvv
 obtain ⟨z0, z1, z2, z3, z4, z5⟩ := ct
 obtain ⟨xk, xa, xb, xc, xn, xx, xy, xz, xw⟩ := x
 obtain ⟨t0, t1, t2, t3, t4, t5, t6, t7, t8⟩ := hx0
 dsimp only at t0 t1 t2 t3 t4 t5 t6 t7 t8
 have hct := Lib.hid hct
 clear hT hx hnd hv ht hgoal h hs
 go_enter Try.func35, Try.ntmps35
 go_upto_region 1 with fail
 obtain ⟨W1, hW1⟩ : ∃ W, w.alloc (.cells #[.int .i64 8, .int .i64 i, .pointer xen, .int .i64 y0, .int .i64 y1, .int .i64 y2, .pointer y3, .slice none 0 0, .pointer y4, .pointer y5] 91) = W := ⟨_, rfl⟩
 rw [hW1]
 obtain ⟨hb1, hs1, f0, f1, f2, f3, f4, f5, f6, f7, f8, f9⟩ := bx_fx (x := ⟨8, i, xen, ⟨y0, y1, y2, y3, y4, y5⟩⟩) hW1
 dsimp only at f0 f1 f2 f3 f4 f5 f6 f7 f8 f9
 have hG1 : G < W1.heap.size := Nat.lt_of_lt_of_le hG hb1.size
 have hT1 : T < W1.heap.size := Nat.lt_of_lt_of_le hTw hb1.size
 have hl1 : w.heap.size < W1.heap.size := by omega
 have c0 : W1.cell? _ = _ := carry hb1 hG c0
 have t0 : W1.cell? _ = _ := carry hb1 hTw t0
 have t1 : W1.cell? _ = _ := carry hb1 hTw t1
 have t2 : W1.cell? _ = _ := carry hb1 hTw t2
 have t3 : W1.cell? _ = _ := carry hb1 hTw t3
 have t4 : W1.cell? _ = _ := carry hb1 hTw t4
 have t5 : W1.cell? _ = _ := carry hb1 hTw t5
 have t6 : W1.cell? _ = _ := carry hb1 hTw t6
 have t7 : W1.cell? _ = _ := carry hb1 hTw t7
 have t8 : W1.cell? _ = _ := carry hb1 hTw t8
 have hi0 : (0 : Int) ≤ (i : Int) := by omega
 have hi1 : (i : Int) < (ts.length : Int) := by omega
 have hb1 := Lib.hid hb1
 clear hW1
 go_region
 obtain ⟨W0, hW0⟩ : ∃ W, (W1.alloc (.cells #[.int .i64 xk, .int .i64 xa, .int .i64 xb, .int .i64 xc, .int .i64 xn, .int .i64 xx, .int .i64 xy, .int .i64 xz, .int .i64 xw] 37)).drew = W := ⟨_, rfl⟩
 have hb2 : Below W1.heap.size W1 W0 := by rw [← hW0]; (repeat' (first | (with_reducible first | exact bR _ _ | assumption | apply bS | apply bA | apply bD | apply bN | exact bL _) | (simp; done) | (simp; omega) | omega | exact bL _))
 have hs2 : W0.heap.size = w.heap.size + 2 := by rw [← hW0]; simp; omega
 have n0 : W0.cell? ⟨w.heap.size + 1, 0, none⟩ = some (.int .i64 xk) := by rw [← hW0, ← hs1]; simp [go_sem]
 have n1 : W0.cell? ⟨w.heap.size + 1, 1, none⟩ = some (.int .i64 xa) := by rw [← hW0, ← hs1]; simp [go_sem]
 have n2 : W0.cell? ⟨w.heap.size + 1, 2, none⟩ = some (.int .i64 xb) := by rw [← hW0, ← hs1]; simp [go_sem]
 have n3 : W0.cell? ⟨w.heap.size + 1, 3, none⟩ = some (.int .i64 xc) := by rw [← hW0, ← hs1]; simp [go_sem]
 have n4 : W0.cell? ⟨w.heap.size + 1, 4, none⟩ = some (.int .i64 xn) := by rw [← hW0, ← hs1]; simp [go_sem]
 have n5 : W0.cell? ⟨w.heap.size + 1, 5, none⟩ = some (.int .i64 xx) := by rw [← hW0, ← hs1]; simp [go_sem]
 have n6 : W0.cell? ⟨w.heap.size + 1, 6, none⟩ = some (.int .i64 xy) := by rw [← hW0, ← hs1]; simp [go_sem]
 have n7 : W0.cell? ⟨w.heap.size + 1, 7, none⟩ = some (.int .i64 xz) := by rw [← hW0, ← hs1]; simp [go_sem]
 have n8 : W0.cell? ⟨w.heap.size + 1, 8, none⟩ = some (.int .i64 xw) := by rw [← hW0, ← hs1]; simp [go_sem]
 rw [hW0]
 have f0 : W0.cell? _ = _ := carry hb2 hl1 f0
 have f1 : W0.cell? _ = _ := carry hb2 hl1 f1
 have f2 : W0.cell? _ = _ := carry hb2 hl1 f2
 have f3 : W0.cell? _ = _ := carry hb2 hl1 f3
 have f4 : W0.cell? _ = _ := carry hb2 hl1 f4
 have f5 : W0.cell? _ = _ := carry hb2 hl1 f5
 have f6 : W0.cell? _ = _ := carry hb2 hl1 f6
 have f7 : W0.cell? _ = _ := carry hb2 hl1 f7
 have f8 : W0.cell? _ = _ := carry hb2 hl1 f8
 have f9 : W0.cell? _ = _ := carry hb2 hl1 f9
 have hb0 : Below w.heap.size w W0 := belT hb1.out hb2
 have hG0 : G < W0.heap.size := Nat.lt_of_lt_of_le hG hb0.size
 have hl0 : w.heap.size < W0.heap.size := by omega
 have hl2 : w.heap.size + 1 < W0.heap.size := by omega
 have hT0 := hth.below hG hb0
 have hT0 := Lib.hid hT0
 obtain ⟨c5, c6, c7, c8, c9, c10, c11⟩ := hT0.out
 dsimp only at c5 c6 c7 c8 c9 c10 c11
 have hnf : ¬ Bq G w.heap.size := fun e => by have e : w.heap.size = G := e; omega
 have hnv : ¬ Bq G (w.heap.size + 1) := fun e => by have e : w.heap.size + 1 = G := e; omega
 have hb0 := Lib.hid hb0
 clear hW0 hb2 hs1 hs2 t0 t1 t2 t3 t4 t5 t6 t7 t8 c0 hG1 hT1 hl1 hi0 hi1 hb1
 go_wp2_with fail
 have hE : Below W0.heap.size W0 (W0.alloc (.cells #[.int .i64 z0, .int .i64 z1, .int .i64 z2, .pointer z3, .slice none 0 0, .pointer z4, .pointer z5] 67)) := below_alc _ _
 refine (hgv.out (.ret v) ⟨5, 0, 0, none, some ⟨W0.heap.size, 0, none⟩, none⟩ _ (belT hb0.out hE) ⟨some ⟨W0.heap.size, 0, none⟩, ⟨z0, z1, z2, z3, z4, z5⟩, rfl, ⟨W0.heap.size, rfl, by simp, TyAt.new _ _ _, by simp [VCo, go_sem]⟩, hvv.out _ (belT hb0.out hE)⟩).mono ?_
 rintro e2 w2 ⟨hf, -, -⟩
 have he2 := hf.1
 subst he2
 have hf := Lib.hid hf
 go_wp2_with fail
 all_goals go_end0
 all_goals exact hf.out
open Go.RowKit
theorem vr_num {W : World} {v : NV} {t : V7} (h : VR W v (.inl t)) : (∃ n, v = .num n ∧ t = ⟨0, n, 0, none, none, none⟩) ∨ (t.k ≠ 0 ∧ (∀ p stk u, nPrim p stk u v = .en 5 0) ∧ ∀ p stk a, nPrim p stk v (.num a) = .en 5 0) := by
 have hno : ∀ k : Int, k ≠ 0 → t.k = k → t.k ≠ 0 := fun k h e => by rw [e]; exact h
 have hu : ∀ v : NV, (∀ n, v ≠ .num n) → ∀ p stk u, nPrim p stk u v = .en 5 0 := fun v hv p stk u => by
  cases u <;> cases v <;> first | rfl | exact absurd rfl (hv _)
 cases v with
 | num n => cases h; exact .inl ⟨n, rfl, rfl⟩
 | tru n => cases h; exact .inr ⟨hno 1 (by decide) rfl, hu _ (fun _ h => by cases h), fun _ _ _ => rfl⟩
 | fn n e => obtain ⟨_, h, _⟩ := h; cases h; exact .inr ⟨hno 2 (by decide) rfl, hu _ (fun _ h => by cases h), fun _ _ _ => rfl⟩
 | bnd n e f => obtain ⟨_, _, _, h, _⟩ := h; cases h; exact .inr ⟨hno 7 (by decide) rfl, hu _ (fun _ h => by cases h), fun _ _ _ => rfl⟩
 | fwd f g => obtain ⟨_, _, _, _, h, _⟩ := h; cases h; exact .inr ⟨hno 8 (by decide) rfl, hu _ (fun _ h => by cases h), fun _ _ _ => rfl⟩
 | ret u => obtain ⟨_, _, h, _⟩ := h; cases h; exact .inr ⟨hno 5 (by decide) rfl, hu _ (fun _ h => by cases h), fun _ _ _ => rfl⟩
 | op n u f => obtain ⟨_, _, _, _, h, _⟩ := h; cases h; exact .inr ⟨hno 6 (by decide) rfl, hu _ (fun _ h => by cases h), fun _ _ _ => rfl⟩
 | nil => cases h
 | cons x u r => obtain ⟨_, _, _, h, _⟩ := h; cases h
theorem bx7g {W0 W w9 : World} {a b c d e f g0 : Value} {T : TypeId} {g : Nat} (hg : g = W.heap.size) (hb0 : Below W0.heap.size W0 W) (hb : Below (W.alloc (.cells #[a, b, c, d, e, f, g0] T)).heap.size (W.alloc (.cells #[a, b, c, d, e, f, g0] T)) w9) :
  (w9.cell? ⟨g, 0, none⟩ = some a ∧ w9.cell? ⟨g, 1, none⟩ = some b ∧ w9.cell? ⟨g, 2, none⟩ = some c ∧ w9.cell? ⟨g, 3, none⟩ = some d ∧ w9.cell? ⟨g, 4, none⟩ = some e ∧ w9.cell? ⟨g, 5, none⟩ = some f ∧ w9.cell? ⟨g, 6, none⟩ = some g0) ∧ (∀ o, w9.frozen? ⟨g, o, none⟩ = false) ∧ Below W0.heap.size W0 w9 ∧ g < w9.heap.size := by
 subst hg
 obtain ⟨h1, h2, h3, h4⟩ := bx7 hb
 exact ⟨h1, h2, hb0.trans (h3.mono hb0.size), h4⟩
theorem numO_told (n : Int) : ((numO n).1 = 0) ∨ ((numO n).1 = 3 ∧ 0 ≤ (numO n).2) := by
 unfold numO
 split
 ·exact .inr ⟨rfl, by show (0 : Int) ≤ 0; omega⟩
 ·exact .inl rfl
theorem prm_told (p a b : Int) : (prmV p a b).1 = 0 ∨ (prmV p a b).1 = 1 ∨ ((prmV p a b).1 = 3 ∧ 0 ≤ (prmV p a b).2) := by
 have ht : ∀ b, (truO b).1 = 1 := fun b => by cases b <;> rfl
 have hn : ∀ n, (numO n).1 = 0 ∨ (numO n).1 = 1 ∨ ((numO n).1 = 3 ∧ 0 ≤ (numO n).2) := fun n => (numO_told n).imp id .inr
 unfold prmV
 by_cases h0 : p = 0
 ·rw [if_pos h0]; exact hn _
 rw [if_neg h0]
 by_cases h0 : p = 1
 ·rw [if_pos h0]; exact hn _
 rw [if_neg h0]
 by_cases h0 : p = 2
 ·rw [if_pos h0]; exact hn _
 rw [if_neg h0]
 by_cases h0 : p = 3
 ·rw [if_pos h0]
  by_cases hz : b = 0
  ·rw [if_pos hz]; exact .inr (.inr ⟨rfl, by show (0 : Int) ≤ 1; omega⟩)
  ·rw [if_neg hz]; exact hn _
 rw [if_neg h0]
 by_cases h0 : p = 4
 ·rw [if_pos h0]; exact .inr (.inl (ht _))
 rw [if_neg h0]
 exact .inr (.inl (ht _))
theorem back_prim_v (B G : Nat) (tv sv : Value) (c : Ec) (l : List Fx) (ts : List Tg) (w : World) (stk : List NF) (v : NV) (i : Nat) (xen : Option Addr) (y : V7) (h : Hid (ERc B G tv sv c l w)) (hs : Hid (StX ts w stk l)) (hv : Hid (VR w v (.inl c.th))) (ht : Hid (TvR B G w tv ts)) (hi : i < ts.length) (hl : l.length ≤ 4096) (u : NV) (hu : Hid (VR w u (.inl y))) (hk : (ndT ts i).k = 8) (hz : c.th.k ≠ 0) (hn : ∀ p stk u, nPrim p stk u v = .en 5 0) :
  Calls Try.prog 35 #[.pointer (some ⟨G, 0, none⟩), (Fx.mk 5 i xen y).val] w (NxP c.w0 ts B G tv (nSecond (ndT ts i) ⟨1, i, .nil, u⟩ v stk)) := by
 obtain ⟨y0, y1, y2, y3, y4, y5⟩ := y
 unfold Fx.val
 dsimp only
 have hG := h.out.ec.lt
 have c0 := h.out.ec.c0
 have hth := h.out.ec.thG
 obtain ⟨T, off, cp, rfl, hTB, hTG, hTw, hT⟩ := ht.out
 have hx0 := hT i hi
 have hnd : ndT ts (i : Int) = ts.getD i tg0 := rfl
 obtain ⟨ct, hct⟩ : ∃ a, c.th = a := ⟨_, rfl⟩
 rw [hct] at hth
 obtain ⟨x, hx⟩ : ∃ x, ts.getD i tg0 = x := ⟨_, rfl⟩
 rw [hx] at hx0 hnd
 rw [hnd] at hk ⊢
 have hgoal : nSecond x ⟨1, i, .nil, u⟩ v stk = nPrim x.n stk u v := by unfold nSecond; rw [if_neg (by omega)]
 rw [hgoal]
 rw [hn]
 rw [hct] at hz
 have hend := Lib.hid fun (k n : Int) (W : World) (hb : Below w.heap.size w W) => end_st2 h.out (ts := ts) k n W hb hl
 obtain ⟨z0, z1, z2, z3, z4, z5⟩ := ct
 obtain ⟨xk, xa, xb, xc, xn, xx, xy, xz, xw⟩ := x
 obtain ⟨t0, t1, t2, t3, t4, t5, t6, t7, t8⟩ := hx0
 dsimp only at t0 t1 t2 t3 t4 t5 t6 t7 t8
 have hct := Lib.hid hct
 dsimp only at hz
 have hq0 : ((z0 == 0) : Bool) = false := by simpa using hz
 clear hT hx hnd hv ht hgoal h hs hu hn
 go_enter Try.func35, Try.ntmps35
 go_upto_region 1 with fail
 obtain ⟨W1, hW1⟩ : ∃ W, w.alloc (.cells #[.int .i64 5, .int .i64 i, .pointer xen, .int .i64 y0, .int .i64 y1, .int .i64 y2, .pointer y3, .slice none 0 0, .pointer y4, .pointer y5] 91) = W := ⟨_, rfl⟩
 rw [hW1]
 obtain ⟨hb1, hs1, f0, f1, f2, f3, f4, f5, f6, f7, f8, f9⟩ := bx_fx (x := ⟨5, i, xen, ⟨y0, y1, y2, y3, y4, y5⟩⟩) hW1
 dsimp only at f0 f1 f2 f3 f4 f5 f6 f7 f8 f9
 have hG1 : G < W1.heap.size := Nat.lt_of_lt_of_le hG hb1.size
 have hT1 : T < W1.heap.size := Nat.lt_of_lt_of_le hTw hb1.size
 have hl1 : w.heap.size < W1.heap.size := by omega
 have c0 : W1.cell? _ = _ := carry hb1 hG c0
 have t0 : W1.cell? _ = _ := carry hb1 hTw t0
 have t1 : W1.cell? _ = _ := carry hb1 hTw t1
 have t2 : W1.cell? _ = _ := carry hb1 hTw t2
 have t3 : W1.cell? _ = _ := carry hb1 hTw t3
 have t4 : W1.cell? _ = _ := carry hb1 hTw t4
 have t5 : W1.cell? _ = _ := carry hb1 hTw t5
 have t6 : W1.cell? _ = _ := carry hb1 hTw t6
 have t7 : W1.cell? _ = _ := carry hb1 hTw t7
 have t8 : W1.cell? _ = _ := carry hb1 hTw t8
 have hi0 : (0 : Int) ≤ (i : Int) := by omega
 have hi1 : (i : Int) < (ts.length : Int) := by omega
 have hb1 := Lib.hid hb1
 clear hW1
 go_region
 obtain ⟨W0, hW0⟩ : ∃ W, (W1.alloc (.cells #[.int .i64 xk, .int .i64 xa, .int .i64 xb, .int .i64 xc, .int .i64 xn, .int .i64 xx, .int .i64 xy, .int .i64 xz, .int .i64 xw] 37)).drew = W := ⟨_, rfl⟩
 have hb2 : Below W1.heap.size W1 W0 := by rw [← hW0]; (repeat' (first | (with_reducible first | exact bR _ _ | assumption | apply bS | apply bA | apply bD | apply bN | exact bL _) | (simp; done) | (simp; omega) | omega | exact bL _))
 have hs2 : W0.heap.size = w.heap.size + 2 := by rw [← hW0]; simp; omega
 have n0 : W0.cell? ⟨w.heap.size + 1, 0, none⟩ = some (.int .i64 xk) := by rw [← hW0, ← hs1]; simp [go_sem]
 have n1 : W0.cell? ⟨w.heap.size + 1, 1, none⟩ = some (.int .i64 xa) := by rw [← hW0, ← hs1]; simp [go_sem]
 have n2 : W0.cell? ⟨w.heap.size + 1, 2, none⟩ = some (.int .i64 xb) := by rw [← hW0, ← hs1]; simp [go_sem]
 have n3 : W0.cell? ⟨w.heap.size + 1, 3, none⟩ = some (.int .i64 xc) := by rw [← hW0, ← hs1]; simp [go_sem]
 have n4 : W0.cell? ⟨w.heap.size + 1, 4, none⟩ = some (.int .i64 xn) := by rw [← hW0, ← hs1]; simp [go_sem]
 have n5 : W0.cell? ⟨w.heap.size + 1, 5, none⟩ = some (.int .i64 xx) := by rw [← hW0, ← hs1]; simp [go_sem]
 have n6 : W0.cell? ⟨w.heap.size + 1, 6, none⟩ = some (.int .i64 xy) := by rw [← hW0, ← hs1]; simp [go_sem]
 have n7 : W0.cell? ⟨w.heap.size + 1, 7, none⟩ = some (.int .i64 xz) := by rw [← hW0, ← hs1]; simp [go_sem]
 have n8 : W0.cell? ⟨w.heap.size + 1, 8, none⟩ = some (.int .i64 xw) := by rw [← hW0, ← hs1]; simp [go_sem]
 rw [hW0]
 have f0 : W0.cell? _ = _ := carry hb2 hl1 f0
 have f1 : W0.cell? _ = _ := carry hb2 hl1 f1
 have f2 : W0.cell? _ = _ := carry hb2 hl1 f2
 have f3 : W0.cell? _ = _ := carry hb2 hl1 f3
 have f4 : W0.cell? _ = _ := carry hb2 hl1 f4
 have f5 : W0.cell? _ = _ := carry hb2 hl1 f5
 have f6 : W0.cell? _ = _ := carry hb2 hl1 f6
 have f7 : W0.cell? _ = _ := carry hb2 hl1 f7
 have f8 : W0.cell? _ = _ := carry hb2 hl1 f8
 have f9 : W0.cell? _ = _ := carry hb2 hl1 f9
 have hb0 : Below w.heap.size w W0 := belT hb1.out hb2
 have hG0 : G < W0.heap.size := Nat.lt_of_lt_of_le hG hb0.size
 have hl0 : w.heap.size < W0.heap.size := by omega
 have hl2 : w.heap.size + 1 < W0.heap.size := by omega
 have hT0 := hth.below hG hb0
 have hT0 := Lib.hid hT0
 obtain ⟨c5, c6, c7, c8, c9, c10, c11⟩ := hT0.out
 dsimp only at c5 c6 c7 c8 c9 c10 c11
 have hnf : ¬ Bq G w.heap.size := fun e => by have e : w.heap.size = G := e; omega
 have hnv : ¬ Bq G (w.heap.size + 1) := fun e => by have e : w.heap.size + 1 = G := e; omega
 have hb0 := Lib.hid hb0
 clear hW0 hb2 hs1 hs2 t0 t1 t2 t3 t4 t5 t6 t7 t8 c0 hG1 hT1 hl1 hi0 hi1 hb1
 go_upto_region 26 with fail
 go_wp2_with fail
 refine (hend.out 5 0 _ (belT hb0.out (by (repeat' (first | (with_reducible first | exact bR _ _ | assumption | apply bS | apply bA | apply bD | apply bN | exact bL _) | (simp; done) | (simp; omega) | omega | exact bL _))))).mono ?_
 rintro e2 w2 ⟨hf, -, -⟩
 have he2 := hf.1
 subst he2
 have hf := Lib.hid hf
 go_wp2_with fail
 all_goals go_end0
 all_goals exact hf.out
theorem back_prim_u (B G : Nat) (tv sv : Value) (c : Ec) (l : List Fx) (ts : List Tg) (w : World) (stk : List NF) (v : NV) (i : Nat) (xen : Option Addr) (y : V7) (h : Hid (ERc B G tv sv c l w)) (hs : Hid (StX ts w stk l)) (hv : Hid (VR w v (.inl c.th))) (ht : Hid (TvR B G w tv ts)) (hi : i < ts.length) (hl : l.length ≤ 4096) (u : NV) (hu : Hid (VR w u (.inl y))) (hk : (ndT ts i).k = 8) (a : Int) (ha : v = .num a) (hth2 : c.th = ⟨0, a, 0, none, none, none⟩) (hy : y.k ≠ 0) (hn : ∀ p stk a, nPrim p stk u (.num a) = .en 5 0) :
  Calls Try.prog 35 #[.pointer (some ⟨G, 0, none⟩), (Fx.mk 5 i xen y).val] w (NxP c.w0 ts B G tv (nSecond (ndT ts i) ⟨1, i, .nil, u⟩ v stk)) := by
 obtain ⟨y0, y1, y2, y3, y4, y5⟩ := y
 dsimp only at hy
 have hq0 : ((y0 == 0) : Bool) = false := by simpa using hy
 unfold Fx.val
 try dsimp only
 have hG := h.out.ec.lt
 have c0 := h.out.ec.c0
 have hth := h.out.ec.thG
 obtain ⟨T, off, cp, rfl, hTB, hTG, hTw, hT⟩ := ht.out
 have hx0 := hT i hi
 have hnd : ndT ts (i : Int) = ts.getD i tg0 := rfl
 obtain ⟨ct, hct⟩ : ∃ a, c.th = a := ⟨_, rfl⟩
 rw [hct] at hth
 obtain ⟨x, hx⟩ : ∃ x, ts.getD i tg0 = x := ⟨_, rfl⟩
 rw [hx] at hx0 hnd
 rw [hnd] at hk ⊢
 have hgoal : nSecond x ⟨1, i, .nil, u⟩ v stk = nPrim x.n stk u v := by unfold nSecond; rw [if_neg (by omega)]
 rw [hgoal]
 rw [ha, hn]
 obtain rfl : ct = ⟨0, a, 0, none, none, none⟩ := hct.symm.trans hth2
 have hend := Lib.hid fun (k n : Int) (W : World) (hb : Below w.heap.size w W) => end_st2 h.out (ts := ts) k n W hb hl
 obtain ⟨xk, xa, xb, xc, xn, xx, xy, xz, xw⟩ := x
 obtain ⟨t0, t1, t2, t3, t4, t5, t6, t7, t8⟩ := hx0
 dsimp only at t0 t1 t2 t3 t4 t5 t6 t7 t8
 have hct := Lib.hid hct
 clear hT hx hnd hv ht hgoal h hs hu hn hth2
 go_enter Try.func35, Try.ntmps35
 go_upto_region 1 with fail
 obtain ⟨W1, hW1⟩ : ∃ W, w.alloc (.cells #[.int .i64 5, .int .i64 i, .pointer xen, .int .i64 y0, .int .i64 y1, .int .i64 y2, .pointer y3, .slice none 0 0, .pointer y4, .pointer y5] 91) = W := ⟨_, rfl⟩
 rw [hW1]
 obtain ⟨hb1, hs1, f0, f1, f2, f3, f4, f5, f6, f7, f8, f9⟩ := bx_fx (x := ⟨5, i, xen, ⟨y0, y1, y2, y3, y4, y5⟩⟩) hW1
 dsimp only at f0 f1 f2 f3 f4 f5 f6 f7 f8 f9
 have hG1 : G < W1.heap.size := Nat.lt_of_lt_of_le hG hb1.size
 have hT1 : T < W1.heap.size := Nat.lt_of_lt_of_le hTw hb1.size
 have hl1 : w.heap.size < W1.heap.size := by omega
 have c0 : W1.cell? _ = _ := carry hb1 hG c0
 have t0 : W1.cell? _ = _ := carry hb1 hTw t0
 have t1 : W1.cell? _ = _ := carry hb1 hTw t1
 have t2 : W1.cell? _ = _ := carry hb1 hTw t2
 have t3 : W1.cell? _ = _ := carry hb1 hTw t3
 have t4 : W1.cell? _ = _ := carry hb1 hTw t4
 have t5 : W1.cell? _ = _ := carry hb1 hTw t5
 have t6 : W1.cell? _ = _ := carry hb1 hTw t6
 have t7 : W1.cell? _ = _ := carry hb1 hTw t7
 have t8 : W1.cell? _ = _ := carry hb1 hTw t8
 have hi0 : (0 : Int) ≤ (i : Int) := by omega
 have hi1 : (i : Int) < (ts.length : Int) := by omega
 have hb1 := Lib.hid hb1
 clear hW1
 go_region
 obtain ⟨W0, hW0⟩ : ∃ W, (W1.alloc (.cells #[.int .i64 xk, .int .i64 xa, .int .i64 xb, .int .i64 xc, .int .i64 xn, .int .i64 xx, .int .i64 xy, .int .i64 xz, .int .i64 xw] 37)).drew = W := ⟨_, rfl⟩
 have hb2 : Below W1.heap.size W1 W0 := by rw [← hW0]; (repeat' (first | (with_reducible first | exact bR _ _ | assumption | apply bS | apply bA | apply bD | apply bN | exact bL _) | (simp; done) | (simp; omega) | omega | exact bL _))
 have hs2 : W0.heap.size = w.heap.size + 2 := by rw [← hW0]; simp; omega
 have n0 : W0.cell? ⟨w.heap.size + 1, 0, none⟩ = some (.int .i64 xk) := by rw [← hW0, ← hs1]; simp [go_sem]
 have n1 : W0.cell? ⟨w.heap.size + 1, 1, none⟩ = some (.int .i64 xa) := by rw [← hW0, ← hs1]; simp [go_sem]
 have n2 : W0.cell? ⟨w.heap.size + 1, 2, none⟩ = some (.int .i64 xb) := by rw [← hW0, ← hs1]; simp [go_sem]
 have n3 : W0.cell? ⟨w.heap.size + 1, 3, none⟩ = some (.int .i64 xc) := by rw [← hW0, ← hs1]; simp [go_sem]
 have n4 : W0.cell? ⟨w.heap.size + 1, 4, none⟩ = some (.int .i64 xn) := by rw [← hW0, ← hs1]; simp [go_sem]
 have n5 : W0.cell? ⟨w.heap.size + 1, 5, none⟩ = some (.int .i64 xx) := by rw [← hW0, ← hs1]; simp [go_sem]
 have n6 : W0.cell? ⟨w.heap.size + 1, 6, none⟩ = some (.int .i64 xy) := by rw [← hW0, ← hs1]; simp [go_sem]
 have n7 : W0.cell? ⟨w.heap.size + 1, 7, none⟩ = some (.int .i64 xz) := by rw [← hW0, ← hs1]; simp [go_sem]
 have n8 : W0.cell? ⟨w.heap.size + 1, 8, none⟩ = some (.int .i64 xw) := by rw [← hW0, ← hs1]; simp [go_sem]
 rw [hW0]
 have f0 : W0.cell? _ = _ := carry hb2 hl1 f0
 have f1 : W0.cell? _ = _ := carry hb2 hl1 f1
 have f2 : W0.cell? _ = _ := carry hb2 hl1 f2
 have f3 : W0.cell? _ = _ := carry hb2 hl1 f3
 have f4 : W0.cell? _ = _ := carry hb2 hl1 f4
 have f5 : W0.cell? _ = _ := carry hb2 hl1 f5
 have f6 : W0.cell? _ = _ := carry hb2 hl1 f6
 have f7 : W0.cell? _ = _ := carry hb2 hl1 f7
 have f8 : W0.cell? _ = _ := carry hb2 hl1 f8
 have f9 : W0.cell? _ = _ := carry hb2 hl1 f9
 have hb0 : Below w.heap.size w W0 := belT hb1.out hb2
 have hG0 : G < W0.heap.size := Nat.lt_of_lt_of_le hG hb0.size
 have hl0 : w.heap.size < W0.heap.size := by omega
 have hl2 : w.heap.size + 1 < W0.heap.size := by omega
 have hT0 := hth.below hG hb0
 have hT0 := Lib.hid hT0
 obtain ⟨c5, c6, c7, c8, c9, c10, c11⟩ := hT0.out
 dsimp only at c5 c6 c7 c8 c9 c10 c11
 have hnf : ¬ Bq G w.heap.size := fun e => by have e : w.heap.size = G := e; omega
 have hnv : ¬ Bq G (w.heap.size + 1) := fun e => by have e : w.heap.size + 1 = G := e; omega
 have hb0 := Lib.hid hb0
 clear hW0 hb2 hs1 hs2 t0 t1 t2 t3 t4 t5 t6 t7 t8 c0 hG1 hT1 hl1 hi0 hi1 hb1
 go_upto_region 26 with fail
 go_wp2_with fail
 refine (hend.out 5 0 _ (belT hb0.out (by (repeat' (first | (with_reducible first | exact bR _ _ | assumption | apply bS | apply bA | apply bD | apply bN | exact bL _) | (simp; done) | (simp; omega) | omega | exact bL _))))).mono ?_
 rintro e2 w2 ⟨hf, -, -⟩
 have he2 := hf.1
 subst he2
 have hf := Lib.hid hf
 go_wp2_with fail
 all_goals go_end0
 all_goals exact hf.out
theorem back_prim_n (B G : Nat) (tv sv : Value) (c : Ec) (l : List Fx) (ts : List Tg) (w : World) (stk : List NF) (v : NV) (i : Nat) (xen : Option Addr) (y : V7) (h : Hid (ERc B G tv sv c l w)) (hs : Hid (StX ts w stk l)) (hv : Hid (VR w v (.inl c.th))) (ht : Hid (TvR B G w tv ts)) (hi : i < ts.length) (hl : l.length ≤ 4096) (hk : (ndT ts i).k = 8) (a b : Int) (ha : v = .num b) (hth2 : c.th = ⟨0, b, 0, none, none, none⟩) (hy : y = ⟨0, a, 0, none, none, none⟩) (hp : 0 ≤ (ndT ts i).n ∧ (ndT ts i).n ≤ 5) (hab : -1073741824 ≤ a ∧ a ≤ 1073741823) (hbb : -1073741824 ≤ b ∧ b ≤ 1073741823) :
  Calls Try.prog 35 #[.pointer (some ⟨G, 0, none⟩), (Fx.mk 5 i xen y).val] w (NxP c.w0 ts B G tv (nSecond (ndT ts i) ⟨1, i, .nil, .num a⟩ v stk)) := by
 subst hy
 unfold Fx.val
 dsimp only
 have hG := h.out.ec.lt
 have c0 := h.out.ec.c0
 have hth := h.out.ec.thG
 obtain ⟨T, off, cp, rfl, hTB, hTG, hTw, hT⟩ := ht.out
 have hx0 := hT i hi
 have hnd : ndT ts (i : Int) = ts.getD i tg0 := rfl
 obtain ⟨ct, hct⟩ : ∃ a, c.th = a := ⟨_, rfl⟩
 rw [hct] at hth
 obtain ⟨x, hx⟩ : ∃ x, ts.getD i tg0 = x := ⟨_, rfl⟩
 rw [hx] at hx0 hnd
 rw [hnd] at hk hp ⊢
 have hgoal : nSecond x ⟨1, i, .nil, .num a⟩ v stk = nPrim x.n stk (.num a) v := by unfold nSecond; rw [if_neg (by omega)]
 rw [hgoal]
 subst ha
 obtain rfl : ct = ⟨0, b, 0, none, none, none⟩ := hct.symm.trans hth2
 have hend := Lib.hid fun (k n : Int) (W : World) (hb : Below w.heap.size w W) => end_st2 h.out (ts := ts) k n W hb hl
 have hgv := Lib.hid fun (v : NV) (t : V7) (W : World) (hb : Below w.heap.size w W) (hh : VR W v (.inl t)) => gives_st2 h.out t W hb (hs.out.below hb) hh
 obtain ⟨xk, xa, xb, xc, xn, xx, xy, xz, xw⟩ := x
 obtain ⟨t0, t1, t2, t3, t4, t5, t6, t7, t8⟩ := hx0
 dsimp only at t0 t1 t2 t3 t4 t5 t6 t7 t8
 have hct := Lib.hid hct
 dsimp only at hp ⊢
 have hpr := Lib.hid fun (W : World) => rprim2_any xn a b W hp hab hbb
 have htold := prm_told xn a b
 have hgl : nPrim xn stk (.num a) (.num b) = (if (prmV xn a b).1 = 0 then .gv stk (.num (prmV xn a b).2) else if (prmV xn a b).1 = 1 then .gv stk (.tru (prmV xn a b).2) else .en (prmV xn a b).1 (prmV xn a b).2) := rfl
 rw [hgl]
 obtain ⟨⟨o1, o2⟩, ho⟩ : ∃ o, prmV xn a b = o := ⟨_, rfl⟩
 rw [ho] at hpr htold ⊢
 dsimp only at htold ⊢
 clear hT hx hnd hv ht hgoal h hs hth2 hgl ho hp hab hbb
 rcases htold with rfl | rfl | ⟨rfl, h02⟩
 ·have he : rprV (0, o2) = .tuple #[.agg #[.int .i64 0, .int .i64 o2, .int .i64 0, .pointer none, .slice none 0 0, .pointer none, .pointer none], .int .i64 (-1)] := rfl
  rw [he] at hpr
  rw [if_pos rfl]
  clear he
  go_enter Try.func35, Try.ntmps35
  go_upto_region 1 with fail
  obtain ⟨W1, hW1⟩ : ∃ W, w.alloc (.cells #[.int .i64 5, .int .i64 i, .pointer xen, .int .i64 0, .int .i64 a, .int .i64 0, .pointer none, .slice none 0 0, .pointer none, .pointer none] 91) = W := ⟨_, rfl⟩
  rw [hW1]
  obtain ⟨hb1, hs1, f0, f1, f2, f3, f4, f5, f6, f7, f8, f9⟩ := bx_fx (x := ⟨5, i, xen, ⟨0, a, 0, none, none, none⟩⟩) hW1
  dsimp only at f0 f1 f2 f3 f4 f5 f6 f7 f8 f9
  have hG1 : G < W1.heap.size := Nat.lt_of_lt_of_le hG hb1.size
  have hT1 : T < W1.heap.size := Nat.lt_of_lt_of_le hTw hb1.size
  have hl1 : w.heap.size < W1.heap.size := by omega
  have c0 : W1.cell? _ = _ := carry hb1 hG c0
  have t0 : W1.cell? _ = _ := carry hb1 hTw t0
  have t1 : W1.cell? _ = _ := carry hb1 hTw t1
  have t2 : W1.cell? _ = _ := carry hb1 hTw t2
  have t3 : W1.cell? _ = _ := carry hb1 hTw t3
  have t4 : W1.cell? _ = _ := carry hb1 hTw t4
  have t5 : W1.cell? _ = _ := carry hb1 hTw t5
  have t6 : W1.cell? _ = _ := carry hb1 hTw t6
  have t7 : W1.cell? _ = _ := carry hb1 hTw t7
  have t8 : W1.cell? _ = _ := carry hb1 hTw t8
  have hi0 : (0 : Int) ≤ (i : Int) := by omega
  have hi1 : (i : Int) < (ts.length : Int) := by omega
  have hb1 := Lib.hid hb1
  clear hW1
  go_region
  obtain ⟨W0, hW0⟩ : ∃ W, (W1.alloc (.cells #[.int .i64 xk, .int .i64 xa, .int .i64 xb, .int .i64 xc, .int .i64 xn, .int .i64 xx, .int .i64 xy, .int .i64 xz, .int .i64 xw] 37)).drew = W := ⟨_, rfl⟩
  have hb2 : Below W1.heap.size W1 W0 := by rw [← hW0]; (repeat' (first | (with_reducible first | exact bR _ _ | assumption | apply bS | apply bA | apply bD | apply bN | exact bL _) | (simp; done) | (simp; omega) | omega | exact bL _))
  have hs2 : W0.heap.size = w.heap.size + 2 := by rw [← hW0]; simp; omega
  have n0 : W0.cell? ⟨w.heap.size + 1, 0, none⟩ = some (.int .i64 xk) := by rw [← hW0, ← hs1]; simp [go_sem]
  have n1 : W0.cell? ⟨w.heap.size + 1, 1, none⟩ = some (.int .i64 xa) := by rw [← hW0, ← hs1]; simp [go_sem]
  have n2 : W0.cell? ⟨w.heap.size + 1, 2, none⟩ = some (.int .i64 xb) := by rw [← hW0, ← hs1]; simp [go_sem]
  have n3 : W0.cell? ⟨w.heap.size + 1, 3, none⟩ = some (.int .i64 xc) := by rw [← hW0, ← hs1]; simp [go_sem]
  have n4 : W0.cell? ⟨w.heap.size + 1, 4, none⟩ = some (.int .i64 xn) := by rw [← hW0, ← hs1]; simp [go_sem]
  have n5 : W0.cell? ⟨w.heap.size + 1, 5, none⟩ = some (.int .i64 xx) := by rw [← hW0, ← hs1]; simp [go_sem]
  have n6 : W0.cell? ⟨w.heap.size + 1, 6, none⟩ = some (.int .i64 xy) := by rw [← hW0, ← hs1]; simp [go_sem]
  have n7 : W0.cell? ⟨w.heap.size + 1, 7, none⟩ = some (.int .i64 xz) := by rw [← hW0, ← hs1]; simp [go_sem]
  have n8 : W0.cell? ⟨w.heap.size + 1, 8, none⟩ = some (.int .i64 xw) := by rw [← hW0, ← hs1]; simp [go_sem]
  rw [hW0]
  have f0 : W0.cell? _ = _ := carry hb2 hl1 f0
  have f1 : W0.cell? _ = _ := carry hb2 hl1 f1
  have f2 : W0.cell? _ = _ := carry hb2 hl1 f2
  have f3 : W0.cell? _ = _ := carry hb2 hl1 f3
  have f4 : W0.cell? _ = _ := carry hb2 hl1 f4
  have f5 : W0.cell? _ = _ := carry hb2 hl1 f5
  have f6 : W0.cell? _ = _ := carry hb2 hl1 f6
  have f7 : W0.cell? _ = _ := carry hb2 hl1 f7
  have f8 : W0.cell? _ = _ := carry hb2 hl1 f8
  have f9 : W0.cell? _ = _ := carry hb2 hl1 f9
  have hb0 : Below w.heap.size w W0 := belT hb1.out hb2
  have hG0 : G < W0.heap.size := Nat.lt_of_lt_of_le hG hb0.size
  have hl0 : w.heap.size < W0.heap.size := by omega
  have hl2 : w.heap.size + 1 < W0.heap.size := by omega
  have hT0 := hth.below hG hb0
  have hT0 := Lib.hid hT0
  obtain ⟨c5, c6, c7, c8, c9, c10, c11⟩ := hT0.out
  dsimp only at c5 c6 c7 c8 c9 c10 c11
  have hnf : ¬ Bq G w.heap.size := fun e => by have e : w.heap.size = G := e; omega
  have hnv : ¬ Bq G (w.heap.size + 1) := fun e => by have e : w.heap.size + 1 = G := e; omega
  have hb0 := Lib.hid hb0
  clear hW0 hb2 hs1 hs2 t0 t1 t2 t3 t4 t5 t6 t7 t8 c0 hG1 hT1 hl1 hi0 hi1 hb1
  go_upto_region 28 with fail
  go_cut [6, 7] (fun s6 s7 W => ∃ g : Nat, s6 = .pointer (some ⟨g, 0, none⟩) ∧ s7 = .int .i64 (-1) ∧ VCo W g 0 ⟨0, o2, 0, none, none, none⟩ ∧ (W0.heap.size ≤ g ∧ g < W.heap.size) ∧ Below W0.heap.size W0 W)
  case first =>
   refine wp_region_held_drew (S := fun W => Below W0.heap.size W0 W) (by kernel_rfl) ((Below.refl _ _).drew) (fun hHeld => ?_)
   refine rg_take 0 (some 116) (v := ?v1) rfl rfl (by kernel_rfl) (by kernel_rfl) (by kernel_rfl) (fun _ _ _ h => h) (by rfl) ?hy1 (by assumption) ?_
   case hy1 => intro W hSW; (try dsimp only at hSW); have z0 := carry hSW hl2 n4; have z1 := carry hSW hl0 f4; have z2 := carry hSW hG0 c6; have q0 := Nat.lt_of_lt_of_le hG0 hSW.size; have q1 := Nat.lt_of_lt_of_le hl0 hSW.size; have q2 := Nat.lt_of_lt_of_le hl2 hSW.size; go_simp; (try with_reducible rfl)
   try simp only [Act.put, bP, bQ, bT]
   refine rg_take 1 (some 117) (v := ?v2) rfl rfl (by kernel_rfl) (by kernel_rfl) (by kernel_rfl) (fun _ _ _ h => h) (by rfl) ?hy2 (by assumption) ?_
   case hy2 => intro W hSW; (try dsimp only at hSW); have z0 := carry hSW hl2 n4; have z1 := carry hSW hl0 f4; have z2 := carry hSW hG0 c6; have q0 := Nat.lt_of_lt_of_le hG0 hSW.size; have q1 := Nat.lt_of_lt_of_le hl0 hSW.size; have q2 := Nat.lt_of_lt_of_le hl2 hSW.size; go_simp; (try with_reducible rfl)
   try simp only [Act.put, bP, bQ, bT]
   refine rg_take 2 (some 118) (v := ?v3) rfl rfl (by kernel_rfl) (by kernel_rfl) (by kernel_rfl) (fun _ _ _ h => h) (by rfl) ?hy3 (by assumption) ?_
   case hy3 => intro W hSW; (try dsimp only at hSW); have z0 := carry hSW hl2 n4; have z1 := carry hSW hl0 f4; have z2 := carry hSW hG0 c6; have q0 := Nat.lt_of_lt_of_le hG0 hSW.size; have q1 := Nat.lt_of_lt_of_le hl0 hSW.size; have q2 := Nat.lt_of_lt_of_le hl2 hSW.size; go_simp; (try with_reducible rfl)
   try simp only [Act.put, bP, bQ, bT]
   refine rg_take 3 (some 119) (v := ?v4) rfl rfl (by kernel_rfl) (by kernel_rfl) (by kernel_rfl) (fun _ _ _ h => h) (by rfl) ?hy4 (by assumption) ?_
   case hy4 => intro W hSW; (try dsimp only at hSW); have z0 := carry hSW hl2 n4; have z1 := carry hSW hl0 f4; have z2 := carry hSW hG0 c6; have q0 := Nat.lt_of_lt_of_le hG0 hSW.size; have q1 := Nat.lt_of_lt_of_le hl0 hSW.size; have q2 := Nat.lt_of_lt_of_le hl2 hSW.size; go_simp; (try with_reducible rfl)
   try simp only [Act.put, bP, bQ, bT]
   refine rg_take 4 (some 120) (v := ?v5) rfl rfl (by kernel_rfl) (by kernel_rfl) (by kernel_rfl) (fun _ _ _ h => h) (by rfl) ?hy5 (by assumption) ?_
   case hy5 => intro W hSW; (try dsimp only at hSW); have z0 := carry hSW hl2 n4; have z1 := carry hSW hl0 f4; have z2 := carry hSW hG0 c6; have q0 := Nat.lt_of_lt_of_le hG0 hSW.size; have q1 := Nat.lt_of_lt_of_le hl0 hSW.size; have q2 := Nat.lt_of_lt_of_le hl2 hSW.size; go_simp; (try with_reducible rfl)
   try simp only [Act.put, bP, bQ, bT]
   refine rg_take 5 (some 121) (v := ?v6) rfl rfl (by kernel_rfl) (by kernel_rfl) (by kernel_rfl) (fun _ _ _ h => h) (by rfl) ?hy6 (by assumption) ?_
   case hy6 => intro W hSW; (try dsimp only at hSW); have z0 := carry hSW hl2 n4; have z1 := carry hSW hl0 f4; have z2 := carry hSW hG0 c6; have q0 := Nat.lt_of_lt_of_le hG0 hSW.size; have q1 := Nat.lt_of_lt_of_le hl0 hSW.size; have q2 := Nat.lt_of_lt_of_le hl2 hSW.size; go_simp; (try with_reducible rfl)
   try simp only [Act.put, bP, bQ, bT]
   refine rg_take 6 (some 122) (v := ?v7) rfl rfl (by kernel_rfl) (by kernel_rfl) (by kernel_rfl) (fun _ _ _ h => h) (by rfl) ?hy7 (by assumption) ?_
   case hy7 => intro W hSW; (try dsimp only at hSW); have z0 := carry hSW hl2 n4; have z1 := carry hSW hl0 f4; have z2 := carry hSW hG0 c6; have q0 := Nat.lt_of_lt_of_le hG0 hSW.size; have q1 := Nat.lt_of_lt_of_le hl0 hSW.size; have q2 := Nat.lt_of_lt_of_le hl2 hSW.size; go_simp; (try with_reducible rfl)
   try simp only [Act.put, bP, bQ, bT]
   refine rg_take 7 (some 123) (v := ?v8) rfl rfl (by kernel_rfl) (by kernel_rfl) (by kernel_rfl) (fun _ _ _ h => h) (by rfl) ?hy8 (by assumption) ?_
   case hy8 => intro W hSW; (try dsimp only at hSW); have z0 := carry hSW hl2 n4; have z1 := carry hSW hl0 f4; have z2 := carry hSW hG0 c6; have q0 := Nat.lt_of_lt_of_le hG0 hSW.size; have q1 := Nat.lt_of_lt_of_le hl0 hSW.size; have q2 := Nat.lt_of_lt_of_le hl2 hSW.size; go_simp; (try with_reducible rfl)
   try simp only [Act.put, bP, bQ, bT]
   refine rg_take 8 (some 124) (v := ?v9) rfl rfl (by kernel_rfl) (by kernel_rfl) (by kernel_rfl) (fun _ _ _ h => h) (by rfl) ?hy9 (by assumption) ?_
   case hy9 => intro W hSW; (try dsimp only at hSW); have z0 := carry hSW hl2 n4; have z1 := carry hSW hl0 f4; have z2 := carry hSW hG0 c6; have q0 := Nat.lt_of_lt_of_le hG0 hSW.size; have q1 := Nat.lt_of_lt_of_le hl0 hSW.size; have q2 := Nat.lt_of_lt_of_le hl2 hSW.size; go_simp; (try with_reducible rfl)
   try simp only [Act.put, bP, bQ, bT]
   refine rg_take 9 (some 125) (v := ?v10) rfl rfl (by kernel_rfl) (by kernel_rfl) (by kernel_rfl) (fun _ _ _ h => h) (by rfl) ?hy10 (by assumption) ?_
   case hy10 => intro W hSW; (try dsimp only at hSW); have z0 := carry hSW hl2 n4; have z1 := carry hSW hl0 f4; have z2 := carry hSW hG0 c6; have q0 := Nat.lt_of_lt_of_le hG0 hSW.size; have q1 := Nat.lt_of_lt_of_le hl0 hSW.size; have q2 := Nat.lt_of_lt_of_le hl2 hSW.size; go_simp; (try with_reducible rfl)
   try simp only [Act.put, bP, bQ, bT]
   refine rg_twoF 10 14 rfl rfl (by kernel_rfl) (by rfl) (by rfl) (fun K hK => ?callf) (fun K hK => ?allocf)
   case callf =>
    go_simp
    refine (hpr.out _).mono ?_
    rintro e9 w9 ⟨rfl, hb9⟩
    have hb99 : Below W0.heap.size W0 w9 := belT ((Below.refl _ _).drew) hb9
    refine hK.out _ _ hb99 (fun hH1 => ?_)
    clear hK K
    try simp only [Act.put, bP, bQ, bT]
    refine rg_take 11 (some 115) (v := ?v11) rfl rfl (by kernel_rfl) (by kernel_rfl) (by kernel_rfl) (fun _ _ _ h => h) (by rfl) ?hy11 (by assumption) ?_
    case hy11 => intro W hSW; (try dsimp only at hSW); go_simp; (try with_reducible rfl)
    try simp only [Act.put, bP, bQ, bT]
    refine rg_take 12 (some 127) (v := ?v12) rfl rfl (by kernel_rfl) (by kernel_rfl) (by kernel_rfl) (fun _ _ _ h => h) (by rfl) ?hy12 (by assumption) ?_
    case hy12 => intro W hSW; (try dsimp only at hSW); go_simp; (try with_reducible rfl)
    try simp only [Act.put, bP, bQ, bT]
    refine rg_take 13 (some 128) (v := ?v13) rfl rfl (by kernel_rfl) (by kernel_rfl) (by kernel_rfl) (fun _ _ _ h => h) (by rfl) ?hy13 (by assumption) ?_
    case hy13 => intro W hSW; (try dsimp only at hSW); go_simp; (try with_reducible rfl)
    try simp only [Act.put, bP, bQ, bT]
    refine rg_one 14 rfl (by kernel_rfl) (by rfl) (fun K hK => ?_)
    go_simp
    refine hK.out _ _ (hH1.trans (show Below W0.heap.size w9 _ from by have := hH1.size; (repeat' (first | (with_reducible first | exact bR _ _ | assumption | apply bS | apply bA | apply bD | apply bN | exact bL _) | (simp; done) | (simp; omega) | omega | exact bL _)))) (fun hH14 => ?_)
    clear hK K
    try simp only [Act.put, bP, bQ, bT]
    refine rg_one 15 rfl (by kernel_rfl) (by rfl) (fun K hK => ?_)
    go_simp
    refine hK.out _ _ (hH1.trans (show Below W0.heap.size w9 _ from by have := hH1.size; (repeat' (first | (with_reducible first | exact bR _ _ | assumption | apply bS | apply bA | apply bD | apply bN | exact bL _) | (simp; done) | (simp; omega) | omega | exact bL _)))) (fun hH15 => ?_)
    clear hK K
    try simp only [Act.put, bP, bQ, bT]
    refine rg_take 16 (some 7) (v := ?v14) rfl rfl (by kernel_rfl) (by kernel_rfl) (by kernel_rfl) (fun _ _ _ h => h) (by rfl) ?hy14 (by assumption) ?_
    case hy14 => intro W hSW; (try dsimp only at hSW); go_simp; (try with_reducible rfl)
    try simp only [Act.put, bP, bQ, bT]
    refine wpAnyH_done (by kernel_rfl) ?_ _
    go_wp2_with fail
    go_meet
    exact ⟨w9.heap.size, rfl, rfl, by simp [VCo, go_sem], ⟨hb99.size, by simp⟩, hH15⟩
   case allocf =>
    go_simp
    refine hK.out _ _ (belA _ ((Below.refl _ _).drew)) (fun hH23 => ?_)
    clear hK K
    try simp only [Act.put, bP, bQ, bT]
    refine rg_one 10 rfl (by kernel_rfl) (by rfl) (fun K hK => ?_)
    go_simp
    refine (hpr.out _).mono ?_
    rintro e9 w9 ⟨rfl, hb9⟩
    obtain ⟨⟨x0, x1, x2, x3, x4, x5, x6⟩, xf, hb5, xl⟩ := bx7g (W := W0.drew) (g := W0.heap.size) rfl ((Below.refl _ _).drew) hb9
    have hb99 : Below W0.heap.size W0 w9 := hb5
    refine hK.out _ _ hb99 (fun hH1 => ?_)
    clear hK K hb9
    try simp only [Act.put, bP, bQ, bT]
    refine rg_take 11 (some 115) (v := ?v15) rfl rfl (by kernel_rfl) (by kernel_rfl) (by kernel_rfl) (fun _ _ _ h => h) (by rfl) ?hy15 (by assumption) ?_
    case hy15 => intro W hSW; (try dsimp only at hSW); go_simp; (try with_reducible rfl)
    try simp only [Act.put, bP, bQ, bT]
    refine rg_take 12 (some 127) (v := ?v16) rfl rfl (by kernel_rfl) (by kernel_rfl) (by kernel_rfl) (fun _ _ _ h => h) (by rfl) ?hy16 (by assumption) ?_
    case hy16 => intro W hSW; (try dsimp only at hSW); go_simp; (try with_reducible rfl)
    try simp only [Act.put, bP, bQ, bT]
    refine rg_take 13 (some 128) (v := ?v17) rfl rfl (by kernel_rfl) (by kernel_rfl) (by kernel_rfl) (fun _ _ _ h => h) (by rfl) ?hy17 (by assumption) ?_
    case hy17 => intro W hSW; (try dsimp only at hSW); go_simp; (try with_reducible rfl)
    try simp only [Act.put, bP, bQ, bT]
    refine rg_one 15 rfl (by kernel_rfl) (by rfl) (fun K hK => ?_)
    have xf0 := xf 0; have xf1 := xf 1; have xf2 := xf 2; have xf3 := xf 3; have xf4 := xf 4; have xf5 := xf 5; have xf6 := xf 6
    go_simp
    refine hK.out _ _ (hH1.trans (show Below W0.heap.size w9 _ from by have := hH1.size; (repeat' (first | (with_reducible first | exact bR _ _ | assumption | apply bS | apply bA | apply bD | apply bN | exact bL _) | (simp; done) | (simp; omega) | omega | exact bL _)))) (fun hH24 => ?_)
    clear hK K
    try simp only [Act.put, bP, bQ, bT]
    refine rg_take 16 (some 7) (v := ?v18) rfl rfl (by kernel_rfl) (by kernel_rfl) (by kernel_rfl) (fun _ _ _ h => h) (by rfl) ?hy18 (by assumption) ?_
    case hy18 => intro W hSW; (try dsimp only at hSW); go_simp; (try with_reducible rfl)
    try simp only [Act.put, bP, bQ, bT]
    refine wpAnyH_done (by kernel_rfl) ?_ _
    go_wp2_with fail
    go_meet
    exact ⟨W0.heap.size, rfl, rfl, by simp [VCo, go_sem, x0, x1, x2, x3, x4, x5, x6], ⟨Nat.le_refl _, by simp; exact xl⟩, hH24⟩
  case rest =>
   rename World => W2
   obtain ⟨g, rfl, rfl, ⟨d0, d1, d2, d3, d4, d5, d6⟩, ⟨hgl0, hgl⟩, hb2⟩ := ‹∃ g, _›
   simp only [Nat.zero_add] at d1 d2 d3 d4 d5 d6
   dsimp only at d0 d1 d2 d3 d4 d5 d6
   have hB2 := Lib.hid (belT hb0.out hb2)
   clear hb2 hpr
   go_wp2_with fail
   refine (hgv.out (.num o2) ⟨0, o2, 0, none, none, none⟩ _ hB2.out rfl).mono ?_
   rintro e2 w2 ⟨hf, -, -⟩
   have he2 := hf.1
   subst he2
   have hf := Lib.hid hf
   go_wp2_with fail
   all_goals go_end0
   all_goals exact hf.out
 ·have he : rprV (1, o2) = .tuple #[.agg #[.int .i64 1, .int .i64 o2, .int .i64 0, .pointer none, .slice none 0 0, .pointer none, .pointer none], .int .i64 (-1)] := rfl
  rw [he] at hpr
  rw [if_neg (by decide), if_pos rfl]
  clear he
  go_enter Try.func35, Try.ntmps35
  go_upto_region 1 with fail
  obtain ⟨W1, hW1⟩ : ∃ W, w.alloc (.cells #[.int .i64 5, .int .i64 i, .pointer xen, .int .i64 0, .int .i64 a, .int .i64 0, .pointer none, .slice none 0 0, .pointer none, .pointer none] 91) = W := ⟨_, rfl⟩
  rw [hW1]
  obtain ⟨hb1, hs1, f0, f1, f2, f3, f4, f5, f6, f7, f8, f9⟩ := bx_fx (x := ⟨5, i, xen, ⟨0, a, 0, none, none, none⟩⟩) hW1
  dsimp only at f0 f1 f2 f3 f4 f5 f6 f7 f8 f9
  have hG1 : G < W1.heap.size := Nat.lt_of_lt_of_le hG hb1.size
  have hT1 : T < W1.heap.size := Nat.lt_of_lt_of_le hTw hb1.size
  have hl1 : w.heap.size < W1.heap.size := by omega
  have c0 : W1.cell? _ = _ := carry hb1 hG c0
  have t0 : W1.cell? _ = _ := carry hb1 hTw t0
  have t1 : W1.cell? _ = _ := carry hb1 hTw t1
  have t2 : W1.cell? _ = _ := carry hb1 hTw t2
  have t3 : W1.cell? _ = _ := carry hb1 hTw t3
  have t4 : W1.cell? _ = _ := carry hb1 hTw t4
  have t5 : W1.cell? _ = _ := carry hb1 hTw t5
  have t6 : W1.cell? _ = _ := carry hb1 hTw t6
  have t7 : W1.cell? _ = _ := carry hb1 hTw t7
  have t8 : W1.cell? _ = _ := carry hb1 hTw t8
  have hi0 : (0 : Int) ≤ (i : Int) := by omega
  have hi1 : (i : Int) < (ts.length : Int) := by omega
  have hb1 := Lib.hid hb1
  clear hW1
  go_region
  obtain ⟨W0, hW0⟩ : ∃ W, (W1.alloc (.cells #[.int .i64 xk, .int .i64 xa, .int .i64 xb, .int .i64 xc, .int .i64 xn, .int .i64 xx, .int .i64 xy, .int .i64 xz, .int .i64 xw] 37)).drew = W := ⟨_, rfl⟩
  have hb2 : Below W1.heap.size W1 W0 := by rw [← hW0]; (repeat' (first | (with_reducible first | exact bR _ _ | assumption | apply bS | apply bA | apply bD | apply bN | exact bL _) | (simp; done) | (simp; omega) | omega | exact bL _))
  have hs2 : W0.heap.size = w.heap.size + 2 := by rw [← hW0]; simp; omega
  have n0 : W0.cell? ⟨w.heap.size + 1, 0, none⟩ = some (.int .i64 xk) := by rw [← hW0, ← hs1]; simp [go_sem]
  have n1 : W0.cell? ⟨w.heap.size + 1, 1, none⟩ = some (.int .i64 xa) := by rw [← hW0, ← hs1]; simp [go_sem]
  have n2 : W0.cell? ⟨w.heap.size + 1, 2, none⟩ = some (.int .i64 xb) := by rw [← hW0, ← hs1]; simp [go_sem]
  have n3 : W0.cell? ⟨w.heap.size + 1, 3, none⟩ = some (.int .i64 xc) := by rw [← hW0, ← hs1]; simp [go_sem]
  have n4 : W0.cell? ⟨w.heap.size + 1, 4, none⟩ = some (.int .i64 xn) := by rw [← hW0, ← hs1]; simp [go_sem]
  have n5 : W0.cell? ⟨w.heap.size + 1, 5, none⟩ = some (.int .i64 xx) := by rw [← hW0, ← hs1]; simp [go_sem]
  have n6 : W0.cell? ⟨w.heap.size + 1, 6, none⟩ = some (.int .i64 xy) := by rw [← hW0, ← hs1]; simp [go_sem]
  have n7 : W0.cell? ⟨w.heap.size + 1, 7, none⟩ = some (.int .i64 xz) := by rw [← hW0, ← hs1]; simp [go_sem]
  have n8 : W0.cell? ⟨w.heap.size + 1, 8, none⟩ = some (.int .i64 xw) := by rw [← hW0, ← hs1]; simp [go_sem]
  rw [hW0]
  have f0 : W0.cell? _ = _ := carry hb2 hl1 f0
  have f1 : W0.cell? _ = _ := carry hb2 hl1 f1
  have f2 : W0.cell? _ = _ := carry hb2 hl1 f2
  have f3 : W0.cell? _ = _ := carry hb2 hl1 f3
  have f4 : W0.cell? _ = _ := carry hb2 hl1 f4
  have f5 : W0.cell? _ = _ := carry hb2 hl1 f5
  have f6 : W0.cell? _ = _ := carry hb2 hl1 f6
  have f7 : W0.cell? _ = _ := carry hb2 hl1 f7
  have f8 : W0.cell? _ = _ := carry hb2 hl1 f8
  have f9 : W0.cell? _ = _ := carry hb2 hl1 f9
  have hb0 : Below w.heap.size w W0 := belT hb1.out hb2
  have hG0 : G < W0.heap.size := Nat.lt_of_lt_of_le hG hb0.size
  have hl0 : w.heap.size < W0.heap.size := by omega
  have hl2 : w.heap.size + 1 < W0.heap.size := by omega
  have hT0 := hth.below hG hb0
  have hT0 := Lib.hid hT0
  obtain ⟨c5, c6, c7, c8, c9, c10, c11⟩ := hT0.out
  dsimp only at c5 c6 c7 c8 c9 c10 c11
  have hnf : ¬ Bq G w.heap.size := fun e => by have e : w.heap.size = G := e; omega
  have hnv : ¬ Bq G (w.heap.size + 1) := fun e => by have e : w.heap.size + 1 = G := e; omega
  have hb0 := Lib.hid hb0
  clear hW0 hb2 hs1 hs2 t0 t1 t2 t3 t4 t5 t6 t7 t8 c0 hG1 hT1 hl1 hi0 hi1 hb1
  go_upto_region 28 with fail
  go_cut [6, 7] (fun s6 s7 W => ∃ g : Nat, s6 = .pointer (some ⟨g, 0, none⟩) ∧ s7 = .int .i64 (-1) ∧ VCo W g 0 ⟨1, o2, 0, none, none, none⟩ ∧ (W0.heap.size ≤ g ∧ g < W.heap.size) ∧ Below W0.heap.size W0 W)
  case first =>
   refine wp_region_held_drew (S := fun W => Below W0.heap.size W0 W) (by kernel_rfl) ((Below.refl _ _).drew) (fun hHeld => ?_)
   refine rg_take 0 (some 116) (v := ?v19) rfl rfl (by kernel_rfl) (by kernel_rfl) (by kernel_rfl) (fun _ _ _ h => h) (by rfl) ?hy19 (by assumption) ?_
   case hy19 => intro W hSW; (try dsimp only at hSW); have z0 := carry hSW hl2 n4; have z1 := carry hSW hl0 f4; have z2 := carry hSW hG0 c6; have q0 := Nat.lt_of_lt_of_le hG0 hSW.size; have q1 := Nat.lt_of_lt_of_le hl0 hSW.size; have q2 := Nat.lt_of_lt_of_le hl2 hSW.size; go_simp; (try with_reducible rfl)
   try simp only [Act.put, bP, bQ, bT]
   refine rg_take 1 (some 117) (v := ?v20) rfl rfl (by kernel_rfl) (by kernel_rfl) (by kernel_rfl) (fun _ _ _ h => h) (by rfl) ?hy20 (by assumption) ?_
   case hy20 => intro W hSW; (try dsimp only at hSW); have z0 := carry hSW hl2 n4; have z1 := carry hSW hl0 f4; have z2 := carry hSW hG0 c6; have q0 := Nat.lt_of_lt_of_le hG0 hSW.size; have q1 := Nat.lt_of_lt_of_le hl0 hSW.size; have q2 := Nat.lt_of_lt_of_le hl2 hSW.size; go_simp; (try with_reducible rfl)
   try simp only [Act.put, bP, bQ, bT]
   refine rg_take 2 (some 118) (v := ?v21) rfl rfl (by kernel_rfl) (by kernel_rfl) (by kernel_rfl) (fun _ _ _ h => h) (by rfl) ?hy21 (by assumption) ?_
   case hy21 => intro W hSW; (try dsimp only at hSW); have z0 := carry hSW hl2 n4; have z1 := carry hSW hl0 f4; have z2 := carry hSW hG0 c6; have q0 := Nat.lt_of_lt_of_le hG0 hSW.size; have q1 := Nat.lt_of_lt_of_le hl0 hSW.size; have q2 := Nat.lt_of_lt_of_le hl2 hSW.size; go_simp; (try with_reducible rfl)
   try simp only [Act.put, bP, bQ, bT]
   refine rg_take 3 (some 119) (v := ?v22) rfl rfl (by kernel_rfl) (by kernel_rfl) (by kernel_rfl) (fun _ _ _ h => h) (by rfl) ?hy22 (by assumption) ?_
   case hy22 => intro W hSW; (try dsimp only at hSW); have z0 := carry hSW hl2 n4; have z1 := carry hSW hl0 f4; have z2 := carry hSW hG0 c6; have q0 := Nat.lt_of_lt_of_le hG0 hSW.size; have q1 := Nat.lt_of_lt_of_le hl0 hSW.size; have q2 := Nat.lt_of_lt_of_le hl2 hSW.size; go_simp; (try with_reducible rfl)
   try simp only [Act.put, bP, bQ, bT]
   refine rg_take 4 (some 120) (v := ?v23) rfl rfl (by kernel_rfl) (by kernel_rfl) (by kernel_rfl) (fun _ _ _ h => h) (by rfl) ?hy23 (by assumption) ?_
   case hy23 => intro W hSW; (try dsimp only at hSW); have z0 := carry hSW hl2 n4; have z1 := carry hSW hl0 f4; have z2 := carry hSW hG0 c6; have q0 := Nat.lt_of_lt_of_le hG0 hSW.size; have q1 := Nat.lt_of_lt_of_le hl0 hSW.size; have q2 := Nat.lt_of_lt_of_le hl2 hSW.size; go_simp; (try with_reducible rfl)
   try simp only [Act.put, bP, bQ, bT]
   refine rg_take 5 (some 121) (v := ?v24) rfl rfl (by kernel_rfl) (by kernel_rfl) (by kernel_rfl) (fun _ _ _ h => h) (by rfl) ?hy24 (by assumption) ?_
   case hy24 => intro W hSW; (try dsimp only at hSW); have z0 := carry hSW hl2 n4; have z1 := carry hSW hl0 f4; have z2 := carry hSW hG0 c6; have q0 := Nat.lt_of_lt_of_le hG0 hSW.size; have q1 := Nat.lt_of_lt_of_le hl0 hSW.size; have q2 := Nat.lt_of_lt_of_le hl2 hSW.size; go_simp; (try with_reducible rfl)
   try simp only [Act.put, bP, bQ, bT]
   refine rg_take 6 (some 122) (v := ?v25) rfl rfl (by kernel_rfl) (by kernel_rfl) (by kernel_rfl) (fun _ _ _ h => h) (by rfl) ?hy25 (by assumption) ?_
   case hy25 => intro W hSW; (try dsimp only at hSW); have z0 := carry hSW hl2 n4; have z1 := carry hSW hl0 f4; have z2 := carry hSW hG0 c6; have q0 := Nat.lt_of_lt_of_le hG0 hSW.size; have q1 := Nat.lt_of_lt_of_le hl0 hSW.size; have q2 := Nat.lt_of_lt_of_le hl2 hSW.size; go_simp; (try with_reducible rfl)
   try simp only [Act.put, bP, bQ, bT]
   refine rg_take 7 (some 123) (v := ?v26) rfl rfl (by kernel_rfl) (by kernel_rfl) (by kernel_rfl) (fun _ _ _ h => h) (by rfl) ?hy26 (by assumption) ?_
   case hy26 => intro W hSW; (try dsimp only at hSW); have z0 := carry hSW hl2 n4; have z1 := carry hSW hl0 f4; have z2 := carry hSW hG0 c6; have q0 := Nat.lt_of_lt_of_le hG0 hSW.size; have q1 := Nat.lt_of_lt_of_le hl0 hSW.size; have q2 := Nat.lt_of_lt_of_le hl2 hSW.size; go_simp; (try with_reducible rfl)
   try simp only [Act.put, bP, bQ, bT]
   refine rg_take 8 (some 124) (v := ?v27) rfl rfl (by kernel_rfl) (by kernel_rfl) (by kernel_rfl) (fun _ _ _ h => h) (by rfl) ?hy27 (by assumption) ?_
   case hy27 => intro W hSW; (try dsimp only at hSW); have z0 := carry hSW hl2 n4; have z1 := carry hSW hl0 f4; have z2 := carry hSW hG0 c6; have q0 := Nat.lt_of_lt_of_le hG0 hSW.size; have q1 := Nat.lt_of_lt_of_le hl0 hSW.size; have q2 := Nat.lt_of_lt_of_le hl2 hSW.size; go_simp; (try with_reducible rfl)
   try simp only [Act.put, bP, bQ, bT]
   refine rg_take 9 (some 125) (v := ?v28) rfl rfl (by kernel_rfl) (by kernel_rfl) (by kernel_rfl) (fun _ _ _ h => h) (by rfl) ?hy28 (by assumption) ?_
   case hy28 => intro W hSW; (try dsimp only at hSW); have z0 := carry hSW hl2 n4; have z1 := carry hSW hl0 f4; have z2 := carry hSW hG0 c6; have q0 := Nat.lt_of_lt_of_le hG0 hSW.size; have q1 := Nat.lt_of_lt_of_le hl0 hSW.size; have q2 := Nat.lt_of_lt_of_le hl2 hSW.size; go_simp; (try with_reducible rfl)
   try simp only [Act.put, bP, bQ, bT]
   refine rg_twoF 10 14 rfl rfl (by kernel_rfl) (by rfl) (by rfl) (fun K hK => ?callf) (fun K hK => ?allocf)
   case callf =>
    go_simp
    refine (hpr.out _).mono ?_
    rintro e9 w9 ⟨rfl, hb9⟩
    have hb99 : Below W0.heap.size W0 w9 := belT ((Below.refl _ _).drew) hb9
    refine hK.out _ _ hb99 (fun hH1 => ?_)
    clear hK K
    try simp only [Act.put, bP, bQ, bT]
    refine rg_take 11 (some 115) (v := ?v29) rfl rfl (by kernel_rfl) (by kernel_rfl) (by kernel_rfl) (fun _ _ _ h => h) (by rfl) ?hy29 (by assumption) ?_
    case hy29 => intro W hSW; (try dsimp only at hSW); go_simp; (try with_reducible rfl)
    try simp only [Act.put, bP, bQ, bT]
    refine rg_take 12 (some 127) (v := ?v30) rfl rfl (by kernel_rfl) (by kernel_rfl) (by kernel_rfl) (fun _ _ _ h => h) (by rfl) ?hy30 (by assumption) ?_
    case hy30 => intro W hSW; (try dsimp only at hSW); go_simp; (try with_reducible rfl)
    try simp only [Act.put, bP, bQ, bT]
    refine rg_take 13 (some 128) (v := ?v31) rfl rfl (by kernel_rfl) (by kernel_rfl) (by kernel_rfl) (fun _ _ _ h => h) (by rfl) ?hy31 (by assumption) ?_
    case hy31 => intro W hSW; (try dsimp only at hSW); go_simp; (try with_reducible rfl)
    try simp only [Act.put, bP, bQ, bT]
    refine rg_one 14 rfl (by kernel_rfl) (by rfl) (fun K hK => ?_)
    go_simp
    refine hK.out _ _ (hH1.trans (show Below W0.heap.size w9 _ from by have := hH1.size; (repeat' (first | (with_reducible first | exact bR _ _ | assumption | apply bS | apply bA | apply bD | apply bN | exact bL _) | (simp; done) | (simp; omega) | omega | exact bL _)))) (fun hH14 => ?_)
    clear hK K
    try simp only [Act.put, bP, bQ, bT]
    refine rg_one 15 rfl (by kernel_rfl) (by rfl) (fun K hK => ?_)
    go_simp
    refine hK.out _ _ (hH1.trans (show Below W0.heap.size w9 _ from by have := hH1.size; (repeat' (first | (with_reducible first | exact bR _ _ | assumption | apply bS | apply bA | apply bD | apply bN | exact bL _) | (simp; done) | (simp; omega) | omega | exact bL _)))) (fun hH15 => ?_)
    clear hK K
    try simp only [Act.put, bP, bQ, bT]
    refine rg_take 16 (some 7) (v := ?v32) rfl rfl (by kernel_rfl) (by kernel_rfl) (by kernel_rfl) (fun _ _ _ h => h) (by rfl) ?hy32 (by assumption) ?_
    case hy32 => intro W hSW; (try dsimp only at hSW); go_simp; (try with_reducible rfl)
    try simp only [Act.put, bP, bQ, bT]
    refine wpAnyH_done (by kernel_rfl) ?_ _
    go_wp2_with fail
    go_meet
    exact ⟨w9.heap.size, rfl, rfl, by simp [VCo, go_sem], ⟨hb99.size, by simp⟩, hH15⟩
   case allocf =>
    go_simp
    refine hK.out _ _ (belA _ ((Below.refl _ _).drew)) (fun hH23 => ?_)
    clear hK K
    try simp only [Act.put, bP, bQ, bT]
    refine rg_one 10 rfl (by kernel_rfl) (by rfl) (fun K hK => ?_)
    go_simp
    refine (hpr.out _).mono ?_
    rintro e9 w9 ⟨rfl, hb9⟩
    obtain ⟨⟨x0, x1, x2, x3, x4, x5, x6⟩, xf, hb5, xl⟩ := bx7g (W := W0.drew) (g := W0.heap.size) rfl ((Below.refl _ _).drew) hb9
    have hb99 : Below W0.heap.size W0 w9 := hb5
    refine hK.out _ _ hb99 (fun hH1 => ?_)
    clear hK K hb9
    try simp only [Act.put, bP, bQ, bT]
    refine rg_take 11 (some 115) (v := ?v33) rfl rfl (by kernel_rfl) (by kernel_rfl) (by kernel_rfl) (fun _ _ _ h => h) (by rfl) ?hy33 (by assumption) ?_
    case hy33 => intro W hSW; (try dsimp only at hSW); go_simp; (try with_reducible rfl)
    try simp only [Act.put, bP, bQ, bT]
    refine rg_take 12 (some 127) (v := ?v34) rfl rfl (by kernel_rfl) (by kernel_rfl) (by kernel_rfl) (fun _ _ _ h => h) (by rfl) ?hy34 (by assumption) ?_
    case hy34 => intro W hSW; (try dsimp only at hSW); go_simp; (try with_reducible rfl)
    try simp only [Act.put, bP, bQ, bT]
    refine rg_take 13 (some 128) (v := ?v35) rfl rfl (by kernel_rfl) (by kernel_rfl) (by kernel_rfl) (fun _ _ _ h => h) (by rfl) ?hy35 (by assumption) ?_
    case hy35 => intro W hSW; (try dsimp only at hSW); go_simp; (try with_reducible rfl)
    try simp only [Act.put, bP, bQ, bT]
    refine rg_one 15 rfl (by kernel_rfl) (by rfl) (fun K hK => ?_)
    have xf0 := xf 0; have xf1 := xf 1; have xf2 := xf 2; have xf3 := xf 3; have xf4 := xf 4; have xf5 := xf 5; have xf6 := xf 6
    go_simp
    refine hK.out _ _ (hH1.trans (show Below W0.heap.size w9 _ from by have := hH1.size; (repeat' (first | (with_reducible first | exact bR _ _ | assumption | apply bS | apply bA | apply bD | apply bN | exact bL _) | (simp; done) | (simp; omega) | omega | exact bL _)))) (fun hH24 => ?_)
    clear hK K
    try simp only [Act.put, bP, bQ, bT]
    refine rg_take 16 (some 7) (v := ?v36) rfl rfl (by kernel_rfl) (by kernel_rfl) (by kernel_rfl) (fun _ _ _ h => h) (by rfl) ?hy36 (by assumption) ?_
    case hy36 => intro W hSW; (try dsimp only at hSW); go_simp; (try with_reducible rfl)
    try simp only [Act.put, bP, bQ, bT]
    refine wpAnyH_done (by kernel_rfl) ?_ _
    go_wp2_with fail
    go_meet
    exact ⟨W0.heap.size, rfl, rfl, by simp [VCo, go_sem, x0, x1, x2, x3, x4, x5, x6], ⟨Nat.le_refl _, by simp; exact xl⟩, hH24⟩
  case rest =>
   rename World => W2
   obtain ⟨g, rfl, rfl, ⟨d0, d1, d2, d3, d4, d5, d6⟩, ⟨hgl0, hgl⟩, hb2⟩ := ‹∃ g, _›
   simp only [Nat.zero_add] at d1 d2 d3 d4 d5 d6
   dsimp only at d0 d1 d2 d3 d4 d5 d6
   have hB2 := Lib.hid (belT hb0.out hb2)
   clear hb2 hpr
   go_wp2_with fail
   refine (hgv.out (.tru o2) ⟨1, o2, 0, none, none, none⟩ _ hB2.out rfl).mono ?_
   rintro e2 w2 ⟨hf, -, -⟩
   have he2 := hf.1
   subst he2
   have hf := Lib.hid hf
   go_wp2_with fail
   all_goals go_end0
   all_goals exact hf.out
 ·have he : rprV (3, o2) = .tuple #[.agg #[.int .i64 0, .int .i64 0, .int .i64 0, .pointer none, .slice none 0 0, .pointer none, .pointer none], .int .i64 o2] := rfl
  rw [he] at hpr
  rw [if_neg (by decide), if_neg (by decide)]
  clear he
  go_enter Try.func35, Try.ntmps35
  go_upto_region 1 with fail
  obtain ⟨W1, hW1⟩ : ∃ W, w.alloc (.cells #[.int .i64 5, .int .i64 i, .pointer xen, .int .i64 0, .int .i64 a, .int .i64 0, .pointer none, .slice none 0 0, .pointer none, .pointer none] 91) = W := ⟨_, rfl⟩
  rw [hW1]
  obtain ⟨hb1, hs1, f0, f1, f2, f3, f4, f5, f6, f7, f8, f9⟩ := bx_fx (x := ⟨5, i, xen, ⟨0, a, 0, none, none, none⟩⟩) hW1
  dsimp only at f0 f1 f2 f3 f4 f5 f6 f7 f8 f9
  have hG1 : G < W1.heap.size := Nat.lt_of_lt_of_le hG hb1.size
  have hT1 : T < W1.heap.size := Nat.lt_of_lt_of_le hTw hb1.size
  have hl1 : w.heap.size < W1.heap.size := by omega
  have c0 : W1.cell? _ = _ := carry hb1 hG c0
  have t0 : W1.cell? _ = _ := carry hb1 hTw t0
  have t1 : W1.cell? _ = _ := carry hb1 hTw t1
  have t2 : W1.cell? _ = _ := carry hb1 hTw t2
  have t3 : W1.cell? _ = _ := carry hb1 hTw t3
  have t4 : W1.cell? _ = _ := carry hb1 hTw t4
  have t5 : W1.cell? _ = _ := carry hb1 hTw t5
  have t6 : W1.cell? _ = _ := carry hb1 hTw t6
  have t7 : W1.cell? _ = _ := carry hb1 hTw t7
  have t8 : W1.cell? _ = _ := carry hb1 hTw t8
  have hi0 : (0 : Int) ≤ (i : Int) := by omega
  have hi1 : (i : Int) < (ts.length : Int) := by omega
  have hb1 := Lib.hid hb1
  clear hW1
  go_region
  obtain ⟨W0, hW0⟩ : ∃ W, (W1.alloc (.cells #[.int .i64 xk, .int .i64 xa, .int .i64 xb, .int .i64 xc, .int .i64 xn, .int .i64 xx, .int .i64 xy, .int .i64 xz, .int .i64 xw] 37)).drew = W := ⟨_, rfl⟩
  have hb2 : Below W1.heap.size W1 W0 := by rw [← hW0]; (repeat' (first | (with_reducible first | exact bR _ _ | assumption | apply bS | apply bA | apply bD | apply bN | exact bL _) | (simp; done) | (simp; omega) | omega | exact bL _))
  have hs2 : W0.heap.size = w.heap.size + 2 := by rw [← hW0]; simp; omega
  have n0 : W0.cell? ⟨w.heap.size + 1, 0, none⟩ = some (.int .i64 xk) := by rw [← hW0, ← hs1]; simp [go_sem]
  have n1 : W0.cell? ⟨w.heap.size + 1, 1, none⟩ = some (.int .i64 xa) := by rw [← hW0, ← hs1]; simp [go_sem]
  have n2 : W0.cell? ⟨w.heap.size + 1, 2, none⟩ = some (.int .i64 xb) := by rw [← hW0, ← hs1]; simp [go_sem]
  have n3 : W0.cell? ⟨w.heap.size + 1, 3, none⟩ = some (.int .i64 xc) := by rw [← hW0, ← hs1]; simp [go_sem]
  have n4 : W0.cell? ⟨w.heap.size + 1, 4, none⟩ = some (.int .i64 xn) := by rw [← hW0, ← hs1]; simp [go_sem]
  have n5 : W0.cell? ⟨w.heap.size + 1, 5, none⟩ = some (.int .i64 xx) := by rw [← hW0, ← hs1]; simp [go_sem]
  have n6 : W0.cell? ⟨w.heap.size + 1, 6, none⟩ = some (.int .i64 xy) := by rw [← hW0, ← hs1]; simp [go_sem]
  have n7 : W0.cell? ⟨w.heap.size + 1, 7, none⟩ = some (.int .i64 xz) := by rw [← hW0, ← hs1]; simp [go_sem]
  have n8 : W0.cell? ⟨w.heap.size + 1, 8, none⟩ = some (.int .i64 xw) := by rw [← hW0, ← hs1]; simp [go_sem]
  rw [hW0]
  have f0 : W0.cell? _ = _ := carry hb2 hl1 f0
  have f1 : W0.cell? _ = _ := carry hb2 hl1 f1
  have f2 : W0.cell? _ = _ := carry hb2 hl1 f2
  have f3 : W0.cell? _ = _ := carry hb2 hl1 f3
  have f4 : W0.cell? _ = _ := carry hb2 hl1 f4
  have f5 : W0.cell? _ = _ := carry hb2 hl1 f5
  have f6 : W0.cell? _ = _ := carry hb2 hl1 f6
  have f7 : W0.cell? _ = _ := carry hb2 hl1 f7
  have f8 : W0.cell? _ = _ := carry hb2 hl1 f8
  have f9 : W0.cell? _ = _ := carry hb2 hl1 f9
  have hb0 : Below w.heap.size w W0 := belT hb1.out hb2
  have hG0 : G < W0.heap.size := Nat.lt_of_lt_of_le hG hb0.size
  have hl0 : w.heap.size < W0.heap.size := by omega
  have hl2 : w.heap.size + 1 < W0.heap.size := by omega
  have hT0 := hth.below hG hb0
  have hT0 := Lib.hid hT0
  obtain ⟨c5, c6, c7, c8, c9, c10, c11⟩ := hT0.out
  dsimp only at c5 c6 c7 c8 c9 c10 c11
  have hnf : ¬ Bq G w.heap.size := fun e => by have e : w.heap.size = G := e; omega
  have hnv : ¬ Bq G (w.heap.size + 1) := fun e => by have e : w.heap.size + 1 = G := e; omega
  have hb0 := Lib.hid hb0
  clear hW0 hb2 hs1 hs2 t0 t1 t2 t3 t4 t5 t6 t7 t8 c0 hG1 hT1 hl1 hi0 hi1 hb1
  go_upto_region 28 with fail
  go_cut [6, 7] (fun s6 s7 W => ∃ g : Nat, s6 = .pointer (some ⟨g, 0, none⟩) ∧ s7 = .int .i64 o2 ∧ VCo W g 0 ⟨0, 0, 0, none, none, none⟩ ∧ (W0.heap.size ≤ g ∧ g < W.heap.size) ∧ Below W0.heap.size W0 W)
  case first =>
   refine wp_region_held_drew (S := fun W => Below W0.heap.size W0 W) (by kernel_rfl) ((Below.refl _ _).drew) (fun hHeld => ?_)
   refine rg_take 0 (some 116) (v := ?v37) rfl rfl (by kernel_rfl) (by kernel_rfl) (by kernel_rfl) (fun _ _ _ h => h) (by rfl) ?hy37 (by assumption) ?_
   case hy37 => intro W hSW; (try dsimp only at hSW); have z0 := carry hSW hl2 n4; have z1 := carry hSW hl0 f4; have z2 := carry hSW hG0 c6; have q0 := Nat.lt_of_lt_of_le hG0 hSW.size; have q1 := Nat.lt_of_lt_of_le hl0 hSW.size; have q2 := Nat.lt_of_lt_of_le hl2 hSW.size; go_simp; (try with_reducible rfl)
   try simp only [Act.put, bP, bQ, bT]
   refine rg_take 1 (some 117) (v := ?v38) rfl rfl (by kernel_rfl) (by kernel_rfl) (by kernel_rfl) (fun _ _ _ h => h) (by rfl) ?hy38 (by assumption) ?_
   case hy38 => intro W hSW; (try dsimp only at hSW); have z0 := carry hSW hl2 n4; have z1 := carry hSW hl0 f4; have z2 := carry hSW hG0 c6; have q0 := Nat.lt_of_lt_of_le hG0 hSW.size; have q1 := Nat.lt_of_lt_of_le hl0 hSW.size; have q2 := Nat.lt_of_lt_of_le hl2 hSW.size; go_simp; (try with_reducible rfl)
   try simp only [Act.put, bP, bQ, bT]
   refine rg_take 2 (some 118) (v := ?v39) rfl rfl (by kernel_rfl) (by kernel_rfl) (by kernel_rfl) (fun _ _ _ h => h) (by rfl) ?hy39 (by assumption) ?_
   case hy39 => intro W hSW; (try dsimp only at hSW); have z0 := carry hSW hl2 n4; have z1 := carry hSW hl0 f4; have z2 := carry hSW hG0 c6; have q0 := Nat.lt_of_lt_of_le hG0 hSW.size; have q1 := Nat.lt_of_lt_of_le hl0 hSW.size; have q2 := Nat.lt_of_lt_of_le hl2 hSW.size; go_simp; (try with_reducible rfl)
   try simp only [Act.put, bP, bQ, bT]
   refine rg_take 3 (some 119) (v := ?v40) rfl rfl (by kernel_rfl) (by kernel_rfl) (by kernel_rfl) (fun _ _ _ h => h) (by rfl) ?hy40 (by assumption) ?_
   case hy40 => intro W hSW; (try dsimp only at hSW); have z0 := carry hSW hl2 n4; have z1 := carry hSW hl0 f4; have z2 := carry hSW hG0 c6; have q0 := Nat.lt_of_lt_of_le hG0 hSW.size; have q1 := Nat.lt_of_lt_of_le hl0 hSW.size; have q2 := Nat.lt_of_lt_of_le hl2 hSW.size; go_simp; (try with_reducible rfl)
   try simp only [Act.put, bP, bQ, bT]
   refine rg_take 4 (some 120) (v := ?v41) rfl rfl (by kernel_rfl) (by kernel_rfl) (by kernel_rfl) (fun _ _ _ h => h) (by rfl) ?hy41 (by assumption) ?_
   case hy41 => intro W hSW; (try dsimp only at hSW); have z0 := carry hSW hl2 n4; have z1 := carry hSW hl0 f4; have z2 := carry hSW hG0 c6; have q0 := Nat.lt_of_lt_of_le hG0 hSW.size; have q1 := Nat.lt_of_lt_of_le hl0 hSW.size; have q2 := Nat.lt_of_lt_of_le hl2 hSW.size; go_simp; (try with_reducible rfl)
   try simp only [Act.put, bP, bQ, bT]
   refine rg_take 5 (some 121) (v := ?v42) rfl rfl (by kernel_rfl) (by kernel_rfl) (by kernel_rfl) (fun _ _ _ h => h) (by rfl) ?hy42 (by assumption) ?_
   case hy42 => intro W hSW; (try dsimp only at hSW); have z0 := carry hSW hl2 n4; have z1 := carry hSW hl0 f4; have z2 := carry hSW hG0 c6; have q0 := Nat.lt_of_lt_of_le hG0 hSW.size; have q1 := Nat.lt_of_lt_of_le hl0 hSW.size; have q2 := Nat.lt_of_lt_of_le hl2 hSW.size; go_simp; (try with_reducible rfl)
   try simp only [Act.put, bP, bQ, bT]
   refine rg_take 6 (some 122) (v := ?v43) rfl rfl (by kernel_rfl) (by kernel_rfl) (by kernel_rfl) (fun _ _ _ h => h) (by rfl) ?hy43 (by assumption) ?_
   case hy43 => intro W hSW; (try dsimp only at hSW); have z0 := carry hSW hl2 n4; have z1 := carry hSW hl0 f4; have z2 := carry hSW hG0 c6; have q0 := Nat.lt_of_lt_of_le hG0 hSW.size; have q1 := Nat.lt_of_lt_of_le hl0 hSW.size; have q2 := Nat.lt_of_lt_of_le hl2 hSW.size; go_simp; (try with_reducible rfl)
   try simp only [Act.put, bP, bQ, bT]
   refine rg_take 7 (some 123) (v := ?v44) rfl rfl (by kernel_rfl) (by kernel_rfl) (by kernel_rfl) (fun _ _ _ h => h) (by rfl) ?hy44 (by assumption) ?_
   case hy44 => intro W hSW; (try dsimp only at hSW); have z0 := carry hSW hl2 n4; have z1 := carry hSW hl0 f4; have z2 := carry hSW hG0 c6; have q0 := Nat.lt_of_lt_of_le hG0 hSW.size; have q1 := Nat.lt_of_lt_of_le hl0 hSW.size; have q2 := Nat.lt_of_lt_of_le hl2 hSW.size; go_simp; (try with_reducible rfl)
   try simp only [Act.put, bP, bQ, bT]
   refine rg_take 8 (some 124) (v := ?v45) rfl rfl (by kernel_rfl) (by kernel_rfl) (by kernel_rfl) (fun _ _ _ h => h) (by rfl) ?hy45 (by assumption) ?_
   case hy45 => intro W hSW; (try dsimp only at hSW); have z0 := carry hSW hl2 n4; have z1 := carry hSW hl0 f4; have z2 := carry hSW hG0 c6; have q0 := Nat.lt_of_lt_of_le hG0 hSW.size; have q1 := Nat.lt_of_lt_of_le hl0 hSW.size; have q2 := Nat.lt_of_lt_of_le hl2 hSW.size; go_simp; (try with_reducible rfl)
   try simp only [Act.put, bP, bQ, bT]
   refine rg_take 9 (some 125) (v := ?v46) rfl rfl (by kernel_rfl) (by kernel_rfl) (by kernel_rfl) (fun _ _ _ h => h) (by rfl) ?hy46 (by assumption) ?_
   case hy46 => intro W hSW; (try dsimp only at hSW); have z0 := carry hSW hl2 n4; have z1 := carry hSW hl0 f4; have z2 := carry hSW hG0 c6; have q0 := Nat.lt_of_lt_of_le hG0 hSW.size; have q1 := Nat.lt_of_lt_of_le hl0 hSW.size; have q2 := Nat.lt_of_lt_of_le hl2 hSW.size; go_simp; (try with_reducible rfl)
   try simp only [Act.put, bP, bQ, bT]
   refine rg_twoF 10 14 rfl rfl (by kernel_rfl) (by rfl) (by rfl) (fun K hK => ?callf) (fun K hK => ?allocf)
   case callf =>
    go_simp
    refine (hpr.out _).mono ?_
    rintro e9 w9 ⟨rfl, hb9⟩
    have hb99 : Below W0.heap.size W0 w9 := belT ((Below.refl _ _).drew) hb9
    refine hK.out _ _ hb99 (fun hH1 => ?_)
    clear hK K
    try simp only [Act.put, bP, bQ, bT]
    refine rg_take 11 (some 115) (v := ?v47) rfl rfl (by kernel_rfl) (by kernel_rfl) (by kernel_rfl) (fun _ _ _ h => h) (by rfl) ?hy47 (by assumption) ?_
    case hy47 => intro W hSW; (try dsimp only at hSW); go_simp; (try with_reducible rfl)
    try simp only [Act.put, bP, bQ, bT]
    refine rg_take 12 (some 127) (v := ?v48) rfl rfl (by kernel_rfl) (by kernel_rfl) (by kernel_rfl) (fun _ _ _ h => h) (by rfl) ?hy48 (by assumption) ?_
    case hy48 => intro W hSW; (try dsimp only at hSW); go_simp; (try with_reducible rfl)
    try simp only [Act.put, bP, bQ, bT]
    refine rg_take 13 (some 128) (v := ?v49) rfl rfl (by kernel_rfl) (by kernel_rfl) (by kernel_rfl) (fun _ _ _ h => h) (by rfl) ?hy49 (by assumption) ?_
    case hy49 => intro W hSW; (try dsimp only at hSW); go_simp; (try with_reducible rfl)
    try simp only [Act.put, bP, bQ, bT]
    refine rg_one 14 rfl (by kernel_rfl) (by rfl) (fun K hK => ?_)
    go_simp
    refine hK.out _ _ (hH1.trans (show Below W0.heap.size w9 _ from by have := hH1.size; (repeat' (first | (with_reducible first | exact bR _ _ | assumption | apply bS | apply bA | apply bD | apply bN | exact bL _) | (simp; done) | (simp; omega) | omega | exact bL _)))) (fun hH14 => ?_)
    clear hK K
    try simp only [Act.put, bP, bQ, bT]
    refine rg_one 15 rfl (by kernel_rfl) (by rfl) (fun K hK => ?_)
    go_simp
    refine hK.out _ _ (hH1.trans (show Below W0.heap.size w9 _ from by have := hH1.size; (repeat' (first | (with_reducible first | exact bR _ _ | assumption | apply bS | apply bA | apply bD | apply bN | exact bL _) | (simp; done) | (simp; omega) | omega | exact bL _)))) (fun hH15 => ?_)
    clear hK K
    try simp only [Act.put, bP, bQ, bT]
    refine rg_take 16 (some 7) (v := ?v50) rfl rfl (by kernel_rfl) (by kernel_rfl) (by kernel_rfl) (fun _ _ _ h => h) (by rfl) ?hy50 (by assumption) ?_
    case hy50 => intro W hSW; (try dsimp only at hSW); go_simp; (try with_reducible rfl)
    try simp only [Act.put, bP, bQ, bT]
    refine wpAnyH_done (by kernel_rfl) ?_ _
    go_wp2_with fail
    go_meet
    exact ⟨w9.heap.size, rfl, rfl, by simp [VCo, go_sem], ⟨hb99.size, by simp⟩, hH15⟩
   case allocf =>
    go_simp
    refine hK.out _ _ (belA _ ((Below.refl _ _).drew)) (fun hH23 => ?_)
    clear hK K
    try simp only [Act.put, bP, bQ, bT]
    refine rg_one 10 rfl (by kernel_rfl) (by rfl) (fun K hK => ?_)
    go_simp
    refine (hpr.out _).mono ?_
    rintro e9 w9 ⟨rfl, hb9⟩
    obtain ⟨⟨x0, x1, x2, x3, x4, x5, x6⟩, xf, hb5, xl⟩ := bx7g (W := W0.drew) (g := W0.heap.size) rfl ((Below.refl _ _).drew) hb9
    have hb99 : Below W0.heap.size W0 w9 := hb5
    refine hK.out _ _ hb99 (fun hH1 => ?_)
    clear hK K hb9
    try simp only [Act.put, bP, bQ, bT]
    refine rg_take 11 (some 115) (v := ?v51) rfl rfl (by kernel_rfl) (by kernel_rfl) (by kernel_rfl) (fun _ _ _ h => h) (by rfl) ?hy51 (by assumption) ?_
    case hy51 => intro W hSW; (try dsimp only at hSW); go_simp; (try with_reducible rfl)
    try simp only [Act.put, bP, bQ, bT]
    refine rg_take 12 (some 127) (v := ?v52) rfl rfl (by kernel_rfl) (by kernel_rfl) (by kernel_rfl) (fun _ _ _ h => h) (by rfl) ?hy52 (by assumption) ?_
    case hy52 => intro W hSW; (try dsimp only at hSW); go_simp; (try with_reducible rfl)
    try simp only [Act.put, bP, bQ, bT]
    refine rg_take 13 (some 128) (v := ?v53) rfl rfl (by kernel_rfl) (by kernel_rfl) (by kernel_rfl) (fun _ _ _ h => h) (by rfl) ?hy53 (by assumption) ?_
    case hy53 => intro W hSW; (try dsimp only at hSW); go_simp; (try with_reducible rfl)
    try simp only [Act.put, bP, bQ, bT]
    refine rg_one 15 rfl (by kernel_rfl) (by rfl) (fun K hK => ?_)
    have xf0 := xf 0; have xf1 := xf 1; have xf2 := xf 2; have xf3 := xf 3; have xf4 := xf 4; have xf5 := xf 5; have xf6 := xf 6
    go_simp
    refine hK.out _ _ (hH1.trans (show Below W0.heap.size w9 _ from by have := hH1.size; (repeat' (first | (with_reducible first | exact bR _ _ | assumption | apply bS | apply bA | apply bD | apply bN | exact bL _) | (simp; done) | (simp; omega) | omega | exact bL _)))) (fun hH24 => ?_)
    clear hK K
    try simp only [Act.put, bP, bQ, bT]
    refine rg_take 16 (some 7) (v := ?v54) rfl rfl (by kernel_rfl) (by kernel_rfl) (by kernel_rfl) (fun _ _ _ h => h) (by rfl) ?hy54 (by assumption) ?_
    case hy54 => intro W hSW; (try dsimp only at hSW); go_simp; (try with_reducible rfl)
    try simp only [Act.put, bP, bQ, bT]
    refine wpAnyH_done (by kernel_rfl) ?_ _
    go_wp2_with fail
    go_meet
    exact ⟨W0.heap.size, rfl, rfl, by simp [VCo, go_sem, x0, x1, x2, x3, x4, x5, x6], ⟨Nat.le_refl _, by simp; exact xl⟩, hH24⟩
  case rest =>
   rename World => W2
   obtain ⟨g, rfl, rfl, ⟨d0, d1, d2, d3, d4, d5, d6⟩, ⟨hgl0, hgl⟩, hb2⟩ := ‹∃ g, _›
   simp only [Nat.zero_add] at d1 d2 d3 d4 d5 d6
   dsimp only at d0 d1 d2 d3 d4 d5 d6
   have hB2 := Lib.hid (belT hb0.out hb2)
   clear hb2 hpr
   have hge : decide ((0 : Int) ≤ o2) = true := decide_eq_true h02
   go_wp2_with fail
   refine (hend.out 3 o2 _ hB2.out).mono ?_
   rintro e2 w2 ⟨hf0, hbq, -, hg2⟩
   have he2 := hf0.1
   subst he2
   have hng : ¬ Bq G g := fun e => by have e : g = G := e; omega
   have d0 : w2.cell? _ = _ := hbq.cell d0 hng
   have d1 : w2.cell? _ = _ := hbq.cell d1 hng
   have d2 : w2.cell? _ = _ := hbq.cell d2 hng
   have d3 : w2.cell? _ = _ := hbq.cell d3 hng
   have d4 : w2.cell? _ = _ := hbq.cell d4 hng
   have d5 : w2.cell? _ = _ := hbq.cell d5 hng
   have d6 : w2.cell? _ = _ := hbq.cell d6 hng
   have hgl2 : g < w2.heap.size := Nat.lt_of_lt_of_le hgl hbq.size
   have hg2 := Lib.hid hg2
   clear hbq hf0 hend
   go_wp2_with fail
   refine (hg2.out ⟨0, 0, 0, none, none, none⟩ _ (by (repeat' (first | (with_reducible first | exact bR _ _ | assumption | apply bS | apply bA | apply bD | apply bN | exact bL _) | (simp; done) | (simp; omega) | omega | exact bL _)))).mono ?_
   rintro e3 w3 ⟨hf, -, -⟩
   have he3 := hf.1
   subst he3
   have hf := Lib.hid hf
   go_wp2_with fail
   all_goals go_end0
   all_goals exact hf.out
end Go.Proofs.Ytnjalpcmjkahkaa
