/- The reference's engine for targets: a function takes the value. -/
import Derived.Test.YtnjalpcmjkahkaaZt36
set_option maxRecDepth 100000
set_option maxHeartbeats 8000000
namespace Go.Proofs.Ytnjalpcmjkahkaa
open Go.RowKit
set_option linter.unusedVariables false
set_option linter.unusedSimpArgs false
theorem vr_app {W : World} {g : NV} {t : V7} (h : VR W g (.inl t)) :
  (∃ n e p, g = .fn n e ∧ t = ⟨2, 0, n, p, none, none⟩ ∧ VR W e (.inr p)) ∨
  (∃ n e f p b tf, g = .bnd n e f ∧ t = ⟨7, 0, n, p, some ⟨b, 0, none⟩, none⟩ ∧ VR W e (.inr p) ∧ (b < W.heap.size ∧ TyAt W b 67 ∧ VCo W b 0 tf) ∧ VR W f (.inl tf)) ∨
  (∃ f who b tw b2 tf, g = .fwd f who ∧ t = ⟨8, 0, 0, none, some ⟨b, 0, none⟩, some ⟨b2, 0, none⟩⟩ ∧ (b < W.heap.size ∧ TyAt W b 67 ∧ VCo W b 0 tw) ∧ VR W who (.inl tw) ∧ (b2 < W.heap.size ∧ TyAt W b2 67 ∧ VCo W b2 0 tf) ∧ VR W f (.inl tf)) ∨
  ((t.k ≠ 2 ∧ t.k ≠ 7 ∧ t.k ≠ 8) ∧ ∀ ts v stk, nApply ts g v stk = .en 5 0) := by
 have hno : ∀ k : Int, k ≠ 2 ∧ k ≠ 7 ∧ k ≠ 8 → t.k = k → t.k ≠ 2 ∧ t.k ≠ 7 ∧ t.k ≠ 8 := fun k h e => by rw [e]; exact h
 cases g with
 | num n => cases h; exact .inr (.inr (.inr ⟨hno 0 (by decide) rfl, fun _ _ _ => rfl⟩))
 | tru n => cases h; exact .inr (.inr (.inr ⟨hno 1 (by decide) rfl, fun _ _ _ => rfl⟩))
 | fn n e => obtain ⟨p, h, he⟩ := h; cases h; exact .inl ⟨n, e, p, rfl, rfl, he⟩
 | bnd n e f => obtain ⟨p, a, t, h, he, ⟨b, rfl, hb, hT, hc⟩, hf⟩ := h; cases h; exact .inr (.inl ⟨n, e, f, p, b, t, rfl, rfl, he, ⟨hb, hT, hc⟩, hf⟩)
 | fwd f g => obtain ⟨a, t, b, u, h, ⟨d, rfl, hd, hT, hc⟩, hw, ⟨d2, rfl, hd2, hT2, hc2⟩, hf⟩ := h; cases h; exact .inr (.inr (.inl ⟨f, g, d, t, d2, u, rfl, rfl, ⟨hd, hT, hc⟩, hw, ⟨hd2, hT2, hc2⟩, hf⟩))
 | ret u => obtain ⟨_, _, h, _⟩ := h; cases h; exact .inr (.inr (.inr ⟨hno 5 (by decide) rfl, fun _ _ _ => rfl⟩))
 | op n u f => obtain ⟨_, _, _, _, h, _⟩ := h; cases h; exact .inr (.inr (.inr ⟨hno 6 (by decide) rfl, fun _ _ _ => rfl⟩))
 | nil => cases h
 | cons x u r => obtain ⟨_, _, _, h, _⟩ := h; cases h
theorem bx_v7 {w W : World} {t : V7} (hW : w.alloc (.cells #[.int .i64 t.k, .int .i64 t.n, .int .i64 t.nd, .pointer t.en, .slice none 0 0, .pointer t.one, .pointer t.two] 67) = W) :
  Below w.heap.size w W ∧ W.heap.size = w.heap.size + 1 ∧ W.cell? ⟨w.heap.size, 0, none⟩ = some (.int .i64 t.k) ∧ W.cell? ⟨w.heap.size, 1, none⟩ = some (.int .i64 t.n) ∧ W.cell? ⟨w.heap.size, 2, none⟩ = some (.int .i64 t.nd) ∧ W.cell? ⟨w.heap.size, 3, none⟩ = some (.pointer t.en) ∧ W.cell? ⟨w.heap.size, 4, none⟩ = some (.slice none 0 0) ∧ W.cell? ⟨w.heap.size, 5, none⟩ = some (.pointer t.one) ∧ W.cell? ⟨w.heap.size, 6, none⟩ = some (.pointer t.two) := by
 subst hW
 refine ⟨by (repeat' (first | (with_reducible first | exact bR _ _ | assumption | apply bS | apply bA | apply bD | apply bN | exact bL _) | (simp; done) | (simp; omega) | omega | exact bL _)), by simp, by simp [go_sem], by simp [go_sem], by simp [go_sem], by simp [go_sem], by simp [go_sem], by simp [go_sem], by simp [go_sem]⟩
theorem call_fn (B G : Nat) (tv sv : Value) (c : Ec) (l : List Fx) (ts : List Tg) (w : World) (stk : List NF) (env v : NV) (i : Nat) (p : Option Addr) (h : Hid (ERc B G tv sv c l w)) (hs : Hid (StX ts w stk l)) (henv : Hid (VR w env (.inr p))) (hv : Hid (VR w v (.inl c.th))) (ht : Hid (TvR B G w tv ts)) (hi : i < ts.length) :
  Calls Try.prog 46 #[.pointer (some ⟨G, 0, none⟩), .agg #[.int .i64 2, .int .i64 0, .int .i64 i, .pointer p, .slice none 0 0, .pointer none, .pointer none]] w (NxP c.w0 ts B G tv (nApply ts (.fn i env) v stk)) := by
 have hgo := Lib.hid fun (env : NV) (p : Option Addr) (n : Int) (W : World) (hb : Below w.heap.size w W) (he : VR W env (.inr p)) => goes_st h.out n W hb (hs.out.below hb) he
 have hfn := Lib.hid fun (W : World) (hb : Below w.heap.size w W) => (show VR W (.fn i env) (.inl ⟨2, 0, i, p, none, none⟩) from ⟨p, rfl, henv.out.below hb⟩)
 have henv := Lib.hid fun (W : World) hb => henv.out.below (W' := W) hb
 have hvv := Lib.hid fun (W : World) hb => hv.out.below (W' := W) hb
 have hG := h.out.ec.lt
 have c0 := h.out.ec.c0
 have hth := h.out.ec.thG
 obtain ⟨T, off, cp, rfl, hTB, hTG, hTw, hT⟩ := ht.out
 obtain ⟨x, hx⟩ : ∃ x, ts.getD i tg0 = x := ⟨_, rfl⟩
 have hx0 := hT i hi
 have hnd : ndT ts (i : Int) = x := hx
 rw [hx] at hx0
 have hg4 : x.k = 4 → nApply ts (.fn i env) v stk = .ev stk x.a (.cons x.y v (.cons x.x (.fn i env) env)) := fun e => by
  show NM.ev stk (ndT ts i).a (if (ndT ts i).k = 4 then _ else _) = _
  rw [hnd, if_pos e]
 have hg3 : x.k ≠ 4 → nApply ts (.fn i env) v stk = .ev stk x.a (.cons x.x v env) := fun e => by
  show NM.ev stk (ndT ts i).a (if (ndT ts i).k = 4 then _ else _) = _
  rw [hnd, if_neg e]
 obtain ⟨R, hR⟩ : ∃ R, nApply ts (.fn i env) v stk = R := ⟨_, rfl⟩
 rw [hR] at hg4 hg3 ⊢
 obtain ⟨ct, hct⟩ : ∃ a, c.th = a := ⟨_, rfl⟩
 rw [hct] at hth hvv
 obtain ⟨z0, z1, z2, z3, z4, z5⟩ := ct
 obtain ⟨xk, xa, xb, xc, xn, xx, xy, xz, xw⟩ := x
 obtain ⟨t0, t1, t2, t3, t4, t5, t6, t7, t8⟩ := hx0
 dsimp only at t0 t1 t2 t3 t4 t5 t6 t7 t8 hg4 hg3
 have hg4 := Lib.hid hg4; have hg3 := Lib.hid hg3
 have hct := Lib.hid hct
 clear hT hx hnd hR h hs hv ht
 go_enter Try.func46, Try.ntmps46
 go_upto_region 1 with fail
 obtain ⟨W1, hW1⟩ : ∃ W, w.alloc (.cells #[.int .i64 2, .int .i64 0, .int .i64 i, .pointer p, .slice none 0 0, .pointer none, .pointer none] 67) = W := ⟨_, rfl⟩
 rw [hW1]
 obtain ⟨hb1, hs1, f0, f1, f2, f3, f4, f5, f6⟩ := bx_v7 (t := ⟨2, 0, i, p, none, none⟩) hW1
 dsimp only at f0 f1 f2 f3 f4 f5 f6
 have hG1 : G < W1.heap.size := Nat.lt_of_lt_of_le hG hb1.size
 have hT1 : T < W1.heap.size := Nat.lt_of_lt_of_le hTw hb1.size
 have hl1 : w.heap.size < W1.heap.size := by omega
 have c0 : W1.cell? _ = _ := carry hb1 hG c0
 have t0 : W1.cell? _ = _ := carry hb1 hTw t0
 have t1 : W1.cell? _ = _ := carry hb1 hTw t1
 have t2 : W1.cell? _ = _ := carry hb1 hTw t2
 have t3 : W1.cell? _ = _ := carry hb1 hTw t3
 have t4 : W1.cell? _ = _ := carry hb1 hTw t4
 have t5 : W1.cell? _ = _ := carry hb1 hTw t5
 have t6 : W1.cell? _ = _ := carry hb1 hTw t6
 have t7 : W1.cell? _ = _ := carry hb1 hTw t7
 have t8 : W1.cell? _ = _ := carry hb1 hTw t8
 have hi0 : (0 : Int) ≤ (i : Int) := by omega
 have hi1 : (i : Int) < (ts.length : Int) := by omega
 have hb1 := Lib.hid hb1
 clear hW1
 go_upto_region 4 with fail
 go_region
 obtain ⟨W0, hW0⟩ : ∃ W, (W1.alloc (.cells #[.int .i64 xk, .int .i64 xa, .int .i64 xb, .int .i64 xc, .int .i64 xn, .int .i64 xx, .int .i64 xy, .int .i64 xz, .int .i64 xw] 37)).drew = W := ⟨_, rfl⟩
 have hb2 : Below W1.heap.size W1 W0 := by rw [← hW0]; (repeat' (first | (with_reducible first | exact bR _ _ | assumption | apply bS | apply bA | apply bD | apply bN | exact bL _) | (simp; done) | (simp; omega) | omega | exact bL _))
 have hs2 : W0.heap.size = w.heap.size + 2 := by rw [← hW0]; simp; omega
 have n0 : W0.cell? ⟨w.heap.size + 1, 0, none⟩ = some (.int .i64 xk) := by rw [← hW0, ← hs1]; simp [go_sem]
 have n1 : W0.cell? ⟨w.heap.size + 1, 1, none⟩ = some (.int .i64 xa) := by rw [← hW0, ← hs1]; simp [go_sem]
 have n5 : W0.cell? ⟨w.heap.size + 1, 5, none⟩ = some (.int .i64 xx) := by rw [← hW0, ← hs1]; simp [go_sem]
 have n6 : W0.cell? ⟨w.heap.size + 1, 6, none⟩ = some (.int .i64 xy) := by rw [← hW0, ← hs1]; simp [go_sem]
 rw [hW0]
 have f0 : W0.cell? _ = _ := carry hb2 hl1 f0
 have f1 : W0.cell? _ = _ := carry hb2 hl1 f1
 have f2 : W0.cell? _ = _ := carry hb2 hl1 f2
 have f3 : W0.cell? _ = _ := carry hb2 hl1 f3
 have f4 : W0.cell? _ = _ := carry hb2 hl1 f4
 have f5 : W0.cell? _ = _ := carry hb2 hl1 f5
 have f6 : W0.cell? _ = _ := carry hb2 hl1 f6
 have hb0 : Below w.heap.size w W0 := belT hb1.out hb2
 have hG0 : G < W0.heap.size := Nat.lt_of_lt_of_le hG hb0.size
 have hl0 : w.heap.size < W0.heap.size := by omega
 have hl2 : w.heap.size + 1 < W0.heap.size := by omega
 have hT0 := hth.below hG hb0
 have hnf : ¬ Bq G w.heap.size := fun e => by have e : w.heap.size = G := e; omega
 have hnv : ¬ Bq G (w.heap.size + 1) := fun e => by have e : w.heap.size + 1 = G := e; omega
 have hb0 := Lib.hid hb0
 have hT0 := Lib.hid hT0
 clear hW0 hb2 hs1 hs2 t0 t1 t2 t3 t4 t5 t6 t7 t8 c0
 by_cases h4 : xk = 4
 ·subst h4
  obtain rfl := hg4.out rfl
  go_upto_region 6 with fail
  clear n0 hg3 hg4
  refine wp_region_held_drew (S := fun W => Bar (Bq G) W0 W ∧ ThG W G ⟨z0, z1, z2, z3, z4, z5⟩) (by kernel_rfl) (⟨Bar.of_below ((Below.refl _ _).drew), hT0.out.below hG0 ((Below.refl _ _).drew)⟩) (fun hHeld => ?_)
  refine rg_take 0 (some 22) (v := ?v1) rfl rfl (by kernel_rfl) (by kernel_rfl) (by kernel_rfl) (fun _ _ _ h => h) (by rfl) ?hy1 (by assumption) ?_
  case hy1 => intro W hSW; (try dsimp only at hSW); have q0 := Nat.lt_of_lt_of_le hG0 hSW.1.size; have q1 := Nat.lt_of_lt_of_le hl0 hSW.1.size; have q2 := Nat.lt_of_lt_of_le hl2 hSW.1.size; have z0 := hSW.1.cell f0 hnf; have z1 := hSW.1.cell f1 hnf; have z2 := hSW.1.cell f2 hnf; have z3 := hSW.1.cell f3 hnf; have z4 := hSW.1.cell f4 hnf; have z5 := hSW.1.cell f5 hnf; have z6 := hSW.1.cell f6 hnf; have z7 := hSW.1.cell n1 hnv; have z8 := hSW.1.cell n5 hnv; have z9 := hSW.1.cell n6 hnv; have k0 := hSW.2; obtain ⟨k5, k6, k7, k8, k9, k10, k11⟩ := k0; dsimp only at k5 k6 k7 k8 k10 k11; go_simp; (try with_reducible rfl)
  try simp only [Act.put, bP, bQ, bT]
  refine rg_take 1 (some 23) (v := ?v2) rfl rfl (by kernel_rfl) (by kernel_rfl) (by kernel_rfl) (fun _ _ _ h => h) (by rfl) ?hy2 (by assumption) ?_
  case hy2 => intro W hSW; (try dsimp only at hSW); have q0 := Nat.lt_of_lt_of_le hG0 hSW.1.size; have q1 := Nat.lt_of_lt_of_le hl0 hSW.1.size; have q2 := Nat.lt_of_lt_of_le hl2 hSW.1.size; have z0 := hSW.1.cell f0 hnf; have z1 := hSW.1.cell f1 hnf; have z2 := hSW.1.cell f2 hnf; have z3 := hSW.1.cell f3 hnf; have z4 := hSW.1.cell f4 hnf; have z5 := hSW.1.cell f5 hnf; have z6 := hSW.1.cell f6 hnf; have z7 := hSW.1.cell n1 hnv; have z8 := hSW.1.cell n5 hnv; have z9 := hSW.1.cell n6 hnv; have k0 := hSW.2; obtain ⟨k5, k6, k7, k8, k9, k10, k11⟩ := k0; dsimp only at k5 k6 k7 k8 k10 k11; go_simp; (try with_reducible rfl)
  try simp only [Act.put, bP, bQ, bT]
  refine rg_take 2 (some 24) (v := ?v3) rfl rfl (by kernel_rfl) (by kernel_rfl) (by kernel_rfl) (fun _ _ _ h => h) (by rfl) ?hy3 (by assumption) ?_
  case hy3 => intro W hSW; (try dsimp only at hSW); have q0 := Nat.lt_of_lt_of_le hG0 hSW.1.size; have q1 := Nat.lt_of_lt_of_le hl0 hSW.1.size; have q2 := Nat.lt_of_lt_of_le hl2 hSW.1.size; have z0 := hSW.1.cell f0 hnf; have z1 := hSW.1.cell f1 hnf; have z2 := hSW.1.cell f2 hnf; have z3 := hSW.1.cell f3 hnf; have z4 := hSW.1.cell f4 hnf; have z5 := hSW.1.cell f5 hnf; have z6 := hSW.1.cell f6 hnf; have z7 := hSW.1.cell n1 hnv; have z8 := hSW.1.cell n5 hnv; have z9 := hSW.1.cell n6 hnv; have k0 := hSW.2; obtain ⟨k5, k6, k7, k8, k9, k10, k11⟩ := k0; dsimp only at k5 k6 k7 k8 k10 k11; go_simp; (try with_reducible rfl)
  try simp only [Act.put, bP, bQ, bT]
  refine rg_take 3 (some 25) (v := ?v4) rfl rfl (by kernel_rfl) (by kernel_rfl) (by kernel_rfl) (fun _ _ _ h => h) (by rfl) ?hy4 (by assumption) ?_
  case hy4 => intro W hSW; (try dsimp only at hSW); have q0 := Nat.lt_of_lt_of_le hG0 hSW.1.size; have q1 := Nat.lt_of_lt_of_le hl0 hSW.1.size; have q2 := Nat.lt_of_lt_of_le hl2 hSW.1.size; have z0 := hSW.1.cell f0 hnf; have z1 := hSW.1.cell f1 hnf; have z2 := hSW.1.cell f2 hnf; have z3 := hSW.1.cell f3 hnf; have z4 := hSW.1.cell f4 hnf; have z5 := hSW.1.cell f5 hnf; have z6 := hSW.1.cell f6 hnf; have z7 := hSW.1.cell n1 hnv; have z8 := hSW.1.cell n5 hnv; have z9 := hSW.1.cell n6 hnv; have k0 := hSW.2; obtain ⟨k5, k6, k7, k8, k9, k10, k11⟩ := k0; dsimp only at k5 k6 k7 k8 k10 k11; go_simp; (try with_reducible rfl)
  try simp only [Act.put, bP, bQ, bT]
  refine rg_take 4 (some 26) (v := ?v5) rfl rfl (by kernel_rfl) (by kernel_rfl) (by kernel_rfl) (fun _ _ _ h => h) (by rfl) ?hy5 (by assumption) ?_
  case hy5 => intro W hSW; (try dsimp only at hSW); have q0 := Nat.lt_of_lt_of_le hG0 hSW.1.size; have q1 := Nat.lt_of_lt_of_le hl0 hSW.1.size; have q2 := Nat.lt_of_lt_of_le hl2 hSW.1.size; have z0 := hSW.1.cell f0 hnf; have z1 := hSW.1.cell f1 hnf; have z2 := hSW.1.cell f2 hnf; have z3 := hSW.1.cell f3 hnf; have z4 := hSW.1.cell f4 hnf; have z5 := hSW.1.cell f5 hnf; have z6 := hSW.1.cell f6 hnf; have z7 := hSW.1.cell n1 hnv; have z8 := hSW.1.cell n5 hnv; have z9 := hSW.1.cell n6 hnv; have k0 := hSW.2; obtain ⟨k5, k6, k7, k8, k9, k10, k11⟩ := k0; dsimp only at k5 k6 k7 k8 k10 k11; go_simp; (try with_reducible rfl)
  try simp only [Act.put, bP, bQ, bT]
  refine rg_take 5 (some 27) (v := ?v6) rfl rfl (by kernel_rfl) (by kernel_rfl) (by kernel_rfl) (fun _ _ _ h => h) (by rfl) ?hy6 (by assumption) ?_
  case hy6 => intro W hSW; (try dsimp only at hSW); have q0 := Nat.lt_of_lt_of_le hG0 hSW.1.size; have q1 := Nat.lt_of_lt_of_le hl0 hSW.1.size; have q2 := Nat.lt_of_lt_of_le hl2 hSW.1.size; have z0 := hSW.1.cell f0 hnf; have z1 := hSW.1.cell f1 hnf; have z2 := hSW.1.cell f2 hnf; have z3 := hSW.1.cell f3 hnf; have z4 := hSW.1.cell f4 hnf; have z5 := hSW.1.cell f5 hnf; have z6 := hSW.1.cell f6 hnf; have z7 := hSW.1.cell n1 hnv; have z8 := hSW.1.cell n5 hnv; have z9 := hSW.1.cell n6 hnv; have k0 := hSW.2; obtain ⟨k5, k6, k7, k8, k9, k10, k11⟩ := k0; dsimp only at k5 k6 k7 k8 k10 k11; go_simp; (try with_reducible rfl)
  try simp only [Act.put, bP, bQ, bT]
  refine rg_take 6 (some 28) (v := ?v7) rfl rfl (by kernel_rfl) (by kernel_rfl) (by kernel_rfl) (fun _ _ _ h => h) (by rfl) ?hy7 (by assumption) ?_
  case hy7 => intro W hSW; (try dsimp only at hSW); have q0 := Nat.lt_of_lt_of_le hG0 hSW.1.size; have q1 := Nat.lt_of_lt_of_le hl0 hSW.1.size; have q2 := Nat.lt_of_lt_of_le hl2 hSW.1.size; have z0 := hSW.1.cell f0 hnf; have z1 := hSW.1.cell f1 hnf; have z2 := hSW.1.cell f2 hnf; have z3 := hSW.1.cell f3 hnf; have z4 := hSW.1.cell f4 hnf; have z5 := hSW.1.cell f5 hnf; have z6 := hSW.1.cell f6 hnf; have z7 := hSW.1.cell n1 hnv; have z8 := hSW.1.cell n5 hnv; have z9 := hSW.1.cell n6 hnv; have k0 := hSW.2; obtain ⟨k5, k6, k7, k8, k9, k10, k11⟩ := k0; dsimp only at k5 k6 k7 k8 k10 k11; go_simp; (try with_reducible rfl)
  try simp only [Act.put, bP, bQ, bT]
  refine rg_take 7 (some 29) (v := ?v8) rfl rfl (by kernel_rfl) (by kernel_rfl) (by kernel_rfl) (fun _ _ _ h => h) (by rfl) ?hy8 (by assumption) ?_
  case hy8 => intro W hSW; (try dsimp only at hSW); have q0 := Nat.lt_of_lt_of_le hG0 hSW.1.size; have q1 := Nat.lt_of_lt_of_le hl0 hSW.1.size; have q2 := Nat.lt_of_lt_of_le hl2 hSW.1.size; have z0 := hSW.1.cell f0 hnf; have z1 := hSW.1.cell f1 hnf; have z2 := hSW.1.cell f2 hnf; have z3 := hSW.1.cell f3 hnf; have z4 := hSW.1.cell f4 hnf; have z5 := hSW.1.cell f5 hnf; have z6 := hSW.1.cell f6 hnf; have z7 := hSW.1.cell n1 hnv; have z8 := hSW.1.cell n5 hnv; have z9 := hSW.1.cell n6 hnv; have k0 := hSW.2; obtain ⟨k5, k6, k7, k8, k9, k10, k11⟩ := k0; dsimp only at k5 k6 k7 k8 k10 k11; go_simp; (try with_reducible rfl)
  try simp only [Act.put, bP, bQ, bT]
  refine rg_take 9 (some 31) (v := ?v9) rfl rfl (by kernel_rfl) (by kernel_rfl) (by kernel_rfl) (fun _ _ _ h => h) (by rfl) ?hy9 (by assumption) ?_
  case hy9 => intro W hSW; (try dsimp only at hSW); have q0 := Nat.lt_of_lt_of_le hG0 hSW.1.size; have q1 := Nat.lt_of_lt_of_le hl0 hSW.1.size; have q2 := Nat.lt_of_lt_of_le hl2 hSW.1.size; have z0 := hSW.1.cell f0 hnf; have z1 := hSW.1.cell f1 hnf; have z2 := hSW.1.cell f2 hnf; have z3 := hSW.1.cell f3 hnf; have z4 := hSW.1.cell f4 hnf; have z5 := hSW.1.cell f5 hnf; have z6 := hSW.1.cell f6 hnf; have z7 := hSW.1.cell n1 hnv; have z8 := hSW.1.cell n5 hnv; have z9 := hSW.1.cell n6 hnv; have k0 := hSW.2; obtain ⟨k5, k6, k7, k8, k9, k10, k11⟩ := k0; dsimp only at k5 k6 k7 k8 k10 k11; go_simp; (try with_reducible rfl)
  try simp only [Act.put, bP, bQ, bT]
  refine rg_take 10 (some 32) (v := ?v10) rfl rfl (by kernel_rfl) (by kernel_rfl) (by kernel_rfl) (fun _ _ _ h => h) (by rfl) ?hy10 (by assumption) ?_
  case hy10 => intro W hSW; (try dsimp only at hSW); have q0 := Nat.lt_of_lt_of_le hG0 hSW.1.size; have q1 := Nat.lt_of_lt_of_le hl0 hSW.1.size; have q2 := Nat.lt_of_lt_of_le hl2 hSW.1.size; have z0 := hSW.1.cell f0 hnf; have z1 := hSW.1.cell f1 hnf; have z2 := hSW.1.cell f2 hnf; have z3 := hSW.1.cell f3 hnf; have z4 := hSW.1.cell f4 hnf; have z5 := hSW.1.cell f5 hnf; have z6 := hSW.1.cell f6 hnf; have z7 := hSW.1.cell n1 hnv; have z8 := hSW.1.cell n5 hnv; have z9 := hSW.1.cell n6 hnv; have k0 := hSW.2; obtain ⟨k5, k6, k7, k8, k9, k10, k11⟩ := k0; dsimp only at k5 k6 k7 k8 k10 k11; go_simp; (try with_reducible rfl)
  try simp only [Act.put, bP, bQ, bT]
  refine rg_take 11 (some 33) (v := ?v11) rfl rfl (by kernel_rfl) (by kernel_rfl) (by kernel_rfl) (fun _ _ _ h => h) (by rfl) ?hy11 (by assumption) ?_
  case hy11 => intro W hSW; (try dsimp only at hSW); have q0 := Nat.lt_of_lt_of_le hG0 hSW.1.size; have q1 := Nat.lt_of_lt_of_le hl0 hSW.1.size; have q2 := Nat.lt_of_lt_of_le hl2 hSW.1.size; have z0 := hSW.1.cell f0 hnf; have z1 := hSW.1.cell f1 hnf; have z2 := hSW.1.cell f2 hnf; have z3 := hSW.1.cell f3 hnf; have z4 := hSW.1.cell f4 hnf; have z5 := hSW.1.cell f5 hnf; have z6 := hSW.1.cell f6 hnf; have z7 := hSW.1.cell n1 hnv; have z8 := hSW.1.cell n5 hnv; have z9 := hSW.1.cell n6 hnv; have k0 := hSW.2; obtain ⟨k5, k6, k7, k8, k9, k10, k11⟩ := k0; dsimp only at k5 k6 k7 k8 k10 k11; go_simp; (try with_reducible rfl)
  try simp only [Act.put, bP, bQ, bT]
  refine rg_take 12 (some 34) (v := ?v12) rfl rfl (by kernel_rfl) (by kernel_rfl) (by kernel_rfl) (fun _ _ _ h => h) (by rfl) ?hy12 (by assumption) ?_
  case hy12 => intro W hSW; (try dsimp only at hSW); have q0 := Nat.lt_of_lt_of_le hG0 hSW.1.size; have q1 := Nat.lt_of_lt_of_le hl0 hSW.1.size; have q2 := Nat.lt_of_lt_of_le hl2 hSW.1.size; have z0 := hSW.1.cell f0 hnf; have z1 := hSW.1.cell f1 hnf; have z2 := hSW.1.cell f2 hnf; have z3 := hSW.1.cell f3 hnf; have z4 := hSW.1.cell f4 hnf; have z5 := hSW.1.cell f5 hnf; have z6 := hSW.1.cell f6 hnf; have z7 := hSW.1.cell n1 hnv; have z8 := hSW.1.cell n5 hnv; have z9 := hSW.1.cell n6 hnv; have k0 := hSW.2; obtain ⟨k5, k6, k7, k8, k9, k10, k11⟩ := k0; dsimp only at k5 k6 k7 k8 k10 k11; go_simp; (try with_reducible rfl)
  try simp only [Act.put, bP, bQ, bT]
  refine rg_take 13 (some 35) (v := ?v13) rfl rfl (by kernel_rfl) (by kernel_rfl) (by kernel_rfl) (fun _ _ _ h => h) (by rfl) ?hy13 (by assumption) ?_
  case hy13 => intro W hSW; (try dsimp only at hSW); have q0 := Nat.lt_of_lt_of_le hG0 hSW.1.size; have q1 := Nat.lt_of_lt_of_le hl0 hSW.1.size; have q2 := Nat.lt_of_lt_of_le hl2 hSW.1.size; have z0 := hSW.1.cell f0 hnf; have z1 := hSW.1.cell f1 hnf; have z2 := hSW.1.cell f2 hnf; have z3 := hSW.1.cell f3 hnf; have z4 := hSW.1.cell f4 hnf; have z5 := hSW.1.cell f5 hnf; have z6 := hSW.1.cell f6 hnf; have z7 := hSW.1.cell n1 hnv; have z8 := hSW.1.cell n5 hnv; have z9 := hSW.1.cell n6 hnv; have k0 := hSW.2; obtain ⟨k5, k6, k7, k8, k9, k10, k11⟩ := k0; dsimp only at k5 k6 k7 k8 k10 k11; go_simp; (try with_reducible rfl)
  try simp only [Act.put, bP, bQ, bT]
  refine rg_take 14 (some 36) (v := ?v14) rfl rfl (by kernel_rfl) (by kernel_rfl) (by kernel_rfl) (fun _ _ _ h => h) (by rfl) ?hy14 (by assumption) ?_
  case hy14 => intro W hSW; (try dsimp only at hSW); have q0 := Nat.lt_of_lt_of_le hG0 hSW.1.size; have q1 := Nat.lt_of_lt_of_le hl0 hSW.1.size; have q2 := Nat.lt_of_lt_of_le hl2 hSW.1.size; have z0 := hSW.1.cell f0 hnf; have z1 := hSW.1.cell f1 hnf; have z2 := hSW.1.cell f2 hnf; have z3 := hSW.1.cell f3 hnf; have z4 := hSW.1.cell f4 hnf; have z5 := hSW.1.cell f5 hnf; have z6 := hSW.1.cell f6 hnf; have z7 := hSW.1.cell n1 hnv; have z8 := hSW.1.cell n5 hnv; have z9 := hSW.1.cell n6 hnv; have k0 := hSW.2; obtain ⟨k5, k6, k7, k8, k9, k10, k11⟩ := k0; dsimp only at k5 k6 k7 k8 k10 k11; go_simp; (try with_reducible rfl)
  try simp only [Act.put, bP, bQ, bT]
  refine rg_one 8 rfl (by kernel_rfl) (by rfl) (fun K hK => ?_)
  go_simp
  refine (named_any _ env (.fn i env) p xx ⟨2, 0, i, p, none, none⟩ (Lib.hid (henv.out _ (belT hb0.out ((Below.refl _ _).drew)))) (Lib.hid (hfn.out _ (belT hb0.out ((Below.refl _ _).drew))))).mono ?_
  rintro e9 w9 ⟨g9, rfl, hr9, hb9⟩
  have hc9 : Below W0.heap.size W0 w9 := belT ((Below.refl _ _).drew) hb9
  refine hK.out _ _ ⟨Bar.of_below hc9, hT0.out.below hG0 hc9⟩ (fun hH9 => ?_)
  clear hK K
  try simp only [Act.put, bP, bQ, bT]
  refine rg_one 15 rfl (by kernel_rfl) (by rfl) (fun K hK => ?_)
  go_simp
  refine (named_any _ (.cons xx (.fn i env) env) v (some ⟨g9, 0, none⟩) xy ⟨z0, z1, z2, z3, z4, z5⟩ (Lib.hid hr9) (Lib.hid (hvv.out _ (belT hb0.out hc9)))).mono ?_
  rintro e7 w7 ⟨g7, rfl, hr7, hb7⟩
  have hc7 : Below W0.heap.size W0 w7 := belT (hc9) hb7
  refine hK.out _ _ ⟨Bar.of_below hc7, hT0.out.below hG0 hc7⟩ (fun hH7 => ?_)
  clear hK K
  try simp only [Act.put, bP, bQ, bT]
  refine rg_one 16 rfl (by kernel_rfl) (by rfl) (fun K hK => ?_)
  go_simp
  refine (hgo.out _ (some ⟨g7, 0, none⟩) xa w7 (belT hb0.out hc7) hr7).mono ?_
  rintro e8 w8 ⟨hf, hb8, hE8⟩
  have he8 := hf.1
  subst he8
  have hf := Lib.hid hf
  refine hK.out _ _ ⟨(Bar.of_below hc7).trans hb8 fun _ _ h => h, by have := hE8.thG; dsimp only at this; rw [hct.out] at this; exact this⟩ (fun hH8 => ?_)
  clear hK K
  try simp only [Act.put, bP, bQ, bT]
  refine wpAnyH_done (by kernel_rfl) ?_ _
  go_wp2_with fail
  all_goals go_end0
  all_goals exact hf.out
 ·have hbe : ((xk == 4) : Bool) = false := by simpa using h4
  obtain rfl := hg3.out h4
  go_upto_region 7 with fail
  clear n0 hg3 hg4 n6
  refine wp_region_held_drew (S := fun W => Bar (Bq G) W0 W ∧ ThG W G ⟨z0, z1, z2, z3, z4, z5⟩) (by kernel_rfl) (⟨Bar.of_below ((Below.refl _ _).drew), hT0.out.below hG0 ((Below.refl _ _).drew)⟩) (fun hHeld => ?_)
  refine rg_take 0 (some 39) (v := ?v15) rfl rfl (by kernel_rfl) (by kernel_rfl) (by kernel_rfl) (fun _ _ _ h => h) (by rfl) ?hy15 (by assumption) ?_
  case hy15 => intro W hSW; (try dsimp only at hSW); have q0 := Nat.lt_of_lt_of_le hG0 hSW.1.size; have q1 := Nat.lt_of_lt_of_le hl0 hSW.1.size; have q2 := Nat.lt_of_lt_of_le hl2 hSW.1.size; have z0 := hSW.1.cell f0 hnf; have z1 := hSW.1.cell f1 hnf; have z2 := hSW.1.cell f2 hnf; have z3 := hSW.1.cell f3 hnf; have z4 := hSW.1.cell f4 hnf; have z5 := hSW.1.cell f5 hnf; have z6 := hSW.1.cell f6 hnf; have z7 := hSW.1.cell n1 hnv; have z8 := hSW.1.cell n5 hnv; have k0 := hSW.2; obtain ⟨k5, k6, k7, k8, k9, k10, k11⟩ := k0; dsimp only at k5 k6 k7 k8 k10 k11; go_simp; (try with_reducible rfl)
  try simp only [Act.put, bP, bQ, bT]
  refine rg_take 1 (some 40) (v := ?v16) rfl rfl (by kernel_rfl) (by kernel_rfl) (by kernel_rfl) (fun _ _ _ h => h) (by rfl) ?hy16 (by assumption) ?_
  case hy16 => intro W hSW; (try dsimp only at hSW); have q0 := Nat.lt_of_lt_of_le hG0 hSW.1.size; have q1 := Nat.lt_of_lt_of_le hl0 hSW.1.size; have q2 := Nat.lt_of_lt_of_le hl2 hSW.1.size; have z0 := hSW.1.cell f0 hnf; have z1 := hSW.1.cell f1 hnf; have z2 := hSW.1.cell f2 hnf; have z3 := hSW.1.cell f3 hnf; have z4 := hSW.1.cell f4 hnf; have z5 := hSW.1.cell f5 hnf; have z6 := hSW.1.cell f6 hnf; have z7 := hSW.1.cell n1 hnv; have z8 := hSW.1.cell n5 hnv; have k0 := hSW.2; obtain ⟨k5, k6, k7, k8, k9, k10, k11⟩ := k0; dsimp only at k5 k6 k7 k8 k10 k11; go_simp; (try with_reducible rfl)
  try simp only [Act.put, bP, bQ, bT]
  refine rg_take 2 (some 41) (v := ?v17) rfl rfl (by kernel_rfl) (by kernel_rfl) (by kernel_rfl) (fun _ _ _ h => h) (by rfl) ?hy17 (by assumption) ?_
  case hy17 => intro W hSW; (try dsimp only at hSW); have q0 := Nat.lt_of_lt_of_le hG0 hSW.1.size; have q1 := Nat.lt_of_lt_of_le hl0 hSW.1.size; have q2 := Nat.lt_of_lt_of_le hl2 hSW.1.size; have z0 := hSW.1.cell f0 hnf; have z1 := hSW.1.cell f1 hnf; have z2 := hSW.1.cell f2 hnf; have z3 := hSW.1.cell f3 hnf; have z4 := hSW.1.cell f4 hnf; have z5 := hSW.1.cell f5 hnf; have z6 := hSW.1.cell f6 hnf; have z7 := hSW.1.cell n1 hnv; have z8 := hSW.1.cell n5 hnv; have k0 := hSW.2; obtain ⟨k5, k6, k7, k8, k9, k10, k11⟩ := k0; dsimp only at k5 k6 k7 k8 k10 k11; go_simp; (try with_reducible rfl)
  try simp only [Act.put, bP, bQ, bT]
  refine rg_take 3 (some 42) (v := ?v18) rfl rfl (by kernel_rfl) (by kernel_rfl) (by kernel_rfl) (fun _ _ _ h => h) (by rfl) ?hy18 (by assumption) ?_
  case hy18 => intro W hSW; (try dsimp only at hSW); have q0 := Nat.lt_of_lt_of_le hG0 hSW.1.size; have q1 := Nat.lt_of_lt_of_le hl0 hSW.1.size; have q2 := Nat.lt_of_lt_of_le hl2 hSW.1.size; have z0 := hSW.1.cell f0 hnf; have z1 := hSW.1.cell f1 hnf; have z2 := hSW.1.cell f2 hnf; have z3 := hSW.1.cell f3 hnf; have z4 := hSW.1.cell f4 hnf; have z5 := hSW.1.cell f5 hnf; have z6 := hSW.1.cell f6 hnf; have z7 := hSW.1.cell n1 hnv; have z8 := hSW.1.cell n5 hnv; have k0 := hSW.2; obtain ⟨k5, k6, k7, k8, k9, k10, k11⟩ := k0; dsimp only at k5 k6 k7 k8 k10 k11; go_simp; (try with_reducible rfl)
  try simp only [Act.put, bP, bQ, bT]
  refine rg_take 4 (some 43) (v := ?v19) rfl rfl (by kernel_rfl) (by kernel_rfl) (by kernel_rfl) (fun _ _ _ h => h) (by rfl) ?hy19 (by assumption) ?_
  case hy19 => intro W hSW; (try dsimp only at hSW); have q0 := Nat.lt_of_lt_of_le hG0 hSW.1.size; have q1 := Nat.lt_of_lt_of_le hl0 hSW.1.size; have q2 := Nat.lt_of_lt_of_le hl2 hSW.1.size; have z0 := hSW.1.cell f0 hnf; have z1 := hSW.1.cell f1 hnf; have z2 := hSW.1.cell f2 hnf; have z3 := hSW.1.cell f3 hnf; have z4 := hSW.1.cell f4 hnf; have z5 := hSW.1.cell f5 hnf; have z6 := hSW.1.cell f6 hnf; have z7 := hSW.1.cell n1 hnv; have z8 := hSW.1.cell n5 hnv; have k0 := hSW.2; obtain ⟨k5, k6, k7, k8, k9, k10, k11⟩ := k0; dsimp only at k5 k6 k7 k8 k10 k11; go_simp; (try with_reducible rfl)
  try simp only [Act.put, bP, bQ, bT]
  refine rg_take 5 (some 44) (v := ?v20) rfl rfl (by kernel_rfl) (by kernel_rfl) (by kernel_rfl) (fun _ _ _ h => h) (by rfl) ?hy20 (by assumption) ?_
  case hy20 => intro W hSW; (try dsimp only at hSW); have q0 := Nat.lt_of_lt_of_le hG0 hSW.1.size; have q1 := Nat.lt_of_lt_of_le hl0 hSW.1.size; have q2 := Nat.lt_of_lt_of_le hl2 hSW.1.size; have z0 := hSW.1.cell f0 hnf; have z1 := hSW.1.cell f1 hnf; have z2 := hSW.1.cell f2 hnf; have z3 := hSW.1.cell f3 hnf; have z4 := hSW.1.cell f4 hnf; have z5 := hSW.1.cell f5 hnf; have z6 := hSW.1.cell f6 hnf; have z7 := hSW.1.cell n1 hnv; have z8 := hSW.1.cell n5 hnv; have k0 := hSW.2; obtain ⟨k5, k6, k7, k8, k9, k10, k11⟩ := k0; dsimp only at k5 k6 k7 k8 k10 k11; go_simp; (try with_reducible rfl)
  try simp only [Act.put, bP, bQ, bT]
  refine rg_take 6 (some 45) (v := ?v21) rfl rfl (by kernel_rfl) (by kernel_rfl) (by kernel_rfl) (fun _ _ _ h => h) (by rfl) ?hy21 (by assumption) ?_
  case hy21 => intro W hSW; (try dsimp only at hSW); have q0 := Nat.lt_of_lt_of_le hG0 hSW.1.size; have q1 := Nat.lt_of_lt_of_le hl0 hSW.1.size; have q2 := Nat.lt_of_lt_of_le hl2 hSW.1.size; have z0 := hSW.1.cell f0 hnf; have z1 := hSW.1.cell f1 hnf; have z2 := hSW.1.cell f2 hnf; have z3 := hSW.1.cell f3 hnf; have z4 := hSW.1.cell f4 hnf; have z5 := hSW.1.cell f5 hnf; have z6 := hSW.1.cell f6 hnf; have z7 := hSW.1.cell n1 hnv; have z8 := hSW.1.cell n5 hnv; have k0 := hSW.2; obtain ⟨k5, k6, k7, k8, k9, k10, k11⟩ := k0; dsimp only at k5 k6 k7 k8 k10 k11; go_simp; (try with_reducible rfl)
  try simp only [Act.put, bP, bQ, bT]
  refine rg_take 7 (some 46) (v := ?v22) rfl rfl (by kernel_rfl) (by kernel_rfl) (by kernel_rfl) (fun _ _ _ h => h) (by rfl) ?hy22 (by assumption) ?_
  case hy22 => intro W hSW; (try dsimp only at hSW); have q0 := Nat.lt_of_lt_of_le hG0 hSW.1.size; have q1 := Nat.lt_of_lt_of_le hl0 hSW.1.size; have q2 := Nat.lt_of_lt_of_le hl2 hSW.1.size; have z0 := hSW.1.cell f0 hnf; have z1 := hSW.1.cell f1 hnf; have z2 := hSW.1.cell f2 hnf; have z3 := hSW.1.cell f3 hnf; have z4 := hSW.1.cell f4 hnf; have z5 := hSW.1.cell f5 hnf; have z6 := hSW.1.cell f6 hnf; have z7 := hSW.1.cell n1 hnv; have z8 := hSW.1.cell n5 hnv; have k0 := hSW.2; obtain ⟨k5, k6, k7, k8, k9, k10, k11⟩ := k0; dsimp only at k5 k6 k7 k8 k10 k11; go_simp; (try with_reducible rfl)
  try simp only [Act.put, bP, bQ, bT]
  refine rg_take 8 (some 47) (v := ?v23) rfl rfl (by kernel_rfl) (by kernel_rfl) (by kernel_rfl) (fun _ _ _ h => h) (by rfl) ?hy23 (by assumption) ?_
  case hy23 => intro W hSW; (try dsimp only at hSW); have q0 := Nat.lt_of_lt_of_le hG0 hSW.1.size; have q1 := Nat.lt_of_lt_of_le hl0 hSW.1.size; have q2 := Nat.lt_of_lt_of_le hl2 hSW.1.size; have z0 := hSW.1.cell f0 hnf; have z1 := hSW.1.cell f1 hnf; have z2 := hSW.1.cell f2 hnf; have z3 := hSW.1.cell f3 hnf; have z4 := hSW.1.cell f4 hnf; have z5 := hSW.1.cell f5 hnf; have z6 := hSW.1.cell f6 hnf; have z7 := hSW.1.cell n1 hnv; have z8 := hSW.1.cell n5 hnv; have k0 := hSW.2; obtain ⟨k5, k6, k7, k8, k9, k10, k11⟩ := k0; dsimp only at k5 k6 k7 k8 k10 k11; go_simp; (try with_reducible rfl)
  try simp only [Act.put, bP, bQ, bT]
  refine rg_take 9 (some 48) (v := ?v24) rfl rfl (by kernel_rfl) (by kernel_rfl) (by kernel_rfl) (fun _ _ _ h => h) (by rfl) ?hy24 (by assumption) ?_
  case hy24 => intro W hSW; (try dsimp only at hSW); have q0 := Nat.lt_of_lt_of_le hG0 hSW.1.size; have q1 := Nat.lt_of_lt_of_le hl0 hSW.1.size; have q2 := Nat.lt_of_lt_of_le hl2 hSW.1.size; have z0 := hSW.1.cell f0 hnf; have z1 := hSW.1.cell f1 hnf; have z2 := hSW.1.cell f2 hnf; have z3 := hSW.1.cell f3 hnf; have z4 := hSW.1.cell f4 hnf; have z5 := hSW.1.cell f5 hnf; have z6 := hSW.1.cell f6 hnf; have z7 := hSW.1.cell n1 hnv; have z8 := hSW.1.cell n5 hnv; have k0 := hSW.2; obtain ⟨k5, k6, k7, k8, k9, k10, k11⟩ := k0; dsimp only at k5 k6 k7 k8 k10 k11; go_simp; (try with_reducible rfl)
  try simp only [Act.put, bP, bQ, bT]
  refine rg_take 10 (some 49) (v := ?v25) rfl rfl (by kernel_rfl) (by kernel_rfl) (by kernel_rfl) (fun _ _ _ h => h) (by rfl) ?hy25 (by assumption) ?_
  case hy25 => intro W hSW; (try dsimp only at hSW); have q0 := Nat.lt_of_lt_of_le hG0 hSW.1.size; have q1 := Nat.lt_of_lt_of_le hl0 hSW.1.size; have q2 := Nat.lt_of_lt_of_le hl2 hSW.1.size; have z0 := hSW.1.cell f0 hnf; have z1 := hSW.1.cell f1 hnf; have z2 := hSW.1.cell f2 hnf; have z3 := hSW.1.cell f3 hnf; have z4 := hSW.1.cell f4 hnf; have z5 := hSW.1.cell f5 hnf; have z6 := hSW.1.cell f6 hnf; have z7 := hSW.1.cell n1 hnv; have z8 := hSW.1.cell n5 hnv; have k0 := hSW.2; obtain ⟨k5, k6, k7, k8, k9, k10, k11⟩ := k0; dsimp only at k5 k6 k7 k8 k10 k11; go_simp; (try with_reducible rfl)
  try simp only [Act.put, bP, bQ, bT]
  refine rg_one 11 rfl (by kernel_rfl) (by rfl) (fun K hK => ?_)
  go_simp
  refine (named_any _ env v p xx ⟨z0, z1, z2, z3, z4, z5⟩ (Lib.hid (henv.out _ (belT hb0.out ((Below.refl _ _).drew)))) (Lib.hid (hvv.out _ (belT hb0.out ((Below.refl _ _).drew))))).mono ?_
  rintro e9 w9 ⟨g9, rfl, hr9, hb9⟩
  have hc9 : Below W0.heap.size W0 w9 := belT ((Below.refl _ _).drew) hb9
  refine hK.out _ _ ⟨Bar.of_below hc9, hT0.out.below hG0 hc9⟩ (fun hH9 => ?_)
  clear hK K
  try simp only [Act.put, bP, bQ, bT]
  refine rg_one 12 rfl (by kernel_rfl) (by rfl) (fun K hK => ?_)
  go_simp
  refine (hgo.out _ (some ⟨g9, 0, none⟩) xa w9 (belT hb0.out hc9) hr9).mono ?_
  rintro e8 w8 ⟨hf, hb8, hE8⟩
  have he8 := hf.1
  subst he8
  have hf := Lib.hid hf
  refine hK.out _ _ ⟨(Bar.of_below hc9).trans hb8 fun _ _ h => h, by have := hE8.thG; dsimp only at this; rw [hct.out] at this; exact this⟩ (fun hH8 => ?_)
  clear hK K
  try simp only [Act.put, bP, bQ, bT]
  refine wpAnyH_done (by kernel_rfl) ?_ _
  go_wp2_with fail
  all_goals go_end0
  all_goals exact hf.out
theorem call_bnd (B G : Nat) (tv sv : Value) (c : Ec) (l : List Fx) (ts : List Tg) (w : World) (stk : List NF) (env f v : NV) (n : Int) (p : Option Addr) (b : Nat) (tf : V7) (h : Hid (ERc B G tv sv c l w)) (hce : Hid (c.ev = false)) (hs : Hid (StX ts w stk l)) (henv : Hid (VR w env (.inr p)))
  (hb : b < w.heap.size ∧ TyAt w b 67 ∧ VCo w b 0 tf) (hf : Hid (VR w f (.inl tf))) (hv : Hid (VR w v (.inl c.th))) (hn : Hid (0 ≤ n ∧ n < ts.length)) (hk : Hid ((ndT ts n).k = 11)) (hl : l.length ≤ 4096) :
  Calls Try.prog 46 #[.pointer (some ⟨G, 0, none⟩), .agg #[.int .i64 7, .int .i64 0, .int .i64 n, .pointer p, .slice none 0 0, .pointer (some ⟨b, 0, none⟩), .pointer none]] w (NxP c.w0 ts B G tv (nApply ts (.bnd n env f) v stk)) := by
 have hgoal : nApply ts (.bnd n env f) v stk = .gv (⟨2, n, .nil, f⟩ :: ⟨0, n, env, .num 0⟩ :: stk) v := rfl
 rw [hgoal]
 have hq := Lib.hid fun (W : World) (hb : Below w.heap.size w W) => push_st h.out (ts := ts) ⟨11, n, p, v70⟩ W hb (by omega)
 have hnb := Lib.hid (h.out.nbox (g := w.heap.size) (Nat.le_refl _))
 have hnu : ¬ Bp G sv b := fun e => (h.out.vf b e).1 hb.2.1
 obtain ⟨hbw, hbT, u0, u1, u2, u3, u4, u5, u6⟩ := hb
 simp only [Nat.zero_add] at u1 u2 u3 u4 u5 u6
 clear hgoal h
 obtain ⟨y0, y1, y2, y3, y4, y5⟩ := tf
 dsimp only at u0 u1 u2 u3 u4 u5 u6
 go_enter Try.func46, Try.ntmps46
 go_upto_region 1 with fail
 obtain ⟨W1, hW1⟩ : ∃ W, w.alloc (.cells #[.int .i64 7, .int .i64 0, .int .i64 n, .pointer p, .slice none 0 0, .pointer (some ⟨b, 0, none⟩), .pointer none] 67) = W := ⟨_, rfl⟩
 rw [hW1]
 obtain ⟨hb1, hs1, f0, -, f2, f3, -, f5, -⟩ := bx_v7 (t := ⟨7, 0, n, p, some ⟨b, 0, none⟩, none⟩) hW1
 dsimp only at f0 f2 f3 f5
 have hl1 : w.heap.size < W1.heap.size := by omega
 have hb1 := Lib.hid hb1
 clear hW1
 go_wp2_with fail
 refine (hq.out W1 hb1.out).mono ?_
 rintro e1 w1 ⟨rfl, sv1, h1, hr1, hst1, hvr1⟩
 have f2 : w1.cell? _ = _ := hr1.cell f2 hnb.out
 have f5 : w1.cell? _ = _ := hr1.cell f5 hnb.out
 have hl2 : w.heap.size < w1.heap.size := Nat.lt_of_lt_of_le hl1 hr1.size
 have u0 : w1.cell? _ = _ := hr1.cell (carry hb1.out hbw u0) hnu
 have u1 : w1.cell? _ = _ := hr1.cell (carry hb1.out hbw u1) hnu
 have u2 : w1.cell? _ = _ := hr1.cell (carry hb1.out hbw u2) hnu
 have u3 : w1.cell? _ = _ := hr1.cell (carry hb1.out hbw u3) hnu
 have u4 : w1.cell? _ = _ := hr1.cell (carry hb1.out hbw u4) hnu
 have u5 : w1.cell? _ = _ := hr1.cell (carry hb1.out hbw u5) hnu
 have u6 : w1.cell? _ = _ := hr1.cell (carry hb1.out hbw u6) hnu
 have hbw1 : b < w1.heap.size := Nat.lt_of_lt_of_le hbw (Nat.le_trans hb1.out.size hr1.size)
 have hst2 := Lib.hid (hst1 hs.out (show FX ts w ⟨0, n, env, .num 0⟩ ⟨11, n, p, v70⟩ from ⟨hn.out, .inl ⟨rfl, rfl, by rw [hk.out]; decide, by rw [hk.out]; rfl, henv.out⟩⟩))
 have hv1 := Lib.hid (hvr1 hv.out)
 have hf1 := Lib.hid (hvr1 hf.out)
 have hq2 := Lib.hid fun (W : World) (hb : Below w1.heap.size w1 W) => push_st h1 (ts := ts) ⟨1, n, none, ⟨y0, y1, y2, y3, y4, y5⟩⟩ W hb (by simp; omega)
 clear hq hr1 hst1 hvr1 hs henv hf hv f0 f3 h1
 go_upto_region 10 with fail
 go_region_with (refine (hq2.out _ (by (repeat' (first | (with_reducible first | exact bR _ _ | assumption | apply bS | apply bA | apply bD | apply bN | exact bL _) | (simp; done) | (simp; omega) | omega | exact bL _)))).mono ?_; rintro e2 w2 ⟨rfl, sv2, h2, -, hst3, hvr2⟩)
 all_goals
  have hfin := Lib.hid (show NxP c.w0 ts B G tv (.gv (⟨2, n, .nil, f⟩ :: ⟨0, n, env, .num 0⟩ :: stk) v) (.returned (.tuple #[])) w2 from ⟨rfl, sv2, c, _, rfl, h2.ex, h2.dn, hce.out, hst3 hst2.out ⟨hn.out, .inr (.inr ⟨rfl, rfl, hf1.out⟩)⟩, hvr2 hv1.out⟩)
  clear h2 hst3 hvr2 hst2 hv1 hf1 hq2
  go_wp2_with fail
  all_goals go_end0
  all_goals exact hfin.out
theorem call_fwd (B G : Nat) (tv sv : Value) (c : Ec) (l : List Fx) (ts : List Tg) (w : World) (stk : List NF) (f who v : NV) (b b2 : Nat) (tw tf : V7) (h : Hid (ERc B G tv sv c l w)) (hce : Hid (c.ev = false)) (hs : Hid (StX ts w stk l))
  (hb : b < w.heap.size ∧ TyAt w b 67 ∧ VCo w b 0 tw) (hw : Hid (VR w who (.inl tw))) (hb2 : b2 < w.heap.size ∧ TyAt w b2 67 ∧ VCo w b2 0 tf) (hf : Hid (VR w f (.inl tf))) (hv : Hid (VR w v (.inl c.th))) (h0 : 0 < ts.length) (hl : l.length ≤ 4096) :
  Calls Try.prog 46 #[.pointer (some ⟨G, 0, none⟩), .agg #[.int .i64 8, .int .i64 0, .int .i64 0, .pointer none, .slice none 0 0, .pointer (some ⟨b, 0, none⟩), .pointer (some ⟨b2, 0, none⟩)]] w (NxP c.w0 ts B G tv (nApply ts (.fwd f who) v stk)) := by
 have hgoal : nApply ts (.fwd f who) v stk = .gv (⟨2, 0, .nil, f⟩ :: ⟨2, 0, .nil, who⟩ :: stk) v := rfl
 rw [hgoal]
 have hq := Lib.hid fun (W : World) (hb : Below w.heap.size w W) => push_st h.out (ts := ts) ⟨1, 0, none, tw⟩ W hb (by omega)
 have hnb := Lib.hid (h.out.nbox (g := w.heap.size) (Nat.le_refl _))
 have hnu : ¬ Bp G sv b2 := fun e => (h.out.vf b2 e).1 hb2.2.1
 have hn : Hid ((0 : Int) ≤ 0 ∧ (0 : Int) < ts.length) := Lib.hid ⟨by omega, by omega⟩
 obtain ⟨hbw, hbT, v0, v1, v2, v3, v4, v5, v6⟩ := hb
 obtain ⟨hbw2, hbT2, u0, u1, u2, u3, u4, u5, u6⟩ := hb2
 simp only [Nat.zero_add] at u1 u2 u3 u4 u5 u6 v1 v2 v3 v4 v5 v6
 clear hgoal h
 obtain ⟨y0, y1, y2, y3, y4, y5⟩ := tf
 obtain ⟨x0, x1, x2, x3, x4, x5⟩ := tw
 dsimp only at u0 u1 u2 u3 u4 u5 u6 v0 v1 v2 v3 v4 v5 v6
 go_enter Try.func46, Try.ntmps46
 go_upto_region 1 with fail
 obtain ⟨W1, hW1⟩ : ∃ W, w.alloc (.cells #[.int .i64 8, .int .i64 0, .int .i64 0, .pointer none, .slice none 0 0, .pointer (some ⟨b, 0, none⟩), .pointer (some ⟨b2, 0, none⟩)] 67) = W := ⟨_, rfl⟩
 rw [hW1]
 obtain ⟨hb1, hs1, f0, -, -, -, -, f5, f6⟩ := bx_v7 (t := ⟨8, 0, 0, none, some ⟨b, 0, none⟩, some ⟨b2, 0, none⟩⟩) hW1
 dsimp only at f0 f5 f6
 have hl1 : w.heap.size < W1.heap.size := by omega
 have hb1 := Lib.hid hb1
 clear hW1
 have hbwW : b < W1.heap.size := Nat.lt_of_lt_of_le hbw hb1.out.size
 have v0 : W1.cell? _ = _ := carry hb1.out hbw v0
 have v1 : W1.cell? _ = _ := carry hb1.out hbw v1
 have v2 : W1.cell? _ = _ := carry hb1.out hbw v2
 have v3 : W1.cell? _ = _ := carry hb1.out hbw v3
 have v4 : W1.cell? _ = _ := carry hb1.out hbw v4
 have v5 : W1.cell? _ = _ := carry hb1.out hbw v5
 have v6 : W1.cell? _ = _ := carry hb1.out hbw v6
 go_wp2_with fail
 refine (hq.out W1 hb1.out).mono ?_
 rintro e1 w1 ⟨rfl, sv1, h1, hr1, hst1, hvr1⟩
 have f6 : w1.cell? _ = _ := hr1.cell f6 hnb.out
 have hl2 : w.heap.size < w1.heap.size := Nat.lt_of_lt_of_le hl1 hr1.size
 have u0 : w1.cell? _ = _ := hr1.cell (carry hb1.out hbw2 u0) hnu
 have u1 : w1.cell? _ = _ := hr1.cell (carry hb1.out hbw2 u1) hnu
 have u2 : w1.cell? _ = _ := hr1.cell (carry hb1.out hbw2 u2) hnu
 have u3 : w1.cell? _ = _ := hr1.cell (carry hb1.out hbw2 u3) hnu
 have u4 : w1.cell? _ = _ := hr1.cell (carry hb1.out hbw2 u4) hnu
 have u5 : w1.cell? _ = _ := hr1.cell (carry hb1.out hbw2 u5) hnu
 have u6 : w1.cell? _ = _ := hr1.cell (carry hb1.out hbw2 u6) hnu
 have hbw1 : b2 < w1.heap.size := Nat.lt_of_lt_of_le hbw2 (Nat.le_trans hb1.out.size hr1.size)
 have hst2 := Lib.hid (hst1 hs.out (show FX ts w ⟨2, 0, .nil, who⟩ ⟨1, 0, none, ⟨x0, x1, x2, x3, x4, x5⟩⟩ from ⟨hn.out, .inr (.inr ⟨rfl, rfl, hw.out⟩)⟩))
 have hv1 := Lib.hid (hvr1 hv.out)
 have hf1 := Lib.hid (hvr1 hf.out)
 have hq2 := Lib.hid fun (W : World) (hb : Below w1.heap.size w1 W) => push_st h1 (ts := ts) ⟨1, 0, none, ⟨y0, y1, y2, y3, y4, y5⟩⟩ W hb (by simp; omega)
 clear hq hr1 hst1 hvr1 hs hw hf hv f0 f5 h1 v0 v1 v2 v3 v4 v5 v6
 go_wp2_with fail
 refine (hq2.out _ (by (repeat' (first | (with_reducible first | exact bR _ _ | assumption | apply bS | apply bA | apply bD | apply bN | exact bL _) | (simp; done) | (simp; omega) | omega | exact bL _)))).mono ?_
 rintro e2 w2 ⟨rfl, sv2, h2, -, hst3, hvr2⟩
 have hfin := Lib.hid (show NxP c.w0 ts B G tv (.gv (⟨2, 0, .nil, f⟩ :: ⟨2, 0, .nil, who⟩ :: stk) v) (.returned (.tuple #[])) w2 from ⟨rfl, sv2, c, _, rfl, h2.ex, h2.dn, hce.out, hst3 hst2.out ⟨hn.out, .inr (.inr ⟨rfl, rfl, hf1.out⟩)⟩, hvr2 hv1.out⟩)
 clear h2 hst3 hvr2 hst2 hv1 hf1 hq2
 go_wp2_with fail
 all_goals go_end0
 all_goals exact hfin.out
theorem call_no (B G : Nat) (tv sv : Value) (c : Ec) (l : List Fx) (ts : List Tg) (w : World) (t : V7) (h : Hid (ERc B G tv sv c l w)) (hk : t.k ≠ 2 ∧ t.k ≠ 7 ∧ t.k ≠ 8) (hl : l.length ≤ 4096) :
  Calls Try.prog 46 #[.pointer (some ⟨G, 0, none⟩), t.val] w (NxP c.w0 ts B G tv (.en 5 0)) := by
 obtain ⟨y0, y1, y2, y3, y4, y5⟩ := t
 dsimp only at hk
 obtain ⟨k2, k7, k8⟩ := hk
 have q2 : ((y0 == 2) : Bool) = false := by simpa using k2
 have q7 : ((y0 == 7) : Bool) = false := by simpa using k7
 have q8 : ((y0 == 8) : Bool) = false := by simpa using k8
 have hend := Lib.hid fun (W : World) (hb : Below w.heap.size w W) => end_st h.out (ts := ts) 5 0 W hb hl
 unfold V7.val
 dsimp only
 clear h
 go_enter Try.func46, Try.ntmps46
 go_wp2_with fail
 refine (hend.out _ (by (repeat' (first | (with_reducible first | exact bR _ _ | assumption | apply bS | apply bA | apply bD | apply bN | exact bL _) | (simp; done) | (simp; omega) | omega | exact bL _)))).mono ?_
 rintro e2 w2 ⟨hf, -, -⟩
 have he2 := hf.1
 subst he2
 have hf := Lib.hid hf
 clear hend
 go_wp2_with fail
 all_goals go_end0
 all_goals exact hf.out
theorem call17_any (B G : Nat) (tv sv : Value) (c : Ec) (l : List Fx) (ts : List Tg) (fur : List Int) (w : World) (stk : List NF) (g v : NV) (t : V7) (h : Hid (ERc B G tv sv c l w)) (hce : Hid (c.ev = false)) (hs : Hid (StX ts w stk l)) (hg : Hid (VR w g (.inl t))) (hv : Hid (VR w v (.inl c.th))) (ht : Hid (TvR B G w tv ts)) (h0 : 0 < ts.length) {K : Nat} (hfit : g.er.fit ts.length K) (hsc : g.sc ts fur) (hl : l.length ≤ 4096) :
  Calls Try.prog 46 #[.pointer (some ⟨G, 0, none⟩), t.val] w (NxP c.w0 ts B G tv (nApply ts g v stk)) := by
 rcases vr_app hg.out with ⟨n, e, p, rfl, rfl, he⟩ | ⟨n, e, f, p, b, tf, rfl, rfl, he, hb, hf⟩ | ⟨f, who, b, tw, b2, tf, rfl, rfl, hb, hw, hb2, hf⟩ | ⟨hk, hn⟩
 ·obtain ⟨i, rfl⟩ : ∃ i : Nat, n = i := ⟨n.toNat, by have := hfit.1; omega⟩
  exact call_fn B G tv sv c l ts w stk e v i p h hs (Lib.hid he) hv ht (by have := hfit.1; omega)
 ·exact call_bnd B G tv sv c l ts w stk e f v n p b tf h hce hs (Lib.hid he) hb (Lib.hid hf) hv (Lib.hid hfit.1) (Lib.hid hsc.1) hl
 ·exact call_fwd B G tv sv c l ts w stk f who v b b2 tw tf h hce hs hb (Lib.hid hw) hb2 (Lib.hid hf) hv h0 hl
 ·rw [hn]
  exact call_no B G tv sv c l ts w t h hk hl
end Go.Proofs.Ytnjalpcmjkahkaa
