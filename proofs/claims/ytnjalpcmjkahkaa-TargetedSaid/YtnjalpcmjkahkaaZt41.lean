/- The reference's engine for targets: a value for a frame. -/
import Derived.Test.YtnjalpcmjkahkaaZt35
import Derived.Test.YtnjalpcmjkahkaaZt39
set_option maxRecDepth 100000
set_option maxHeartbeats 8000000
namespace Go.Proofs.Ytnjalpcmjkahkaa
open Go.RowKit
set_option linter.unusedVariables false
set_option linter.unusedSimpArgs false
theorem two_bx {W0 W2 : World} {a b : V7} (h : ((W0.alloc (.cells #[.int .i64 a.k, .int .i64 a.n, .int .i64 a.nd, .pointer a.en, .slice none 0 0, .pointer a.one, .pointer a.two] 67)).alloc (.cells #[.int .i64 b.k, .int .i64 b.n, .int .i64 b.nd, .pointer b.en, .slice none 0 0, .pointer b.one, .pointer b.two] 67)).drew = W2) :
  Below W0.heap.size W0 W2 ∧ (W0.heap.size < W2.heap.size ∧ TyAt W2 W0.heap.size 67 ∧ VCo W2 W0.heap.size 0 a) ∧ (W0.heap.size + 1 < W2.heap.size ∧ TyAt W2 (W0.heap.size + 1) 67 ∧ VCo W2 (W0.heap.size + 1) 0 b) := by
 subst h
 refine ⟨by (repeat' (first | (with_reducible first | exact bR _ _ | assumption | apply bS | apply bA | apply bD | apply bN | exact bL _) | (simp; done) | (simp; omega) | omega | exact bL _)), ⟨by simp; omega, ?_, by simp [VCo, go_sem]⟩, ⟨by simp, ?_, by simp [VCo, go_sem]⟩⟩
 ·exact (TyAt.new W0 _ _).bar (S := fun _ => False) (Bar.of_below (show Below (W0.alloc _).heap.size (W0.alloc _) _ from by (repeat' (first | (with_reducible first | exact bR _ _ | assumption | apply bS | apply bA | apply bD | apply bN | exact bL _) | (simp; done) | (simp; omega) | omega | exact bL _)))) id
 ·have := (TyAt.new (W0.alloc (.cells #[.int .i64 a.k, .int .i64 a.n, .int .i64 a.nd, .pointer a.en, .slice none 0 0, .pointer a.one, .pointer a.two] 67)) #[.int .i64 b.k, .int .i64 b.n, .int .i64 b.nd, .pointer b.en, .slice none 0 0, .pointer b.one, .pointer b.two] 67).bar (S := fun _ => False) (Bar.of_below ((Below.refl _ _).drew)) id
  simpa using this
theorem back_op (B G : Nat) (tv sv : Value) (c : Ec) (l : List Fx) (ts : List Tg) (w : World) (stk : List NF) (v : NV) (i : Nat) (xen : Option Addr) (y : V7) (h : Hid (ERc B G tv sv c l w)) (hs : Hid (StX ts w stk l)) (hv : Hid (VR w v (.inl c.th))) (ht : Hid (TvR B G w tv ts)) (hi : i < ts.length) (hl : l.length ≤ 4096) (u : NV) (hu : Hid (VR w u (.inl y))) (hk : (ndT ts i).k = 10) :
  Calls Try.prog 35 #[.pointer (some ⟨G, 0, none⟩), (Fx.mk 10 i xen y).val] w (NxP c.w0 ts B G tv (nSecond (ndT ts i) ⟨1, i, .nil, u⟩ v stk)) := by
 obtain ⟨y0, y1, y2, y3, y4, y5⟩ := y
 unfold Fx.val
 dsimp only
 have hG := h.out.ec.lt
 have c0 := h.out.ec.c0
 have hth := h.out.ec.thG
 obtain ⟨T, off, cp, rfl, hTB, hTG, hTw, hT⟩ := ht.out
 have hx0 := hT i hi
 have hnd : ndT ts (i : Int) = ts.getD i tg0 := rfl
 obtain ⟨ct, hct⟩ : ∃ a, c.th = a := ⟨_, rfl⟩
 rw [hct] at hth
 obtain ⟨x, hx⟩ : ∃ x, ts.getD i tg0 = x := ⟨_, rfl⟩
 rw [hx] at hx0 hnd
 rw [hnd] at hk ⊢
 have hgoal : nSecond x ⟨1, i, .nil, u⟩ v stk = .gv stk (.op x.n u v) := by unfold nSecond; rw [if_pos hk]
 rw [hgoal]
 have hgv := Lib.hid fun (v : NV) (t : V7) (W : World) (hb : Below w.heap.size w W) (hh : VR W v (.inl t)) => gives_st2 h.out t W hb (hs.out.below hb) hh
 have hvv := Lib.hid fun (W : World) hb => hv.out.below (W' := W) hb
 have huu := Lib.hid fun (W : World) hb => hu.out.below (W' := W) hb
 rw [hct] at hvv
 obtain ⟨z0, z1, z2, z3, z4, z5⟩ := ct
 obtain ⟨xk, xa, xb, xc, xn, xx, xy, xz, xw⟩ := x
 obtain ⟨t0, t1, t2, t3, t4, t5, t6, t7, t8⟩ := hx0
 dsimp only at t0 t1 t2 t3 t4 t5 t6 t7 t8
 have hct := Lib.hid hct
 dsimp only
 clear hT hx hnd hv ht hgoal h hs hu
 go_enter Try.func35, Try.ntmps35
 go_upto_region 1 with fail
 obtain ⟨W1, hW1⟩ : ∃ W, w.alloc (.cells #[.int .i64 10, .int .i64 i, .pointer xen, .int .i64 y0, .int .i64 y1, .int .i64 y2, .pointer y3, .slice none 0 0, .pointer y4, .pointer y5] 91) = W := ⟨_, rfl⟩
 rw [hW1]
 obtain ⟨hb1, hs1, f0, f1, f2, f3, f4, f5, f6, f7, f8, f9⟩ := bx_fx (x := ⟨10, i, xen, ⟨y0, y1, y2, y3, y4, y5⟩⟩) hW1
 dsimp only at f0 f1 f2 f3 f4 f5 f6 f7 f8 f9
 have hG1 : G < W1.heap.size := Nat.lt_of_lt_of_le hG hb1.size
 have hT1 : T < W1.heap.size := Nat.lt_of_lt_of_le hTw hb1.size
 have hl1 : w.heap.size < W1.heap.size := by omega
 have c0 : W1.cell? _ = _ := carry hb1 hG c0
 have t0 : W1.cell? _ = _ := carry hb1 hTw t0
 have t1 : W1.cell? _ = _ := carry hb1 hTw t1
 have t2 : W1.cell? _ = _ := carry hb1 hTw t2
 have t3 : W1.cell? _ = _ := carry hb1 hTw t3
 have t4 : W1.cell? _ = _ := carry hb1 hTw t4
 have t5 : W1.cell? _ = _ := carry hb1 hTw t5
 have t6 : W1.cell? _ = _ := carry hb1 hTw t6
 have t7 : W1.cell? _ = _ := carry hb1 hTw t7
 have t8 : W1.cell? _ = _ := carry hb1 hTw t8
 have hi0 : (0 : Int) ≤ (i : Int) := by omega
 have hi1 : (i : Int) < (ts.length : Int) := by omega
 have hb1 := Lib.hid hb1
 clear hW1
 go_region
 obtain ⟨W0, hW0⟩ : ∃ W, (W1.alloc (.cells #[.int .i64 xk, .int .i64 xa, .int .i64 xb, .int .i64 xc, .int .i64 xn, .int .i64 xx, .int .i64 xy, .int .i64 xz, .int .i64 xw] 37)).drew = W := ⟨_, rfl⟩
 have hb2 : Below W1.heap.size W1 W0 := by rw [← hW0]; (repeat' (first | (with_reducible first | exact bR _ _ | assumption | apply bS | apply bA | apply bD | apply bN | exact bL _) | (simp; done) | (simp; omega) | omega | exact bL _))
 have hs2 : W0.heap.size = w.heap.size + 2 := by rw [← hW0]; simp; omega
 have n0 : W0.cell? ⟨w.heap.size + 1, 0, none⟩ = some (.int .i64 xk) := by rw [← hW0, ← hs1]; simp [go_sem]
 have n1 : W0.cell? ⟨w.heap.size + 1, 1, none⟩ = some (.int .i64 xa) := by rw [← hW0, ← hs1]; simp [go_sem]
 have n2 : W0.cell? ⟨w.heap.size + 1, 2, none⟩ = some (.int .i64 xb) := by rw [← hW0, ← hs1]; simp [go_sem]
 have n3 : W0.cell? ⟨w.heap.size + 1, 3, none⟩ = some (.int .i64 xc) := by rw [← hW0, ← hs1]; simp [go_sem]
 have n4 : W0.cell? ⟨w.heap.size + 1, 4, none⟩ = some (.int .i64 xn) := by rw [← hW0, ← hs1]; simp [go_sem]
 have n5 : W0.cell? ⟨w.heap.size + 1, 5, none⟩ = some (.int .i64 xx) := by rw [← hW0, ← hs1]; simp [go_sem]
 have n6 : W0.cell? ⟨w.heap.size + 1, 6, none⟩ = some (.int .i64 xy) := by rw [← hW0, ← hs1]; simp [go_sem]
 have n7 : W0.cell? ⟨w.heap.size + 1, 7, none⟩ = some (.int .i64 xz) := by rw [← hW0, ← hs1]; simp [go_sem]
 have n8 : W0.cell? ⟨w.heap.size + 1, 8, none⟩ = some (.int .i64 xw) := by rw [← hW0, ← hs1]; simp [go_sem]
 rw [hW0]
 have f0 : W0.cell? _ = _ := carry hb2 hl1 f0
 have f1 : W0.cell? _ = _ := carry hb2 hl1 f1
 have f2 : W0.cell? _ = _ := carry hb2 hl1 f2
 have f3 : W0.cell? _ = _ := carry hb2 hl1 f3
 have f4 : W0.cell? _ = _ := carry hb2 hl1 f4
 have f5 : W0.cell? _ = _ := carry hb2 hl1 f5
 have f6 : W0.cell? _ = _ := carry hb2 hl1 f6
 have f7 : W0.cell? _ = _ := carry hb2 hl1 f7
 have f8 : W0.cell? _ = _ := carry hb2 hl1 f8
 have f9 : W0.cell? _ = _ := carry hb2 hl1 f9
 have hb0 : Below w.heap.size w W0 := belT hb1.out hb2
 have hG0 : G < W0.heap.size := Nat.lt_of_lt_of_le hG hb0.size
 have hl0 : w.heap.size < W0.heap.size := by omega
 have hl2 : w.heap.size + 1 < W0.heap.size := by omega
 have hT0 := hth.below hG hb0
 have hT0 := Lib.hid hT0
 obtain ⟨c5, c6, c7, c8, c9, c10, c11⟩ := hT0.out
 dsimp only at c5 c6 c7 c8 c9 c10 c11
 have hnf : ¬ Bq G w.heap.size := fun e => by have e : w.heap.size = G := e; omega
 have hnv : ¬ Bq G (w.heap.size + 1) := fun e => by have e : w.heap.size + 1 = G := e; omega
 have hb0 := Lib.hid hb0
 clear hW0 hb2 hs1 hs2 t0 t1 t2 t3 t4 t5 t6 t7 t8 c0 hG1 hT1 hl1 hi0 hi1 hb1
 go_upto_region 36 with fail
 go_region
 ·obtain ⟨W2, hW2⟩ : ∃ W, ((W0.alloc (.cells #[.int .i64 y0, .int .i64 y1, .int .i64 y2, .pointer y3, .slice none 0 0, .pointer y4, .pointer y5] 67)).alloc (.cells #[.int .i64 z0, .int .i64 z1, .int .i64 z2, .pointer z3, .slice none 0 0, .pointer z4, .pointer z5] 67)).drew = W := ⟨_, rfl⟩
  rw [hW2]
  obtain ⟨hE, hA, hB⟩ := two_bx (a := ⟨y0, y1, y2, y3, y4, y5⟩) (b := ⟨z0, z1, z2, z3, z4, z5⟩) hW2
  have q0 : w.heap.size + 1 < W2.heap.size := Nat.lt_of_lt_of_le hl2 hE.size
  have n4 : W2.cell? _ = _ := carry hE hl2 n4
  have hr : VR W2 (.op xn u v) (.inl ⟨6, xn, 0, none, some ⟨W0.heap.size, 0, none⟩, some ⟨W0.heap.size + 1, 0, none⟩⟩) := ⟨some ⟨W0.heap.size, 0, none⟩, ⟨y0, y1, y2, y3, y4, y5⟩, some ⟨W0.heap.size + 1, 0, none⟩, ⟨z0, z1, z2, z3, z4, z5⟩, rfl, ⟨_, rfl, hA⟩, huu.out _ (belT hb0.out hE), ⟨_, rfl, hB⟩, hvv.out _ (belT hb0.out hE)⟩
  have hr := Lib.hid hr
  have hE := Lib.hid (belT hb0.out hE)
  clear hW2 hA hB
  go_wp2_with fail
  refine (hgv.out _ ⟨6, xn, 0, none, some ⟨W0.heap.size, 0, none⟩, some ⟨W0.heap.size + 1, 0, none⟩⟩ _ hE.out hr.out).mono ?_
  rintro e2 w2 ⟨hf, -, -⟩
  have he2 := hf.1
  subst he2
  have hf := Lib.hid hf
  go_wp2_with fail
  all_goals go_end0
  all_goals exact hf.out
 ·obtain ⟨W2, hW2⟩ : ∃ W, ((W0.alloc (.cells #[.int .i64 z0, .int .i64 z1, .int .i64 z2, .pointer z3, .slice none 0 0, .pointer z4, .pointer z5] 67)).alloc (.cells #[.int .i64 y0, .int .i64 y1, .int .i64 y2, .pointer y3, .slice none 0 0, .pointer y4, .pointer y5] 67)).drew = W := ⟨_, rfl⟩
  rw [hW2]
  obtain ⟨hE, hA, hB⟩ := two_bx (a := ⟨z0, z1, z2, z3, z4, z5⟩) (b := ⟨y0, y1, y2, y3, y4, y5⟩) hW2
  have q0 : w.heap.size + 1 < W2.heap.size := Nat.lt_of_lt_of_le hl2 hE.size
  have n4 : W2.cell? _ = _ := carry hE hl2 n4
  have hr : VR W2 (.op xn u v) (.inl ⟨6, xn, 0, none, some ⟨W0.heap.size + 1, 0, none⟩, some ⟨W0.heap.size, 0, none⟩⟩) := ⟨some ⟨W0.heap.size + 1, 0, none⟩, ⟨y0, y1, y2, y3, y4, y5⟩, some ⟨W0.heap.size, 0, none⟩, ⟨z0, z1, z2, z3, z4, z5⟩, rfl, ⟨_, rfl, hB⟩, huu.out _ (belT hb0.out hE), ⟨_, rfl, hA⟩, hvv.out _ (belT hb0.out hE)⟩
  have hr := Lib.hid hr
  have hE := Lib.hid (belT hb0.out hE)
  clear hW2 hA hB
  go_wp2_with fail
  refine (hgv.out _ ⟨6, xn, 0, none, some ⟨W0.heap.size + 1, 0, none⟩, some ⟨W0.heap.size, 0, none⟩⟩ _ hE.out hr.out).mono ?_
  rintro e2 w2 ⟨hf, -, -⟩
  have he2 := hf.1
  subst he2
  have hf := Lib.hid hf
  go_wp2_with fail
  all_goals go_end0
  all_goals exact hf.out
open Go.RowKit
def overV : Option (Int × Int) → Value
 | some (k, n) => .tuple #[.agg #[.int .i64 k, .int .i64 n], .bool true]
 | none => .tuple #[.agg #[.int .i64 0, .int .i64 0], .bool false]
def OvP (w : World) (o : Option (Int × Int)) (e : Ending) (w' : World) : Prop := e = .returned (overV o) ∧ Below w.heap.size w w'
theorem over_any (w0 : Gh) (B G : Nat) (tv fv : Value) (m : RM) (w : World) (h : Hid (MR w0 B G tv fv m w)) :
  Calls Try.prog 69 #[.pointer (some ⟨G, 0, none⟩)] w (OvP w (rOver m)) := by
 obtain ⟨sv, c, l, -, hc, hv⟩ := h.out
 obtain ⟨sa, sc, hsv⟩ := own_slF hc.own
 have hed := Lib.hid fun (W : World) (hb : Below w.heap.size w W) => ended_any W G tv fv sv c (Lib.hid (hc.mc.below hb))
 have hfr := Lib.hid fun (W : World) (hb : Below w.heap.size w W) => frames_any W G tv fv sa l.length sc c (Lib.hid (by rw [← hsv]; exact hc.mc.below hb))
 have hG := hc.mc.lt
 have c6 := hc.mc.c6
 cases m with
 | en k n =>
  obtain ⟨h1, h2, h3⟩ := hv
  rw [h1, h2, h3] at hed
  rw [show rOver (.en k n) = some (k, n) from rfl]
  clear h hc hfr h1 h2 h3 c6 hsv
  go_enter Try.func69, Try.ntmps69
  go_wp2_with fail
  refine (hed.out _ (by (repeat' (first | (with_reducible first | exact bR _ _ | assumption | apply bS | apply bA | apply bD | apply bN | exact bL _) | (simp; done) | (simp; omega) | omega | exact bL _)))).mono ?_
  rintro e w1 ⟨rfl, hb1⟩
  obtain ⟨hc1, hf1⟩ := bcell hb1
  have hz1_0 : w.heap.size < w1.heap.size := by have := hb1.size; (try simp at this); omega
  have hbw : Below w.heap.size w w1 := belT (by (repeat' (first | (with_reducible first | exact bR _ _ | assumption | apply bS | apply bA | apply bD | apply bN | exact bL _) | (simp; done) | (simp; omega) | omega | exact bL _))) hb1
  have hG1 : G < w1.heap.size := Nat.lt_of_lt_of_le hG hbw.size
  go_wp2_with fail
  exact bodyPost_ret (v := .tuple #[.agg #[.int .i64 k, .int .i64 n], .bool true]) (by simp [results, Try.results69, go_sem, *]) rfl ⟨rfl, by (repeat' (first | (with_reducible first | exact bR _ _ | assumption | apply bS | apply bA | apply bD | apply bN | exact bL _) | (simp; done) | (simp; omega) | omega | exact bL _))⟩
 | ev stk n env =>
  obtain ⟨h1, h2, -⟩ := hv
  rw [h1] at hed
  rw [h2] at c6
  rw [show rOver (.ev stk n env) = none from rfl]
  clear h hc hfr h1 h2 hsv
  go_enter Try.func69, Try.ntmps69
  go_wp2_with fail
  refine (hed.out _ (by (repeat' (first | (with_reducible first | exact bR _ _ | assumption | apply bS | apply bA | apply bD | apply bN | exact bL _) | (simp; done) | (simp; omega) | omega | exact bL _)))).mono ?_
  rintro e w1 ⟨rfl, hb1⟩
  obtain ⟨hc1, hf1⟩ := bcell hb1
  have hz1_0 : w.heap.size < w1.heap.size := by have := hb1.size; (try simp at this); omega
  have hbw : Below w.heap.size w w1 := belT (by (repeat' (first | (with_reducible first | exact bR _ _ | assumption | apply bS | apply bA | apply bD | apply bN | exact bL _) | (simp; done) | (simp; omega) | omega | exact bL _))) hb1
  have hG1 : G < w1.heap.size := Nat.lt_of_lt_of_le hG hbw.size
  have c6 : w1.cell? _ = _ := carry hbw hG c6
  go_wp2_with fail
  exact bodyPost_ret (v := .tuple #[.agg #[.int .i64 0, .int .i64 0], .bool false]) (by simp [results, Try.results69, go_sem, *]) rfl ⟨rfl, by (repeat' (first | (with_reducible first | exact bR _ _ | assumption | apply bS | apply bA | apply bD | apply bN | exact bL _) | (simp; done) | (simp; omega) | omega | exact bL _))⟩
 | gv stk v =>
  obtain ⟨h1, h2, hst, hvl⟩ := hv
  rw [h1] at hed
  rw [h2] at c6
  have hln := hst.len
  have c7 := hc.mc.c7; have c8 := hc.mc.c8; have c9 := hc.mc.c9; have c10 := hc.mc.c10; have c11 := hc.mc.c11
  cases stk with
  | nil =>
   rw [show rOver (.gv [] v) = some (outR v) from rfl]
   rw [hln] at hfr
   have hfr : Hid (∀ W, Below w.heap.size w W → Calls Try.prog 68 #[.pointer (some ⟨G, 0, none⟩)] W fun e w' => e = .returned (.int .i64 0) ∧ Below W.heap.size W w') := hfr
   have hoc := Lib.hid fun (W : World) (hb : Below w.heap.size w W) => outcome_any (Bp G sv) W v c.th (Lib.hid (hvl.below hb))
   unfold Th.val at hoc
   obtain ⟨o1, o2, ho⟩ : ∃ o1 o2, outR v = (o1, o2) := ⟨_, _, rfl⟩
   rw [ho] at hoc ⊢
   dsimp only at hoc
   clear h hc h1 h2 hst hvl hln ho hsv
   go_enter Try.func69, Try.ntmps69
   go_wp2_with fail
   refine (hed.out _ (by (repeat' (first | (with_reducible first | exact bR _ _ | assumption | apply bS | apply bA | apply bD | apply bN | exact bL _) | (simp; done) | (simp; omega) | omega | exact bL _)))).mono ?_
   rintro e w1 ⟨rfl, hb1⟩
   obtain ⟨hc1, hf1⟩ := bcell hb1
   have hz1_0 : w.heap.size < w1.heap.size := by have := hb1.size; (try simp at this); omega
   have hbw : Below w.heap.size w w1 := belT (by (repeat' (first | (with_reducible first | exact bR _ _ | assumption | apply bS | apply bA | apply bD | apply bN | exact bL _) | (simp; done) | (simp; omega) | omega | exact bL _))) hb1
   have hG1 : G < w1.heap.size := Nat.lt_of_lt_of_le hG hbw.size
   have c6 : w1.cell? _ = _ := carry hbw hG c6
   have c7 : w1.cell? _ = _ := carry hbw hG c7
   have c8 : w1.cell? _ = _ := carry hbw hG c8
   have c9 : w1.cell? _ = _ := carry hbw hG c9
   have c10 : w1.cell? _ = _ := carry hbw hG c10
   have c11 : w1.cell? _ = _ := carry hbw hG c11
   have x0 : w1.cell? ⟨w.heap.size, 0, none⟩ = some (.int .i64 0) := carry hb1 (by simp) (by simp [go_sem])
   have x1 : w1.cell? ⟨w.heap.size, 1, none⟩ = some (.int .i64 0) := carry hb1 (by simp) (by simp [go_sem])
   have xf : ∀ o, w1.frozen? ⟨w.heap.size, o, none⟩ = false := fun o => by rw [hb1.frozen (p := ⟨w.heap.size, o, none⟩) (by simp)]; simp [go_sem]
   have xl : w.heap.size < w1.heap.size := Nat.lt_of_lt_of_le (by simp) hb1.size
   clear hc1 hf1
   go_wp2_with fail
   refine (hfr.out _ (by (repeat' (first | (with_reducible first | exact bR _ _ | assumption | apply bS | apply bA | apply bD | apply bN | exact bL _) | (simp; done) | (simp; omega) | omega | exact bL _)))).mono ?_
   rintro e w2 ⟨rfl, hb2⟩
   have hc2 : Below w1.heap.size w1 w2 := belT (by (repeat' (first | (with_reducible first | exact bR _ _ | assumption | apply bS | apply bA | apply bD | apply bN | exact bL _) | (simp; done) | (simp; omega) | omega | exact bL _))) hb2
   have hbw := belT hbw hc2
   have x0 : w2.cell? _ = _ := carry hc2 xl x0
   have x1 : w2.cell? _ = _ := carry hc2 xl x1
   have c7 : w2.cell? _ = _ := carry hc2 hG1 c7
   have c8 : w2.cell? _ = _ := carry hc2 hG1 c8
   have c9 : w2.cell? _ = _ := carry hc2 hG1 c9
   have c10 : w2.cell? _ = _ := carry hc2 hG1 c10
   have c11 : w2.cell? _ = _ := carry hc2 hG1 c11
   have xf0 : w2.frozen? ⟨w.heap.size, 0, none⟩ = false := (hc2.frozen (p := ⟨w.heap.size, 0, none⟩) xl).trans (xf 0)
   have xf1 : w2.frozen? ⟨w.heap.size, 1, none⟩ = false := (hc2.frozen (p := ⟨w.heap.size, 1, none⟩) xl).trans (xf 1)
   have hG1 : G < w2.heap.size := Nat.lt_of_lt_of_le hG1 hc2.size
   have xl2 : w.heap.size < w2.heap.size := Nat.lt_of_lt_of_le xl hc2.size
   clear xf hb1 hb2
   go_wp2_with fail
   refine (hoc.out _ hbw).mono ?_
   rintro e w3 ⟨rfl, hb3⟩
   have hbw := belT hbw hb3
   have x0 : w3.cell? _ = _ := carry hb3 xl2 x0
   have x1 : w3.cell? _ = _ := carry hb3 xl2 x1
   have xf0 : w3.frozen? ⟨w.heap.size, 0, none⟩ = false := (hb3.frozen (p := ⟨w.heap.size, 0, none⟩) xl2).trans xf0
   have xf1 : w3.frozen? ⟨w.heap.size, 1, none⟩ = false := (hb3.frozen (p := ⟨w.heap.size, 1, none⟩) xl2).trans xf1
   have xl3 : w.heap.size < w3.heap.size := Nat.lt_of_lt_of_le xl2 hb3.size
   clear hb3
   go_wp2_with fail
   exact bodyPost_ret (v := .tuple #[.agg #[.int .i64 o1, .int .i64 o2], .bool true]) (by simp [results, Try.results69, go_sem, *]) rfl ⟨rfl, by (repeat' (first | (with_reducible first | exact bR _ _ | assumption | apply bS | apply bA | apply bD | apply bN | exact bL _) | (simp; done) | (simp; omega) | omega | exact bL _))⟩
  | cons f stk =>
   rw [show rOver (.gv (f :: stk) v) = none from rfl]
   rw [hln, List.length_cons] at hfr
   have hpos : (0 : Int) < ((stk.length + 1 : Nat) : Int) := by omega
   clear h hc h1 h2 hst hvl hln hsv c7 c8 c9 c10 c11
   go_enter Try.func69, Try.ntmps69
   go_wp2_with fail
   refine (hed.out _ (by (repeat' (first | (with_reducible first | exact bR _ _ | assumption | apply bS | apply bA | apply bD | apply bN | exact bL _) | (simp; done) | (simp; omega) | omega | exact bL _)))).mono ?_
   rintro e w1 ⟨rfl, hb1⟩
   obtain ⟨hc1, hf1⟩ := bcell hb1
   have hz1_0 : w.heap.size < w1.heap.size := by have := hb1.size; (try simp at this); omega
   have hbw : Below w.heap.size w w1 := belT (by (repeat' (first | (with_reducible first | exact bR _ _ | assumption | apply bS | apply bA | apply bD | apply bN | exact bL _) | (simp; done) | (simp; omega) | omega | exact bL _))) hb1
   have hG1 : G < w1.heap.size := Nat.lt_of_lt_of_le hG hbw.size
   have c6 : w1.cell? _ = _ := carry hbw hG c6
   have x0 : w1.cell? ⟨w.heap.size, 0, none⟩ = some (.int .i64 0) := carry hb1 (by simp) (by simp [go_sem])
   have x1 : w1.cell? ⟨w.heap.size, 1, none⟩ = some (.int .i64 0) := carry hb1 (by simp) (by simp [go_sem])
   have xf : ∀ o, w1.frozen? ⟨w.heap.size, o, none⟩ = false := fun o => by rw [hb1.frozen (p := ⟨w.heap.size, o, none⟩) (by simp)]; simp [go_sem]
   have xl : w.heap.size < w1.heap.size := Nat.lt_of_lt_of_le (by simp) hb1.size
   clear hc1 hf1
   go_wp2_with fail
   refine (hfr.out _ (by (repeat' (first | (with_reducible first | exact bR _ _ | assumption | apply bS | apply bA | apply bD | apply bN | exact bL _) | (simp; done) | (simp; omega) | omega | exact bL _)))).mono ?_
   rintro e w2 ⟨rfl, hb2⟩
   have hc2 : Below w1.heap.size w1 w2 := belT (by (repeat' (first | (with_reducible first | exact bR _ _ | assumption | apply bS | apply bA | apply bD | apply bN | exact bL _) | (simp; done) | (simp; omega) | omega | exact bL _))) hb2
   have hbw := belT hbw hc2
   have x0 : w2.cell? _ = _ := carry hc2 xl x0
   have x1 : w2.cell? _ = _ := carry hc2 xl x1
   have xf0 : w2.frozen? ⟨w.heap.size, 0, none⟩ = false := (hc2.frozen (p := ⟨w.heap.size, 0, none⟩) xl).trans (xf 0)
   have xf1 : w2.frozen? ⟨w.heap.size, 1, none⟩ = false := (hc2.frozen (p := ⟨w.heap.size, 1, none⟩) xl).trans (xf 1)
   have hG1 : G < w2.heap.size := Nat.lt_of_lt_of_le hG1 hc2.size
   have xl2 : w.heap.size < w2.heap.size := Nat.lt_of_lt_of_le xl hc2.size
   clear xf hb1 hb2
   go_wp2_with fail
   exact bodyPost_ret (v := .tuple #[.agg #[.int .i64 0, .int .i64 0], .bool false]) (by simp [results, Try.results69, go_sem, *]) rfl ⟨rfl, by (repeat' (first | (with_reducible first | exact bR _ _ | assumption | apply bS | apply bA | apply bD | apply bN | exact bL _) | (simp; done) | (simp; omega) | omega | exact bL _))⟩
end Go.Proofs.Ytnjalpcmjkahkaa
