/- The machine of layer 21: the value of a node's A. -/
import Derived.Test.YtnjalpcmjkahkaaZt33
set_option maxRecDepth 100000
set_option maxHeartbeats 8000000
namespace Go.Proofs.Ytnjalpcmjkahkaa
open Go.RowKit
set_option linter.unusedVariables false
set_option linter.unusedSimpArgs false
theorem Wk.push {B G : Nat} {tv fv sv : Value} {c : Mc} {l : List Fr} {ts : List Tg} {stk : List RF} {f : RF} {x : Fr} {v : RV} {t : Th} {w : World} (h : Wk B G tv fv sv c l ts stk f x v t w) (hl : stk.length ≤ 5000) (fr : RF) (y : Fr) :
  ∀ W, Below w.heap.size w W → FrR (Bp G sv) W fr y → Calls Try.prog 80 #[.pointer (some ⟨G, 0, none⟩), y.val] W fun e w' => e = .returned (.tuple #[]) ∧ (∃ sv', Wk B G tv fv sv' c (l ++ [y]) ts (fr :: stk) f x v t w') ∧ Bar (Bp G sv) W w' := fun W hb hf => by
 have h1 := h.below hb
 refine (push_any B G tv fv sv l c y W (Lib.hid h1.mr.mc) (Lib.hid h1.mr.own) ⟨h1.mr.gB, h1.mr.bl⟩ (by rw [h1.st.len]; omega) h1.mr.kS).mono ?_
 intro e w1 hp
 obtain ⟨sv2, rfl, h2, hbp, hsv, hstk⟩ := mr_push h1.mr hp
 exact ⟨rfl, ⟨sv2, h2, h1.no, hstk h1.st hf, h1.fr.step hbp h1.mr.enF hsv, h1.vl.step hbp h1.mr.enF hsv, h1.tv.bar h1.mr.own hbp, h1.nd⟩, hbp⟩
theorem rFirst_five {T : Tg} {q : Int} {f : RF} {v : RV} {stk : List RF} (h : T.k = 5) : rFirst T q f v stk = .ev (⟨2, f.node, f.env, v⟩ :: stk) T.b f.env := by unfold rFirst; rw [if_pos h]
theorem rFirst_two {T : Tg} {q : Int} {f : RF} {v : RV} {stk : List RF} (h : T.k = 8 ∨ T.k = 10) : rFirst T q f v stk = .ev (⟨1, f.node, f.env, v⟩ :: stk) T.b f.env := by unfold rFirst; rw [if_neg (by omega), if_pos h]
theorem rFirst_six {T : Tg} {q : Int} {f : RF} {v : RV} {stk : List RF} (h : T.k = 6) : rFirst T q f v stk = .ev stk T.b (.cons v f.env) := by unfold rFirst; rw [if_neg (by omega), if_neg (by omega), if_pos h]
theorem rFirst_seven {T : Tg} {q : Int} {f : RF} {v : RV} {stk : List RF} (h : T.k = 7) : rFirst T q f v stk = rIf T stk f.env v := by unfold rFirst; rw [if_neg (by omega), if_neg (by omega), if_neg (by omega), if_pos h]
theorem rFirst_nine {T : Tg} {q : Int} {f : RF} {v : RV} {stk : List RF} (h : T.k = 9) : rFirst T q f v stk = .gv stk (.ret v) := by unfold rFirst; rw [if_neg (by omega), if_neg (by omega), if_neg (by omega), if_neg (by omega), if_pos h]
theorem rFirst_bind {T : Tg} {q : Int} {f : RF} {v : RV} {stk : List RF} (h : T.k = 11) : rFirst T q f v stk = rBind T stk f.node f.env v := by unfold rFirst; rw [if_neg (by omega), if_neg (by omega), if_neg (by omega), if_neg (by omega), if_neg (by omega), if_pos h]
theorem rFirst_case {T : Tg} {q : Int} {f : RF} {v : RV} {stk : List RF} (h : T.k = 12) : rFirst T q f v stk = rCase T q stk f.env v := by unfold rFirst; rw [if_neg (by omega), if_neg (by omega), if_neg (by omega), if_neg (by omega), if_neg (by omega), if_neg (by omega), if_pos h]
theorem rFirst_no {T : Tg} {q : Int} {f : RF} {v : RV} {stk : List RF} (h : ¬ T.k = 5 ∧ ¬ T.k = 8 ∧ ¬ T.k = 10 ∧ ¬ T.k = 6 ∧ ¬ T.k = 7 ∧ ¬ T.k = 9 ∧ ¬ T.k = 11 ∧ ¬ T.k = 12) : rFirst T q f v stk = .gv stk v := by unfold rFirst; rw [if_neg (by omega), if_neg (by omega), if_neg (by omega), if_neg (by omega), if_neg (by omega), if_neg (by omega), if_neg (by omega)]
theorem first_five (B G : Nat) (tv fv sv : Value) (c : Mc) (l : List Fr) (ts : List Tg) (fur : List Int) (w : World) (stk : List RF) (f : RF) (x : Fr) (v : RV) (t : Th) (h : Hid (Wk B G tv fv sv c l ts stk f x v t w)) (hl : stk.length ≤ 4096) (hk : (ndT ts f.node).k = 5) :
  Calls Try.prog 74 #[.pointer (some ⟨G, 0, none⟩), x.val, t.val] w (NsP c.w0 B G tv fv (rFirst (ndT ts f.node) (fur.getD f.node.toNat 0) f v stk)) := by
 rw [rFirst_five hk]
 obtain ⟨T, off, cp, i, rfl, hTw, hG, c3, hi, hfi, hxi, hT, hfz⟩ := h.out.open
 have hnT : ¬ Bq G T := h.out.mr_T
 obtain ⟨n, hn⟩ : ∃ n, ndT ts f.node = n := ⟨_, rfl⟩
 rw [hn] at hT hk ⊢
 obtain ⟨xst, xnd, xen, ⟨y0, y1, y2, y3, y4⟩⟩ := x
 obtain ⟨xk, xa, xb, xc, xn, xx, xy, xz, xw⟩ := n
 obtain ⟨t0, t1, t2, t3, t4, t5, t6, t7, t8⟩ := hT
 dsimp only at hxi t0 t1 t2 t3 t4 t5 t6 t7 t8
 subst hxi
 obtain ⟨z0, z1, z2, z3, z4⟩ := t
 dsimp only at hk ⊢
 subst hk
 unfold Fr.val Th.val
 dsimp only
 go_enter Try.func74, Try.ntmps74
 go_wp2_with fail
 obtain ⟨W0, hW0⟩ : ∃ W, (w.alloc (.cells #[.int .i64 xst, .int .i64 i, .pointer xen, .int .i64 y0, .int .i64 y1, .pointer y2, .pointer y3, .pointer y4] 129)).alloc (.cells #[.int .i64 z0, .int .i64 z1, .pointer z2, .pointer z3, .pointer z4] 56) = W := ⟨_, rfl⟩
 rw [hW0]
 obtain ⟨hb0, hs0, ⟨f0, f1, f2, f3, f4, f5, f6, f7⟩, ⟨v0, v1, v2, v3, v4⟩⟩ := bx_fv hW0
 have c3 : W0.cell? _ = _ := carry hb0 hG c3
 have t0 : W0.cell? _ = _ := carry hb0 hTw t0
 have t1 : W0.cell? _ = _ := carry hb0 hTw t1
 have t2 : W0.cell? _ = _ := carry hb0 hTw t2
 have t3 : W0.cell? _ = _ := carry hb0 hTw t3
 have t4 : W0.cell? _ = _ := carry hb0 hTw t4
 have t5 : W0.cell? _ = _ := carry hb0 hTw t5
 have t6 : W0.cell? _ = _ := carry hb0 hTw t6
 have t7 : W0.cell? _ = _ := carry hb0 hTw t7
 have t8 : W0.cell? _ = _ := carry hb0 hTw t8
 have hG0 : G < W0.heap.size := Nat.lt_of_lt_of_le hG hb0.size
 have hT0 : T < W0.heap.size := Nat.lt_of_lt_of_le hTw hb0.size
 have hl0 : w.heap.size < W0.heap.size := by omega
 have hl1 : w.heap.size + 1 < W0.heap.size := by omega
 have hb0 := Lib.hid hb0
 clear hW0 hs0
 go_region
 go_wp2_with fail
 obtain ⟨W3, hW3, hb3⟩ : ∃ W, W = (W0.alloc (.cells #[.int .i64 5, .int .i64 xa, .int .i64 xb, .int .i64 xc, .int .i64 xn, .int .i64 xx, .int .i64 xy, .int .i64 xz, .int .i64 xw] 37)).drew ∧ Below W0.heap.size W0 W := ⟨_, rfl, by (repeat' (first | (with_reducible first | exact bR _ _ | assumption | apply bS | apply bA | apply bD | apply bN | exact bL _) | (simp; done) | (simp; omega) | omega | exact bL _))⟩
 rw [← hW3]
 have hB := belT hb0.out hb3
 have n2 : W3.cell? ⟨W0.heap.size, 2, none⟩ = some (.int .i64 xb) := by rw [hW3]; simp [go_sem]
 have hl3 : W0.heap.size < W3.heap.size := by rw [hW3]; simp
 have f2 : W3.cell? _ = _ := carry hb3 hl0 f2
 have hl03 : w.heap.size < W3.heap.size := Nat.lt_of_lt_of_le hl0 hb3.size
 have h3 := h.out.below hB
 have hnf : ¬ Bp G sv w.heap.size := h.out.mr.new
 have hnn : ¬ Bp G sv W0.heap.size := (h.out.below hb0.out).mr.new
 clear hW3 hb3 c3 t0 t1 t2 t3 t4 t5 t6 t7 t8 f0 f1 f3 f4 f5 f6 f7 v0 v1 v2 v3 v4
 refine (h3.push (by omega) ⟨2, f.node, f.env, v⟩ ⟨2, i, xen, ⟨z0, z1, z2, z3, z4⟩⟩ W3 (Below.refl _ _) ⟨rfl, hfi.symm, h3.fr.2.2.1, h3.vl⟩).mono ?_
 rintro e1 w1 ⟨rfl, ⟨sv2, h4⟩, hb4⟩
 have n2 : w1.cell? _ = _ := hb4.cell n2 hnn
 have f2 : w1.cell? _ = _ := hb4.cell f2 hnf
 have hG1 : G < w1.heap.size := h4.mr.mc.lt
 have hl1 : w.heap.size < w1.heap.size := Nat.lt_of_lt_of_le hl03 hb4.size
 have hl2 : W0.heap.size < w1.heap.size := Nat.lt_of_lt_of_le hl3 hb4.size
 have hen := Lib.hid (h4.enter (env := f.env) (p := xen) xb w1 (Below.refl _ _) h4.fr.2.2.1)
 clear h3 hb4 h4
 go_wp2_with fail
 refine hen.out.mono ?_
 rintro e2 w2 ⟨rfl, hf, _, _⟩
 go_wp2_with fail
 all_goals go_end0
 all_goals exact ⟨rfl, hf⟩
theorem first_eight (B G : Nat) (tv fv sv : Value) (c : Mc) (l : List Fr) (ts : List Tg) (fur : List Int) (w : World) (stk : List RF) (f : RF) (x : Fr) (v : RV) (t : Th) (h : Hid (Wk B G tv fv sv c l ts stk f x v t w)) (hl : stk.length ≤ 4096) (hk : (ndT ts f.node).k = 8) :
  Calls Try.prog 74 #[.pointer (some ⟨G, 0, none⟩), x.val, t.val] w (NsP c.w0 B G tv fv (rFirst (ndT ts f.node) (fur.getD f.node.toNat 0) f v stk)) := by
 rw [rFirst_two (.inl hk)]
 obtain ⟨T, off, cp, i, rfl, hTw, hG, c3, hi, hfi, hxi, hT, hfz⟩ := h.out.open
 have hnT : ¬ Bq G T := h.out.mr_T
 obtain ⟨n, hn⟩ : ∃ n, ndT ts f.node = n := ⟨_, rfl⟩
 rw [hn] at hT hk ⊢
 obtain ⟨xst, xnd, xen, ⟨y0, y1, y2, y3, y4⟩⟩ := x
 obtain ⟨xk, xa, xb, xc, xn, xx, xy, xz, xw⟩ := n
 obtain ⟨t0, t1, t2, t3, t4, t5, t6, t7, t8⟩ := hT
 dsimp only at hxi t0 t1 t2 t3 t4 t5 t6 t7 t8
 subst hxi
 obtain ⟨z0, z1, z2, z3, z4⟩ := t
 dsimp only at hk ⊢
 subst hk
 unfold Fr.val Th.val
 dsimp only
 go_enter Try.func74, Try.ntmps74
 go_wp2_with fail
 obtain ⟨W0, hW0⟩ : ∃ W, (w.alloc (.cells #[.int .i64 xst, .int .i64 i, .pointer xen, .int .i64 y0, .int .i64 y1, .pointer y2, .pointer y3, .pointer y4] 129)).alloc (.cells #[.int .i64 z0, .int .i64 z1, .pointer z2, .pointer z3, .pointer z4] 56) = W := ⟨_, rfl⟩
 rw [hW0]
 obtain ⟨hb0, hs0, ⟨f0, f1, f2, f3, f4, f5, f6, f7⟩, ⟨v0, v1, v2, v3, v4⟩⟩ := bx_fv hW0
 have c3 : W0.cell? _ = _ := carry hb0 hG c3
 have t0 : W0.cell? _ = _ := carry hb0 hTw t0
 have t1 : W0.cell? _ = _ := carry hb0 hTw t1
 have t2 : W0.cell? _ = _ := carry hb0 hTw t2
 have t3 : W0.cell? _ = _ := carry hb0 hTw t3
 have t4 : W0.cell? _ = _ := carry hb0 hTw t4
 have t5 : W0.cell? _ = _ := carry hb0 hTw t5
 have t6 : W0.cell? _ = _ := carry hb0 hTw t6
 have t7 : W0.cell? _ = _ := carry hb0 hTw t7
 have t8 : W0.cell? _ = _ := carry hb0 hTw t8
 have hG0 : G < W0.heap.size := Nat.lt_of_lt_of_le hG hb0.size
 have hT0 : T < W0.heap.size := Nat.lt_of_lt_of_le hTw hb0.size
 have hl0 : w.heap.size < W0.heap.size := by omega
 have hl1 : w.heap.size + 1 < W0.heap.size := by omega
 have hb0 := Lib.hid hb0
 clear hW0 hs0
 go_region
 go_wp2_with fail
 obtain ⟨W3, hW3, hb3⟩ : ∃ W, W = (W0.alloc (.cells #[.int .i64 8, .int .i64 xa, .int .i64 xb, .int .i64 xc, .int .i64 xn, .int .i64 xx, .int .i64 xy, .int .i64 xz, .int .i64 xw] 37)).drew ∧ Below W0.heap.size W0 W := ⟨_, rfl, by (repeat' (first | (with_reducible first | exact bR _ _ | assumption | apply bS | apply bA | apply bD | apply bN | exact bL _) | (simp; done) | (simp; omega) | omega | exact bL _))⟩
 rw [← hW3]
 have hB := belT hb0.out hb3
 have n2 : W3.cell? ⟨W0.heap.size, 2, none⟩ = some (.int .i64 xb) := by rw [hW3]; simp [go_sem]
 have hl3 : W0.heap.size < W3.heap.size := by rw [hW3]; simp
 have f2 : W3.cell? _ = _ := carry hb3 hl0 f2
 have hl03 : w.heap.size < W3.heap.size := Nat.lt_of_lt_of_le hl0 hb3.size
 have h3 := h.out.below hB
 have hnf : ¬ Bp G sv w.heap.size := h.out.mr.new
 have hnn : ¬ Bp G sv W0.heap.size := (h.out.below hb0.out).mr.new
 clear hW3 hb3 c3 t0 t1 t2 t3 t4 t5 t6 t7 t8 f0 f1 f3 f4 f5 f6 f7 v0 v1 v2 v3 v4
 refine (h3.push (by omega) ⟨1, f.node, f.env, v⟩ ⟨1, i, xen, ⟨z0, z1, z2, z3, z4⟩⟩ W3 (Below.refl _ _) ⟨rfl, hfi.symm, h3.fr.2.2.1, h3.vl⟩).mono ?_
 rintro e1 w1 ⟨rfl, ⟨sv2, h4⟩, hb4⟩
 have n2 : w1.cell? _ = _ := hb4.cell n2 hnn
 have f2 : w1.cell? _ = _ := hb4.cell f2 hnf
 have hG1 : G < w1.heap.size := h4.mr.mc.lt
 have hl1 : w.heap.size < w1.heap.size := Nat.lt_of_lt_of_le hl03 hb4.size
 have hl2 : W0.heap.size < w1.heap.size := Nat.lt_of_lt_of_le hl3 hb4.size
 have hen := Lib.hid (h4.enter (env := f.env) (p := xen) xb w1 (Below.refl _ _) h4.fr.2.2.1)
 clear h3 hb4 h4
 go_wp2_with fail
 refine hen.out.mono ?_
 rintro e2 w2 ⟨rfl, hf, _, _⟩
 go_wp2_with fail
 all_goals go_end0
 all_goals exact ⟨rfl, hf⟩
theorem first_ten (B G : Nat) (tv fv sv : Value) (c : Mc) (l : List Fr) (ts : List Tg) (fur : List Int) (w : World) (stk : List RF) (f : RF) (x : Fr) (v : RV) (t : Th) (h : Hid (Wk B G tv fv sv c l ts stk f x v t w)) (hl : stk.length ≤ 4096) (hk : (ndT ts f.node).k = 10) :
  Calls Try.prog 74 #[.pointer (some ⟨G, 0, none⟩), x.val, t.val] w (NsP c.w0 B G tv fv (rFirst (ndT ts f.node) (fur.getD f.node.toNat 0) f v stk)) := by
 rw [rFirst_two (.inr hk)]
 obtain ⟨T, off, cp, i, rfl, hTw, hG, c3, hi, hfi, hxi, hT, hfz⟩ := h.out.open
 have hnT : ¬ Bq G T := h.out.mr_T
 obtain ⟨n, hn⟩ : ∃ n, ndT ts f.node = n := ⟨_, rfl⟩
 rw [hn] at hT hk ⊢
 obtain ⟨xst, xnd, xen, ⟨y0, y1, y2, y3, y4⟩⟩ := x
 obtain ⟨xk, xa, xb, xc, xn, xx, xy, xz, xw⟩ := n
 obtain ⟨t0, t1, t2, t3, t4, t5, t6, t7, t8⟩ := hT
 dsimp only at hxi t0 t1 t2 t3 t4 t5 t6 t7 t8
 subst hxi
 obtain ⟨z0, z1, z2, z3, z4⟩ := t
 dsimp only at hk ⊢
 subst hk
 unfold Fr.val Th.val
 dsimp only
 go_enter Try.func74, Try.ntmps74
 go_wp2_with fail
 obtain ⟨W0, hW0⟩ : ∃ W, (w.alloc (.cells #[.int .i64 xst, .int .i64 i, .pointer xen, .int .i64 y0, .int .i64 y1, .pointer y2, .pointer y3, .pointer y4] 129)).alloc (.cells #[.int .i64 z0, .int .i64 z1, .pointer z2, .pointer z3, .pointer z4] 56) = W := ⟨_, rfl⟩
 rw [hW0]
 obtain ⟨hb0, hs0, ⟨f0, f1, f2, f3, f4, f5, f6, f7⟩, ⟨v0, v1, v2, v3, v4⟩⟩ := bx_fv hW0
 have c3 : W0.cell? _ = _ := carry hb0 hG c3
 have t0 : W0.cell? _ = _ := carry hb0 hTw t0
 have t1 : W0.cell? _ = _ := carry hb0 hTw t1
 have t2 : W0.cell? _ = _ := carry hb0 hTw t2
 have t3 : W0.cell? _ = _ := carry hb0 hTw t3
 have t4 : W0.cell? _ = _ := carry hb0 hTw t4
 have t5 : W0.cell? _ = _ := carry hb0 hTw t5
 have t6 : W0.cell? _ = _ := carry hb0 hTw t6
 have t7 : W0.cell? _ = _ := carry hb0 hTw t7
 have t8 : W0.cell? _ = _ := carry hb0 hTw t8
 have hG0 : G < W0.heap.size := Nat.lt_of_lt_of_le hG hb0.size
 have hT0 : T < W0.heap.size := Nat.lt_of_lt_of_le hTw hb0.size
 have hl0 : w.heap.size < W0.heap.size := by omega
 have hl1 : w.heap.size + 1 < W0.heap.size := by omega
 have hb0 := Lib.hid hb0
 clear hW0 hs0
 go_region
 go_wp2_with fail
 obtain ⟨W3, hW3, hb3⟩ : ∃ W, W = (W0.alloc (.cells #[.int .i64 10, .int .i64 xa, .int .i64 xb, .int .i64 xc, .int .i64 xn, .int .i64 xx, .int .i64 xy, .int .i64 xz, .int .i64 xw] 37)).drew ∧ Below W0.heap.size W0 W := ⟨_, rfl, by (repeat' (first | (with_reducible first | exact bR _ _ | assumption | apply bS | apply bA | apply bD | apply bN | exact bL _) | (simp; done) | (simp; omega) | omega | exact bL _))⟩
 rw [← hW3]
 have hB := belT hb0.out hb3
 have n2 : W3.cell? ⟨W0.heap.size, 2, none⟩ = some (.int .i64 xb) := by rw [hW3]; simp [go_sem]
 have hl3 : W0.heap.size < W3.heap.size := by rw [hW3]; simp
 have f2 : W3.cell? _ = _ := carry hb3 hl0 f2
 have hl03 : w.heap.size < W3.heap.size := Nat.lt_of_lt_of_le hl0 hb3.size
 have h3 := h.out.below hB
 have hnf : ¬ Bp G sv w.heap.size := h.out.mr.new
 have hnn : ¬ Bp G sv W0.heap.size := (h.out.below hb0.out).mr.new
 clear hW3 hb3 c3 t0 t1 t2 t3 t4 t5 t6 t7 t8 f0 f1 f3 f4 f5 f6 f7 v0 v1 v2 v3 v4
 refine (h3.push (by omega) ⟨1, f.node, f.env, v⟩ ⟨1, i, xen, ⟨z0, z1, z2, z3, z4⟩⟩ W3 (Below.refl _ _) ⟨rfl, hfi.symm, h3.fr.2.2.1, h3.vl⟩).mono ?_
 rintro e1 w1 ⟨rfl, ⟨sv2, h4⟩, hb4⟩
 have n2 : w1.cell? _ = _ := hb4.cell n2 hnn
 have f2 : w1.cell? _ = _ := hb4.cell f2 hnf
 have hG1 : G < w1.heap.size := h4.mr.mc.lt
 have hl1 : w.heap.size < w1.heap.size := Nat.lt_of_lt_of_le hl03 hb4.size
 have hl2 : W0.heap.size < w1.heap.size := Nat.lt_of_lt_of_le hl3 hb4.size
 have hen := Lib.hid (h4.enter (env := f.env) (p := xen) xb w1 (Below.refl _ _) h4.fr.2.2.1)
 clear h3 hb4 h4
 go_wp2_with fail
 refine hen.out.mono ?_
 rintro e2 w2 ⟨rfl, hf, _, _⟩
 go_wp2_with fail
 all_goals go_end0
 all_goals exact ⟨rfl, hf⟩
theorem first_six (B G : Nat) (tv fv sv : Value) (c : Mc) (l : List Fr) (ts : List Tg) (fur : List Int) (w : World) (stk : List RF) (f : RF) (x : Fr) (v : RV) (t : Th) (h : Hid (Wk B G tv fv sv c l ts stk f x v t w)) (hel : f.env.list.length ≤ 900000000) (hk : (ndT ts f.node).k = 6) :
  Calls Try.prog 74 #[.pointer (some ⟨G, 0, none⟩), x.val, t.val] w (NsP c.w0 B G tv fv (rFirst (ndT ts f.node) (fur.getD f.node.toNat 0) f v stk)) := by
 rw [rFirst_six hk]
 have hen := Lib.hid fun env p n W hb he => h.out.enter (env := env) (p := p) n W hb he
 have hwi := Lib.hid fun env u p tu hl W hb he hu => h.out.withv (env := env) (u := u) (p := p) (tu := tu) hl W hb he hu
 have henv := Lib.hid fun W hb => (h.out.below (w' := W) hb).fr.2.2.1
 have hvl := Lib.hid fun W hb => (h.out.below (w' := W) hb).vl
 obtain ⟨T, off, cp, i, rfl, hTw, hG, c3, hi, hfi, hxi, hT, hfz⟩ := h.out.open
 have hnT : ¬ Bq G T := h.out.mr_T
 obtain ⟨n, hn⟩ : ∃ n, ndT ts f.node = n := ⟨_, rfl⟩
 rw [hn] at hT hk ⊢
 obtain ⟨xst, xnd, xen, ⟨y0, y1, y2, y3, y4⟩⟩ := x
 obtain ⟨xk, xa, xb, xc, xn, xx, xy, xz, xw⟩ := n
 obtain ⟨t0, t1, t2, t3, t4, t5, t6, t7, t8⟩ := hT
 dsimp only at hxi t0 t1 t2 t3 t4 t5 t6 t7 t8
 subst hxi
 obtain ⟨z0, z1, z2, z3, z4⟩ := t
 dsimp only at hk henv ⊢
 subst hk
 unfold Fr.val Th.val
 dsimp only
 clear h
 go_enter Try.func74, Try.ntmps74
 go_wp2_with fail
 obtain ⟨W0, hW0⟩ : ∃ W, (w.alloc (.cells #[.int .i64 xst, .int .i64 i, .pointer xen, .int .i64 y0, .int .i64 y1, .pointer y2, .pointer y3, .pointer y4] 129)).alloc (.cells #[.int .i64 z0, .int .i64 z1, .pointer z2, .pointer z3, .pointer z4] 56) = W := ⟨_, rfl⟩
 rw [hW0]
 obtain ⟨hb0, hs0, ⟨f0, f1, f2, f3, f4, f5, f6, f7⟩, ⟨v0, v1, v2, v3, v4⟩⟩ := bx_fv hW0
 have c3 : W0.cell? _ = _ := carry hb0 hG c3
 have t0 : W0.cell? _ = _ := carry hb0 hTw t0
 have t1 : W0.cell? _ = _ := carry hb0 hTw t1
 have t2 : W0.cell? _ = _ := carry hb0 hTw t2
 have t3 : W0.cell? _ = _ := carry hb0 hTw t3
 have t4 : W0.cell? _ = _ := carry hb0 hTw t4
 have t5 : W0.cell? _ = _ := carry hb0 hTw t5
 have t6 : W0.cell? _ = _ := carry hb0 hTw t6
 have t7 : W0.cell? _ = _ := carry hb0 hTw t7
 have t8 : W0.cell? _ = _ := carry hb0 hTw t8
 have hG0 : G < W0.heap.size := Nat.lt_of_lt_of_le hG hb0.size
 have hT0 : T < W0.heap.size := Nat.lt_of_lt_of_le hTw hb0.size
 have hl0 : w.heap.size < W0.heap.size := by omega
 have hl1 : w.heap.size + 1 < W0.heap.size := by omega
 have hb0 := Lib.hid hb0
 clear hW0 hs0
 have hnf : ¬ Bq G w.heap.size := fun e => by have e : w.heap.size = G := e; omega
 have hnv : ¬ Bq G (w.heap.size + 1) := fun e => by have e : w.heap.size + 1 = G := e; omega
 have hi0 : (0 : Int) ≤ (i : Int) := by omega
 have hi1 : (i : Int) < (ts.length : Int) := by omega
 go_region
 go_wp2_with fail
 obtain ⟨W3, hW3, hb3⟩ : ∃ W, W = (W0.alloc (.cells #[.int .i64 6, .int .i64 xa, .int .i64 xb, .int .i64 xc, .int .i64 xn, .int .i64 xx, .int .i64 xy, .int .i64 xz, .int .i64 xw] 37)).drew ∧ Below W0.heap.size W0 W := ⟨_, rfl, by (repeat' (first | (with_reducible first | exact bR _ _ | assumption | apply bS | apply bA | apply bD | apply bN | exact bL _) | (simp; done) | (simp; omega) | omega | exact bL _))⟩
 rw [← hW3]
 have n2 : W3.cell? ⟨W0.heap.size, 2, none⟩ = some (.int .i64 xb) := by rw [hW3]; simp [go_sem]
 have n3 : W3.cell? ⟨W0.heap.size, 3, none⟩ = some (.int .i64 xc) := by rw [hW3]; simp [go_sem]
 have hl3 : W0.heap.size < W3.heap.size := by rw [hW3]; simp
 have hn3 : ¬ Bq G W0.heap.size := fun e => by have e : W0.heap.size = G := e; omega
 clear hW3
 have c3 : W3.cell? _ = _ := carry hb3 hG0 c3
 have f2 : W3.cell? _ = _ := carry hb3 hl0 f2
 have v0 : W3.cell? _ = _ := carry hb3 hl1 v0
 have v1 : W3.cell? _ = _ := carry hb3 hl1 v1
 have v2 : W3.cell? _ = _ := carry hb3 hl1 v2
 have v3 : W3.cell? _ = _ := carry hb3 hl1 v3
 have v4 : W3.cell? _ = _ := carry hb3 hl1 v4
 have hG3 : G < W3.heap.size := Nat.lt_of_lt_of_le hG0 hb3.size
 have hf3 : w.heap.size < W3.heap.size := Nat.lt_of_lt_of_le hl0 hb3.size
 have hv3 : w.heap.size + 1 < W3.heap.size := Nat.lt_of_lt_of_le hl1 hb3.size
 have hb30 := Lib.hid (belT hb0.out hb3)
 clear hb3 hb0 t0 t1 t2 t3 t4 t5 t6 t7 t8 hG0 hl0 hl1 hT0
 refine wp_region_held_drew (S := fun W => Bar (Bq G) W3 W ∧ W.cell? ⟨G, 3, none⟩ = some (.slice (some ⟨T, off, none⟩) ts.length cp)) (by kernel_rfl) (⟨Bar.of_below ((Below.refl _ _).drew), carry ((Below.refl _ _).drew) hG3 c3⟩) (fun hHeld => ?_)
 refine rg_take 0 (some 48) (v := ?v1) rfl rfl (by kernel_rfl) (by kernel_rfl) (by kernel_rfl) (fun _ _ _ h => h) (by rfl) ?hy1 (by assumption) ?_
 case hy1 => intro W hSW; (try dsimp only at hSW); have z0 := hSW.2; have q0 := Nat.lt_of_lt_of_le hG3 hSW.1.size; have q1 := Nat.lt_of_lt_of_le hf3 hSW.1.size; have q2 := Nat.lt_of_lt_of_le hv3 hSW.1.size; have q3 := Nat.lt_of_lt_of_le hl3 hSW.1.size; have z2 := hSW.1.cell f2 hnf; have z3 := hSW.1.cell n2 hn3; have z4 := hSW.1.cell v0 hnv; have z5 := hSW.1.cell v1 hnv; have z6 := hSW.1.cell v2 hnv; have z7 := hSW.1.cell v3 hnv; have z8 := hSW.1.cell v4 hnv; go_simp; (try with_reducible rfl)
 try simp only [Act.put, bP, bQ, bT]
 refine rg_take 1 (some 49) (v := ?v2) rfl rfl (by kernel_rfl) (by kernel_rfl) (by kernel_rfl) (fun _ _ _ h => h) (by rfl) ?hy2 (by assumption) ?_
 case hy2 => intro W hSW; (try dsimp only at hSW); have z0 := hSW.2; have q0 := Nat.lt_of_lt_of_le hG3 hSW.1.size; have q1 := Nat.lt_of_lt_of_le hf3 hSW.1.size; have q2 := Nat.lt_of_lt_of_le hv3 hSW.1.size; have q3 := Nat.lt_of_lt_of_le hl3 hSW.1.size; have z2 := hSW.1.cell f2 hnf; have z3 := hSW.1.cell n2 hn3; have z4 := hSW.1.cell v0 hnv; have z5 := hSW.1.cell v1 hnv; have z6 := hSW.1.cell v2 hnv; have z7 := hSW.1.cell v3 hnv; have z8 := hSW.1.cell v4 hnv; go_simp; (try with_reducible rfl)
 try simp only [Act.put, bP, bQ, bT]
 refine rg_take 2 (some 50) (v := ?v3) rfl rfl (by kernel_rfl) (by kernel_rfl) (by kernel_rfl) (fun _ _ _ h => h) (by rfl) ?hy3 (by assumption) ?_
 case hy3 => intro W hSW; (try dsimp only at hSW); have z0 := hSW.2; have q0 := Nat.lt_of_lt_of_le hG3 hSW.1.size; have q1 := Nat.lt_of_lt_of_le hf3 hSW.1.size; have q2 := Nat.lt_of_lt_of_le hv3 hSW.1.size; have q3 := Nat.lt_of_lt_of_le hl3 hSW.1.size; have z2 := hSW.1.cell f2 hnf; have z3 := hSW.1.cell n2 hn3; have z4 := hSW.1.cell v0 hnv; have z5 := hSW.1.cell v1 hnv; have z6 := hSW.1.cell v2 hnv; have z7 := hSW.1.cell v3 hnv; have z8 := hSW.1.cell v4 hnv; go_simp; (try with_reducible rfl)
 try simp only [Act.put, bP, bQ, bT]
 refine rg_take 3 (some 51) (v := ?v4) rfl rfl (by kernel_rfl) (by kernel_rfl) (by kernel_rfl) (fun _ _ _ h => h) (by rfl) ?hy4 (by assumption) ?_
 case hy4 => intro W hSW; (try dsimp only at hSW); have z0 := hSW.2; have q0 := Nat.lt_of_lt_of_le hG3 hSW.1.size; have q1 := Nat.lt_of_lt_of_le hf3 hSW.1.size; have q2 := Nat.lt_of_lt_of_le hv3 hSW.1.size; have q3 := Nat.lt_of_lt_of_le hl3 hSW.1.size; have z2 := hSW.1.cell f2 hnf; have z3 := hSW.1.cell n2 hn3; have z4 := hSW.1.cell v0 hnv; have z5 := hSW.1.cell v1 hnv; have z6 := hSW.1.cell v2 hnv; have z7 := hSW.1.cell v3 hnv; have z8 := hSW.1.cell v4 hnv; go_simp; (try with_reducible rfl)
 try simp only [Act.put, bP, bQ, bT]
 refine rg_take 4 (some 52) (v := ?v5) rfl rfl (by kernel_rfl) (by kernel_rfl) (by kernel_rfl) (fun _ _ _ h => h) (by rfl) ?hy5 (by assumption) ?_
 case hy5 => intro W hSW; (try dsimp only at hSW); have z0 := hSW.2; have q0 := Nat.lt_of_lt_of_le hG3 hSW.1.size; have q1 := Nat.lt_of_lt_of_le hf3 hSW.1.size; have q2 := Nat.lt_of_lt_of_le hv3 hSW.1.size; have q3 := Nat.lt_of_lt_of_le hl3 hSW.1.size; have z2 := hSW.1.cell f2 hnf; have z3 := hSW.1.cell n2 hn3; have z4 := hSW.1.cell v0 hnv; have z5 := hSW.1.cell v1 hnv; have z6 := hSW.1.cell v2 hnv; have z7 := hSW.1.cell v3 hnv; have z8 := hSW.1.cell v4 hnv; go_simp; (try with_reducible rfl)
 try simp only [Act.put, bP, bQ, bT]
 refine rg_take 5 (some 53) (v := ?v6) rfl rfl (by kernel_rfl) (by kernel_rfl) (by kernel_rfl) (fun _ _ _ h => h) (by rfl) ?hy6 (by assumption) ?_
 case hy6 => intro W hSW; (try dsimp only at hSW); have z0 := hSW.2; have q0 := Nat.lt_of_lt_of_le hG3 hSW.1.size; have q1 := Nat.lt_of_lt_of_le hf3 hSW.1.size; have q2 := Nat.lt_of_lt_of_le hv3 hSW.1.size; have q3 := Nat.lt_of_lt_of_le hl3 hSW.1.size; have z2 := hSW.1.cell f2 hnf; have z3 := hSW.1.cell n2 hn3; have z4 := hSW.1.cell v0 hnv; have z5 := hSW.1.cell v1 hnv; have z6 := hSW.1.cell v2 hnv; have z7 := hSW.1.cell v3 hnv; have z8 := hSW.1.cell v4 hnv; go_simp; (try with_reducible rfl)
 try simp only [Act.put, bP, bQ, bT]
 refine rg_one 6 rfl (by kernel_rfl) (by rfl) (fun K hK => ?_)
 go_simp
 refine (hwi.out f.env v xen ⟨z0, z1, z2, z3, z4⟩ (by omega) _ (belT hb30.out ((Below.refl _ _).drew)) (henv.out _ (belT hb30.out ((Below.refl _ _).drew))) (hvl.out _ (belT hb30.out ((Below.refl _ _).drew)))).mono ?_
 rintro e9 w9 ⟨p9, rfl, he9, hb9⟩
 have hc9 : Below W3.heap.size W3 w9 := belT ((Below.refl _ _).drew) hb9
 refine hK.out _ _ ⟨Bar.of_below hc9, carry hc9 hG3 c3⟩ (fun hH9 => ?_)
 clear hK K
 try simp only [Act.put, bP, bQ, bT]
 refine rg_one 7 rfl (by kernel_rfl) (by rfl) (fun K hK => ?_)
 go_simp
 refine (hen.out _ p9 xb w9 (belT hb30.out hc9) he9).mono ?_
 rintro e8 w8 ⟨rfl, hf, hb8, c38⟩
 refine hK.out _ _ ⟨(Bar.of_below hc9).trans hb8 fun _ _ h => h, c38⟩ (fun hH8 => ?_)
 clear hK K
 try simp only [Act.put, bP, bQ, bT]
 refine wpAnyH_done (by kernel_rfl) ?_ _
 go_wp2_with fail
 all_goals go_end0
 all_goals exact ⟨rfl, hf⟩
theorem first_seven (B G : Nat) (tv fv sv : Value) (c : Mc) (l : List Fr) (ts : List Tg) (fur : List Int) (w : World) (stk : List RF) (f : RF) (x : Fr) (v : RV) (t : Th) (h : Hid (Wk B G tv fv sv c l ts stk f x v t w)) (hk : (ndT ts f.node).k = 7) :
  Calls Try.prog 74 #[.pointer (some ⟨G, 0, none⟩), x.val, t.val] w (NsP c.w0 B G tv fv (rFirst (ndT ts f.node) (fur.getD f.node.toNat 0) f v stk)) := by
 rw [rFirst_seven hk]
 have hkk := Lib.hid hk
 obtain ⟨R, hR⟩ : ∃ R, rIf (ndT ts f.node) stk f.env v = R := ⟨_, rfl⟩
 rw [hR]
 have hRh := Lib.hid hR
 clear hR
 obtain ⟨T, off, cp, i, rfl, hTw, hG, c3, hi, hfi, hxi, hT, hfz⟩ := h.out.open
 have hnT : ¬ Bq G T := h.out.mr_T
 obtain ⟨n, hn⟩ : ∃ n, ndT ts f.node = n := ⟨_, rfl⟩
 rw [hn] at hT hk
 obtain ⟨xst, xnd, xen, ⟨y0, y1, y2, y3, y4⟩⟩ := x
 obtain ⟨xk, xa, xb, xc, xn, xx, xy, xz, xw⟩ := n
 obtain ⟨t0, t1, t2, t3, t4, t5, t6, t7, t8⟩ := hT
 dsimp only at hxi t0 t1 t2 t3 t4 t5 t6 t7 t8
 subst hxi
 obtain ⟨z0, z1, z2, z3, z4⟩ := t
 dsimp only at hk ⊢
 subst hk
 unfold Fr.val Th.val
 dsimp only
 go_enter Try.func74, Try.ntmps74
 go_wp2_with fail
 obtain ⟨W0, hW0⟩ : ∃ W, (w.alloc (.cells #[.int .i64 xst, .int .i64 i, .pointer xen, .int .i64 y0, .int .i64 y1, .pointer y2, .pointer y3, .pointer y4] 129)).alloc (.cells #[.int .i64 z0, .int .i64 z1, .pointer z2, .pointer z3, .pointer z4] 56) = W := ⟨_, rfl⟩
 rw [hW0]
 obtain ⟨hb0, hs0, ⟨f0, f1, f2, f3, f4, f5, f6, f7⟩, ⟨v0, v1, v2, v3, v4⟩⟩ := bx_fv hW0
 have c3 : W0.cell? _ = _ := carry hb0 hG c3
 have t0 : W0.cell? _ = _ := carry hb0 hTw t0
 have t1 : W0.cell? _ = _ := carry hb0 hTw t1
 have t2 : W0.cell? _ = _ := carry hb0 hTw t2
 have t3 : W0.cell? _ = _ := carry hb0 hTw t3
 have t4 : W0.cell? _ = _ := carry hb0 hTw t4
 have t5 : W0.cell? _ = _ := carry hb0 hTw t5
 have t6 : W0.cell? _ = _ := carry hb0 hTw t6
 have t7 : W0.cell? _ = _ := carry hb0 hTw t7
 have t8 : W0.cell? _ = _ := carry hb0 hTw t8
 have hG0 : G < W0.heap.size := Nat.lt_of_lt_of_le hG hb0.size
 have hT0 : T < W0.heap.size := Nat.lt_of_lt_of_le hTw hb0.size
 have hl0 : w.heap.size < W0.heap.size := by omega
 have hl1 : w.heap.size + 1 < W0.heap.size := by omega
 have hb0 := Lib.hid hb0
 clear hW0 hs0
 go_region
 go_wp2_with fail
 obtain ⟨W3, hW3, hb3⟩ : ∃ W, W = (W0.alloc (.cells #[.int .i64 7, .int .i64 xa, .int .i64 xb, .int .i64 xc, .int .i64 xn, .int .i64 xx, .int .i64 xy, .int .i64 xz, .int .i64 xw] 37)).drew ∧ Below W0.heap.size W0 W := ⟨_, rfl, by (repeat' (first | (with_reducible first | exact bR _ _ | assumption | apply bS | apply bA | apply bD | apply bN | exact bL _) | (simp; done) | (simp; omega) | omega | exact bL _))⟩
 rw [← hW3]
 have hB := belT hb0.out hb3
 have h3 := h.out.below hB
 have hcl := choose_any B G _ fv sv c l ts W3 stk f _ v _ (Lib.hid h3)
 rw [hRh.out] at hcl
 unfold Fr.val Th.val at hcl
 dsimp only at hcl
 have hcl := Lib.hid hcl
 clear h3 hB hW3 hb3
 refine hcl.out.mono ?_
 rintro e2 w2 ⟨rfl, hf⟩
 go_wp2_with fail
 all_goals go_end0
 all_goals exact ⟨rfl, hf⟩
theorem first_bind (B G : Nat) (tv fv sv : Value) (c : Mc) (l : List Fr) (ts : List Tg) (fur : List Int) (w : World) (stk : List RF) (f : RF) (x : Fr) (v : RV) (t : Th) (h : Hid (Wk B G tv fv sv c l ts stk f x v t w)) (hel : f.env.list.length ≤ 900000000) (hk : (ndT ts f.node).k = 11) :
  Calls Try.prog 74 #[.pointer (some ⟨G, 0, none⟩), x.val, t.val] w (NsP c.w0 B G tv fv (rFirst (ndT ts f.node) (fur.getD f.node.toNat 0) f v stk)) := by
 rw [rFirst_bind hk]
 have hkk := Lib.hid hk
 obtain ⟨R, hR⟩ : ∃ R, rBind (ndT ts f.node) stk f.node f.env v = R := ⟨_, rfl⟩
 rw [hR]
 have hRh := Lib.hid hR
 clear hR
 obtain ⟨T, off, cp, i, rfl, hTw, hG, c3, hi, hfi, hxi, hT, hfz⟩ := h.out.open
 have hnT : ¬ Bq G T := h.out.mr_T
 obtain ⟨n, hn⟩ : ∃ n, ndT ts f.node = n := ⟨_, rfl⟩
 rw [hn] at hT hk
 obtain ⟨xst, xnd, xen, ⟨y0, y1, y2, y3, y4⟩⟩ := x
 obtain ⟨xk, xa, xb, xc, xn, xx, xy, xz, xw⟩ := n
 obtain ⟨t0, t1, t2, t3, t4, t5, t6, t7, t8⟩ := hT
 dsimp only at hxi t0 t1 t2 t3 t4 t5 t6 t7 t8
 subst hxi
 obtain ⟨z0, z1, z2, z3, z4⟩ := t
 dsimp only at hk ⊢
 subst hk
 unfold Fr.val Th.val
 dsimp only
 go_enter Try.func74, Try.ntmps74
 go_wp2_with fail
 obtain ⟨W0, hW0⟩ : ∃ W, (w.alloc (.cells #[.int .i64 xst, .int .i64 i, .pointer xen, .int .i64 y0, .int .i64 y1, .pointer y2, .pointer y3, .pointer y4] 129)).alloc (.cells #[.int .i64 z0, .int .i64 z1, .pointer z2, .pointer z3, .pointer z4] 56) = W := ⟨_, rfl⟩
 rw [hW0]
 obtain ⟨hb0, hs0, ⟨f0, f1, f2, f3, f4, f5, f6, f7⟩, ⟨v0, v1, v2, v3, v4⟩⟩ := bx_fv hW0
 have c3 : W0.cell? _ = _ := carry hb0 hG c3
 have t0 : W0.cell? _ = _ := carry hb0 hTw t0
 have t1 : W0.cell? _ = _ := carry hb0 hTw t1
 have t2 : W0.cell? _ = _ := carry hb0 hTw t2
 have t3 : W0.cell? _ = _ := carry hb0 hTw t3
 have t4 : W0.cell? _ = _ := carry hb0 hTw t4
 have t5 : W0.cell? _ = _ := carry hb0 hTw t5
 have t6 : W0.cell? _ = _ := carry hb0 hTw t6
 have t7 : W0.cell? _ = _ := carry hb0 hTw t7
 have t8 : W0.cell? _ = _ := carry hb0 hTw t8
 have hG0 : G < W0.heap.size := Nat.lt_of_lt_of_le hG hb0.size
 have hT0 : T < W0.heap.size := Nat.lt_of_lt_of_le hTw hb0.size
 have hl0 : w.heap.size < W0.heap.size := by omega
 have hl1 : w.heap.size + 1 < W0.heap.size := by omega
 have hb0 := Lib.hid hb0
 clear hW0 hs0
 go_region
 go_wp2_with fail
 obtain ⟨W3, hW3, hb3⟩ : ∃ W, W = (W0.alloc (.cells #[.int .i64 11, .int .i64 xa, .int .i64 xb, .int .i64 xc, .int .i64 xn, .int .i64 xx, .int .i64 xy, .int .i64 xz, .int .i64 xw] 37)).drew ∧ Below W0.heap.size W0 W := ⟨_, rfl, by (repeat' (first | (with_reducible first | exact bR _ _ | assumption | apply bS | apply bA | apply bD | apply bN | exact bL _) | (simp; done) | (simp; omega) | omega | exact bL _))⟩
 rw [← hW3]
 have hB := belT hb0.out hb3
 have h3 := h.out.below hB
 have hcl := bind_any B G _ fv sv c l ts W3 stk f _ v _ (Lib.hid h3) (by omega)
 rw [hRh.out] at hcl
 unfold Fr.val Th.val at hcl
 dsimp only at hcl
 have hcl := Lib.hid hcl
 clear h3 hB hW3 hb3
 refine hcl.out.mono ?_
 rintro e2 w2 ⟨rfl, hf⟩
 go_wp2_with fail
 all_goals go_end0
 all_goals exact ⟨rfl, hf⟩
theorem first_case (B G : Nat) (tv fv sv : Value) (c : Mc) (l : List Fr) (ts : List Tg) (fur : List Int) (w : World) (stk : List RF) (f : RF) (x : Fr) (v : RV) (t : Th) (h : Hid (Wk B G tv fv sv c l ts stk f x v t w)) (hF : Hid (FvR B G w fv fur)) (hfl : fur.length = ts.length) (hfb : -1 ≤ fur.getD f.node.toNat 0 ∧ fur.getD f.node.toNat 0 ≤ 1000000000) (hel : f.env.list.length ≤ 900000000) (hk : (ndT ts f.node).k = 12) :
  Calls Try.prog 74 #[.pointer (some ⟨G, 0, none⟩), x.val, t.val] w (NsP c.w0 B G tv fv (rFirst (ndT ts f.node) (fur.getD f.node.toNat 0) f v stk)) := by
 rw [rFirst_case hk]
 have hkk := Lib.hid hk
 obtain ⟨R, hR⟩ : ∃ R, rCase (ndT ts f.node) (fur.getD f.node.toNat 0) stk f.env v = R := ⟨_, rfl⟩
 rw [hR]
 have hRh := Lib.hid hR
 clear hR
 obtain ⟨T, off, cp, i, rfl, hTw, hG, c3, hi, hfi, hxi, hT, hfz⟩ := h.out.open
 have hnT : ¬ Bq G T := h.out.mr_T
 obtain ⟨n, hn⟩ : ∃ n, ndT ts f.node = n := ⟨_, rfl⟩
 rw [hn] at hT hk
 obtain ⟨xst, xnd, xen, ⟨y0, y1, y2, y3, y4⟩⟩ := x
 obtain ⟨xk, xa, xb, xc, xn, xx, xy, xz, xw⟩ := n
 obtain ⟨t0, t1, t2, t3, t4, t5, t6, t7, t8⟩ := hT
 dsimp only at hxi t0 t1 t2 t3 t4 t5 t6 t7 t8
 subst hxi
 obtain ⟨z0, z1, z2, z3, z4⟩ := t
 dsimp only at hk ⊢
 subst hk
 unfold Fr.val Th.val
 dsimp only
 go_enter Try.func74, Try.ntmps74
 go_wp2_with fail
 obtain ⟨W0, hW0⟩ : ∃ W, (w.alloc (.cells #[.int .i64 xst, .int .i64 i, .pointer xen, .int .i64 y0, .int .i64 y1, .pointer y2, .pointer y3, .pointer y4] 129)).alloc (.cells #[.int .i64 z0, .int .i64 z1, .pointer z2, .pointer z3, .pointer z4] 56) = W := ⟨_, rfl⟩
 rw [hW0]
 obtain ⟨hb0, hs0, ⟨f0, f1, f2, f3, f4, f5, f6, f7⟩, ⟨v0, v1, v2, v3, v4⟩⟩ := bx_fv hW0
 have c3 : W0.cell? _ = _ := carry hb0 hG c3
 have t0 : W0.cell? _ = _ := carry hb0 hTw t0
 have t1 : W0.cell? _ = _ := carry hb0 hTw t1
 have t2 : W0.cell? _ = _ := carry hb0 hTw t2
 have t3 : W0.cell? _ = _ := carry hb0 hTw t3
 have t4 : W0.cell? _ = _ := carry hb0 hTw t4
 have t5 : W0.cell? _ = _ := carry hb0 hTw t5
 have t6 : W0.cell? _ = _ := carry hb0 hTw t6
 have t7 : W0.cell? _ = _ := carry hb0 hTw t7
 have t8 : W0.cell? _ = _ := carry hb0 hTw t8
 have hG0 : G < W0.heap.size := Nat.lt_of_lt_of_le hG hb0.size
 have hT0 : T < W0.heap.size := Nat.lt_of_lt_of_le hTw hb0.size
 have hl0 : w.heap.size < W0.heap.size := by omega
 have hl1 : w.heap.size + 1 < W0.heap.size := by omega
 have hb0 := Lib.hid hb0
 clear hW0 hs0
 go_region
 go_wp2_with fail
 obtain ⟨W3, hW3, hb3⟩ : ∃ W, W = (W0.alloc (.cells #[.int .i64 12, .int .i64 xa, .int .i64 xb, .int .i64 xc, .int .i64 xn, .int .i64 xx, .int .i64 xy, .int .i64 xz, .int .i64 xw] 37)).drew ∧ Below W0.heap.size W0 W := ⟨_, rfl, by (repeat' (first | (with_reducible first | exact bR _ _ | assumption | apply bS | apply bA | apply bD | apply bN | exact bL _) | (simp; done) | (simp; omega) | omega | exact bL _))⟩
 rw [← hW3]
 have hB := belT hb0.out hb3
 have h3 := h.out.below hB
 have hF3 := hF.out.below hB
 have hcl := handle_any B G _ fv sv c l ts fur W3 stk f _ v _ (Lib.hid h3) (Lib.hid hF3) hfl hfb hel
 rw [hRh.out] at hcl
 unfold Fr.val Th.val at hcl
 dsimp only at hcl
 have hcl := Lib.hid hcl
 clear h3 hB hW3 hb3
 refine hcl.out.mono ?_
 rintro e2 w2 ⟨rfl, hf⟩
 go_wp2_with fail
 all_goals go_end0
 all_goals exact ⟨rfl, hf⟩
theorem first_nine (B G : Nat) (tv fv sv : Value) (c : Mc) (l : List Fr) (ts : List Tg) (fur : List Int) (w : World) (stk : List RF) (f : RF) (x : Fr) (v : RV) (t : Th) (h : Hid (Wk B G tv fv sv c l ts stk f x v t w)) (hk : (ndT ts f.node).k = 9) :
  Calls Try.prog 74 #[.pointer (some ⟨G, 0, none⟩), x.val, t.val] w (NsP c.w0 B G tv fv (rFirst (ndT ts f.node) (fur.getD f.node.toNat 0) f v stk)) := by
 rw [rFirst_nine hk]
 obtain ⟨T, off, cp, i, rfl, hTw, hG, c3, hi, hfi, hxi, hT, hfz⟩ := h.out.open
 have hnT : ¬ Bq G T := h.out.mr_T
 obtain ⟨n, hn⟩ : ∃ n, ndT ts f.node = n := ⟨_, rfl⟩
 rw [hn] at hT hk
 obtain ⟨xst, xnd, xen, ⟨y0, y1, y2, y3, y4⟩⟩ := x
 obtain ⟨xk, xa, xb, xc, xn, xx, xy, xz, xw⟩ := n
 obtain ⟨t0, t1, t2, t3, t4, t5, t6, t7, t8⟩ := hT
 dsimp only at hxi t0 t1 t2 t3 t4 t5 t6 t7 t8
 subst hxi
 obtain ⟨z0, z1, z2, z3, z4⟩ := t
 dsimp only at hk ⊢
 subst hk
 unfold Fr.val Th.val
 dsimp only
 go_enter Try.func74, Try.ntmps74
 go_wp2_with fail
 obtain ⟨W0, hW0⟩ : ∃ W, (w.alloc (.cells #[.int .i64 xst, .int .i64 i, .pointer xen, .int .i64 y0, .int .i64 y1, .pointer y2, .pointer y3, .pointer y4] 129)).alloc (.cells #[.int .i64 z0, .int .i64 z1, .pointer z2, .pointer z3, .pointer z4] 56) = W := ⟨_, rfl⟩
 rw [hW0]
 obtain ⟨hb0, hs0, ⟨f0, f1, f2, f3, f4, f5, f6, f7⟩, ⟨v0, v1, v2, v3, v4⟩⟩ := bx_fv hW0
 have c3 : W0.cell? _ = _ := carry hb0 hG c3
 have t0 : W0.cell? _ = _ := carry hb0 hTw t0
 have t1 : W0.cell? _ = _ := carry hb0 hTw t1
 have t2 : W0.cell? _ = _ := carry hb0 hTw t2
 have t3 : W0.cell? _ = _ := carry hb0 hTw t3
 have t4 : W0.cell? _ = _ := carry hb0 hTw t4
 have t5 : W0.cell? _ = _ := carry hb0 hTw t5
 have t6 : W0.cell? _ = _ := carry hb0 hTw t6
 have t7 : W0.cell? _ = _ := carry hb0 hTw t7
 have t8 : W0.cell? _ = _ := carry hb0 hTw t8
 have hG0 : G < W0.heap.size := Nat.lt_of_lt_of_le hG hb0.size
 have hT0 : T < W0.heap.size := Nat.lt_of_lt_of_le hTw hb0.size
 have hl0 : w.heap.size < W0.heap.size := by omega
 have hl1 : w.heap.size + 1 < W0.heap.size := by omega
 have hb0 := Lib.hid hb0
 clear hW0 hs0
 go_region
 go_wp2_with fail
 obtain ⟨W3, hW3, hb3⟩ : ∃ W, W = (W0.alloc (.cells #[.int .i64 9, .int .i64 xa, .int .i64 xb, .int .i64 xc, .int .i64 xn, .int .i64 xx, .int .i64 xy, .int .i64 xz, .int .i64 xw] 37)).drew ∧ Below W0.heap.size W0 W := ⟨_, rfl, by (repeat' (first | (with_reducible first | exact bR _ _ | assumption | apply bS | apply bA | apply bD | apply bN | exact bL _) | (simp; done) | (simp; omega) | omega | exact bL _))⟩
 rw [← hW3]
 have hB := belT hb0.out hb3
 have h3 := h.out.below hB
 have hx : BxC (Bp G sv) W3 (some ⟨w.heap.size + 1, 0, none⟩) ⟨z0, z1, z2, z3, z4⟩ := h.out.mr.bx (Nat.le_succ _) (Nat.lt_of_lt_of_le hl1 hb3.size) ⟨carry hb3 hl1 v0, carry hb3 hl1 v1, carry hb3 hl1 v2, carry hb3 hl1 v3, carry hb3 hl1 v4⟩
 have hr : RR (Bp G sv) W3 (.ret v) (.inl ⟨5, 0, none, some ⟨w.heap.size + 1, 0, none⟩, none⟩) := ⟨_, _, rfl, hx, h3.vl⟩
 have hcl := Lib.hid (h.out.give (u := .ret v) ⟨5, 0, none, some ⟨w.heap.size + 1, 0, none⟩, none⟩ W3 hB hr)
 clear h3 hB hW3 hb3 hx hr
 refine hcl.out.mono ?_
 rintro e2 w2 ⟨rfl, hf, _, _⟩
 go_wp2_with fail
 all_goals go_end0
 all_goals exact ⟨rfl, hf⟩
theorem first_no (B G : Nat) (tv fv sv : Value) (c : Mc) (l : List Fr) (ts : List Tg) (fur : List Int) (w : World) (stk : List RF) (f : RF) (x : Fr) (v : RV) (t : Th) (h : Hid (Wk B G tv fv sv c l ts stk f x v t w)) (hq : c.hv = true ∧ c.th = t) (hk : ¬ (ndT ts f.node).k = 5 ∧ ¬ (ndT ts f.node).k = 8 ∧ ¬ (ndT ts f.node).k = 10 ∧ ¬ (ndT ts f.node).k = 6 ∧ ¬ (ndT ts f.node).k = 7 ∧ ¬ (ndT ts f.node).k = 9 ∧ ¬ (ndT ts f.node).k = 11 ∧ ¬ (ndT ts f.node).k = 12) :
  Calls Try.prog 74 #[.pointer (some ⟨G, 0, none⟩), x.val, t.val] w (NsP c.w0 B G tv fv (rFirst (ndT ts f.node) (fur.getD f.node.toNat 0) f v stk)) := by
 rw [rFirst_no hk]
 have hq := Lib.hid hq
 obtain ⟨T, off, cp, i, rfl, hTw, hG, c3, hi, hfi, hxi, hT, hfz⟩ := h.out.open
 have hnT : ¬ Bq G T := h.out.mr_T
 obtain ⟨n, hn⟩ : ∃ n, ndT ts f.node = n := ⟨_, rfl⟩
 rw [hn] at hT hk
 obtain ⟨xst, xnd, xen, ⟨y0, y1, y2, y3, y4⟩⟩ := x
 obtain ⟨xk, xa, xb, xc, xn, xx, xy, xz, xw⟩ := n
 obtain ⟨t0, t1, t2, t3, t4, t5, t6, t7, t8⟩ := hT
 dsimp only at hxi t0 t1 t2 t3 t4 t5 t6 t7 t8
 subst hxi
 obtain ⟨z0, z1, z2, z3, z4⟩ := t
 dsimp only at hk
 obtain ⟨k5, k8, k10, k6, k7, k9, k11, k12⟩ := hk
 unfold Fr.val Th.val
 dsimp only
 go_enter Try.func74, Try.ntmps74
 go_wp2_with fail
 obtain ⟨W0, hW0⟩ : ∃ W, (w.alloc (.cells #[.int .i64 xst, .int .i64 i, .pointer xen, .int .i64 y0, .int .i64 y1, .pointer y2, .pointer y3, .pointer y4] 129)).alloc (.cells #[.int .i64 z0, .int .i64 z1, .pointer z2, .pointer z3, .pointer z4] 56) = W := ⟨_, rfl⟩
 rw [hW0]
 obtain ⟨hb0, hs0, ⟨f0, f1, f2, f3, f4, f5, f6, f7⟩, ⟨v0, v1, v2, v3, v4⟩⟩ := bx_fv hW0
 have c3 : W0.cell? _ = _ := carry hb0 hG c3
 have t0 : W0.cell? _ = _ := carry hb0 hTw t0
 have t1 : W0.cell? _ = _ := carry hb0 hTw t1
 have t2 : W0.cell? _ = _ := carry hb0 hTw t2
 have t3 : W0.cell? _ = _ := carry hb0 hTw t3
 have t4 : W0.cell? _ = _ := carry hb0 hTw t4
 have t5 : W0.cell? _ = _ := carry hb0 hTw t5
 have t6 : W0.cell? _ = _ := carry hb0 hTw t6
 have t7 : W0.cell? _ = _ := carry hb0 hTw t7
 have t8 : W0.cell? _ = _ := carry hb0 hTw t8
 have hG0 : G < W0.heap.size := Nat.lt_of_lt_of_le hG hb0.size
 have hT0 : T < W0.heap.size := Nat.lt_of_lt_of_le hTw hb0.size
 have hl0 : w.heap.size < W0.heap.size := by omega
 have hl1 : w.heap.size + 1 < W0.heap.size := by omega
 have hb0 := Lib.hid hb0
 clear hW0 hs0
 go_region
 go_wp2_with fail
 all_goals
  have hB : Below w.heap.size w (W0.alloc (.cells #[.int .i64 xk, .int .i64 xa, .int .i64 xb, .int .i64 xc, .int .i64 xn, .int .i64 xx, .int .i64 xy, .int .i64 xz, .int .i64 xw] 37)).drew := belT hb0.out (by (repeat' (first | (with_reducible first | exact bR _ _ | assumption | apply bS | apply bA | apply bD | apply bN | exact bL _) | (simp; done) | (simp; omega) | omega | exact bL _)))
  have h3 := h.out.below hB
  go_end0
  exact ⟨rfl, sv, c, l, rfl, h3.mr, h3.no, hq.out.1, h3.st, by rw [hq.out.2]; exact h3.vl⟩
theorem first_any (B G : Nat) (tv fv sv : Value) (c : Mc) (l : List Fr) (ts : List Tg) (fur : List Int) (w : World) (stk : List RF) (f : RF) (x : Fr) (v : RV) (t : Th) (h : Hid (Wk B G tv fv sv c l ts stk f x v t w)) (hF : Hid (FvR B G w fv fur)) (hfl : fur.length = ts.length) (hfb : -1 ≤ fur.getD f.node.toNat 0 ∧ fur.getD f.node.toNat 0 ≤ 1000000000) (hl : stk.length ≤ 4096) (hel : f.env.list.length ≤ 900000000) (hq : c.hv = true ∧ c.th = t) :
  Calls Try.prog 74 #[.pointer (some ⟨G, 0, none⟩), x.val, t.val] w (NsP c.w0 B G tv fv (rFirst (ndT ts f.node) (fur.getD f.node.toNat 0) f v stk)) := by
 by_cases h5 : (ndT ts f.node).k = 5
 ·exact first_five B G tv fv sv c l ts fur w stk f x v t h hl h5
 by_cases h8 : (ndT ts f.node).k = 8
 ·exact first_eight B G tv fv sv c l ts fur w stk f x v t h hl h8
 by_cases h10 : (ndT ts f.node).k = 10
 ·exact first_ten B G tv fv sv c l ts fur w stk f x v t h hl h10
 by_cases h6 : (ndT ts f.node).k = 6
 ·exact first_six B G tv fv sv c l ts fur w stk f x v t h hel h6
 by_cases h7 : (ndT ts f.node).k = 7
 ·exact first_seven B G tv fv sv c l ts fur w stk f x v t h h7
 by_cases h9 : (ndT ts f.node).k = 9
 ·exact first_nine B G tv fv sv c l ts fur w stk f x v t h h9
 by_cases h11 : (ndT ts f.node).k = 11
 ·exact first_bind B G tv fv sv c l ts fur w stk f x v t h hel h11
 by_cases h12 : (ndT ts f.node).k = 12
 ·exact first_case B G tv fv sv c l ts fur w stk f x v t h hF hfl hfb hel h12
 exact first_no B G tv fv sv c l ts fur w stk f x v t h hq ⟨h5, h8, h10, h6, h7, h9, h11, h12⟩
end Go.Proofs.Ytnjalpcmjkahkaa
