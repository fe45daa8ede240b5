/- The machine of layer 21: the value of a node's B. -/
import Derived.Test.YtnjalpcmjkahkaaRmM
import Derived.Test.YtnjalpcmjkahkaaPmA
namespace Go.Proofs.Ytnjalpcmjkahkaa
open Go.RowKit
set_option linter.unusedVariables false
set_option linter.unusedSimpArgs false

theorem rr_num {A : Nat → Prop} {W : World} {v : RV} {t : Th} (h : RR A W v (.inl t)) : (t.a = 0 ∧ v = .num t.b) ∨ (t.a ≠ 0 ∧ ∀ n, v ≠ .num n) := by
  cases v with
  | num n => cases h; exact .inl ⟨rfl, rfl⟩
  | tru n => cases h; exact .inr ⟨by show (1 : Int) ≠ 0; decide, fun _ h => by cases h⟩
  | fn n e => obtain ⟨c, l, h, _⟩ := h; cases h; exact .inr ⟨by show (2 : Int) ≠ 0; decide, fun _ h => by cases h⟩
  | bnd n e f => obtain ⟨c, l, d, u, h, _⟩ := h; cases h; exact .inr ⟨by show (3 : Int) ≠ 0; decide, fun _ h => by cases h⟩
  | fwd f g => obtain ⟨d, u, e, x, h, _⟩ := h; cases h; exact .inr ⟨by show (4 : Int) ≠ 0; decide, fun _ h => by cases h⟩
  | ret u => obtain ⟨d, x, h, _⟩ := h; cases h; exact .inr ⟨by show (5 : Int) ≠ 0; decide, fun _ h => by cases h⟩
  | op n u f => obtain ⟨d, u, e, x, h, _⟩ := h; cases h; exact .inr ⟨by show (6 : Int) ≠ 0; decide, fun _ h => by cases h⟩
  | nil => cases h
  | cons u r => obtain ⟨u, l, h, _⟩ := h; cases h
theorem rPrim_no1 {p : Int} {stk : List RF} {u v : RV} (h : ∀ n, u ≠ .num n) : rPrim p stk u v = .en 5 0 := by
  cases u with
  | num n => exact absurd rfl (h n)
  | _ => rfl
theorem rPrim_no2 {p : Int} {stk : List RF} {u v : RV} (h : ∀ n, v ≠ .num n) : rPrim p stk u v = .en 5 0 := by
  cases v with
  | num n => exact absurd rfl (h n)
  | _ => cases u <;> rfl
theorem rPrim_yes {p a b : Int} {stk : List RF} : rPrim p stk (.num a) (.num b) = if (prmV p a b).1 = 0 then .gv stk (.num (prmV p a b).2) else if (prmV p a b).1 = 1 then .gv stk (.tru (prmV p a b).2) else .en (prmV p a b).1 (prmV p a b).2 := rfl
theorem rSecond_op {t : Tg} {f : RF} {v : RV} {stk : List RF} (h : t.k = 10) : rSecond t f v stk = .gv stk (.op t.n f.val v) := by unfold rSecond; rw [if_pos h]
theorem rSecond_prim {t : Tg} {f : RF} {v : RV} {stk : List RF} (h : t.k ≠ 10) : rSecond t f v stk = rPrim t.n stk f.val v := by unfold rSecond; rw [if_neg h]
theorem Wk.end_ {B G : Nat} {tv fv sv : Value} {c : Mc} {l : List Fr} {ts : List Tg} {stk : List RF} {f : RF} {x : Fr} {v : RV} {t : Th} {w : World} (h : Wk B G tv fv sv c l ts stk f x v t w) (k n : Int) :
    ∀ W, Below w.heap.size w W → Calls Try.prog 86 #[.pointer (some ⟨G, 0, none⟩), .agg #[.int .i64 k, .int .i64 n]] W fun e w' => e = .returned (.tuple #[]) ∧ MR c.w0 B G tv fv (.en k n) w' := fun W hb => by
  refine (end_any W G tv fv sv c k n (Lib.hid (h.below hb).mr.mc)).mono ?_
  rintro e w1 ⟨rfl, h1, h2⟩
  exact ⟨rfl, mr_en (h.below hb).mr h1 h2⟩
set_option maxRecDepth 100000 in
set_option maxHeartbeats 4000000 in
theorem second_op (B G : Nat) (tv fv sv : Value) (c : Mc) (l : List Fr) (ts : List Tg) (w : World) (stk : List RF) (f : RF) (x : Fr) (v : RV) (t : Th) (h : Hid (Wk B G tv fv sv c l ts stk f x v t w)) (hk : (ndT ts f.node).k = 10) :
    Calls Try.prog 75 #[.pointer (some ⟨G, 0, none⟩), x.val, t.val] w (NsP c.w0 B G tv fv (rSecond (ndT ts f.node) f v stk)) := by
  have hst := Lib.hid h.out.stuck
  have hgv := Lib.hid fun u y W hb he => h.out.give (u := u) y W hb he
  have hnd := Lib.hid fun k n W hb => h.out.end_ k n W hb
  have hbx := Lib.hid fun (W : World) (b o : Nat) (t : Th) h1 h2 h3 => h.out.mr.bx (w' := W) (b := b) (o := o) (t := t) h1 h2 h3
  have hvl := Lib.hid fun W hb => (h.out.below (w' := W) hb).vl
  have hfl := Lib.hid fun W hb => (h.out.below (w' := W) hb).fr.2.2.2
  rw [rSecond_op hk]
  obtain ⟨T, off, cp, i, rfl, hTw, hG, c3, hi, hfi, hxi, hT, hfz⟩ := h.out.open
  have hnT : ¬ Bq G T := h.out.mr_T
  obtain ⟨n, hn⟩ : ∃ n, ndT ts f.node = n := ⟨_, rfl⟩
  rw [hn] at hT hk ⊢
  obtain ⟨xst, xnd, xen, ⟨y0, y1, y2, y3, y4⟩⟩ := x
  obtain ⟨xk, xa, xb, xc, xn, xx, xy, xz, xw⟩ := n
  obtain ⟨t0, t1, t2, t3, t4, t5, t6, t7, t8⟩ := hT
  dsimp only at hxi t0 t1 t2 t3 t4 t5 t6 t7 t8
  subst hxi
  obtain ⟨z0, z1, z2, z3, z4⟩ := t
  dsimp only at hk hfl
  subst hk
  unfold Fr.val Th.val
  dsimp only
  have hres := Lib.hid fun (W : World) (b g : Nat) (hb : Below w.heap.size w W) (h1 : w.heap.size ≤ b) (h2 : b < W.heap.size) (h3 : ThO W b 3 ⟨y0, y1, y2, y3, y4⟩) (h4 : w.heap.size ≤ g) (h5 : g < W.heap.size) (h6 : ThO W g 0 ⟨z0, z1, z2, z3, z4⟩) =>
    (⟨some ⟨b, 3, none⟩, _, some ⟨g, 0, none⟩, _, rfl, hbx.out W b 3 _ h1 h2 h3, hfl.out W hb, hbx.out W g 0 _ h4 h5 h6, hvl.out W hb⟩ : RR (Bp G sv) W (.op xn f.val v) (.inl ⟨6, xn, none, some ⟨b, 3, none⟩, some ⟨g, 0, none⟩⟩))
  clear h hst hnd hbx hfz
  go_enter Try.func75, Try.ntmps75
  go_wp2_with fail
  obtain ⟨W0, hW0⟩ : ∃ W, (w.alloc (.cells #[.int .i64 xst, .int .i64 i, .pointer xen, .int .i64 y0, .int .i64 y1, .pointer y2, .pointer y3, .pointer y4] 129)).alloc (.cells #[.int .i64 z0, .int .i64 z1, .pointer z2, .pointer z3, .pointer z4] 56) = W := ⟨_, rfl⟩
  rw [hW0]
  obtain ⟨hb0, hs0, ⟨f0, f1, f2, f3, f4, f5, f6, f7⟩, ⟨v0, v1, v2, v3, v4⟩⟩ := bx_fv hW0
  have c3 : W0.cell? _ = _ := carry hb0 hG c3
  have t0 : W0.cell? _ = _ := carry hb0 hTw t0
  have t1 : W0.cell? _ = _ := carry hb0 hTw t1
  have t2 : W0.cell? _ = _ := carry hb0 hTw t2
  have t3 : W0.cell? _ = _ := carry hb0 hTw t3
  have t4 : W0.cell? _ = _ := carry hb0 hTw t4
  have t5 : W0.cell? _ = _ := carry hb0 hTw t5
  have t6 : W0.cell? _ = _ := carry hb0 hTw t6
  have t7 : W0.cell? _ = _ := carry hb0 hTw t7
  have t8 : W0.cell? _ = _ := carry hb0 hTw t8
  have hG0 : G < W0.heap.size := Nat.lt_of_lt_of_le hG hb0.size
  have hT0 : T < W0.heap.size := Nat.lt_of_lt_of_le hTw hb0.size
  have hl0 : w.heap.size < W0.heap.size := by omega
  have hl1 : w.heap.size + 1 < W0.heap.size := by omega
  have hb0 := Lib.hid hb0
  clear hW0 hs0
  go_region
  go_wp2_with fail
  obtain ⟨W3, hW3, hb3⟩ : ∃ W, W = (W0.alloc (.cells #[.int .i64 10, .int .i64 xa, .int .i64 xb, .int .i64 xc, .int .i64 xn, .int .i64 xx, .int .i64 xy, .int .i64 xz, .int .i64 xw] 37)).drew ∧ Below W0.heap.size W0 W := ⟨_, rfl, by (repeat' (first | with_reducible exact Below.refl _ _ | with_reducible assumption | with_reducible apply Below.setCell | with_reducible apply Below.alloc | with_reducible apply Below.drew | with_reducible apply below_drewN | with_reducible exact Nat.le_refl _ | (simp; done) | (simp; omega) | omega | exact Nat.le_refl _))⟩
  rw [← hW3]
  have hB := Lib.hid (belT hb0.out hb3)
  have hr := Lib.hid (hres.out W3 w.heap.size (w.heap.size + 1) hB.out (Nat.le_refl _) (Nat.lt_of_lt_of_le hl0 hb3.size) ⟨carry hb3 hl0 f3, carry hb3 hl0 f4, carry hb3 hl0 f5, carry hb3 hl0 f6, carry hb3 hl0 f7⟩ (Nat.le_succ _) (Nat.lt_of_lt_of_le hl1 hb3.size) ⟨carry hb3 hl1 v0, carry hb3 hl1 v1, carry hb3 hl1 v2, carry hb3 hl1 v3, carry hb3 hl1 v4⟩)
  clear hW3 hb3
  refine (hgv.out (.op xn f.val v) ⟨6, xn, none, some ⟨w.heap.size, 3, none⟩, some ⟨w.heap.size + 1, 0, none⟩⟩ _ hB.out hr.out).mono ?_
  rintro e1 w1 ⟨rfl, hf, _, _⟩
  go_wp2_with fail
  all_goals go_end0
  all_goals exact ⟨rfl, hf⟩
set_option maxRecDepth 100000 in
set_option maxHeartbeats 4000000 in
theorem second_no1 (B G : Nat) (tv fv sv : Value) (c : Mc) (l : List Fr) (ts : List Tg) (w : World) (stk : List RF) (f : RF) (x : Fr) (v : RV) (t : Th) (h : Hid (Wk B G tv fv sv c l ts stk f x v t w)) (hk : (ndT ts f.node).k ≠ 10) (h1 : x.th.a ≠ 0) (h2 : ∀ n, f.val ≠ .num n) :
    Calls Try.prog 75 #[.pointer (some ⟨G, 0, none⟩), x.val, t.val] w (NsP c.w0 B G tv fv (rSecond (ndT ts f.node) f v stk)) := by
  have hst := Lib.hid h.out.stuck
  have hgv := Lib.hid fun u y W hb he => h.out.give (u := u) y W hb he
  have hnd := Lib.hid fun k n W hb => h.out.end_ k n W hb
  have hbx := Lib.hid fun (W : World) (b o : Nat) (t : Th) h1 h2 h3 => h.out.mr.bx (w' := W) (b := b) (o := o) (t := t) h1 h2 h3
  rw [rSecond_prim hk, rPrim_no1 h2]
  obtain ⟨T, off, cp, i, rfl, hTw, hG, c3, hi, hfi, hxi, hT, hfz⟩ := h.out.open
  have hnT : ¬ Bq G T := h.out.mr_T
  obtain ⟨n, hn⟩ : ∃ n, ndT ts f.node = n := ⟨_, rfl⟩
  rw [hn] at hT hk
  obtain ⟨xst, xnd, xen, ⟨y0, y1, y2, y3, y4⟩⟩ := x
  obtain ⟨xk, xa, xb, xc, xn, xx, xy, xz, xw⟩ := n
  obtain ⟨t0, t1, t2, t3, t4, t5, t6, t7, t8⟩ := hT
  dsimp only at hxi t0 t1 t2 t3 t4 t5 t6 t7 t8
  subst hxi
  obtain ⟨z0, z1, z2, z3, z4⟩ := t
  dsimp only at hk h1
  unfold Fr.val Th.val
  dsimp only
  clear h hgv hnd hbx hfz h2
  go_enter Try.func75, Try.ntmps75
  go_wp2_with fail
  obtain ⟨W0, hW0⟩ : ∃ W, (w.alloc (.cells #[.int .i64 xst, .int .i64 i, .pointer xen, .int .i64 y0, .int .i64 y1, .pointer y2, .pointer y3, .pointer y4] 129)).alloc (.cells #[.int .i64 z0, .int .i64 z1, .pointer z2, .pointer z3, .pointer z4] 56) = W := ⟨_, rfl⟩
  rw [hW0]
  obtain ⟨hb0, hs0, ⟨f0, f1, f2, f3, f4, f5, f6, f7⟩, ⟨v0, v1, v2, v3, v4⟩⟩ := bx_fv hW0
  have c3 : W0.cell? _ = _ := carry hb0 hG c3
  have t0 : W0.cell? _ = _ := carry hb0 hTw t0
  have t1 : W0.cell? _ = _ := carry hb0 hTw t1
  have t2 : W0.cell? _ = _ := carry hb0 hTw t2
  have t3 : W0.cell? _ = _ := carry hb0 hTw t3
  have t4 : W0.cell? _ = _ := carry hb0 hTw t4
  have t5 : W0.cell? _ = _ := carry hb0 hTw t5
  have t6 : W0.cell? _ = _ := carry hb0 hTw t6
  have t7 : W0.cell? _ = _ := carry hb0 hTw t7
  have t8 : W0.cell? _ = _ := carry hb0 hTw t8
  have hG0 : G < W0.heap.size := Nat.lt_of_lt_of_le hG hb0.size
  have hT0 : T < W0.heap.size := Nat.lt_of_lt_of_le hTw hb0.size
  have hl0 : w.heap.size < W0.heap.size := by omega
  have hl1 : w.heap.size + 1 < W0.heap.size := by omega
  have hb0 := Lib.hid hb0
  clear hW0 hs0
  go_region
  go_wp2_with fail
  refine (hst.out _ (belT hb0.out (by (repeat' (first | with_reducible exact Below.refl _ _ | with_reducible assumption | with_reducible apply Below.setCell | with_reducible apply Below.alloc | with_reducible apply Below.drew | with_reducible apply below_drewN | with_reducible exact Nat.le_refl _ | (simp; done) | (simp; omega) | omega | exact Nat.le_refl _))))).mono ?_
  rintro e1 w1 ⟨rfl, hf⟩
  go_wp2_with fail
  all_goals go_end0
  all_goals exact ⟨rfl, hf⟩
set_option maxRecDepth 100000 in
set_option maxHeartbeats 4000000 in
theorem second_no2 (B G : Nat) (tv fv sv : Value) (c : Mc) (l : List Fr) (ts : List Tg) (w : World) (stk : List RF) (f : RF) (x : Fr) (v : RV) (t : Th) (h : Hid (Wk B G tv fv sv c l ts stk f x v t w)) (hk : (ndT ts f.node).k ≠ 10) (h0 : x.th.a = 0) (h1 : t.a ≠ 0) (h2 : ∀ n, v ≠ .num n) :
    Calls Try.prog 75 #[.pointer (some ⟨G, 0, none⟩), x.val, t.val] w (NsP c.w0 B G tv fv (rSecond (ndT ts f.node) f v stk)) := by
  have hst := Lib.hid h.out.stuck
  have hgv := Lib.hid fun u y W hb he => h.out.give (u := u) y W hb he
  have hnd := Lib.hid fun k n W hb => h.out.end_ k n W hb
  have hbx := Lib.hid fun (W : World) (b o : Nat) (t : Th) h1 h2 h3 => h.out.mr.bx (w' := W) (b := b) (o := o) (t := t) h1 h2 h3
  rw [rSecond_prim hk, rPrim_no2 h2]
  obtain ⟨T, off, cp, i, rfl, hTw, hG, c3, hi, hfi, hxi, hT, hfz⟩ := h.out.open
  have hnT : ¬ Bq G T := h.out.mr_T
  obtain ⟨n, hn⟩ : ∃ n, ndT ts f.node = n := ⟨_, rfl⟩
  rw [hn] at hT hk
  obtain ⟨xst, xnd, xen, ⟨y0, y1, y2, y3, y4⟩⟩ := x
  obtain ⟨xk, xa, xb, xc, xn, xx, xy, xz, xw⟩ := n
  obtain ⟨t0, t1, t2, t3, t4, t5, t6, t7, t8⟩ := hT
  dsimp only at hxi t0 t1 t2 t3 t4 t5 t6 t7 t8
  subst hxi
  obtain ⟨z0, z1, z2, z3, z4⟩ := t
  dsimp only at hk h1 h0
  subst h0
  unfold Fr.val Th.val
  dsimp only
  clear h hgv hnd hbx hfz h2
  go_enter Try.func75, Try.ntmps75
  go_wp2_with fail
  obtain ⟨W0, hW0⟩ : ∃ W, (w.alloc (.cells #[.int .i64 xst, .int .i64 i, .pointer xen, .int .i64 0, .int .i64 y1, .pointer y2, .pointer y3, .pointer y4] 129)).alloc (.cells #[.int .i64 z0, .int .i64 z1, .pointer z2, .pointer z3, .pointer z4] 56) = W := ⟨_, rfl⟩
  rw [hW0]
  obtain ⟨hb0, hs0, ⟨f0, f1, f2, f3, f4, f5, f6, f7⟩, ⟨v0, v1, v2, v3, v4⟩⟩ := bx_fv hW0
  have c3 : W0.cell? _ = _ := carry hb0 hG c3
  have t0 : W0.cell? _ = _ := carry hb0 hTw t0
  have t1 : W0.cell? _ = _ := carry hb0 hTw t1
  have t2 : W0.cell? _ = _ := carry hb0 hTw t2
  have t3 : W0.cell? _ = _ := carry hb0 hTw t3
  have t4 : W0.cell? _ = _ := carry hb0 hTw t4
  have t5 : W0.cell? _ = _ := carry hb0 hTw t5
  have t6 : W0.cell? _ = _ := carry hb0 hTw t6
  have t7 : W0.cell? _ = _ := carry hb0 hTw t7
  have t8 : W0.cell? _ = _ := carry hb0 hTw t8
  have hG0 : G < W0.heap.size := Nat.lt_of_lt_of_le hG hb0.size
  have hT0 : T < W0.heap.size := Nat.lt_of_lt_of_le hTw hb0.size
  have hl0 : w.heap.size < W0.heap.size := by omega
  have hl1 : w.heap.size + 1 < W0.heap.size := by omega
  have hb0 := Lib.hid hb0
  clear hW0 hs0
  go_region
  go_wp2_with fail
  refine (hst.out _ (belT hb0.out (by (repeat' (first | with_reducible exact Below.refl _ _ | with_reducible assumption | with_reducible apply Below.setCell | with_reducible apply Below.alloc | with_reducible apply Below.drew | with_reducible apply below_drewN | with_reducible exact Nat.le_refl _ | (simp; done) | (simp; omega) | omega | exact Nat.le_refl _))))).mono ?_
  rintro e1 w1 ⟨rfl, hf⟩
  go_wp2_with fail
  all_goals go_end0
  all_goals exact ⟨rfl, hf⟩
set_option maxRecDepth 100000 in
set_option maxHeartbeats 4000000 in
theorem second_yes (B G : Nat) (tv fv sv : Value) (c : Mc) (l : List Fr) (ts : List Tg) (w : World) (stk : List RF) (f : RF) (x : Fr) (v : RV) (t : Th) (h : Hid (Wk B G tv fv sv c l ts stk f x v t w)) (hk : (ndT ts f.node).k ≠ 10) (hp : 0 ≤ (ndT ts f.node).n ∧ (ndT ts f.node).n ≤ 5) (h0 : x.th.a = 0) (h1 : t.a = 0) (hu : f.val = .num x.th.b) (hv : v = .num t.b) (hub : -1073741824 ≤ x.th.b ∧ x.th.b ≤ 1073741823) (hvb : -1073741824 ≤ t.b ∧ t.b ≤ 1073741823) :
    Calls Try.prog 75 #[.pointer (some ⟨G, 0, none⟩), x.val, t.val] w (NsP c.w0 B G tv fv (rSecond (ndT ts f.node) f v stk)) := by
  have hst := Lib.hid h.out.stuck
  have hgv := Lib.hid fun u y W hb he => h.out.give (u := u) y W hb he
  have hnd := Lib.hid fun k n W hb => h.out.end_ k n W hb
  have hbx := Lib.hid fun (W : World) (b o : Nat) (t : Th) h1 h2 h3 => h.out.mr.bx (w' := W) (b := b) (o := o) (t := t) h1 h2 h3
  rw [rSecond_prim hk, hu, hv, rPrim_yes]
  obtain ⟨T, off, cp, i, rfl, hTw, hG, c3, hi, hfi, hxi, hT, hfz⟩ := h.out.open
  have hnT : ¬ Bq G T := h.out.mr_T
  obtain ⟨n, hn⟩ : ∃ n, ndT ts f.node = n := ⟨_, rfl⟩
  rw [hn] at hT hk hp ⊢
  obtain ⟨xst, xnd, xen, ⟨y0, y1, y2, y3, y4⟩⟩ := x
  obtain ⟨xk, xa, xb, xc, xn, xx, xy, xz, xw⟩ := n
  obtain ⟨t0, t1, t2, t3, t4, t5, t6, t7, t8⟩ := hT
  dsimp only at hxi t0 t1 t2 t3 t4 t5 t6 t7 t8
  subst hxi
  obtain ⟨z0, z1, z2, z3, z4⟩ := t
  dsimp only at hk h1 h0 hp hub hvb ⊢
  subst h0 h1
  unfold Fr.val Th.val
  dsimp only
  have hap := Lib.hid fun W => apply2_any xn y1 z1 W hp hub hvb
  obtain ⟨o1, o2, hoo⟩ : ∃ o1 o2, prmV xn y1 z1 = (o1, o2) := ⟨_, _, rfl⟩
  rw [hoo, show ocV (o1, o2) = .agg #[.int .i64 o1, .int .i64 o2] from rfl] at hap
  rw [hoo]
  dsimp only
  clear h hst hbx hfz hu hv hoo hub hvb hp
  by_cases ho0 : o1 = 0
  · subst ho0
    rw [if_pos rfl]
    go_enter Try.func75, Try.ntmps75
    go_wp2_with fail
    obtain ⟨W0, hW0⟩ : ∃ W, (w.alloc (.cells #[.int .i64 xst, .int .i64 i, .pointer xen, .int .i64 0, .int .i64 y1, .pointer y2, .pointer y3, .pointer y4] 129)).alloc (.cells #[.int .i64 0, .int .i64 z1, .pointer z2, .pointer z3, .pointer z4] 56) = W := ⟨_, rfl⟩
    rw [hW0]
    obtain ⟨hb0, hs0, ⟨f0, f1, f2, f3, f4, f5, f6, f7⟩, ⟨v0, v1, v2, v3, v4⟩⟩ := bx_fv hW0
    have c3 : W0.cell? _ = _ := carry hb0 hG c3
    have t0 : W0.cell? _ = _ := carry hb0 hTw t0
    have t1 : W0.cell? _ = _ := carry hb0 hTw t1
    have t2 : W0.cell? _ = _ := carry hb0 hTw t2
    have t3 : W0.cell? _ = _ := carry hb0 hTw t3
    have t4 : W0.cell? _ = _ := carry hb0 hTw t4
    have t5 : W0.cell? _ = _ := carry hb0 hTw t5
    have t6 : W0.cell? _ = _ := carry hb0 hTw t6
    have t7 : W0.cell? _ = _ := carry hb0 hTw t7
    have t8 : W0.cell? _ = _ := carry hb0 hTw t8
    have hG0 : G < W0.heap.size := Nat.lt_of_lt_of_le hG hb0.size
    have hT0 : T < W0.heap.size := Nat.lt_of_lt_of_le hTw hb0.size
    have hl0 : w.heap.size < W0.heap.size := by omega
    have hl1 : w.heap.size + 1 < W0.heap.size := by omega
    have hb0 := Lib.hid hb0
    clear hW0 hs0
    go_region
    go_wp2_with fail
    obtain ⟨W3, hW3, hb3⟩ : ∃ W, W = (W0.alloc (.cells #[.int .i64 xk, .int .i64 xa, .int .i64 xb, .int .i64 xc, .int .i64 xn, .int .i64 xx, .int .i64 xy, .int .i64 xz, .int .i64 xw] 37)).drew ∧ Below W0.heap.size W0 W := ⟨_, rfl, by (repeat' (first | with_reducible exact Below.refl _ _ | with_reducible assumption | with_reducible apply Below.setCell | with_reducible apply Below.alloc | with_reducible apply Below.drew | with_reducible apply below_drewN | with_reducible exact Nat.le_refl _ | (simp; done) | (simp; omega) | omega | exact Nat.le_refl _))⟩
    rw [← hW3]
    refine (hap.out W3).mono ?_
    rintro e1 w1 ⟨rfl, hb1⟩
    have hB := Lib.hid (belT (belT hb0.out hb3) hb1)
    clear hb0 hb3 hW3 hb1 hap
    clear t0 t1 t2 t3 t4 t5 t6 t7 t8 f0 f1 f2 f3 f4 f5 f6 f7 v0 v1 v2 v3 v4 c3
    go_wp2_with fail
    refine (hgv.out (.num o2) ⟨0, o2, none, none, none⟩ _ (belT hB.out (by (repeat' (first | with_reducible exact Below.refl _ _ | with_reducible assumption | with_reducible apply Below.setCell | with_reducible apply Below.alloc | with_reducible apply Below.drew | with_reducible apply below_drewN | with_reducible exact Nat.le_refl _ | (simp; done) | (simp; omega) | omega | exact Nat.le_refl _)))) rfl).mono ?_
    rintro e2 w2 ⟨rfl, hf, _, _⟩
    go_wp2_with fail
    all_goals go_end0
    all_goals exact ⟨rfl, hf⟩
  · rw [if_neg ho0]
    by_cases ho1 : o1 = 1
    · subst ho1
      rw [if_pos rfl]
      go_enter Try.func75, Try.ntmps75
      go_wp2_with fail
      obtain ⟨W0, hW0⟩ : ∃ W, (w.alloc (.cells #[.int .i64 xst, .int .i64 i, .pointer xen, .int .i64 0, .int .i64 y1, .pointer y2, .pointer y3, .pointer y4] 129)).alloc (.cells #[.int .i64 0, .int .i64 z1, .pointer z2, .pointer z3, .pointer z4] 56) = W := ⟨_, rfl⟩
      rw [hW0]
      obtain ⟨hb0, hs0, ⟨f0, f1, f2, f3, f4, f5, f6, f7⟩, ⟨v0, v1, v2, v3, v4⟩⟩ := bx_fv hW0
      have c3 : W0.cell? _ = _ := carry hb0 hG c3
      have t0 : W0.cell? _ = _ := carry hb0 hTw t0
      have t1 : W0.cell? _ = _ := carry hb0 hTw t1
      have t2 : W0.cell? _ = _ := carry hb0 hTw t2
      have t3 : W0.cell? _ = _ := carry hb0 hTw t3
      have t4 : W0.cell? _ = _ := carry hb0 hTw t4
      have t5 : W0.cell? _ = _ := carry hb0 hTw t5
      have t6 : W0.cell? _ = _ := carry hb0 hTw t6
      have t7 : W0.cell? _ = _ := carry hb0 hTw t7
      have t8 : W0.cell? _ = _ := carry hb0 hTw t8
      have hG0 : G < W0.heap.size := Nat.lt_of_lt_of_le hG hb0.size
      have hT0 : T < W0.heap.size := Nat.lt_of_lt_of_le hTw hb0.size
      have hl0 : w.heap.size < W0.heap.size := by omega
      have hl1 : w.heap.size + 1 < W0.heap.size := by omega
      have hb0 := Lib.hid hb0
      clear hW0 hs0
      go_region
      go_wp2_with fail
      obtain ⟨W3, hW3, hb3⟩ : ∃ W, W = (W0.alloc (.cells #[.int .i64 xk, .int .i64 xa, .int .i64 xb, .int .i64 xc, .int .i64 xn, .int .i64 xx, .int .i64 xy, .int .i64 xz, .int .i64 xw] 37)).drew ∧ Below W0.heap.size W0 W := ⟨_, rfl, by (repeat' (first | with_reducible exact Below.refl _ _ | with_reducible assumption | with_reducible apply Below.setCell | with_reducible apply Below.alloc | with_reducible apply Below.drew | with_reducible apply below_drewN | with_reducible exact Nat.le_refl _ | (simp; done) | (simp; omega) | omega | exact Nat.le_refl _))⟩
      rw [← hW3]
      refine (hap.out W3).mono ?_
      rintro e1 w1 ⟨rfl, hb1⟩
      have hB := Lib.hid (belT (belT hb0.out hb3) hb1)
      clear hb0 hb3 hW3 hb1 hap
      clear t0 t1 t2 t3 t4 t5 t6 t7 t8 f0 f1 f2 f3 f4 f5 f6 f7 v0 v1 v2 v3 v4 c3
      go_wp2_with fail
      refine (hgv.out (.tru o2) ⟨1, o2, none, none, none⟩ _ (belT hB.out (by (repeat' (first | with_reducible exact Below.refl _ _ | with_reducible assumption | with_reducible apply Below.setCell | with_reducible apply Below.alloc | with_reducible apply Below.drew | with_reducible apply below_drewN | with_reducible exact Nat.le_refl _ | (simp; done) | (simp; omega) | omega | exact Nat.le_refl _)))) rfl).mono ?_
      rintro e2 w2 ⟨rfl, hf, _, _⟩
      go_wp2_with fail
      all_goals go_end0
      all_goals exact ⟨rfl, hf⟩
    · rw [if_neg ho1]
      go_enter Try.func75, Try.ntmps75
      go_wp2_with fail
      obtain ⟨W0, hW0⟩ : ∃ W, (w.alloc (.cells #[.int .i64 xst, .int .i64 i, .pointer xen, .int .i64 0, .int .i64 y1, .pointer y2, .pointer y3, .pointer y4] 129)).alloc (.cells #[.int .i64 0, .int .i64 z1, .pointer z2, .pointer z3, .pointer z4] 56) = W := ⟨_, rfl⟩
      rw [hW0]
      obtain ⟨hb0, hs0, ⟨f0, f1, f2, f3, f4, f5, f6, f7⟩, ⟨v0, v1, v2, v3, v4⟩⟩ := bx_fv hW0
      have c3 : W0.cell? _ = _ := carry hb0 hG c3
      have t0 : W0.cell? _ = _ := carry hb0 hTw t0
      have t1 : W0.cell? _ = _ := carry hb0 hTw t1
      have t2 : W0.cell? _ = _ := carry hb0 hTw t2
      have t3 : W0.cell? _ = _ := carry hb0 hTw t3
      have t4 : W0.cell? _ = _ := carry hb0 hTw t4
      have t5 : W0.cell? _ = _ := carry hb0 hTw t5
      have t6 : W0.cell? _ = _ := carry hb0 hTw t6
      have t7 : W0.cell? _ = _ := carry hb0 hTw t7
      have t8 : W0.cell? _ = _ := carry hb0 hTw t8
      have hG0 : G < W0.heap.size := Nat.lt_of_lt_of_le hG hb0.size
      have hT0 : T < W0.heap.size := Nat.lt_of_lt_of_le hTw hb0.size
      have hl0 : w.heap.size < W0.heap.size := by omega
      have hl1 : w.heap.size + 1 < W0.heap.size := by omega
      have hb0 := Lib.hid hb0
      clear hW0 hs0
      go_region
      go_wp2_with fail
      obtain ⟨W3, hW3, hb3⟩ : ∃ W, W = (W0.alloc (.cells #[.int .i64 xk, .int .i64 xa, .int .i64 xb, .int .i64 xc, .int .i64 xn, .int .i64 xx, .int .i64 xy, .int .i64 xz, .int .i64 xw] 37)).drew ∧ Below W0.heap.size W0 W := ⟨_, rfl, by (repeat' (first | with_reducible exact Below.refl _ _ | with_reducible assumption | with_reducible apply Below.setCell | with_reducible apply Below.alloc | with_reducible apply Below.drew | with_reducible apply below_drewN | with_reducible exact Nat.le_refl _ | (simp; done) | (simp; omega) | omega | exact Nat.le_refl _))⟩
      rw [← hW3]
      refine (hap.out W3).mono ?_
      rintro e1 w1 ⟨rfl, hb1⟩
      have hB := Lib.hid (belT (belT hb0.out hb3) hb1)
      clear hb0 hb3 hW3 hb1 hap
      clear t0 t1 t2 t3 t4 t5 t6 t7 t8 f0 f1 f2 f3 f4 f5 f6 f7 v0 v1 v2 v3 v4 c3
      go_wp2_with fail
      go_region_with (refine (hnd.out o1 o2 _ (belT hB.out (by (repeat' (first | with_reducible exact Below.refl _ _ | with_reducible assumption | with_reducible apply Below.setCell | with_reducible apply Below.alloc | with_reducible apply Below.drew | with_reducible apply below_drewN | with_reducible exact Nat.le_refl _ | (simp; done) | (simp; omega) | omega | exact Nat.le_refl _))))).mono ?_; rintro e2 w2 ⟨rfl, hf⟩)
      all_goals
        go_wp2_with fail
        all_goals go_end0
        all_goals exact ⟨rfl, hf⟩
theorem second_any (B G : Nat) (tv fv sv : Value) (c : Mc) (l : List Fr) (ts : List Tg) (w : World) (stk : List RF) (f : RF) (x : Fr) (v : RV) (t : Th) (h : Hid (Wk B G tv fv sv c l ts stk f x v t w)) {L : Int} {K : Nat} (hp : (ndT ts f.node).k ≠ 10 → 0 ≤ (ndT ts f.node).n ∧ (ndT ts f.node).n ≤ 5) (hu : f.val.fit L K) (hv : v.fit L K) :
    Calls Try.prog 75 #[.pointer (some ⟨G, 0, none⟩), x.val, t.val] w (NsP c.w0 B G tv fv (rSecond (ndT ts f.node) f v stk)) := by
  by_cases hk : (ndT ts f.node).k = 10
  · exact second_op B G tv fv sv c l ts w stk f x v t h hk
  · rcases rr_num h.out.fr.2.2.2 with ⟨h0, hf⟩ | ⟨h0, hf⟩
    · rcases rr_num h.out.vl with ⟨h1, hg⟩ | ⟨h1, hg⟩
      · refine second_yes B G tv fv sv c l ts w stk f x v t h hk (hp hk) h0 h1 hf hg ?_ ?_
        · rw [hf] at hu; exact hu
        · rw [hg] at hv; exact hv
      · exact second_no2 B G tv fv sv c l ts w stk f x v t h hk h0 h1 hg
    · exact second_no1 B G tv fv sv c l ts w stk f x v t h hk h0 hf
end Go.Proofs.Ytnjalpcmjkahkaa
