/- The machine of layer 21: a step at a node whose A comes first. -/
import Derived.Test.YtnjalpcmjkahkaaZt27
set_option maxRecDepth 100000
set_option maxHeartbeats 8000000
namespace Go.Proofs.Ytnjalpcmjkahkaa
open Go.RowKit
set_option linter.unusedVariables false
set_option linter.unusedSimpArgs false
theorem MRc.new {B G : Nat} {tv fv sv : Value} {c : Mc} {l : List Fr} {w : World} (h : MRc B G tv fv sv c l w) : ¬ Bp G sv w.heap.size := fun hs => by
 rcases hs with hs | hs
 ·have := h.mc.lt; omega
 ·have := (own_lt h.own _ hs).2; omega
theorem nodeStep_go (B G : Nat) (tv fv sv : Value) (c : Mc) (l : List Fr) (ts : List Tg) (fur : List Int) (w : World) (stk : List RF) (i : Nat) (env : RV)
  (h : Hid (MRc B G tv fv sv c l w)) (hv : Hid (MRv G sv c l w (.ev stk i env))) (ht : Hid (TvR B G w tv ts)) (hi : i < ts.length) (hsl : stk.length ≤ 4096)
  (hk : (ts.getD i tg0).k ≠ 0 ∧ (ts.getD i tg0).k ≠ 1 ∧ (ts.getD i tg0).k ≠ 2 ∧ (ts.getD i tg0).k ≠ 3 ∧ (ts.getD i tg0).k ≠ 4) :
  Calls Try.prog 73 #[.pointer (some ⟨G, 0, none⟩)] w (NsP c.w0 B G tv fv (rNode (ts.getD i tg0) (fur.getD i 0) stk i env)) := by
 rw [rNode_go hk]
 obtain ⟨T, off, cp, rfl, hTB, hTG, hTw, hT⟩ := ht.out
 obtain ⟨he, hhv, hnd, hst, e, hE, hR⟩ := hv.out
 have hent := Lib.hid fun (W : World) (sv : Value) (n : Int) (p : Option Addr) (hh : Hid (McC W G (.slice (some ⟨T, off, none⟩) ts.length cp) fv sv c)) => enter_any W G _ fv sv c n p hh
 have hpush := Lib.hid fun (W : World) (f : Fr) (h1 : MRc B G (.slice (some ⟨T, off, none⟩) ts.length cp) fv sv c l W) => push_any B G _ fv sv l c f W (Lib.hid h1.mc) (Lib.hid h1.own) ⟨h1.gB, h1.bl⟩ (by rw [hst.len]; omega) h1.kS
 have hG := h.out.mc.lt
 have c3 := h.out.mc.c3; have c12 := h.out.mc.c12; have c13 := h.out.mc.c13; have hfz := h.out.mc.fz
 rw [hnd] at c12
 obtain ⟨x, hx⟩ : ∃ x, ts.getD i tg0 = x := ⟨_, rfl⟩
 have hx0 := hT i hi
 rw [hx] at hx0 hk ⊢
 obtain ⟨xk, xa, xb, xc, xn, xx, xy, xz, xw⟩ := x
 obtain ⟨t0, t1, t2, t3, t4, t5, t6, t7, t8⟩ := hx0
 dsimp only at hk t0 t1 t2 t3 t4 t5 t6 t7 t8 ⊢
 obtain ⟨k0, k1, k2, k3, k4⟩ := hk
 clear hT hE hR hst he hhv hx
 go_enter Try.func73, Try.ntmps73
 go_wp2_with fail
 go_region
 go_wp2_with fail
 obtain ⟨W1, hW1, hb1⟩ : ∃ W1, W1 = (w.alloc (.cells #[.int .i64 xk, .int .i64 xa, .int .i64 xb, .int .i64 xc, .int .i64 xn, .int .i64 xx, .int .i64 xy, .int .i64 xz, .int .i64 xw] 37)).drew.drew ∧ Below w.heap.size w W1 := ⟨_, rfl, by (repeat' (first | (with_reducible first | exact bR _ _ | assumption | apply bS | apply bA | apply bD | apply bN | exact bL _) | (simp; done) | (simp; omega) | omega | exact bL _))⟩
 have h1 := h.out.below hb1
 have hv1 := hv.out.below hb1
 have n1 : W1.cell? ⟨w.heap.size, 1, none⟩ = some (.int .i64 xa) := by rw [hW1]; simp [go_sem]
 have hnB : ¬ Bp G sv w.heap.size := h.out.new
 have hwl : w.heap.size < W1.heap.size := by rw [hW1]; simp
 have hp := hpush.out W1 ⟨0, i, c.en, th0⟩ h1
 rw [hW1] at hp
 have hp := Lib.hid hp
 have h1 := Lib.hid h1
 have hv1 := Lib.hid hv1
 clear hfz t0 t1 t2 t3 t4 t5 t6 t7 t8
 go_region_with (refine hp.out.mono ?_; intro e1 w1 hpp; obtain ⟨sv2, rfl, h2, hbp, hsv, hstk⟩ := mr_push h1.out (by rw [hW1]; exact hpp))
 all_goals
  clear hpp hp
  have n1 : w1.cell? _ = _ := hbp.cell n1 hnB
  have hwl2 : w.heap.size < w1.heap.size := Nat.lt_of_lt_of_le hwl hbp.size
  obtain ⟨he, _, _, hst, e, hE, hR⟩ := hv1.out
  have hst2 := hstk (f := ⟨0, i, env, .num 0⟩) hst ⟨rfl, rfl, ⟨e, hE, hR⟩, rfl⟩
  have hE2 : EnR w1 (.pointer c.en) e := hE.bar hbp h1.out.enF
  have hR2 := hR.step hbp h1.out.enF hsv
  have c13 := h2.mc.c13
  have hG2 := h2.mc.lt
  have hen := Lib.hid fun (W : World) (hb : Below w1.heap.size w1 W) => hent.out W sv2 xa c.en (Lib.hid (h2.mc.below hb))
  have hfin := Lib.hid fun (W w3 : World) (hb : Below w1.heap.size w1 W) (hm : McC w3 G _ fv sv2 { c with hv := false, nd := xa, en := c.en }) (hb2 : Bar (Bq G) W w3) => mr_ev (h2.below hb) he (hst2.below hb) (hE2.below hb) (hR2.below hb) hm hb2
  clear h2 hE hR hst hst2 hE2 hR2 he hbp hsv hstk hv1 h1 hent hpush hW1 hb1 hwl hnB c3 c12
  go_wp2_with fail
  go_region_with (refine (hen.out _ (by (repeat' (first | (with_reducible first | exact bR _ _ | assumption | apply bS | apply bA | apply bD | apply bN | exact bL _) | (simp; done) | (simp; omega) | omega | exact bL _)))).mono ?_; rintro e1 w3 ⟨rfl, h3, h4⟩; have hfin := Lib.hid (hfin.out _ _ (by (repeat' (first | (with_reducible first | exact bR _ _ | assumption | apply bS | apply bA | apply bD | apply bN | exact bL _) | (simp; done) | (simp; omega) | omega | exact bL _))) h3 h4))
  all_goals
   go_wp2_with fail
   all_goals go_end0
   all_goals exact ⟨rfl, hfin.out⟩
open Go.RowKit
structure Wk (B G : Nat) (tv fv sv : Value) (c : Mc) (l : List Fr) (ts : List Tg) (stk : List RF) (f : RF) (x : Fr) (v : RV) (t : Th) (w : World) : Prop where
 mr : MRc B G tv fv sv c l w
 no : c.ended = false
 st : StR (Bp G sv) w stk l
 fr : FrR (Bp G sv) w f x
 vl : RR (Bp G sv) w v (.inl t)
 tv : TvR B G w tv ts
 nd : 0 ≤ f.node ∧ f.node < ts.length
theorem TvR.below {B G : Nat} {w w' : World} {tv : Value} {ts : List Tg} (h : TvR B G w tv ts) (hb : Below w.heap.size w w') : TvR B G w' tv ts := by
 obtain ⟨T, off, c, h1, h2, h3, h4, h5⟩ := h
 exact ⟨T, off, c, h1, h2, h3, Nat.lt_of_lt_of_le h4 hb.size, h5.below hb h4⟩
theorem Wk.below {B G : Nat} {tv fv sv : Value} {c : Mc} {l : List Fr} {ts : List Tg} {stk : List RF} {f : RF} {x : Fr} {v : RV} {t : Th} {w w' : World} (h : Wk B G tv fv sv c l ts stk f x v t w) (hb : Below w.heap.size w w') : Wk B G tv fv sv c l ts stk f x v t w' :=
 ⟨h.mr.below hb, h.no, h.st.below hb, h.fr.below hb, h.vl.below hb, h.tv.below hb, h.nd⟩
theorem Wk.open {B G : Nat} {tv fv sv : Value} {c : Mc} {l : List Fr} {ts : List Tg} {stk : List RF} {f : RF} {x : Fr} {v : RV} {t : Th} {w : World} (h : Wk B G tv fv sv c l ts stk f x v t w) :
  ∃ (T off cp i : Nat), tv = .slice (some ⟨T, off, none⟩) ts.length cp ∧ T < w.heap.size ∧ G < w.heap.size ∧ w.cell? ⟨G, 3, none⟩ = some (.slice (some ⟨T, off, none⟩) ts.length cp) ∧ i < ts.length ∧ f.node = (i : Int) ∧ x.nd = (i : Int) ∧ TgAt w T off (ndT ts f.node) i ∧ ∀ o, w.frozen? ⟨G, o, none⟩ = false := by
 obtain ⟨T, off, cp, rfl, _, _, hw, hs⟩ := h.tv
 have h3 := h.mr.mc.c3
 obtain ⟨n0, n1⟩ := h.nd
 refine ⟨T, off, cp, f.node.toNat, rfl, hw, h.mr.mc.lt, h3, by omega, by omega, by rw [h.fr.2.1]; omega, ?_, h.mr.mc.fz⟩
 exact hs f.node.toNat (by omega)
theorem rr_tru {A : Nat → Prop} {W : World} {v : RV} {t : Th} (h : RR A W v (.inl t)) : (t.a = 1 ∧ v = .tru t.b) ∨ (t.a ≠ 1 ∧ ∀ T stk e, rIf T stk e v = .en 5 0) := by
 cases v with
 | num n => cases h; exact .inr ⟨by show (0 : Int) ≠ 1; decide, fun _ _ _ => rfl⟩
 | tru n => cases h; exact .inl ⟨rfl, rfl⟩
 | fn n e => obtain ⟨c, l, h, _⟩ := h; cases h; exact .inr ⟨by show (2 : Int) ≠ 1; decide, fun _ _ _ => rfl⟩
 | bnd n e f => obtain ⟨c, l, d, u, h, _⟩ := h; cases h; exact .inr ⟨by show (3 : Int) ≠ 1; decide, fun _ _ _ => rfl⟩
 | fwd f g => obtain ⟨d, u, e, x, h, _⟩ := h; cases h; exact .inr ⟨by show (4 : Int) ≠ 1; decide, fun _ _ _ => rfl⟩
 | ret u => obtain ⟨d, x, h, _⟩ := h; cases h; exact .inr ⟨by show (5 : Int) ≠ 1; decide, fun _ _ _ => rfl⟩
 | op n u f => obtain ⟨d, u, e, x, h, _⟩ := h; cases h; exact .inr ⟨by show (6 : Int) ≠ 1; decide, fun _ _ _ => rfl⟩
 | nil => cases h
 | cons u r => obtain ⟨u, l, h, _⟩ := h; cases h
theorem Wk.stuck {B G : Nat} {tv fv sv : Value} {c : Mc} {l : List Fr} {ts : List Tg} {stk : List RF} {f : RF} {x : Fr} {v : RV} {t : Th} {w : World} (h : Wk B G tv fv sv c l ts stk f x v t w) :
  ∀ W, Below w.heap.size w W → Calls Try.prog 78 #[.pointer (some ⟨G, 0, none⟩)] W fun e w' => e = .returned (.tuple #[]) ∧ MR c.w0 B G tv fv (.en 5 0) w' := fun W hb => by
 refine (stuck_any W G tv fv sv c (Lib.hid (h.below hb).mr.mc)).mono ?_
 rintro e w1 ⟨rfl, h1, h2⟩
 exact ⟨rfl, mr_en (h.below hb).mr h1 h2⟩
theorem Wk.enter {B G : Nat} {tv fv sv : Value} {c : Mc} {l : List Fr} {ts : List Tg} {stk : List RF} {f : RF} {x : Fr} {v : RV} {t : Th} {w : World} (h : Wk B G tv fv sv c l ts stk f x v t w) {env : RV} {p : Option Addr} (n : Int) :
  ∀ W, Below w.heap.size w W → (∃ e, EnR W (.pointer p) e ∧ RR (Bp G sv) W env (.inr e)) → Calls Try.prog 17 #[.pointer (some ⟨G, 0, none⟩), .int .i64 n, .agg #[.pointer p]] W fun e w' => e = .returned (.tuple #[]) ∧ MR c.w0 B G tv fv (.ev stk n env) w' ∧ Bar (Bq G) W w' ∧ w'.cell? ⟨G, 3, none⟩ = some tv := fun W hb he => by
 obtain ⟨e, hE, hR⟩ := he
 have h1 := h.below hb
 refine (enter_any W G tv fv sv c n p (Lib.hid h1.mr.mc)).mono ?_
 rintro e w1 ⟨rfl, h2, h3⟩
 exact ⟨rfl, mr_ev h1.mr h.no h1.st hE hR h2 h3, h3, h2.c3⟩
theorem Wk.give {B G : Nat} {tv fv sv : Value} {c : Mc} {l : List Fr} {ts : List Tg} {stk : List RF} {f : RF} {x : Fr} {v : RV} {t : Th} {w : World} (h : Wk B G tv fv sv c l ts stk f x v t w) {u : RV} (y : Th) :
  ∀ W, Below w.heap.size w W → RR (Bp G sv) W u (.inl y) → Calls Try.prog 79 #[.pointer (some ⟨G, 0, none⟩), .agg #[.int .i64 y.a, .int .i64 y.b, .pointer y.c, .pointer y.d, .pointer y.e]] W fun e w' => e = .returned (.tuple #[]) ∧ MR c.w0 B G tv fv (.gv stk u) w' ∧ Bar (Bq G) W w' ∧ w'.cell? ⟨G, 3, none⟩ = some tv := fun W hb he => by
 have h1 := h.below hb
 refine (give_any W G tv fv sv c y (Lib.hid h1.mr.mc)).mono ?_
 rintro e w1 ⟨rfl, h2, h3⟩
 exact ⟨rfl, mr_gv h1.mr h.no h1.st he h2 h3, h3, h2.c3⟩
theorem rIf_y {T : Tg} {stk : List RF} {e : RV} {z : Int} (h : z = 1) : rIf T stk e (.tru z) = .ev stk T.b e := by unfold rIf; subst h; rfl
theorem rIf_n {T : Tg} {stk : List RF} {e : RV} {z : Int} (h : ¬ z = 1) : rIf T stk e (.tru z) = .ev stk T.c e := by unfold rIf; dsimp only; rw [if_neg h]
theorem bx_fv {w W0 : World} {s n a b z0 z1 : Int} {p c d e z2 z3 z4 : Option Addr} {F V : TypeId} (h : (w.alloc (.cells #[.int .i64 s, .int .i64 n, .pointer p, .int .i64 a, .int .i64 b, .pointer c, .pointer d, .pointer e] F)).alloc (.cells #[.int .i64 z0, .int .i64 z1, .pointer z2, .pointer z3, .pointer z4] V) = W0) :
  Below w.heap.size w W0 ∧ W0.heap.size = w.heap.size + 2 ∧
  (W0.cell? ⟨w.heap.size, 0, none⟩ = some (.int .i64 s) ∧ W0.cell? ⟨w.heap.size, 1, none⟩ = some (.int .i64 n) ∧ W0.cell? ⟨w.heap.size, 2, none⟩ = some (.pointer p) ∧ W0.cell? ⟨w.heap.size, 3, none⟩ = some (.int .i64 a) ∧ W0.cell? ⟨w.heap.size, 4, none⟩ = some (.int .i64 b) ∧ W0.cell? ⟨w.heap.size, 5, none⟩ = some (.pointer c) ∧ W0.cell? ⟨w.heap.size, 6, none⟩ = some (.pointer d) ∧ W0.cell? ⟨w.heap.size, 7, none⟩ = some (.pointer e)) ∧
  (W0.cell? ⟨w.heap.size + 1, 0, none⟩ = some (.int .i64 z0) ∧ W0.cell? ⟨w.heap.size + 1, 1, none⟩ = some (.int .i64 z1) ∧ W0.cell? ⟨w.heap.size + 1, 2, none⟩ = some (.pointer z2) ∧ W0.cell? ⟨w.heap.size + 1, 3, none⟩ = some (.pointer z3) ∧ W0.cell? ⟨w.heap.size + 1, 4, none⟩ = some (.pointer z4)) := by
 subst h
 refine ⟨by (repeat' (first | (with_reducible first | exact bR _ _ | assumption | apply bS | apply bA | apply bD | apply bN | exact bL _) | (simp; done) | (simp; omega) | omega | exact bL _)), by simp, ?_, ?_⟩
 ·exact ⟨by simp [go_sem], by simp [go_sem], by simp [go_sem], by simp [go_sem], by simp [go_sem], by simp [go_sem], by simp [go_sem], by simp [go_sem]⟩
 ·exact ⟨by simp [go_sem], by simp [go_sem], by simp [go_sem], by simp [go_sem], by simp [go_sem]⟩
theorem choose_any (B G : Nat) (tv fv sv : Value) (c : Mc) (l : List Fr) (ts : List Tg) (w : World) (stk : List RF) (f : RF) (x : Fr) (v : RV) (t : Th) (h : Hid (Wk B G tv fv sv c l ts stk f x v t w)) :
  Calls Try.prog 82 #[.pointer (some ⟨G, 0, none⟩), x.val, t.val] w (NsP c.w0 B G tv fv (rIf (ndT ts f.node) stk f.env v)) := by
 have hrt := rr_tru h.out.vl
 have hst := Lib.hid h.out.stuck
 have hen := Lib.hid fun n W hb => h.out.enter (env := f.env) (p := x.en) n W hb
 have henv := Lib.hid fun W hb => (h.out.below (w' := W) hb).fr.2.2.1
 obtain ⟨T, off, cp, i, rfl, hTw, hG, c3, hi, hfi, hxi, hT, hfz⟩ := h.out.open
 obtain ⟨n, hn⟩ : ∃ n, ndT ts f.node = n := ⟨_, rfl⟩
 rw [hn] at hT ⊢
 clear h hn
 obtain ⟨xst, xnd, xen, ⟨y0, y1, y2, y3, y4⟩⟩ := x
 obtain ⟨xk, xa, xb, xc, xn, xx, xy, xz, xw⟩ := n
 obtain ⟨z0, z1, z2, z3, z4⟩ := t
 obtain ⟨t0, t1, t2, t3, t4, t5, t6, t7, t8⟩ := hT
 dsimp only at hxi hrt hen henv t0 t1 t2 t3 t4 t5 t6 t7 t8
 subst hxi
 unfold Fr.val Th.val
 dsimp only
 rcases hrt with ⟨rfl, rfl⟩ | ⟨hne, he⟩
 ·by_cases h1 : z1 = 1
  ·rw [rIf_y h1]
   subst h1
   dsimp only
   go_enter Try.func82, Try.ntmps82
   go_wp2_with fail
   obtain ⟨W0, hW0⟩ : ∃ W, (w.alloc (.cells #[.int .i64 xst, .int .i64 i, .pointer xen, .int .i64 y0, .int .i64 y1, .pointer y2, .pointer y3, .pointer y4] 129)).alloc (.cells #[.int .i64 1, .int .i64 1, .pointer z2, .pointer z3, .pointer z4] 56) = W := ⟨_, rfl⟩
   rw [hW0]
   obtain ⟨hb0, hs0, ⟨f0, f1, f2, f3, f4, f5, f6, f7⟩, ⟨v0, v1, v2, v3, v4⟩⟩ := bx_fv hW0
   have c3 : W0.cell? _ = _ := carry hb0 hG c3
   have t0 : W0.cell? _ = _ := carry hb0 hTw t0
   have t1 : W0.cell? _ = _ := carry hb0 hTw t1
   have t2 : W0.cell? _ = _ := carry hb0 hTw t2
   have t3 : W0.cell? _ = _ := carry hb0 hTw t3
   have t4 : W0.cell? _ = _ := carry hb0 hTw t4
   have t5 : W0.cell? _ = _ := carry hb0 hTw t5
   have t6 : W0.cell? _ = _ := carry hb0 hTw t6
   have t7 : W0.cell? _ = _ := carry hb0 hTw t7
   have t8 : W0.cell? _ = _ := carry hb0 hTw t8
   have hG0 : G < W0.heap.size := Nat.lt_of_lt_of_le hG hb0.size
   have hT0 : T < W0.heap.size := Nat.lt_of_lt_of_le hTw hb0.size
   have hl0 : w.heap.size < W0.heap.size := by omega
   have hl1 : w.heap.size + 1 < W0.heap.size := by omega
   have hb0 := Lib.hid hb0
   clear hW0 hs0
   go_region
   go_wp2_with fail
   refine (hen.out xb _ (belT hb0.out (by (repeat' (first | (with_reducible first | exact bR _ _ | assumption | apply bS | apply bA | apply bD | apply bN | exact bL _) | (simp; done) | (simp; omega) | omega | exact bL _)))) (henv.out _ (belT hb0.out (by (repeat' (first | (with_reducible first | exact bR _ _ | assumption | apply bS | apply bA | apply bD | apply bN | exact bL _) | (simp; done) | (simp; omega) | omega | exact bL _)))))).mono ?_
   rintro e1 w1 ⟨rfl, hf, _, _⟩
   go_wp2_with fail
   all_goals go_end0
   all_goals exact ⟨rfl, hf⟩
  ·rw [rIf_n h1]
   dsimp only
   go_enter Try.func82, Try.ntmps82
   go_wp2_with fail
   obtain ⟨W0, hW0⟩ : ∃ W, (w.alloc (.cells #[.int .i64 xst, .int .i64 i, .pointer xen, .int .i64 y0, .int .i64 y1, .pointer y2, .pointer y3, .pointer y4] 129)).alloc (.cells #[.int .i64 1, .int .i64 z1, .pointer z2, .pointer z3, .pointer z4] 56) = W := ⟨_, rfl⟩
   rw [hW0]
   obtain ⟨hb0, hs0, ⟨f0, f1, f2, f3, f4, f5, f6, f7⟩, ⟨v0, v1, v2, v3, v4⟩⟩ := bx_fv hW0
   have c3 : W0.cell? _ = _ := carry hb0 hG c3
   have t0 : W0.cell? _ = _ := carry hb0 hTw t0
   have t1 : W0.cell? _ = _ := carry hb0 hTw t1
   have t2 : W0.cell? _ = _ := carry hb0 hTw t2
   have t3 : W0.cell? _ = _ := carry hb0 hTw t3
   have t4 : W0.cell? _ = _ := carry hb0 hTw t4
   have t5 : W0.cell? _ = _ := carry hb0 hTw t5
   have t6 : W0.cell? _ = _ := carry hb0 hTw t6
   have t7 : W0.cell? _ = _ := carry hb0 hTw t7
   have t8 : W0.cell? _ = _ := carry hb0 hTw t8
   have hG0 : G < W0.heap.size := Nat.lt_of_lt_of_le hG hb0.size
   have hT0 : T < W0.heap.size := Nat.lt_of_lt_of_le hTw hb0.size
   have hl0 : w.heap.size < W0.heap.size := by omega
   have hl1 : w.heap.size + 1 < W0.heap.size := by omega
   have hb0 := Lib.hid hb0
   clear hW0 hs0
   go_region
   go_wp2_with fail
   refine (hen.out xc _ (belT hb0.out (by (repeat' (first | (with_reducible first | exact bR _ _ | assumption | apply bS | apply bA | apply bD | apply bN | exact bL _) | (simp; done) | (simp; omega) | omega | exact bL _)))) (henv.out _ (belT hb0.out (by (repeat' (first | (with_reducible first | exact bR _ _ | assumption | apply bS | apply bA | apply bD | apply bN | exact bL _) | (simp; done) | (simp; omega) | omega | exact bL _)))))).mono ?_
   rintro e1 w1 ⟨rfl, hf, _, _⟩
   go_wp2_with fail
   all_goals go_end0
   all_goals exact ⟨rfl, hf⟩
 ·rw [he]
  go_enter Try.func82, Try.ntmps82
  go_wp2_with fail
  obtain ⟨W0, hW0⟩ : ∃ W, (w.alloc (.cells #[.int .i64 xst, .int .i64 i, .pointer xen, .int .i64 y0, .int .i64 y1, .pointer y2, .pointer y3, .pointer y4] 129)).alloc (.cells #[.int .i64 z0, .int .i64 z1, .pointer z2, .pointer z3, .pointer z4] 56) = W := ⟨_, rfl⟩
  rw [hW0]
  obtain ⟨hb0, hs0, ⟨f0, f1, f2, f3, f4, f5, f6, f7⟩, ⟨v0, v1, v2, v3, v4⟩⟩ := bx_fv hW0
  have c3 : W0.cell? _ = _ := carry hb0 hG c3
  have t0 : W0.cell? _ = _ := carry hb0 hTw t0
  have t1 : W0.cell? _ = _ := carry hb0 hTw t1
  have t2 : W0.cell? _ = _ := carry hb0 hTw t2
  have t3 : W0.cell? _ = _ := carry hb0 hTw t3
  have t4 : W0.cell? _ = _ := carry hb0 hTw t4
  have t5 : W0.cell? _ = _ := carry hb0 hTw t5
  have t6 : W0.cell? _ = _ := carry hb0 hTw t6
  have t7 : W0.cell? _ = _ := carry hb0 hTw t7
  have t8 : W0.cell? _ = _ := carry hb0 hTw t8
  have hG0 : G < W0.heap.size := Nat.lt_of_lt_of_le hG hb0.size
  have hT0 : T < W0.heap.size := Nat.lt_of_lt_of_le hTw hb0.size
  have hl0 : w.heap.size < W0.heap.size := by omega
  have hl1 : w.heap.size + 1 < W0.heap.size := by omega
  have hb0 := Lib.hid hb0
  clear hW0 hs0
  go_region
  go_wp2_with fail
  refine (hst.out _ (belT hb0.out (by (repeat' (first | (with_reducible first | exact bR _ _ | assumption | apply bS | apply bA | apply bD | apply bN | exact bL _) | (simp; done) | (simp; omega) | omega | exact bL _))))).mono ?_
  rintro e1 w1 ⟨rfl, hf⟩
  go_wp2_with fail
  all_goals go_end0
  all_goals exact ⟨rfl, hf⟩
end Go.Proofs.Ytnjalpcmjkahkaa
