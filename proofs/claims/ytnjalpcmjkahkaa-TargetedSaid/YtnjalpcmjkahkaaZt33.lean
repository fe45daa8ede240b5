/- The machine of layer 21: a value for a function that is no lambda. -/
import Derived.Test.YtnjalpcmjkahkaaZt32
set_option maxRecDepth 100000
set_option maxHeartbeats 8000000
namespace Go.Proofs.Ytnjalpcmjkahkaa
open Go.RowKit
set_option linter.unusedVariables false
set_option linter.unusedSimpArgs false
structure Ak (B G : Nat) (tv fv sv : Value) (c : Mc) (l : List Fr) (ts : List Tg) (stk : List RF) (g v : RV) (t s : Th) (w : World) : Prop where
 mr : MRc B G tv fv sv c l w
 no : c.ended = false
 st : StR (Bp G sv) w stk l
 fl : RR (Bp G sv) w g (.inl t)
 vl : RR (Bp G sv) w v (.inl s)
 tv : TvR B G w tv ts
theorem Ak.below {B G : Nat} {tv fv sv : Value} {c : Mc} {l : List Fr} {ts : List Tg} {stk : List RF} {g v : RV} {t s : Th} {w w' : World} (h : Ak B G tv fv sv c l ts stk g v t s w) (hb : Below w.heap.size w w') : Ak B G tv fv sv c l ts stk g v t s w' :=
 ⟨h.mr.below hb, h.no, h.st.below hb, h.fl.below hb, h.vl.below hb, h.tv.below hb⟩
theorem TvR.bar {B G : Nat} {w w' : World} {tv sv : Value} {ts : List Tg} {l : List Fr} (h : TvR B G w tv ts) (ho : OwnF B w sv l) (hb : Bar (Bp G sv) w w') : TvR B G w' tv ts := by
 obtain ⟨T, off, c, h1, h2, h3, h4, h5⟩ := h
 have hn : ¬ Bp G sv T := fun e => by
  rcases e with e | e
  ·exact h3 e
  ·have := (own_lt ho _ e).1; omega
 exact ⟨T, off, c, h1, h2, h3, Nat.lt_of_lt_of_le h4 hb.size, fun i hi => by
  obtain ⟨a0, a1, a2, a3, a4, a5, a6, a7, a8⟩ := h5 i hi
  exact ⟨hb.cell a0 hn, hb.cell a1 hn, hb.cell a2 hn, hb.cell a3 hn, hb.cell a4 hn, hb.cell a5 hn, hb.cell a6 hn, hb.cell a7 hn, hb.cell a8 hn⟩⟩
theorem Ak.push {B G : Nat} {tv fv sv : Value} {c : Mc} {l : List Fr} {ts : List Tg} {stk : List RF} {g v : RV} {t s : Th} {w : World} (h : Ak B G tv fv sv c l ts stk g v t s w) (hl : stk.length ≤ 5000) (fr : RF) (x : Fr) :
  ∀ W, Below w.heap.size w W → FrR (Bp G sv) W fr x → Calls Try.prog 80 #[.pointer (some ⟨G, 0, none⟩), x.val] W fun e w' => e = .returned (.tuple #[]) ∧ (∃ sv', Ak B G tv fv sv' c (l ++ [x]) ts (fr :: stk) g v t s w' ∧ ∀ g, sv'.ownBlock = some g → sv.ownBlock = some g ∨ W.heap.size ≤ g) ∧ Bar (Bp G sv) W w' := fun W hb hf => by
 have h1 := h.below hb
 refine (push_any B G tv fv sv l c x W (Lib.hid h1.mr.mc) (Lib.hid h1.mr.own) ⟨h1.mr.gB, h1.mr.bl⟩ (by rw [h1.st.len]; omega) h1.mr.kS).mono ?_
 intro e w1 hp
 obtain ⟨sv2, rfl, h2, hbp, hsv, hstk⟩ := mr_push h1.mr hp
 exact ⟨rfl, ⟨sv2, ⟨h2, h1.no, hstk h1.st hf, h1.fl.step hbp h1.mr.enF hsv, h1.vl.step hbp h1.mr.enF hsv, h1.tv.bar h1.mr.own hbp⟩, hsv⟩, hbp⟩
theorem Ak.give {B G : Nat} {tv fv sv : Value} {c : Mc} {l : List Fr} {ts : List Tg} {stk : List RF} {g v : RV} {t s : Th} {w : World} (h : Ak B G tv fv sv c l ts stk g v t s w) :
  ∀ W, Below w.heap.size w W → Calls Try.prog 79 #[.pointer (some ⟨G, 0, none⟩), .agg #[.int .i64 s.a, .int .i64 s.b, .pointer s.c, .pointer s.d, .pointer s.e]] W fun e w' => e = .returned (.tuple #[]) ∧ MR c.w0 B G tv fv (.gv stk v) w' := fun W hb => by
 have h1 := h.below hb
 refine (give_any W G tv fv sv c s (Lib.hid h1.mr.mc)).mono ?_
 rintro e w1 ⟨rfl, h2, h3⟩
 exact ⟨rfl, mr_gv h1.mr h.no h1.st h1.vl h2 h3⟩
theorem Ak.stuck {B G : Nat} {tv fv sv : Value} {c : Mc} {l : List Fr} {ts : List Tg} {stk : List RF} {g v : RV} {t s : Th} {w : World} (h : Ak B G tv fv sv c l ts stk g v t s w) :
  ∀ W, Below w.heap.size w W → Calls Try.prog 78 #[.pointer (some ⟨G, 0, none⟩)] W fun e w' => e = .returned (.tuple #[]) ∧ MR c.w0 B G tv fv (.en 5 0) w' := fun W hb => by
 have h1 := h.below hb
 refine (stuck_any W G tv fv sv c (Lib.hid h1.mr.mc)).mono ?_
 rintro e w1 ⟨rfl, h2, h3⟩
 exact ⟨rfl, mr_en h1.mr h2 h3⟩
theorem rr_fun {A : Nat → Prop} {W : World} {v : RV} {t : Th} (h : RR A W v (.inl t)) :
  (∃ n e c, v = .fn n e ∧ t = ⟨2, n, c, none, none⟩) ∨ (∃ n e f c d, v = .bnd n e f ∧ t = ⟨3, n, c, d, none⟩) ∨ (∃ f g d e, v = .fwd f g ∧ t = ⟨4, 0, none, d, e⟩) ∨
  ((t.a ≠ 2 ∧ t.a ≠ 3 ∧ t.a ≠ 4) ∧ ∀ ts u stk, rApply ts v u stk = .en 5 0) := by
 cases v with
 | num n => cases h; exact .inr (.inr (.inr ⟨⟨by show (0 : Int) ≠ 2; decide, by show (0 : Int) ≠ 3; decide, by show (0 : Int) ≠ 4; decide⟩, fun _ _ _ => rfl⟩))
 | tru n => cases h; exact .inr (.inr (.inr ⟨⟨by show (1 : Int) ≠ 2; decide, by show (1 : Int) ≠ 3; decide, by show (1 : Int) ≠ 4; decide⟩, fun _ _ _ => rfl⟩))
 | fn n e => obtain ⟨c, l, h, _⟩ := h; cases h; exact .inl ⟨n, e, c, rfl, rfl⟩
 | bnd n e f => obtain ⟨c, l, d, u, h, _⟩ := h; cases h; exact .inr (.inl ⟨n, e, f, c, d, rfl, rfl⟩)
 | fwd f g => obtain ⟨d, u, e, x, h, _⟩ := h; cases h; exact .inr (.inr (.inl ⟨f, g, d, e, rfl, rfl⟩))
 | ret u => obtain ⟨d, x, h, _⟩ := h; cases h; exact .inr (.inr (.inr ⟨⟨by show (5 : Int) ≠ 2; decide, by show (5 : Int) ≠ 3; decide, by show (5 : Int) ≠ 4; decide⟩, fun _ _ _ => rfl⟩))
 | op n u f => obtain ⟨d, u, e, x, h, _⟩ := h; cases h; exact .inr (.inr (.inr ⟨⟨by show (6 : Int) ≠ 2; decide, by show (6 : Int) ≠ 3; decide, by show (6 : Int) ≠ 4; decide⟩, fun _ _ _ => rfl⟩))
 | nil => cases h
 | cons u r => obtain ⟨u, l, h, _⟩ := h; cases h
theorem bnd_rep {A : Nat → Prop} {W : World} {n : Int} {e f : RV} {c d : Option Addr} (h : RR A W (.bnd n e f) (.inl ⟨3, n, c, d, none⟩)) : (∃ l, EnR W (.pointer c) l ∧ RR A W e (.inr l)) ∧ ∃ b o t, d = some ⟨b, o, none⟩ ∧ b < W.heap.size ∧ ThO W b o t ∧ RR A W f (.inl t) := by
 obtain ⟨c', l, d', t, hx, he, hr, ⟨b, o, hd, hb, _, ht⟩, hf⟩ := h
 injection hx with hx
 injection hx with _ _ e1 e2 _
 subst e1 e2
 exact ⟨⟨l, he, hr⟩, b, o, t, hd, hb, ht, hf⟩
theorem fwd_rep {A : Nat → Prop} {W : World} {f g : RV} {d e : Option Addr} (h : RR A W (.fwd f g) (.inl ⟨4, 0, none, d, e⟩)) : (∃ b o t, d = some ⟨b, o, none⟩ ∧ b < W.heap.size ∧ ThO W b o t ∧ RR A W f (.inl t)) ∧ ∃ b o t, e = some ⟨b, o, none⟩ ∧ b < W.heap.size ∧ ThO W b o t ∧ RR A W g (.inl t) := by
 obtain ⟨d', t, e', u, hx, ⟨b, o, hd, hb, _, ht⟩, hf, ⟨b2, o2, hd2, hb2, _, ht2⟩, hf2⟩ := h
 injection hx with hx
 injection hx with _ _ _ e1 e2
 subst e1 e2
 exact ⟨⟨b, o, t, hd, hb, ht, hf⟩, b2, o2, u, hd2, hb2, ht2, hf2⟩
theorem bx_vv {w W0 : World} {y0 y1 z0 z1 : Int} {y2 y3 y4 z2 z3 z4 : Option Addr} {F V : TypeId} (h : (w.alloc (.cells #[.int .i64 y0, .int .i64 y1, .pointer y2, .pointer y3, .pointer y4] F)).alloc (.cells #[.int .i64 z0, .int .i64 z1, .pointer z2, .pointer z3, .pointer z4] V) = W0) :
  Below w.heap.size w W0 ∧ W0.heap.size = w.heap.size + 2 ∧
  (W0.cell? ⟨w.heap.size, 0, none⟩ = some (.int .i64 y0) ∧ W0.cell? ⟨w.heap.size, 1, none⟩ = some (.int .i64 y1) ∧ W0.cell? ⟨w.heap.size, 2, none⟩ = some (.pointer y2) ∧ W0.cell? ⟨w.heap.size, 3, none⟩ = some (.pointer y3) ∧ W0.cell? ⟨w.heap.size, 4, none⟩ = some (.pointer y4)) ∧
  (W0.cell? ⟨w.heap.size + 1, 0, none⟩ = some (.int .i64 z0) ∧ W0.cell? ⟨w.heap.size + 1, 1, none⟩ = some (.int .i64 z1) ∧ W0.cell? ⟨w.heap.size + 1, 2, none⟩ = some (.pointer z2) ∧ W0.cell? ⟨w.heap.size + 1, 3, none⟩ = some (.pointer z3) ∧ W0.cell? ⟨w.heap.size + 1, 4, none⟩ = some (.pointer z4)) := by
 subst h
 refine ⟨by (repeat' (first | (with_reducible first | exact bR _ _ | assumption | apply bS | apply bA | apply bD | apply bN | exact bL _) | (simp; done) | (simp; omega) | omega | exact bL _)), by simp, ?_, ?_⟩
 ·exact ⟨by simp [go_sem], by simp [go_sem], by simp [go_sem], by simp [go_sem], by simp [go_sem]⟩
 ·exact ⟨by simp [go_sem], by simp [go_sem], by simp [go_sem], by simp [go_sem], by simp [go_sem]⟩
theorem apply_bnd (B G : Nat) (tv fv sv : Value) (c : Mc) (l : List Fr) (ts : List Tg) (w : World) (stk : List RF) (g v : RV) (t s : Th) (h : Hid (Ak B G tv fv sv c l ts stk g v t s w)) (hl : stk.length ≤ 4096) (n : Int) (env f : RV) (p d : Option Addr) (hg : g = .bnd n env f) (ht : t = ⟨3, n, p, d, none⟩) :
  Calls Try.prog 76 #[.pointer (some ⟨G, 0, none⟩), t.val, s.val] w (NsP c.w0 B G tv fv (rApply ts g v stk)) := by
 subst hg ht
 obtain ⟨z0, z1, z2, z3, z4⟩ := s
 unfold Th.val
 dsimp only
 have hG := h.out.mr.mc.lt
 go_enter Try.func76, Try.ntmps76
 go_wp2_with fail
 obtain ⟨W0, hW0⟩ : ∃ W, (w.alloc (.cells #[.int .i64 3, .int .i64 n, .pointer p, .pointer d, .pointer none] 56)).alloc (.cells #[.int .i64 z0, .int .i64 z1, .pointer z2, .pointer z3, .pointer z4] 56) = W := ⟨_, rfl⟩
 rw [hW0]
 obtain ⟨hb0, hs0, ⟨f0, f1, f2, f3, f4⟩, ⟨v0, v1, v2, v3, v4⟩⟩ := bx_vv hW0
 have hG0 : G < W0.heap.size := by omega
 have hl0 : w.heap.size < W0.heap.size := by omega
 have hl1 : w.heap.size + 1 < W0.heap.size := by omega
 clear hW0
 have h0 := h.out.below hb0
 have hnf : ¬ Bp G sv w.heap.size := h.out.mr.new
 have hnv : ¬ Bp G sv (w.heap.size + 1) := fun e => by
  rcases e with e | e
  ·omega
  ·have := (own_lt h.out.mr.own _ e).2; omega
 obtain ⟨q1, q2⟩ := bnd_rep h0.fl
 refine (h0.push (by omega) ⟨0, n, env, .num 0⟩ ⟨0, n, p, th0⟩ W0 (Below.refl _ _) ⟨rfl, rfl, q1, rfl⟩).mono ?_
 rintro e1 w1 ⟨rfl, ⟨sv1, h1, hs1⟩, hb1⟩
 have f0 : w1.cell? _ = _ := hb1.cell f0 hnf
 have f1 : w1.cell? _ = _ := hb1.cell f1 hnf
 have f2 : w1.cell? _ = _ := hb1.cell f2 hnf
 have f3 : w1.cell? _ = _ := hb1.cell f3 hnf
 have f4 : w1.cell? _ = _ := hb1.cell f4 hnf
 have v0 : w1.cell? _ = _ := hb1.cell v0 hnv
 have v1 : w1.cell? _ = _ := hb1.cell v1 hnv
 have v2 : w1.cell? _ = _ := hb1.cell v2 hnv
 have v3 : w1.cell? _ = _ := hb1.cell v3 hnv
 have v4 : w1.cell? _ = _ := hb1.cell v4 hnv
 have hG1 : G < w1.heap.size := h1.mr.mc.lt
 have hl2 : w.heap.size < w1.heap.size := Nat.lt_of_lt_of_le hl0 hb1.size
 have hl3 : w.heap.size + 1 < w1.heap.size := Nat.lt_of_lt_of_le hl1 hb1.size
 have hn1 : ¬ Bp G sv1 (w.heap.size + 1) := fun e => by
  rcases e with e | e
  ·omega
  ·rcases hs1 _ e with e | e
   ·exact hnv (.inr e)
   ·omega
 obtain ⟨q1, b, oo, tt, rfl, hbw, ⟨u0, u1, u2, u3, u4⟩, hr⟩ := bnd_rep h1.fl
 clear h0 hb0 hs0 hb1 hs1 hG0 hl0 hl1
 go_wp2_with fail
 refine (h1.push (by rw [List.length_cons]; omega) ⟨2, 0, .nil, f⟩ ⟨2, 0, none, tt⟩ w1 (Below.refl _ _) ⟨rfl, rfl, ⟨[], EnR.nil _, rfl⟩, hr⟩).mono ?_
 rintro e2 w2 ⟨rfl, ⟨sv2, h2, hs2⟩, hb2⟩
 clear f0 f1 f2 f3 f4 u0 u1 u2 u3 u4 hr hbw
 have v0 : w2.cell? _ = _ := hb2.cell v0 hn1
 have v1 : w2.cell? _ = _ := hb2.cell v1 hn1
 have v2 : w2.cell? _ = _ := hb2.cell v2 hn1
 have v3 : w2.cell? _ = _ := hb2.cell v3 hn1
 have v4 : w2.cell? _ = _ := hb2.cell v4 hn1
 have hG2 : G < w2.heap.size := h2.mr.mc.lt
 have hl4 : w.heap.size + 1 < w2.heap.size := Nat.lt_of_lt_of_le hl3 hb2.size
 go_wp2_with fail
 refine (h2.give w2 (Below.refl _ _)).mono ?_
 rintro e3 w3 ⟨rfl, hf⟩
 go_wp2_with fail
 all_goals go_end0
 all_goals exact ⟨rfl, hf⟩
theorem apply_fwd (B G : Nat) (tv fv sv : Value) (c : Mc) (l : List Fr) (ts : List Tg) (w : World) (stk : List RF) (g v : RV) (t s : Th) (h : Hid (Ak B G tv fv sv c l ts stk g v t s w)) (hl : stk.length ≤ 4096) (f k : RV) (d e : Option Addr) (hg : g = .fwd f k) (ht : t = ⟨4, 0, none, d, e⟩) :
  Calls Try.prog 76 #[.pointer (some ⟨G, 0, none⟩), t.val, s.val] w (NsP c.w0 B G tv fv (rApply ts g v stk)) := by
 subst hg ht
 obtain ⟨z0, z1, z2, z3, z4⟩ := s
 unfold Th.val
 dsimp only
 have hG := h.out.mr.mc.lt
 obtain ⟨⟨b9, o9, t9, rfl, _, _, _⟩, b, oo, tt, rfl, hbw, ⟨u0, u1, u2, u3, u4⟩, hr⟩ := fwd_rep h.out.fl
 go_enter Try.func76, Try.ntmps76
 go_wp2_with fail
 obtain ⟨W0, hW0⟩ : ∃ W, (w.alloc (.cells #[.int .i64 4, .int .i64 0, .pointer none, .pointer (some ⟨b9, o9, none⟩), .pointer (some ⟨b, oo, none⟩)] 56)).alloc (.cells #[.int .i64 z0, .int .i64 z1, .pointer z2, .pointer z3, .pointer z4] 56) = W := ⟨_, rfl⟩
 rw [hW0]
 obtain ⟨hb0, hs0, ⟨f0, f1, f2, f3, f4⟩, ⟨v0, v1, v2, v3, v4⟩⟩ := bx_vv hW0
 have hG0 : G < W0.heap.size := by omega
 have hl0 : w.heap.size < W0.heap.size := by omega
 have hl1 : w.heap.size + 1 < W0.heap.size := by omega
 clear hW0
 have h0 := h.out.below hb0
 have hnf : ¬ Bp G sv w.heap.size := h.out.mr.new
 have hnv : ¬ Bp G sv (w.heap.size + 1) := fun e => by
  rcases e with e | e
  ·omega
  ·have := (own_lt h.out.mr.own _ e).2; omega
 refine (h0.push (by omega) ⟨2, 0, .nil, k⟩ ⟨2, 0, none, tt⟩ W0 (Below.refl _ _) ⟨rfl, rfl, ⟨[], EnR.nil _, rfl⟩, hr.below hb0⟩).mono ?_
 rintro e1 w1 ⟨rfl, ⟨sv1, h1, hs1⟩, hb1⟩
 clear u0 u1 u2 u3 u4 hr hbw
 have f0 : w1.cell? _ = _ := hb1.cell f0 hnf
 have f1 : w1.cell? _ = _ := hb1.cell f1 hnf
 have f2 : w1.cell? _ = _ := hb1.cell f2 hnf
 have f3 : w1.cell? _ = _ := hb1.cell f3 hnf
 have f4 : w1.cell? _ = _ := hb1.cell f4 hnf
 have v0 : w1.cell? _ = _ := hb1.cell v0 hnv
 have v1 : w1.cell? _ = _ := hb1.cell v1 hnv
 have v2 : w1.cell? _ = _ := hb1.cell v2 hnv
 have v3 : w1.cell? _ = _ := hb1.cell v3 hnv
 have v4 : w1.cell? _ = _ := hb1.cell v4 hnv
 have hG1 : G < w1.heap.size := h1.mr.mc.lt
 have hl2 : w.heap.size < w1.heap.size := Nat.lt_of_lt_of_le hl0 hb1.size
 have hl3 : w.heap.size + 1 < w1.heap.size := Nat.lt_of_lt_of_le hl1 hb1.size
 have hn1 : ¬ Bp G sv1 (w.heap.size + 1) := fun e => by
  rcases e with e | e
  ·omega
  ·rcases hs1 _ e with e | e
   ·exact hnv (.inr e)
   ·omega
 obtain ⟨⟨b2, o2, tt2, hbb, hbw, ⟨u0, u1, u2, u3, u4⟩, hr⟩, _⟩ := fwd_rep h1.fl
 injection hbb with hbb; injection hbb with e8 e9; subst e8 e9
 clear h0 hb0 hs0 hb1 hs1 hG0 hl0 hl1
 go_wp2_with fail
 refine (h1.push (by rw [List.length_cons]; omega) ⟨2, 0, .nil, f⟩ ⟨2, 0, none, tt2⟩ w1 (Below.refl _ _) ⟨rfl, rfl, ⟨[], EnR.nil _, rfl⟩, hr⟩).mono ?_
 rintro e2 w2 ⟨rfl, ⟨sv2, h2, hs2⟩, hb2⟩
 clear f0 f1 f2 f3 f4 u0 u1 u2 u3 u4 hr hbw
 have v0 : w2.cell? _ = _ := hb2.cell v0 hn1
 have v1 : w2.cell? _ = _ := hb2.cell v1 hn1
 have v2 : w2.cell? _ = _ := hb2.cell v2 hn1
 have v3 : w2.cell? _ = _ := hb2.cell v3 hn1
 have v4 : w2.cell? _ = _ := hb2.cell v4 hn1
 have hG2 : G < w2.heap.size := h2.mr.mc.lt
 have hl4 : w.heap.size + 1 < w2.heap.size := Nat.lt_of_lt_of_le hl3 hb2.size
 go_wp2_with fail
 refine (h2.give w2 (Below.refl _ _)).mono ?_
 rintro e3 w3 ⟨rfl, hf⟩
 go_wp2_with fail
 all_goals go_end0
 all_goals exact ⟨rfl, hf⟩
theorem apply_no (B G : Nat) (tv fv sv : Value) (c : Mc) (l : List Fr) (ts : List Tg) (w : World) (stk : List RF) (g v : RV) (t s : Th) (h : Hid (Ak B G tv fv sv c l ts stk g v t s w)) (hn : t.a ≠ 2 ∧ t.a ≠ 3 ∧ t.a ≠ 4) (he : ∀ ts u stk, rApply ts g u stk = .en 5 0) :
  Calls Try.prog 76 #[.pointer (some ⟨G, 0, none⟩), t.val, s.val] w (NsP c.w0 B G tv fv (rApply ts g v stk)) := by
 rw [he]
 have hst := Lib.hid h.out.stuck
 have hG := h.out.mr.mc.lt
 obtain ⟨y0, y1, y2, y3, y4⟩ := t
 obtain ⟨hn2, hn3, hn4⟩ := hn
 dsimp only at hn2 hn3 hn4
 obtain ⟨z0, z1, z2, z3, z4⟩ := s
 unfold Th.val
 dsimp only
 clear h he
 go_enter Try.func76, Try.ntmps76
 go_wp2_with fail
 refine (hst.out _ (by (repeat' (first | (with_reducible first | exact bR _ _ | assumption | apply bS | apply bA | apply bD | apply bN | exact bL _) | (simp; done) | (simp; omega) | omega | exact bL _)))).mono ?_
 rintro e3 w3 ⟨rfl, hf⟩
 go_wp2_with fail
 all_goals go_end0
 all_goals exact ⟨rfl, hf⟩
open Go.RowKit
theorem with_rr {A : Nat → Prop} {W : World} {env u : RV} {p : Option Addr} {tu : Th} (hl : env.list.length ≤ 1000000000) (he : ∃ e, EnR W (.pointer p) e ∧ RR A W env (.inr e)) (hu : RR A W u (.inl tu)) :
  Calls Try.prog 81 #[.agg #[.pointer p], .agg #[.int .i64 tu.a, .int .i64 tu.b, .pointer tu.c, .pointer tu.d, .pointer tu.e]] W fun e w' => ∃ p', e = .returned (.agg #[.pointer p']) ∧ (∃ e, EnR w' (.pointer p') e ∧ RR A w' (.cons u env) (.inr e)) ∧ Below W.heap.size W w' := by
 obtain ⟨e, hE, hR⟩ := he
 refine (eWith_any W (.pointer p) e tu (Lib.hid hE) (by have := hR.len; omega)).mono ?_
 rintro e1 w1 ⟨p', rfl, h1, h2⟩
 exact ⟨p', rfl, ⟨_, h1, rr_cons (hu.below h2) (hR.below h2)⟩, h2⟩
theorem Ak.enter {B G : Nat} {tv fv sv : Value} {c : Mc} {l : List Fr} {ts : List Tg} {stk : List RF} {g v : RV} {t s : Th} {w : World} (h : Ak B G tv fv sv c l ts stk g v t s w) {env : RV} {p : Option Addr} (n : Int) :
  ∀ W, Below w.heap.size w W → (∃ e, EnR W (.pointer p) e ∧ RR (Bp G sv) W env (.inr e)) → Calls Try.prog 17 #[.pointer (some ⟨G, 0, none⟩), .int .i64 n, .agg #[.pointer p]] W fun e w' => e = .returned (.tuple #[]) ∧ MR c.w0 B G tv fv (.ev stk n env) w' ∧ Bar (Bq G) W w' ∧ w'.cell? ⟨G, 3, none⟩ = some tv := fun W hb he => by
 obtain ⟨e, hE, hR⟩ := he
 have h1 := h.below hb
 refine (enter_any W G tv fv sv c n p (Lib.hid h1.mr.mc)).mono ?_
 rintro e w1 ⟨rfl, h2, h3⟩
 exact ⟨rfl, mr_ev h1.mr h.no h1.st hE hR h2 h3, h3, h2.c3⟩
def Aw (G : Nat) (sv : Value) (g : Nat) : Nat → Prop := fun k => Bp G sv k ∨ k = g
theorem aw_up {G : Nat} {sv : Value} {g : Nat} {W : World} {v : RV} {x : Th ⊕ List Th} (h : RR (Bp G sv) W v x) (hg : W.heap.size ≤ g) : RR (Aw G sv g) W v x := h.wide fun k hk ha => by
 rcases ha with ha | ha
 ·exact ha
 ·omega
theorem aw_down {G : Nat} {sv : Value} {g : Nat} {W : World} {v : RV} {x : Th ⊕ List Th} (h : RR (Aw G sv g) W v x) : RR (Bp G sv) W v x := h.wide fun k _ ha => .inl ha
theorem aw_set {G : Nat} {sv : Value} {g : Nat} {W : World} {u : Value} (hT : TyAt W g 53) : Bar (fun k => k = g) W (W.setCell ⟨g, 0, none⟩ u) ∧ EnF (fun k => k = g) W ∧ ∀ k, k = g → Aw G sv g k :=
 ⟨Bar.set (S := fun k => k = g) ⟨g, 0, none⟩ u rfl, fun k hk => by subst hk; exact ⟨fun h2 => TyAt.ne hT h2 (by decide) rfl, fun h2 => TyAt.ne hT h2 (by decide) rfl⟩, fun k hk => .inr hk⟩
theorem ty_a {W : World} {o : Obj} {arr : Array Value} {T : TypeId} {g : Nat} (hg : g = W.heap.size + 1) : TyAt ((W.alloc o).alloc (.cells arr T)).drew g T := by
 subst hg
 have h := TyAt.new (W.alloc o) arr T
 rw [show (W.alloc o).heap.size = W.heap.size + 1 from by simp] at h
 exact h
theorem ty_b {W : World} {o : Obj} {arr : Array Value} {T : TypeId} : TyAt ((W.alloc (.cells arr T)).alloc o).drew W.heap.size T := (TyAt.new W arr T).bar (S := fun _ => False) (Bar.of_below (((Below.refl _ _).alloc (Nat.le_refl _) o).drew)) id
theorem rApply_fn {ts : List Tg} {n : Int} {env v : RV} {stk : List RF} : rApply ts (.fn n env) v stk = .ev stk (ndT ts n).a (.cons v (if (ndT ts n).k = 4 then .cons (.fn n env) env else env)) := rfl
theorem apply_fn (B G : Nat) (tv fv sv : Value) (c : Mc) (l : List Fr) (ts : List Tg) (w : World) (stk : List RF) (g v : RV) (t s : Th) (h : Hid (Ak B G tv fv sv c l ts stk g v t s w)) (n : Int) (env : RV) (p : Option Addr) (hg : g = .fn n env) (ht : t = ⟨2, n, p, none, none⟩) (hn : 0 ≤ n ∧ n < ts.length) (hel : env.list.length ≤ 900000000) :
  Calls Try.prog 76 #[.pointer (some ⟨G, 0, none⟩), t.val, s.val] w (NsP c.w0 B G tv fv (rApply ts g v stk)) := by
 subst hg ht
 rw [rApply_fn]
 obtain ⟨T, off, cp, rfl, hTB, hTG, hTw, hT⟩ := h.out.tv
 obtain ⟨i, rfl⟩ : ∃ i : Nat, n = i := ⟨n.toNat, by omega⟩
 have hi : i < ts.length := by omega
 have hx0 := hT i hi
 have hndi : ndT ts (i : Int) = ts.getD i tg0 := rfl
 rw [hndi]
 obtain ⟨x, hx⟩ : ∃ x, ts.getD i tg0 = x := ⟨_, rfl⟩
 rw [hx] at hx0 ⊢
 obtain ⟨xk, xa, xb, xc, xn, xx, xy, xz, xw⟩ := x
 obtain ⟨t0, t1, t2, t3, t4, t5, t6, t7, t8⟩ := hx0
 dsimp only at t0 t1 t2 t3 t4 t5 t6 t7 t8 ⊢
 obtain ⟨E, hE0⟩ : ∃ E, (if xk = 4 then RV.cons (.fn i env) env else env) = E := ⟨_, rfl⟩
 rw [hE0]
 have hE := Lib.hid hE0
 clear hE0
 have hG := h.out.mr.mc.lt
 have c3 := h.out.mr.mc.c3
 have hfn := Lib.hid fun W hb => (h.out.below (w' := W) hb).fl
 have hvl := Lib.hid fun W hb => (h.out.below (w' := W) hb).vl
 have hen := Lib.hid fun env p n W hb he => h.out.enter (env := env) (p := p) n W hb he
 have hnG : ∀ k, w.heap.size ≤ k → ¬ Bq G k := fun k hk e => by have e : k = G := e; omega
 clear hT hndi hx h hTB hTG
 obtain ⟨z0, z1, z2, z3, z4⟩ := s
 unfold Th.val
 dsimp only
 go_enter Try.func76, Try.ntmps76
 go_wp2_with fail
 obtain ⟨W0, hW0⟩ : ∃ W, (w.alloc (.cells #[.int .i64 2, .int .i64 i, .pointer p, .pointer none, .pointer none] 56)).alloc (.cells #[.int .i64 z0, .int .i64 z1, .pointer z2, .pointer z3, .pointer z4] 56) = W := ⟨_, rfl⟩
 rw [hW0]
 obtain ⟨hb0, hs0, ⟨f0, f1, f2, f3, f4⟩, ⟨v0, v1, v2, v3, v4⟩⟩ := bx_vv hW0
 have hG0 : G < W0.heap.size := by omega
 have hl0 : w.heap.size < W0.heap.size := by omega
 have hl1 : w.heap.size + 1 < W0.heap.size := by omega
 clear hW0
 have c3 : W0.cell? _ = _ := carry hb0 hG c3
 have t0 : W0.cell? _ = _ := carry hb0 hTw t0
 have t1 : W0.cell? _ = _ := carry hb0 hTw t1
 have t2 : W0.cell? _ = _ := carry hb0 hTw t2
 have t3 : W0.cell? _ = _ := carry hb0 hTw t3
 have t4 : W0.cell? _ = _ := carry hb0 hTw t4
 have t5 : W0.cell? _ = _ := carry hb0 hTw t5
 have t6 : W0.cell? _ = _ := carry hb0 hTw t6
 have t7 : W0.cell? _ = _ := carry hb0 hTw t7
 have t8 : W0.cell? _ = _ := carry hb0 hTw t8
 have hT0 : T < W0.heap.size := Nat.lt_of_lt_of_le hTw hb0.size
 have hb0 := Lib.hid hb0
 have hs1 := Lib.hid hs0
 clear hs0
 have hG0h := Lib.hid hG0
 go_cut [6, 7] (fun s6 s7 W => ∃ g6 g7 : Nat, s6 = .pointer (some ⟨g6, 0, none⟩) ∧ s7 = .pointer (some ⟨g7, 0, none⟩) ∧ W.cell? ⟨g6, 0, none⟩ = some (.int .i64 xk) ∧ W.cell? ⟨g6, 1, none⟩ = some (.int .i64 xa) ∧ W.cell? ⟨g7, 0, none⟩ = some (.pointer p) ∧ W.frozen? ⟨g7, 0, none⟩ = false ∧ g6 ≠ g7 ∧ W0.heap.size ≤ g6 ∧ g6 < W.heap.size ∧ W0.heap.size ≤ g7 ∧ g7 < W.heap.size ∧ TyAt W g7 53 ∧ Below W0.heap.size W0 W)
 case first =>
  go_region
  all_goals go_wp2_with fail
  all_goals go_meet
  all_goals refine ⟨_, _, rfl, rfl, by simp [go_sem], by simp [go_sem], by simp [go_sem], by simp [go_sem], by simp, by simp, by first | (simp; done) | (simp; omega), by simp, by first | (simp; done) | (simp; omega), ?_, by (repeat' (first | (with_reducible first | exact bR _ _ | assumption | apply bS | apply bA | apply bD | apply bN | exact bL _) | (simp; done) | (simp; omega) | omega | exact bL _))⟩
  all_goals first | exact ty_b | exact ty_a rfl
 case rest =>
  rename World => W2
  obtain ⟨g6, g7, rfl, rfl, c60, c6, c7, fz7, hne, hg6, h66, hg7, h67, hT7, hb2⟩ := hcut
  have hs2 := hb0.out.size
  have hn6 : ¬ Bq G g6 := hnG _ (by omega)
  have hn7 : ¬ Bq G g7 := hnG _ (by omega)
  have hnv : ¬ Bq G (w.heap.size + 1) := hnG _ (by omega)
  have hB2 := Lib.hid (belT hb0.out hb2)
  have c3 : W2.cell? _ = _ := carry hb2 hG0h.out c3
  have hc3 := Lib.hid c3
  have f0 : W2.cell? _ = _ := carry hb2 hl0 f0
  have f1 : W2.cell? _ = _ := carry hb2 hl0 f1
  have f2 : W2.cell? _ = _ := carry hb2 hl0 f2
  have f3 : W2.cell? _ = _ := carry hb2 hl0 f3
  have f4 : W2.cell? _ = _ := carry hb2 hl0 f4
  have v0 : W2.cell? _ = _ := carry hb2 hl1 v0
  have v1 : W2.cell? _ = _ := carry hb2 hl1 v1
  have v2 : W2.cell? _ = _ := carry hb2 hl1 v2
  have v3 : W2.cell? _ = _ := carry hb2 hl1 v3
  have v4 : W2.cell? _ = _ := carry hb2 hl1 v4
  have hl02 : w.heap.size < W2.heap.size := Nat.lt_of_lt_of_le hl0 hb2.size
  have hl12 : w.heap.size + 1 < W2.heap.size := Nat.lt_of_lt_of_le hl1 hb2.size
  have hv2 := Lib.hid ((aw_up (g := g7) (hvl.out W0 hb0.out) hg7).below hb2)
  have hf2 := Lib.hid ((aw_up (g := g7) (hfn.out W0 hb0.out) hg7).below hb2)
  have hb2 := Lib.hid hb2
  have hg6 := Lib.hid hg6
  have hg7 := Lib.hid hg7
  clear t0 t1 t2 t3 t4 t5 t6 t7 t8 hG0 hl0 hl1 hT0 hG0h hvl hfn hs2
  have he2 : Hid (∃ e, EnR W2 (.pointer p) e ∧ RR (Aw G sv g7) W2 env (.inr e)) := by
   obtain ⟨c', l', hx, hE', hR'⟩ := hf2.out
   injection hx with hx
   injection hx with _ _ e1 _ _
   subst e1
   exact Lib.hid ⟨l', hE', hR'⟩
  by_cases h4 : xk = 4
  ·obtain rfl := (if_pos h4).symm.trans hE.out
   go_wp2_with fail
   obtain ⟨e1, hE1, hR1⟩ := he2.out
   refine (with_rr (A := Aw G sv g7) (u := .fn i env) (tu := ⟨2, i, p, none, none⟩) (by omega) ⟨e1, hE1, hR1⟩ hf2.out).mono ?_
   rintro e9 w9 ⟨p9, rfl, ⟨e5, hE5, hR5⟩, hb9⟩
   have c7 : w9.cell? _ = _ := carry hb9 h67 c7
   have fz7 : w9.frozen? ⟨g7, 0, none⟩ = false := (hb9.frozen (p := ⟨g7, 0, none⟩) h67).trans fz7
   have h679 : g7 < w9.heap.size := Nat.lt_of_lt_of_le h67 hb9.size
   have v0 : w9.cell? _ = _ := carry hb9 hl12 v0
   have v1 : w9.cell? _ = _ := carry hb9 hl12 v1
   have v2 : w9.cell? _ = _ := carry hb9 hl12 v2
   have v3 : w9.cell? _ = _ := carry hb9 hl12 v3
   have v4 : w9.cell? _ = _ := carry hb9 hl12 v4
   have c6 : w9.cell? _ = _ := carry hb9 h66 c6
   have c3 : w9.cell? _ = _ := carry hb9 (Nat.lt_of_lt_of_le hG hB2.out.size) c3
   have h669 : g6 < w9.heap.size := Nat.lt_of_lt_of_le h66 hb9.size
   have hl19 : w.heap.size + 1 < w9.heap.size := Nat.lt_of_lt_of_le hl12 hb9.size
   have hG9 : G < w9.heap.size := Nat.lt_of_lt_of_le hG (belT hB2.out hb9).size
   have hB9 := Lib.hid (belT hB2.out hb9)
   have hv9 := Lib.hid (hv2.out.below hb9)
   have hT9 : TyAt w9 g7 53 := hT7.bar (S := fun _ => False) (Bar.of_below hb9) id
   have hE5 := Lib.hid hE5; have hR5 := Lib.hid hR5; have hT9 := Lib.hid hT9
   clear hb9 f0 f1 f2 f3 f4 hl02 hT7
   go_wp2_with fail
   obtain ⟨W5, hW5⟩ : ∃ W, w9.setCell ⟨g7, 0, none⟩ (.pointer p9) = W := ⟨_, rfl⟩
   rw [hW5]
   obtain ⟨hbs, hef, hsub⟩ := aw_set (G := G) (sv := sv) (u := .pointer p9) hT9.out
   have hg7w : w.heap.size + 2 ≤ g7 := by have := hg7.out; have := hs1.out; omega
   have c7 : (w9.setCell ⟨g7, 0, none⟩ (.pointer p9)).cell? ⟨g7, 0, none⟩ = some (.pointer p9) := setS c7
   have hB7 : Below w.heap.size w (w9.setCell ⟨g7, 0, none⟩ (.pointer p9)) := hB9.out.setCell (show w.heap.size ≤ g7 by omega) _
   rw [hW5] at hbs c7 hB7
   have hB7 := Lib.hid hB7
   have c6 : W5.cell? _ = _ := hbs.cell c6 (fun e => hne e)
   have c3 : W5.cell? _ = _ := hbs.cell c3 (fun e => by have e : G = g7 := e; omega)
   have v0 : W5.cell? _ = _ := hbs.cell v0 (fun e => by have e : w.heap.size + 1 = g7 := e; omega)
   have v1 : W5.cell? _ = _ := hbs.cell v1 (fun e => by have e : w.heap.size + 1 = g7 := e; omega)
   have v2 : W5.cell? _ = _ := hbs.cell v2 (fun e => by have e : w.heap.size + 1 = g7 := e; omega)
   have v3 : W5.cell? _ = _ := hbs.cell v3 (fun e => by have e : w.heap.size + 1 = g7 := e; omega)
   have v4 : W5.cell? _ = _ := hbs.cell v4 (fun e => by have e : w.heap.size + 1 = g7 := e; omega)
   have h66 : g6 < W5.heap.size := Nat.lt_of_lt_of_le h669 hbs.size
   have h67 : g7 < W5.heap.size := Nat.lt_of_lt_of_le h679 hbs.size
   have hl7 : w.heap.size + 1 < W5.heap.size := Nat.lt_of_lt_of_le hl19 hbs.size
   have hG7 : G < W5.heap.size := Nat.lt_of_lt_of_le hG9 hbs.size
   have hv7 := Lib.hid (hv9.out.bar hbs hef hsub)
   have he7 := Lib.hid (show ∃ e, EnR W5 (.pointer p9) e ∧ RR (Aw G sv g7) W5 (.cons (.fn i env) env) (.inr e) from ⟨e5, hE5.out.bar hbs hef, hR5.out.bar hbs hef hsub⟩)
   have hel7 : (RV.cons (.fn i env) env).list.length ≤ 1000000000 := by rw [RV.cons_len]; omega
   clear hW5 hbs hef hsub
   refine wp_region_held_drew (S := fun W => Bar (Bq G) W5 W ∧ W.cell? ⟨G, 3, none⟩ = some (.slice (some ⟨T, off, none⟩) ts.length cp)) (by kernel_rfl) (⟨Bar.of_below ((Below.refl _ _).drew), carry ((Below.refl _ _).drew) hG7 c3⟩) (fun hHeld => ?_)
   refine rg_take 0 (some 32) (v := ?v1) rfl rfl (by kernel_rfl) (by kernel_rfl) (by kernel_rfl) (fun _ _ _ h => h) (by rfl) ?hy1 (by assumption) ?_
   case hy1 => intro W hSW; (try dsimp only at hSW); have z0 := hSW.2; have z1 := hSW.1.cell c6 hn6; have z2 := hSW.1.cell c7 hn7; have z3 := hSW.1.cell v0 hnv; have z4 := hSW.1.cell v1 hnv; have z5 := hSW.1.cell v2 hnv; have z6 := hSW.1.cell v3 hnv; have z7 := hSW.1.cell v4 hnv; have q0 := Nat.lt_of_lt_of_le hG7 hSW.1.size; have q1 := Nat.lt_of_lt_of_le h66 hSW.1.size; have q2 := Nat.lt_of_lt_of_le h67 hSW.1.size; have q3 := Nat.lt_of_lt_of_le hl7 hSW.1.size; go_simp; (try with_reducible rfl)
   try simp only [Act.put, bP, bQ, bT]
   refine rg_take 1 (some 33) (v := ?v2) rfl rfl (by kernel_rfl) (by kernel_rfl) (by kernel_rfl) (fun _ _ _ h => h) (by rfl) ?hy2 (by assumption) ?_
   case hy2 => intro W hSW; (try dsimp only at hSW); have z0 := hSW.2; have z1 := hSW.1.cell c6 hn6; have z2 := hSW.1.cell c7 hn7; have z3 := hSW.1.cell v0 hnv; have z4 := hSW.1.cell v1 hnv; have z5 := hSW.1.cell v2 hnv; have z6 := hSW.1.cell v3 hnv; have z7 := hSW.1.cell v4 hnv; have q0 := Nat.lt_of_lt_of_le hG7 hSW.1.size; have q1 := Nat.lt_of_lt_of_le h66 hSW.1.size; have q2 := Nat.lt_of_lt_of_le h67 hSW.1.size; have q3 := Nat.lt_of_lt_of_le hl7 hSW.1.size; go_simp; (try with_reducible rfl)
   try simp only [Act.put, bP, bQ, bT]
   refine rg_take 2 (some 34) (v := ?v3) rfl rfl (by kernel_rfl) (by kernel_rfl) (by kernel_rfl) (fun _ _ _ h => h) (by rfl) ?hy3 (by assumption) ?_
   case hy3 => intro W hSW; (try dsimp only at hSW); have z0 := hSW.2; have z1 := hSW.1.cell c6 hn6; have z2 := hSW.1.cell c7 hn7; have z3 := hSW.1.cell v0 hnv; have z4 := hSW.1.cell v1 hnv; have z5 := hSW.1.cell v2 hnv; have z6 := hSW.1.cell v3 hnv; have z7 := hSW.1.cell v4 hnv; have q0 := Nat.lt_of_lt_of_le hG7 hSW.1.size; have q1 := Nat.lt_of_lt_of_le h66 hSW.1.size; have q2 := Nat.lt_of_lt_of_le h67 hSW.1.size; have q3 := Nat.lt_of_lt_of_le hl7 hSW.1.size; go_simp; (try with_reducible rfl)
   try simp only [Act.put, bP, bQ, bT]
   refine rg_take 3 (some 35) (v := ?v4) rfl rfl (by kernel_rfl) (by kernel_rfl) (by kernel_rfl) (fun _ _ _ h => h) (by rfl) ?hy4 (by assumption) ?_
   case hy4 => intro W hSW; (try dsimp only at hSW); have z0 := hSW.2; have z1 := hSW.1.cell c6 hn6; have z2 := hSW.1.cell c7 hn7; have z3 := hSW.1.cell v0 hnv; have z4 := hSW.1.cell v1 hnv; have z5 := hSW.1.cell v2 hnv; have z6 := hSW.1.cell v3 hnv; have z7 := hSW.1.cell v4 hnv; have q0 := Nat.lt_of_lt_of_le hG7 hSW.1.size; have q1 := Nat.lt_of_lt_of_le h66 hSW.1.size; have q2 := Nat.lt_of_lt_of_le h67 hSW.1.size; have q3 := Nat.lt_of_lt_of_le hl7 hSW.1.size; go_simp; (try with_reducible rfl)
   try simp only [Act.put, bP, bQ, bT]
   refine rg_take 4 (some 36) (v := ?v5) rfl rfl (by kernel_rfl) (by kernel_rfl) (by kernel_rfl) (fun _ _ _ h => h) (by rfl) ?hy5 (by assumption) ?_
   case hy5 => intro W hSW; (try dsimp only at hSW); have z0 := hSW.2; have z1 := hSW.1.cell c6 hn6; have z2 := hSW.1.cell c7 hn7; have z3 := hSW.1.cell v0 hnv; have z4 := hSW.1.cell v1 hnv; have z5 := hSW.1.cell v2 hnv; have z6 := hSW.1.cell v3 hnv; have z7 := hSW.1.cell v4 hnv; have q0 := Nat.lt_of_lt_of_le hG7 hSW.1.size; have q1 := Nat.lt_of_lt_of_le h66 hSW.1.size; have q2 := Nat.lt_of_lt_of_le h67 hSW.1.size; have q3 := Nat.lt_of_lt_of_le hl7 hSW.1.size; go_simp; (try with_reducible rfl)
   try simp only [Act.put, bP, bQ, bT]
   refine rg_one 5 rfl (by kernel_rfl) (by rfl) (fun K hK => ?_)
   go_simp
   obtain ⟨e3, hE3, hR3⟩ := he7.out
   refine (with_rr (A := Aw G sv g7) (u := v) (tu := ⟨z0, z1, z2, z3, z4⟩) hel7 ⟨e3, hE3.below ((Below.refl _ _).drew), hR3.below ((Below.refl _ _).drew)⟩ (hv7.out.below ((Below.refl _ _).drew))).mono ?_
   rintro e8 w8 ⟨p8, rfl, ⟨e4, hE4, hR4⟩, hb8⟩
   have hc8 : Below W5.heap.size W5 w8 := belT ((Below.refl _ _).drew) hb8
   refine hK.out _ _ ⟨Bar.of_below hc8, carry hc8 hG7 c3⟩ (fun hH8 => ?_)
   clear hK K
   try simp only [Act.put, bP, bQ, bT]
   refine rg_one 6 rfl (by kernel_rfl) (by rfl) (fun K hK => ?_)
   go_simp
   refine (hen.out _ p8 xa w8 (belT hB7.out hc8) ⟨e4, hE4, aw_down hR4⟩).mono ?_
   rintro e9 w9 ⟨rfl, hf, hb9, c39⟩
   refine hK.out _ _ ⟨(Bar.of_below hc8).trans hb9 fun _ _ h => h, c39⟩ (fun hH9 => ?_)
   clear hK K
   try simp only [Act.put, bP, bQ, bT]
   refine wpAnyH_done (by kernel_rfl) ?_ _
   go_wp2_with fail
   all_goals go_end0
   all_goals exact ⟨rfl, hf⟩
  ·obtain rfl := (if_neg h4).symm.trans hE.out
   go_wp2_with fail
   have hl7 := hl12
   have hG7 : G < W2.heap.size := Nat.lt_of_lt_of_le hG hB2.out.size
   have hv7 := hv2
   have he7 := he2
   have hB7 := hB2
   have hel7 : env.list.length ≤ 1000000000 := by omega
   clear f0 f1 f2 f3 f4 hl02
   refine wp_region_held_drew (S := fun W => Bar (Bq G) W2 W ∧ W.cell? ⟨G, 3, none⟩ = some (.slice (some ⟨T, off, none⟩) ts.length cp)) (by kernel_rfl) (⟨Bar.of_below ((Below.refl _ _).drew), carry ((Below.refl _ _).drew) hG7 c3⟩) (fun hHeld => ?_)
   refine rg_take 0 (some 32) (v := ?v6) rfl rfl (by kernel_rfl) (by kernel_rfl) (by kernel_rfl) (fun _ _ _ h => h) (by rfl) ?hy6 (by assumption) ?_
   case hy6 => intro W hSW; (try dsimp only at hSW); have z0 := hSW.2; have z1 := hSW.1.cell c6 hn6; have z2 := hSW.1.cell c7 hn7; have z3 := hSW.1.cell v0 hnv; have z4 := hSW.1.cell v1 hnv; have z5 := hSW.1.cell v2 hnv; have z6 := hSW.1.cell v3 hnv; have z7 := hSW.1.cell v4 hnv; have q0 := Nat.lt_of_lt_of_le hG7 hSW.1.size; have q1 := Nat.lt_of_lt_of_le h66 hSW.1.size; have q2 := Nat.lt_of_lt_of_le h67 hSW.1.size; have q3 := Nat.lt_of_lt_of_le hl7 hSW.1.size; go_simp; (try with_reducible rfl)
   try simp only [Act.put, bP, bQ, bT]
   refine rg_take 1 (some 33) (v := ?v7) rfl rfl (by kernel_rfl) (by kernel_rfl) (by kernel_rfl) (fun _ _ _ h => h) (by rfl) ?hy7 (by assumption) ?_
   case hy7 => intro W hSW; (try dsimp only at hSW); have z0 := hSW.2; have z1 := hSW.1.cell c6 hn6; have z2 := hSW.1.cell c7 hn7; have z3 := hSW.1.cell v0 hnv; have z4 := hSW.1.cell v1 hnv; have z5 := hSW.1.cell v2 hnv; have z6 := hSW.1.cell v3 hnv; have z7 := hSW.1.cell v4 hnv; have q0 := Nat.lt_of_lt_of_le hG7 hSW.1.size; have q1 := Nat.lt_of_lt_of_le h66 hSW.1.size; have q2 := Nat.lt_of_lt_of_le h67 hSW.1.size; have q3 := Nat.lt_of_lt_of_le hl7 hSW.1.size; go_simp; (try with_reducible rfl)
   try simp only [Act.put, bP, bQ, bT]
   refine rg_take 2 (some 34) (v := ?v8) rfl rfl (by kernel_rfl) (by kernel_rfl) (by kernel_rfl) (fun _ _ _ h => h) (by rfl) ?hy8 (by assumption) ?_
   case hy8 => intro W hSW; (try dsimp only at hSW); have z0 := hSW.2; have z1 := hSW.1.cell c6 hn6; have z2 := hSW.1.cell c7 hn7; have z3 := hSW.1.cell v0 hnv; have z4 := hSW.1.cell v1 hnv; have z5 := hSW.1.cell v2 hnv; have z6 := hSW.1.cell v3 hnv; have z7 := hSW.1.cell v4 hnv; have q0 := Nat.lt_of_lt_of_le hG7 hSW.1.size; have q1 := Nat.lt_of_lt_of_le h66 hSW.1.size; have q2 := Nat.lt_of_lt_of_le h67 hSW.1.size; have q3 := Nat.lt_of_lt_of_le hl7 hSW.1.size; go_simp; (try with_reducible rfl)
   try simp only [Act.put, bP, bQ, bT]
   refine rg_take 3 (some 35) (v := ?v9) rfl rfl (by kernel_rfl) (by kernel_rfl) (by kernel_rfl) (fun _ _ _ h => h) (by rfl) ?hy9 (by assumption) ?_
   case hy9 => intro W hSW; (try dsimp only at hSW); have z0 := hSW.2; have z1 := hSW.1.cell c6 hn6; have z2 := hSW.1.cell c7 hn7; have z3 := hSW.1.cell v0 hnv; have z4 := hSW.1.cell v1 hnv; have z5 := hSW.1.cell v2 hnv; have z6 := hSW.1.cell v3 hnv; have z7 := hSW.1.cell v4 hnv; have q0 := Nat.lt_of_lt_of_le hG7 hSW.1.size; have q1 := Nat.lt_of_lt_of_le h66 hSW.1.size; have q2 := Nat.lt_of_lt_of_le h67 hSW.1.size; have q3 := Nat.lt_of_lt_of_le hl7 hSW.1.size; go_simp; (try with_reducible rfl)
   try simp only [Act.put, bP, bQ, bT]
   refine rg_take 4 (some 36) (v := ?v10) rfl rfl (by kernel_rfl) (by kernel_rfl) (by kernel_rfl) (fun _ _ _ h => h) (by rfl) ?hy10 (by assumption) ?_
   case hy10 => intro W hSW; (try dsimp only at hSW); have z0 := hSW.2; have z1 := hSW.1.cell c6 hn6; have z2 := hSW.1.cell c7 hn7; have z3 := hSW.1.cell v0 hnv; have z4 := hSW.1.cell v1 hnv; have z5 := hSW.1.cell v2 hnv; have z6 := hSW.1.cell v3 hnv; have z7 := hSW.1.cell v4 hnv; have q0 := Nat.lt_of_lt_of_le hG7 hSW.1.size; have q1 := Nat.lt_of_lt_of_le h66 hSW.1.size; have q2 := Nat.lt_of_lt_of_le h67 hSW.1.size; have q3 := Nat.lt_of_lt_of_le hl7 hSW.1.size; go_simp; (try with_reducible rfl)
   try simp only [Act.put, bP, bQ, bT]
   refine rg_one 5 rfl (by kernel_rfl) (by rfl) (fun K hK => ?_)
   go_simp
   obtain ⟨e3, hE3, hR3⟩ := he7.out
   refine (with_rr (A := Aw G sv g7) (u := v) (tu := ⟨z0, z1, z2, z3, z4⟩) hel7 ⟨e3, hE3.below ((Below.refl _ _).drew), hR3.below ((Below.refl _ _).drew)⟩ (hv7.out.below ((Below.refl _ _).drew))).mono ?_
   rintro e8 w8 ⟨p8, rfl, ⟨e4, hE4, hR4⟩, hb8⟩
   have hc8 : Below W2.heap.size W2 w8 := belT ((Below.refl _ _).drew) hb8
   refine hK.out _ _ ⟨Bar.of_below hc8, carry hc8 hG7 c3⟩ (fun hH8 => ?_)
   clear hK K
   try simp only [Act.put, bP, bQ, bT]
   refine rg_one 6 rfl (by kernel_rfl) (by rfl) (fun K hK => ?_)
   go_simp
   refine (hen.out _ p8 xa w8 (belT hB7.out hc8) ⟨e4, hE4, aw_down hR4⟩).mono ?_
   rintro e9 w9 ⟨rfl, hf, hb9, c39⟩
   refine hK.out _ _ ⟨(Bar.of_below hc8).trans hb9 fun _ _ h => h, c39⟩ (fun hH9 => ?_)
   clear hK K
   try simp only [Act.put, bP, bQ, bT]
   refine wpAnyH_done (by kernel_rfl) ?_ _
   go_wp2_with fail
   all_goals go_end0
   all_goals exact ⟨rfl, hf⟩
theorem applyF_any (B G : Nat) (tv fv sv : Value) (c : Mc) (l : List Fr) (ts : List Tg) (w : World) (stk : List RF) (g v : RV) (t s : Th) (h : Hid (Ak B G tv fv sv c l ts stk g v t s w)) {K : Nat} (hl : stk.length ≤ 4096) (hg : g.fit ts.length K) (hK : K ≤ 900000000) :
  Calls Try.prog 76 #[.pointer (some ⟨G, 0, none⟩), t.val, s.val] w (NsP c.w0 B G tv fv (rApply ts g v stk)) := by
 rcases rr_fun h.out.fl with ⟨n, e, p, hg2, ht⟩ | ⟨n, e, f, p, d, hg2, ht⟩ | ⟨f, k, d, e, hg2, ht⟩ | ⟨hn, he⟩
 ·refine apply_fn B G tv fv sv c l ts w stk g v t s h n e p hg2 ht ?_ ?_
  ·rw [hg2] at hg; exact hg.1
  ·rw [hg2] at hg; exact Nat.le_trans hg.2.1 hK
 ·exact apply_bnd B G tv fv sv c l ts w stk g v t s h hl n e f p d hg2 ht
 ·exact apply_fwd B G tv fv sv c l ts w stk g v t s h hl f k d e hg2 ht
 ·exact apply_no B G tv fv sv c l ts w stk g v t s h hn he
end Go.Proofs.Ytnjalpcmjkahkaa
