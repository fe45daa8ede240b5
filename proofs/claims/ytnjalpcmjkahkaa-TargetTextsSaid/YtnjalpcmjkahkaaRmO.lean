/- The machine of layer 21: a value for a function that is no lambda. -/
import Derived.Test.YtnjalpcmjkahkaaRmN
namespace Go.Proofs.Ytnjalpcmjkahkaa
open Go.RowKit
set_option linter.unusedVariables false
set_option linter.unusedSimpArgs false

/-- a function and what it is given. -/
structure Ak (B G : Nat) (tv fv sv : Value) (c : Mc) (l : List Fr) (ts : List Tg) (stk : List RF) (g v : RV) (t s : Th) (w : World) : Prop where
  mr : MRc B G tv fv sv c l w
  no : c.ended = false
  st : StR (Bp G sv) w stk l
  fl : RR (Bp G sv) w g (.inl t)
  vl : RR (Bp G sv) w v (.inl s)
  tv : TvR B G w tv ts
theorem Ak.below {B G : Nat} {tv fv sv : Value} {c : Mc} {l : List Fr} {ts : List Tg} {stk : List RF} {g v : RV} {t s : Th} {w w' : World} (h : Ak B G tv fv sv c l ts stk g v t s w) (hb : Below w.heap.size w w') : Ak B G tv fv sv c l ts stk g v t s w' :=
  ⟨h.mr.below hb, h.no, h.st.below hb, h.fl.below hb, h.vl.below hb, h.tv.below hb⟩
theorem TvR.bar {B G : Nat} {w w' : World} {tv sv : Value} {ts : List Tg} {l : List Fr} (h : TvR B G w tv ts) (ho : OwnF B w sv l) (hb : Bar (Bp G sv) w w') : TvR B G w' tv ts := by
  obtain ⟨T, off, c, h1, h2, h3, h4, h5⟩ := h
  have hn : ¬ Bp G sv T := fun e => by
    rcases e with e | e
    · exact h3 e
    · have := (own_lt ho _ e).1; omega
  exact ⟨T, off, c, h1, h2, h3, Nat.lt_of_lt_of_le h4 hb.size, fun i hi => by
    obtain ⟨a0, a1, a2, a3, a4, a5, a6, a7, a8⟩ := h5 i hi
    exact ⟨hb.cell a0 hn, hb.cell a1 hn, hb.cell a2 hn, hb.cell a3 hn, hb.cell a4 hn, hb.cell a5 hn, hb.cell a6 hn, hb.cell a7 hn, hb.cell a8 hn⟩⟩
theorem Ak.push {B G : Nat} {tv fv sv : Value} {c : Mc} {l : List Fr} {ts : List Tg} {stk : List RF} {g v : RV} {t s : Th} {w : World} (h : Ak B G tv fv sv c l ts stk g v t s w) (hl : stk.length ≤ 5000) (fr : RF) (x : Fr) :
    ∀ W, Below w.heap.size w W → FrR (Bp G sv) W fr x → Calls Try.prog 80 #[.pointer (some ⟨G, 0, none⟩), x.val] W fun e w' => e = .returned (.tuple #[]) ∧ (∃ sv', Ak B G tv fv sv' c (l ++ [x]) ts (fr :: stk) g v t s w' ∧ ∀ g, sv'.ownBlock = some g → sv.ownBlock = some g ∨ W.heap.size ≤ g) ∧ Bar (Bp G sv) W w' := fun W hb hf => by
  have h1 := h.below hb
  refine (push_any B G tv fv sv l c x W (Lib.hid h1.mr.mc) (Lib.hid h1.mr.own) ⟨h1.mr.gB, h1.mr.bl⟩ (by rw [h1.st.len]; omega) h1.mr.kS).mono ?_
  intro e w1 hp
  obtain ⟨sv2, rfl, h2, hbp, hsv, hstk⟩ := mr_push h1.mr hp
  exact ⟨rfl, ⟨sv2, ⟨h2, h1.no, hstk h1.st hf, h1.fl.step hbp h1.mr.enF hsv, h1.vl.step hbp h1.mr.enF hsv, h1.tv.bar h1.mr.own hbp⟩, hsv⟩, hbp⟩
theorem Ak.give {B G : Nat} {tv fv sv : Value} {c : Mc} {l : List Fr} {ts : List Tg} {stk : List RF} {g v : RV} {t s : Th} {w : World} (h : Ak B G tv fv sv c l ts stk g v t s w) :
    ∀ W, Below w.heap.size w W → Calls Try.prog 79 #[.pointer (some ⟨G, 0, none⟩), .agg #[.int .i64 s.a, .int .i64 s.b, .pointer s.c, .pointer s.d, .pointer s.e]] W fun e w' => e = .returned (.tuple #[]) ∧ MR c.w0 B G tv fv (.gv stk v) w' := fun W hb => by
  have h1 := h.below hb
  refine (give_any W G tv fv sv c s (Lib.hid h1.mr.mc)).mono ?_
  rintro e w1 ⟨rfl, h2, h3⟩
  exact ⟨rfl, mr_gv h1.mr h.no h1.st h1.vl h2 h3⟩
theorem Ak.stuck {B G : Nat} {tv fv sv : Value} {c : Mc} {l : List Fr} {ts : List Tg} {stk : List RF} {g v : RV} {t s : Th} {w : World} (h : Ak B G tv fv sv c l ts stk g v t s w) :
    ∀ W, Below w.heap.size w W → Calls Try.prog 78 #[.pointer (some ⟨G, 0, none⟩)] W fun e w' => e = .returned (.tuple #[]) ∧ MR c.w0 B G tv fv (.en 5 0) w' := fun W hb => by
  have h1 := h.below hb
  refine (stuck_any W G tv fv sv c (Lib.hid h1.mr.mc)).mono ?_
  rintro e w1 ⟨rfl, h2, h3⟩
  exact ⟨rfl, mr_en h1.mr h2 h3⟩
/-- what kind of function a value is. -/
theorem rr_fun {A : Nat → Prop} {W : World} {v : RV} {t : Th} (h : RR A W v (.inl t)) :
    (∃ n e c, v = .fn n e ∧ t = ⟨2, n, c, none, none⟩) ∨ (∃ n e f c d, v = .bnd n e f ∧ t = ⟨3, n, c, d, none⟩) ∨ (∃ f g d e, v = .fwd f g ∧ t = ⟨4, 0, none, d, e⟩) ∨
    ((t.a ≠ 2 ∧ t.a ≠ 3 ∧ t.a ≠ 4) ∧ ∀ ts u stk, rApply ts v u stk = .en 5 0) := by
  cases v with
  | num n => cases h; exact .inr (.inr (.inr ⟨⟨by show (0 : Int) ≠ 2; decide, by show (0 : Int) ≠ 3; decide, by show (0 : Int) ≠ 4; decide⟩, fun _ _ _ => rfl⟩))
  | tru n => cases h; exact .inr (.inr (.inr ⟨⟨by show (1 : Int) ≠ 2; decide, by show (1 : Int) ≠ 3; decide, by show (1 : Int) ≠ 4; decide⟩, fun _ _ _ => rfl⟩))
  | fn n e => obtain ⟨c, l, h, _⟩ := h; cases h; exact .inl ⟨n, e, c, rfl, rfl⟩
  | bnd n e f => obtain ⟨c, l, d, u, h, _⟩ := h; cases h; exact .inr (.inl ⟨n, e, f, c, d, rfl, rfl⟩)
  | fwd f g => obtain ⟨d, u, e, x, h, _⟩ := h; cases h; exact .inr (.inr (.inl ⟨f, g, d, e, rfl, rfl⟩))
  | ret u => obtain ⟨d, x, h, _⟩ := h; cases h; exact .inr (.inr (.inr ⟨⟨by show (5 : Int) ≠ 2; decide, by show (5 : Int) ≠ 3; decide, by show (5 : Int) ≠ 4; decide⟩, fun _ _ _ => rfl⟩))
  | op n u f => obtain ⟨d, u, e, x, h, _⟩ := h; cases h; exact .inr (.inr (.inr ⟨⟨by show (6 : Int) ≠ 2; decide, by show (6 : Int) ≠ 3; decide, by show (6 : Int) ≠ 4; decide⟩, fun _ _ _ => rfl⟩))
  | nil => cases h
  | cons u r => obtain ⟨u, l, h, _⟩ := h; cases h
theorem bnd_rep {A : Nat → Prop} {W : World} {n : Int} {e f : RV} {c d : Option Addr} (h : RR A W (.bnd n e f) (.inl ⟨3, n, c, d, none⟩)) : (∃ l, EnR W (.pointer c) l ∧ RR A W e (.inr l)) ∧ ∃ b o t, d = some ⟨b, o, none⟩ ∧ b < W.heap.size ∧ ThO W b o t ∧ RR A W f (.inl t) := by
  obtain ⟨c', l, d', t, hx, he, hr, ⟨b, o, hd, hb, _, ht⟩, hf⟩ := h
  injection hx with hx
  injection hx with _ _ e1 e2 _
  subst e1 e2
  exact ⟨⟨l, he, hr⟩, b, o, t, hd, hb, ht, hf⟩
theorem fwd_rep {A : Nat → Prop} {W : World} {f g : RV} {d e : Option Addr} (h : RR A W (.fwd f g) (.inl ⟨4, 0, none, d, e⟩)) : (∃ b o t, d = some ⟨b, o, none⟩ ∧ b < W.heap.size ∧ ThO W b o t ∧ RR A W f (.inl t)) ∧ ∃ b o t, e = some ⟨b, o, none⟩ ∧ b < W.heap.size ∧ ThO W b o t ∧ RR A W g (.inl t) := by
  obtain ⟨d', t, e', u, hx, ⟨b, o, hd, hb, _, ht⟩, hf, ⟨b2, o2, hd2, hb2, _, ht2⟩, hf2⟩ := h
  injection hx with hx
  injection hx with _ _ _ e1 e2
  subst e1 e2
  exact ⟨⟨b, o, t, hd, hb, ht, hf⟩, b2, o2, u, hd2, hb2, ht2, hf2⟩
/-- the boxes of two values. -/
theorem bx_vv {w W0 : World} {y0 y1 z0 z1 : Int} {y2 y3 y4 z2 z3 z4 : Option Addr} {F V : TypeId} (h : (w.alloc (.cells #[.int .i64 y0, .int .i64 y1, .pointer y2, .pointer y3, .pointer y4] F)).alloc (.cells #[.int .i64 z0, .int .i64 z1, .pointer z2, .pointer z3, .pointer z4] V) = W0) :
    Below w.heap.size w W0 ∧ W0.heap.size = w.heap.size + 2 ∧
    (W0.cell? ⟨w.heap.size, 0, none⟩ = some (.int .i64 y0) ∧ W0.cell? ⟨w.heap.size, 1, none⟩ = some (.int .i64 y1) ∧ W0.cell? ⟨w.heap.size, 2, none⟩ = some (.pointer y2) ∧ W0.cell? ⟨w.heap.size, 3, none⟩ = some (.pointer y3) ∧ W0.cell? ⟨w.heap.size, 4, none⟩ = some (.pointer y4)) ∧
    (W0.cell? ⟨w.heap.size + 1, 0, none⟩ = some (.int .i64 z0) ∧ W0.cell? ⟨w.heap.size + 1, 1, none⟩ = some (.int .i64 z1) ∧ W0.cell? ⟨w.heap.size + 1, 2, none⟩ = some (.pointer z2) ∧ W0.cell? ⟨w.heap.size + 1, 3, none⟩ = some (.pointer z3) ∧ W0.cell? ⟨w.heap.size + 1, 4, none⟩ = some (.pointer z4)) := by
  subst h
  refine ⟨by (repeat' (first | with_reducible exact Below.refl _ _ | with_reducible assumption | with_reducible apply Below.setCell | with_reducible apply Below.alloc | with_reducible apply Below.drew | with_reducible apply below_drewN | with_reducible exact Nat.le_refl _ | (simp; done) | (simp; omega) | omega | exact Nat.le_refl _)), by simp, ?_, ?_⟩
  · exact ⟨by simp [go_sem], by simp [go_sem], by simp [go_sem], by simp [go_sem], by simp [go_sem]⟩
  · exact ⟨by simp [go_sem], by simp [go_sem], by simp [go_sem], by simp [go_sem], by simp [go_sem]⟩
set_option maxRecDepth 100000 in
set_option maxHeartbeats 4000000 in
theorem apply_bnd (B G : Nat) (tv fv sv : Value) (c : Mc) (l : List Fr) (ts : List Tg) (w : World) (stk : List RF) (g v : RV) (t s : Th) (h : Hid (Ak B G tv fv sv c l ts stk g v t s w)) (hl : stk.length ≤ 4096) (n : Int) (env f : RV) (p d : Option Addr) (hg : g = .bnd n env f) (ht : t = ⟨3, n, p, d, none⟩) :
    Calls Try.prog 76 #[.pointer (some ⟨G, 0, none⟩), t.val, s.val] w (NsP c.w0 B G tv fv (rApply ts g v stk)) := by
  subst hg ht
  obtain ⟨z0, z1, z2, z3, z4⟩ := s
  unfold Th.val
  dsimp only
  have hG := h.out.mr.mc.lt
  go_enter Try.func76, Try.ntmps76
  go_wp2_with fail
  obtain ⟨W0, hW0⟩ : ∃ W, (w.alloc (.cells #[.int .i64 3, .int .i64 n, .pointer p, .pointer d, .pointer none] 56)).alloc (.cells #[.int .i64 z0, .int .i64 z1, .pointer z2, .pointer z3, .pointer z4] 56) = W := ⟨_, rfl⟩
  rw [hW0]
  obtain ⟨hb0, hs0, ⟨f0, f1, f2, f3, f4⟩, ⟨v0, v1, v2, v3, v4⟩⟩ := bx_vv hW0
  have hG0 : G < W0.heap.size := by omega
  have hl0 : w.heap.size < W0.heap.size := by omega
  have hl1 : w.heap.size + 1 < W0.heap.size := by omega
  clear hW0
  have h0 := h.out.below hb0
  have hnf : ¬ Bp G sv w.heap.size := h.out.mr.new
  have hnv : ¬ Bp G sv (w.heap.size + 1) := fun e => by
    rcases e with e | e
    · omega
    · have := (own_lt h.out.mr.own _ e).2; omega
  obtain ⟨q1, q2⟩ := bnd_rep h0.fl
  refine (h0.push (by omega) ⟨0, n, env, .num 0⟩ ⟨0, n, p, th0⟩ W0 (Below.refl _ _) ⟨rfl, rfl, q1, rfl⟩).mono ?_
  rintro e1 w1 ⟨rfl, ⟨sv1, h1, hs1⟩, hb1⟩
  have f0 : w1.cell? _ = _ := hb1.cell f0 hnf
  have f1 : w1.cell? _ = _ := hb1.cell f1 hnf
  have f2 : w1.cell? _ = _ := hb1.cell f2 hnf
  have f3 : w1.cell? _ = _ := hb1.cell f3 hnf
  have f4 : w1.cell? _ = _ := hb1.cell f4 hnf
  have v0 : w1.cell? _ = _ := hb1.cell v0 hnv
  have v1 : w1.cell? _ = _ := hb1.cell v1 hnv
  have v2 : w1.cell? _ = _ := hb1.cell v2 hnv
  have v3 : w1.cell? _ = _ := hb1.cell v3 hnv
  have v4 : w1.cell? _ = _ := hb1.cell v4 hnv
  have hG1 : G < w1.heap.size := h1.mr.mc.lt
  have hl2 : w.heap.size < w1.heap.size := Nat.lt_of_lt_of_le hl0 hb1.size
  have hl3 : w.heap.size + 1 < w1.heap.size := Nat.lt_of_lt_of_le hl1 hb1.size
  have hn1 : ¬ Bp G sv1 (w.heap.size + 1) := fun e => by
    rcases e with e | e
    · omega
    · rcases hs1 _ e with e | e
      · exact hnv (.inr e)
      · omega
  obtain ⟨q1, b, oo, tt, rfl, hbw, ⟨u0, u1, u2, u3, u4⟩, hr⟩ := bnd_rep h1.fl

  clear h0 hb0 hs0 hb1 hs1 hG0 hl0 hl1
  go_wp2_with fail
  refine (h1.push (by rw [List.length_cons]; omega) ⟨2, 0, .nil, f⟩ ⟨2, 0, none, tt⟩ w1 (Below.refl _ _) ⟨rfl, rfl, ⟨[], EnR.nil _, rfl⟩, hr⟩).mono ?_
  rintro e2 w2 ⟨rfl, ⟨sv2, h2, hs2⟩, hb2⟩
  clear f0 f1 f2 f3 f4 u0 u1 u2 u3 u4 hr hbw
  have v0 : w2.cell? _ = _ := hb2.cell v0 hn1
  have v1 : w2.cell? _ = _ := hb2.cell v1 hn1
  have v2 : w2.cell? _ = _ := hb2.cell v2 hn1
  have v3 : w2.cell? _ = _ := hb2.cell v3 hn1
  have v4 : w2.cell? _ = _ := hb2.cell v4 hn1
  have hG2 : G < w2.heap.size := h2.mr.mc.lt
  have hl4 : w.heap.size + 1 < w2.heap.size := Nat.lt_of_lt_of_le hl3 hb2.size
  go_wp2_with fail
  refine (h2.give w2 (Below.refl _ _)).mono ?_
  rintro e3 w3 ⟨rfl, hf⟩
  go_wp2_with fail
  all_goals go_end0
  all_goals exact ⟨rfl, hf⟩
set_option maxRecDepth 100000 in
set_option maxHeartbeats 4000000 in
theorem apply_fwd (B G : Nat) (tv fv sv : Value) (c : Mc) (l : List Fr) (ts : List Tg) (w : World) (stk : List RF) (g v : RV) (t s : Th) (h : Hid (Ak B G tv fv sv c l ts stk g v t s w)) (hl : stk.length ≤ 4096) (f k : RV) (d e : Option Addr) (hg : g = .fwd f k) (ht : t = ⟨4, 0, none, d, e⟩) :
    Calls Try.prog 76 #[.pointer (some ⟨G, 0, none⟩), t.val, s.val] w (NsP c.w0 B G tv fv (rApply ts g v stk)) := by
  subst hg ht
  obtain ⟨z0, z1, z2, z3, z4⟩ := s
  unfold Th.val
  dsimp only
  have hG := h.out.mr.mc.lt
  obtain ⟨⟨b9, o9, t9, rfl, _, _, _⟩, b, oo, tt, rfl, hbw, ⟨u0, u1, u2, u3, u4⟩, hr⟩ := fwd_rep h.out.fl
  go_enter Try.func76, Try.ntmps76
  go_wp2_with fail
  obtain ⟨W0, hW0⟩ : ∃ W, (w.alloc (.cells #[.int .i64 4, .int .i64 0, .pointer none, .pointer (some ⟨b9, o9, none⟩), .pointer (some ⟨b, oo, none⟩)] 56)).alloc (.cells #[.int .i64 z0, .int .i64 z1, .pointer z2, .pointer z3, .pointer z4] 56) = W := ⟨_, rfl⟩
  rw [hW0]
  obtain ⟨hb0, hs0, ⟨f0, f1, f2, f3, f4⟩, ⟨v0, v1, v2, v3, v4⟩⟩ := bx_vv hW0
  have hG0 : G < W0.heap.size := by omega
  have hl0 : w.heap.size < W0.heap.size := by omega
  have hl1 : w.heap.size + 1 < W0.heap.size := by omega
  clear hW0
  have h0 := h.out.below hb0
  have hnf : ¬ Bp G sv w.heap.size := h.out.mr.new
  have hnv : ¬ Bp G sv (w.heap.size + 1) := fun e => by
    rcases e with e | e
    · omega
    · have := (own_lt h.out.mr.own _ e).2; omega
  refine (h0.push (by omega) ⟨2, 0, .nil, k⟩ ⟨2, 0, none, tt⟩ W0 (Below.refl _ _) ⟨rfl, rfl, ⟨[], EnR.nil _, rfl⟩, hr.below hb0⟩).mono ?_
  rintro e1 w1 ⟨rfl, ⟨sv1, h1, hs1⟩, hb1⟩
  clear u0 u1 u2 u3 u4 hr hbw
  have f0 : w1.cell? _ = _ := hb1.cell f0 hnf
  have f1 : w1.cell? _ = _ := hb1.cell f1 hnf
  have f2 : w1.cell? _ = _ := hb1.cell f2 hnf
  have f3 : w1.cell? _ = _ := hb1.cell f3 hnf
  have f4 : w1.cell? _ = _ := hb1.cell f4 hnf
  have v0 : w1.cell? _ = _ := hb1.cell v0 hnv
  have v1 : w1.cell? _ = _ := hb1.cell v1 hnv
  have v2 : w1.cell? _ = _ := hb1.cell v2 hnv
  have v3 : w1.cell? _ = _ := hb1.cell v3 hnv
  have v4 : w1.cell? _ = _ := hb1.cell v4 hnv
  have hG1 : G < w1.heap.size := h1.mr.mc.lt
  have hl2 : w.heap.size < w1.heap.size := Nat.lt_of_lt_of_le hl0 hb1.size
  have hl3 : w.heap.size + 1 < w1.heap.size := Nat.lt_of_lt_of_le hl1 hb1.size
  have hn1 : ¬ Bp G sv1 (w.heap.size + 1) := fun e => by
    rcases e with e | e
    · omega
    · rcases hs1 _ e with e | e
      · exact hnv (.inr e)
      · omega
  obtain ⟨⟨b2, o2, tt2, hbb, hbw, ⟨u0, u1, u2, u3, u4⟩, hr⟩, _⟩ := fwd_rep h1.fl
  injection hbb with hbb; injection hbb with e8 e9; subst e8 e9
  clear h0 hb0 hs0 hb1 hs1 hG0 hl0 hl1
  go_wp2_with fail
  refine (h1.push (by rw [List.length_cons]; omega) ⟨2, 0, .nil, f⟩ ⟨2, 0, none, tt2⟩ w1 (Below.refl _ _) ⟨rfl, rfl, ⟨[], EnR.nil _, rfl⟩, hr⟩).mono ?_
  rintro e2 w2 ⟨rfl, ⟨sv2, h2, hs2⟩, hb2⟩
  clear f0 f1 f2 f3 f4 u0 u1 u2 u3 u4 hr hbw
  have v0 : w2.cell? _ = _ := hb2.cell v0 hn1
  have v1 : w2.cell? _ = _ := hb2.cell v1 hn1
  have v2 : w2.cell? _ = _ := hb2.cell v2 hn1
  have v3 : w2.cell? _ = _ := hb2.cell v3 hn1
  have v4 : w2.cell? _ = _ := hb2.cell v4 hn1
  have hG2 : G < w2.heap.size := h2.mr.mc.lt
  have hl4 : w.heap.size + 1 < w2.heap.size := Nat.lt_of_lt_of_le hl3 hb2.size
  go_wp2_with fail
  refine (h2.give w2 (Below.refl _ _)).mono ?_
  rintro e3 w3 ⟨rfl, hf⟩
  go_wp2_with fail
  all_goals go_end0
  all_goals exact ⟨rfl, hf⟩
set_option maxRecDepth 100000 in
set_option maxHeartbeats 4000000 in
theorem apply_no (B G : Nat) (tv fv sv : Value) (c : Mc) (l : List Fr) (ts : List Tg) (w : World) (stk : List RF) (g v : RV) (t s : Th) (h : Hid (Ak B G tv fv sv c l ts stk g v t s w)) (hn : t.a ≠ 2 ∧ t.a ≠ 3 ∧ t.a ≠ 4) (he : ∀ ts u stk, rApply ts g u stk = .en 5 0) :
    Calls Try.prog 76 #[.pointer (some ⟨G, 0, none⟩), t.val, s.val] w (NsP c.w0 B G tv fv (rApply ts g v stk)) := by
  rw [he]
  have hst := Lib.hid h.out.stuck
  have hG := h.out.mr.mc.lt
  obtain ⟨y0, y1, y2, y3, y4⟩ := t
  obtain ⟨hn2, hn3, hn4⟩ := hn
  dsimp only at hn2 hn3 hn4
  obtain ⟨z0, z1, z2, z3, z4⟩ := s
  unfold Th.val
  dsimp only
  clear h he
  go_enter Try.func76, Try.ntmps76
  go_wp2_with fail
  refine (hst.out _ (by (repeat' (first | with_reducible exact Below.refl _ _ | with_reducible assumption | with_reducible apply Below.setCell | with_reducible apply Below.alloc | with_reducible apply Below.drew | with_reducible apply below_drewN | with_reducible exact Nat.le_refl _ | (simp; done) | (simp; omega) | omega | exact Nat.le_refl _)))).mono ?_
  rintro e3 w3 ⟨rfl, hf⟩
  go_wp2_with fail
  all_goals go_end0
  all_goals exact ⟨rfl, hf⟩
end Go.Proofs.Ytnjalpcmjkahkaa
