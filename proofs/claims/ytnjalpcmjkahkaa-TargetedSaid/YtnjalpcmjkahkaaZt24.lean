/- The reference's engine for targets: one more that is bound; what is told of a value. -/
import Derived.Test.YtnjalpcmjkahkaaZt23
set_option maxRecDepth 100000
set_option maxHeartbeats 8000000
namespace Go.Proofs.Ytnjalpcmjkahkaa
open Go.RowKit
set_option linter.unusedVariables false
set_option linter.unusedSimpArgs false
theorem VR.lt {W : World} {e : NV} {a : Addr} (h : VR W e (.inr (some a))) : a.block < W.heap.size := by
 cases e with
 | num _ => cases h
 | tru _ => cases h
 | fn _ _ => obtain ⟨_, h, _⟩ := h; cases h
 | bnd _ _ _ => obtain ⟨_, _, _, h, _⟩ := h; cases h
 | fwd _ _ => obtain ⟨_, _, _, _, h, _⟩ := h; cases h
 | ret _ => obtain ⟨_, _, h, _⟩ := h; cases h
 | op _ _ _ => obtain ⟨_, _, _, _, h, _⟩ := h; cases h
 | nil => cases h
 | cons x v r =>
  obtain ⟨g, t, q, hx, hg, _⟩ := h
  injection hx with hx
  injection hx with hx
  subst hx
  exact hg
def NaP (W : World) (x : Int) (v e : NV) (e9 : Ending) (w' : World) : Prop := ∃ g, e9 = .returned (.pointer (some ⟨g, 0, none⟩)) ∧ VR w' (.cons x v e) (.inr (some ⟨g, 0, none⟩)) ∧ Below W.heap.size W w'
theorem cell_lit {W : World} {x : Int} {t : V7} {p : Option Addr} {v e : NV} {g : Nat} {arr : Array Value} (hg : g = W.heap.size) (ha : arr = #[.int .i64 x, .int .i64 t.k, .int .i64 t.n, .int .i64 t.nd, .pointer t.en, .slice none 0 0, .pointer t.one, .pointer t.two, .pointer p]) (hv : VR W v (.inl t)) (he : VR W e (.inr p)) :
  VR (W.alloc (.cells arr 110)) (.cons x v e) (.inr (some ⟨g, 0, none⟩)) := by
 subst hg ha
 have hb := below_alc W (.cells #[.int .i64 x, .int .i64 t.k, .int .i64 t.n, .int .i64 t.nd, .pointer t.en, .slice none 0 0, .pointer t.one, .pointer t.two, .pointer p] 110)
 exact ⟨W.heap.size, t, p, rfl, by simp, TyAt.new _ _ _, ⟨by simp [go_sem], by simp [VCo, go_sem], by simp [go_sem]⟩, fun a ha => by subst ha; exact he.lt, hv.below hb, he.below hb⟩
theorem named_any (W : World) (e v : NV) (p : Option Addr) (x : Int) (t : V7) (he : Hid (VR W e (.inr p))) (hv : Hid (VR W v (.inl t))) :
  Calls Try.prog 47 #[.pointer p, .int .i64 x, .agg #[.int .i64 t.k, .int .i64 t.n, .int .i64 t.nd, .pointer t.en, .slice none 0 0, .pointer t.one, .pointer t.two]] W (NaP W x v e) := by
 obtain ⟨W0, hW0⟩ : ∃ w, W.alloc (.cells #[.int .i64 t.k, .int .i64 t.n, .int .i64 t.nd, .pointer t.en, .slice none 0 0, .pointer t.one, .pointer t.two] 67) = w := ⟨_, rfl⟩
 have hb := Lib.hid (show Below W.heap.size W W0 by rw [← hW0]; exact below_alc _ _)
 have v0 : W0.cell? ⟨W.heap.size, 0, none⟩ = some (.int .i64 t.k) := by rw [← hW0]; simp [go_sem]
 have v1 : W0.cell? ⟨W.heap.size, 1, none⟩ = some (.int .i64 t.n) := by rw [← hW0]; simp [go_sem]
 have v2 : W0.cell? ⟨W.heap.size, 2, none⟩ = some (.int .i64 t.nd) := by rw [← hW0]; simp [go_sem]
 have v3 : W0.cell? ⟨W.heap.size, 3, none⟩ = some (.pointer t.en) := by rw [← hW0]; simp [go_sem]
 have v4 : W0.cell? ⟨W.heap.size, 4, none⟩ = some (.slice none 0 0) := by rw [← hW0]; simp [go_sem]
 have v5 : W0.cell? ⟨W.heap.size, 5, none⟩ = some (.pointer t.one) := by rw [← hW0]; simp [go_sem]
 have v6 : W0.cell? ⟨W.heap.size, 6, none⟩ = some (.pointer t.two) := by rw [← hW0]; simp [go_sem]
 have hl : W.heap.size < W0.heap.size := by rw [← hW0]; simp
 go_enter Try.func47, Try.ntmps47
 go_upto_region 1 with fail
 (try rw [hW0])
 clear hW0
 go_wp2_with fail
 go_ret
 exact ⟨W0.heap.size, rfl, cell_lit rfl rfl (hv.out.below hb.out) (he.out.below hb.out), belT hb.out (below_alc _ _)⟩
def seenK (k n : Int) : Int × Int := if k = 0 then (0, n) else if k = 1 then (1, n) else if k = 2 ∨ k = 3 ∨ k = 4 ∨ k = 7 ∨ k = 8 then (2, 0) else (5, 0)
theorem seen_kind {W : World} {v : NV} {t : V7} (h : VR W v (.inl t)) : outN v.er = seenK t.k t.n := by
 cases v with
 | num n => cases h; rfl
 | tru n => cases h; rfl
 | fn n e => obtain ⟨_, h, _⟩ := h; cases h; rfl
 | bnd n e f => obtain ⟨_, _, _, h, _⟩ := h; cases h; rfl
 | fwd f g => obtain ⟨_, _, _, _, h, _⟩ := h; cases h; rfl
 | ret u => obtain ⟨_, _, h, _⟩ := h; cases h; rfl
 | op n u f => obtain ⟨_, _, _, _, h, _⟩ := h; cases h; rfl
 | nil => cases h
 | cons x u r => obtain ⟨_, _, _, h, _⟩ := h; cases h
theorem seen_any (W : World) (k n a : Int) (b c d : Option Addr) :
  Calls Try.prog 33 #[.agg #[.int .i64 k, .int .i64 n, .int .i64 a, .pointer b, .slice none 0 0, .pointer c, .pointer d]] W fun e w' => e = .returned (.agg #[.int .i64 (seenK k n).1, .int .i64 (seenK k n).2]) ∧ Below W.heap.size W w' := by
 obtain ⟨x, hq⟩ : ∃ x, seenK k n = x := ⟨_, rfl⟩
 rw [hq]
 have hk6 : k = 0 ∨ k = 1 ∨ k = 2 ∨ k = 3 ∨ k = 4 ∨ k = 7 ∨ k = 8 ∨ (k ≠ 0 ∧ k ≠ 1 ∧ k ≠ 2 ∧ k ≠ 3 ∧ k ≠ 4 ∧ k ≠ 7 ∧ k ≠ 8) := by omega
 rcases hk6 with rfl | rfl | rfl | rfl | rfl | rfl | rfl | ⟨k0, k1, k2, k3, k4, k7, k8⟩
 all_goals (unfold seenK at hq; simp [*] at hq; subst hq)
 all_goals go_enter Try.func33, Try.ntmps33
 all_goals go_wp2_with fail
 all_goals exact bodyPost_ret (v := .agg #[.int .i64 _, .int .i64 _]) (by simp [results, Try.results33, go_sem, *]) rfl ⟨rfl, by (repeat' (first | (with_reducible first | exact bR _ _ | assumption | apply bS | apply bA | apply bD | apply bN | exact bL _) | (simp; done) | (simp; omega) | omega | exact bL _))⟩
open Go.RowKit
theorem FrR.below {A : Nat → Prop} {W W' : World} {f : RF} {x : Fr} (h : FrR A W f x) (hb : Below W.heap.size W W') : FrR A W' f x := by
 obtain ⟨h1, h2, ⟨l, h3, h4⟩, h5⟩ := h
 exact ⟨h1, h2, ⟨l, h3.below hb, h4.below hb⟩, h5.below hb⟩
theorem StR.below {A : Nat → Prop} {W W' : World} (hb : Below W.heap.size W W') : ∀ {s : List RF} {l : List Fr}, StR A W s l → StR A W' s l
 | [], _, h => h
 | f :: s, _, ⟨l', x, h, hf, hr⟩ => ⟨l', x, h, hf.below hb, StR.below hb hr⟩
theorem MRv.below {G : Nat} {sv : Value} {c : Mc} {l : List Fr} {w w' : World} {m : RM} (h : MRv G sv c l w m) (hb : Below w.heap.size w w') : MRv G sv c l w' m := by
 cases m with
 | ev stk node env => obtain ⟨h1, h2, h3, h4, e, h5, h6⟩ := h; exact ⟨h1, h2, h3, h4.below hb, e, h5.below hb, h6.below hb⟩
 | gv stk v => obtain ⟨h1, h2, h3, h4⟩ := h; exact ⟨h1, h2, h3.below hb, h4.below hb⟩
 | en k n => exact h
def NsP (w0 : Gh) (B G : Nat) (tv fv : Value) (m : RM) (e : Ending) (w' : World) : Prop := e = .returned (.tuple #[]) ∧ MR w0 B G tv fv m w'
theorem nodeStep_lit (B G : Nat) (tv fv sv : Value) (c : Mc) (l : List Fr) (ts : List Tg) (fur : List Int) (w : World) (stk : List RF) (i : Nat) (env : RV)
  (h : Hid (MRc B G tv fv sv c l w)) (hv : Hid (MRv G sv c l w (.ev stk i env))) (ht : Hid (TvR B G w tv ts)) (hi : i < ts.length) (hk : (ts.getD i tg0).k = 1 ∨ (ts.getD i tg0).k = 2 ∨ (ts.getD i tg0).k = 3 ∨ (ts.getD i tg0).k = 4) :
  Calls Try.prog 73 #[.pointer (some ⟨G, 0, none⟩)] w (NsP c.w0 B G tv fv (rNode (ts.getD i tg0) (fur.getD i 0) stk i env)) := by
 have hgive := Lib.hid fun (W : World) (t : Th) (hh : Hid (McC W G tv fv sv c)) => give_any W G tv fv sv c t hh
 obtain ⟨T, off, cp, rfl, hTB, hTG, hTw, hT⟩ := ht.out
 obtain ⟨he, hhv, hnd, hst, e, hE, hR⟩ := hv.out
 have hG := h.out.mc.lt
 have c3 := h.out.mc.c3; have c12 := h.out.mc.c12; have c13 := h.out.mc.c13; have hfz := h.out.mc.fz
 rw [hnd] at c12
 obtain ⟨x, hx⟩ : ∃ x, ts.getD i tg0 = x := ⟨_, rfl⟩
 have hx0 := hT i hi
 rw [hx] at hx0 hk ⊢
 obtain ⟨xk, xa, xb, xc, xn, xx, xy, xz, xw⟩ := x
 obtain ⟨t0, t1, t2, t3, t4, t5, t6, t7, t8⟩ := hx0
 dsimp only at hk t0 t1 t2 t3 t4 t5 t6 t7 t8
 clear hT hE hR hst he hhv hx
 go_enter Try.func73, Try.ntmps73
 go_wp2_with fail
 go_region
 rcases hk with rfl | rfl | rfl | rfl
 ·go_wp2_with fail
  obtain ⟨W1, hW1, hb1⟩ : ∃ W1, W1 = (w.alloc (.cells #[.int .i64 1, .int .i64 xa, .int .i64 xb, .int .i64 xc, .int .i64 xn, .int .i64 xx, .int .i64 xy, .int .i64 xz, .int .i64 xw] 37)).drew ∧ Below w.heap.size w W1 := ⟨_, rfl, by (repeat' (first | (with_reducible first | exact bR _ _ | assumption | apply bS | apply bA | apply bD | apply bN | exact bL _) | (simp; done) | (simp; omega) | omega | exact bL _))⟩
  rw [← hW1]
  have h1 := h.out.below hb1
  have hv1 := hv.out.below hb1
  refine (hgive.out _ ⟨0, xn, none, none, none⟩ (Lib.hid h1.mc)).mono ?_
  rintro e1 w1 ⟨rfl, h2, h3⟩
  have hfin := Lib.hid (mr_gv (v := .num xn) h1 hv1.1 hv1.2.2.2.1 rfl h2 h3)
  clear h1 hv1 h2 h3 hb1 hW1 hgive hfz c3 c12 c13 t0 t1 t2 t3 t4 t5 t6 t7 t8
  go_wp2_with fail
  all_goals go_end0
  all_goals exact ⟨rfl, hfin.out⟩
 ·go_wp2_with fail
  obtain ⟨W1, hW1, hb1⟩ : ∃ W1, W1 = (w.alloc (.cells #[.int .i64 2, .int .i64 xa, .int .i64 xb, .int .i64 xc, .int .i64 xn, .int .i64 xx, .int .i64 xy, .int .i64 xz, .int .i64 xw] 37)).drew ∧ Below w.heap.size w W1 := ⟨_, rfl, by (repeat' (first | (with_reducible first | exact bR _ _ | assumption | apply bS | apply bA | apply bD | apply bN | exact bL _) | (simp; done) | (simp; omega) | omega | exact bL _))⟩
  rw [← hW1]
  have h1 := h.out.below hb1
  have hv1 := hv.out.below hb1
  refine (hgive.out _ ⟨1, xn, none, none, none⟩ (Lib.hid h1.mc)).mono ?_
  rintro e1 w1 ⟨rfl, h2, h3⟩
  have hfin := Lib.hid (mr_gv (v := .tru xn) h1 hv1.1 hv1.2.2.2.1 rfl h2 h3)
  clear h1 hv1 h2 h3 hb1 hW1 hgive hfz c3 c12 c13 t0 t1 t2 t3 t4 t5 t6 t7 t8
  go_wp2_with fail
  all_goals go_end0
  all_goals exact ⟨rfl, hfin.out⟩
 ·go_wp2_with fail
  obtain ⟨W1, hW1, hb1⟩ : ∃ W1, W1 = (w.alloc (.cells #[.int .i64 3, .int .i64 xa, .int .i64 xb, .int .i64 xc, .int .i64 xn, .int .i64 xx, .int .i64 xy, .int .i64 xz, .int .i64 xw] 37)).drew.drew ∧ Below w.heap.size w W1 := ⟨_, rfl, by (repeat' (first | (with_reducible first | exact bR _ _ | assumption | apply bS | apply bA | apply bD | apply bN | exact bL _) | (simp; done) | (simp; omega) | omega | exact bL _))⟩
  have h1 := h.out.below hb1
  have hv1 := hv.out.below hb1
  have hmc := Lib.hid h1.mc
  have hv2 := Lib.hid hv1; have h1 := Lib.hid h1
  have hst := Lib.hid hv1.2.2.2.1
  obtain ⟨e, hE, hR⟩ := hv1.2.2.2.2
  have hfn := Lib.hid (show RR (Bp G sv) W1 (.fn i env) (.inl ⟨2, i, c.en, none, none⟩) from ⟨_, e, rfl, hE, hR⟩)
  have hen := Lib.hid hv1.1
  clear hv1 hE hR
  rw [hW1] at hmc
  clear hfz t0 t1 t2 t3 t4 t5 t6 t7 t8
  go_region_with (refine (hgive.out _ ⟨2, i, c.en, none, none⟩ hmc).mono ?_; rintro e1 w1 ⟨rfl, h2, h3⟩)
  all_goals
   have hfin := Lib.hid (mr_gv (v := .fn i env) h1.out hen.out hst.out hfn.out h2 (by rw [hW1]; exact h3))
   clear h1 h2 h3 hb1 hW1 hgive c3 c12 c13 hst hfn hmc
   go_wp2_with fail
   all_goals go_end0
   all_goals exact ⟨rfl, hfin.out⟩
 ·go_wp2_with fail
  obtain ⟨W1, hW1, hb1⟩ : ∃ W1, W1 = (w.alloc (.cells #[.int .i64 4, .int .i64 xa, .int .i64 xb, .int .i64 xc, .int .i64 xn, .int .i64 xx, .int .i64 xy, .int .i64 xz, .int .i64 xw] 37)).drew.drew ∧ Below w.heap.size w W1 := ⟨_, rfl, by (repeat' (first | (with_reducible first | exact bR _ _ | assumption | apply bS | apply bA | apply bD | apply bN | exact bL _) | (simp; done) | (simp; omega) | omega | exact bL _))⟩
  have h1 := h.out.below hb1
  have hv1 := hv.out.below hb1
  have hmc := Lib.hid h1.mc
  have hv2 := Lib.hid hv1; have h1 := Lib.hid h1
  have hst := Lib.hid hv1.2.2.2.1
  obtain ⟨e, hE, hR⟩ := hv1.2.2.2.2
  have hfn := Lib.hid (show RR (Bp G sv) W1 (.fn i env) (.inl ⟨2, i, c.en, none, none⟩) from ⟨_, e, rfl, hE, hR⟩)
  have hen := Lib.hid hv1.1
  clear hv1 hE hR
  rw [hW1] at hmc
  clear hfz t0 t1 t2 t3 t4 t5 t6 t7 t8
  go_region_with (refine (hgive.out _ ⟨2, i, c.en, none, none⟩ hmc).mono ?_; rintro e1 w1 ⟨rfl, h2, h3⟩)
  all_goals
   have hfin := Lib.hid (mr_gv (v := .fn i env) h1.out hen.out hst.out hfn.out h2 (by rw [hW1]; exact h3))
   clear h1 h2 h3 hb1 hW1 hgive c3 c12 c13 hst hfn hmc
   go_wp2_with fail
   all_goals go_end0
   all_goals exact ⟨rfl, hfin.out⟩
end Go.Proofs.Ytnjalpcmjkahkaa
