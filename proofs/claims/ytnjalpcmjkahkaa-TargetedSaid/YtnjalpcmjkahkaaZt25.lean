/- The reference's engine for targets: what is told in the end. -/
import Derived.Test.YtnjalpcmjkahkaaZt21
import Derived.Test.YtnjalpcmjkahkaaZt24
set_option maxRecDepth 100000
set_option maxHeartbeats 8000000
namespace Go.Proofs.Ytnjalpcmjkahkaa
open Go.RowKit
set_option linter.unusedVariables false
set_option linter.unusedSimpArgs false
theorem told_kind {W : World} {v : NV} {t : V7} (h : VR W v (.inl t)) :
  (t.k ≠ 5 ∧ outR v.er = (5, 0)) ∨ (t.k = 5 ∧ ∃ g u, t.one = some ⟨g, 0, none⟩ ∧ g < W.heap.size ∧ VCo W g 0 u ∧ outR v.er = seenK u.k u.n) := by
 cases v with
 | num n => cases h; exact .inl ⟨by show (0 : Int) ≠ 5; decide, rfl⟩
 | tru n => cases h; exact .inl ⟨by show (1 : Int) ≠ 5; decide, rfl⟩
 | fn n e => obtain ⟨_, h, _⟩ := h; cases h; exact .inl ⟨by show (2 : Int) ≠ 5; decide, rfl⟩
 | bnd n e f => obtain ⟨_, _, _, h, _⟩ := h; cases h; exact .inl ⟨by show (7 : Int) ≠ 5; decide, rfl⟩
 | fwd f g => obtain ⟨_, _, _, _, h, _⟩ := h; cases h; exact .inl ⟨by show (8 : Int) ≠ 5; decide, rfl⟩
 | ret u =>
  obtain ⟨a, x, h, ⟨g, ha, hg, _, hc⟩, hu⟩ := h
  cases h
  exact .inr ⟨rfl, g, x, ha, hg, hc, seen_kind hu⟩
 | op n u f => obtain ⟨_, _, _, _, h, _⟩ := h; cases h; exact .inl ⟨by show (6 : Int) ≠ 5; decide, rfl⟩
 | nil => cases h
 | cons x u r => obtain ⟨_, _, _, h, _⟩ := h; cases h
theorem told_any (W : World) (v : NV) (t : V7) (h : Hid (VR W v (.inl t))) :
  Calls Try.prog 21 #[.agg #[.int .i64 t.k, .int .i64 t.n, .int .i64 t.nd, .pointer t.en, .slice none 0 0, .pointer t.one, .pointer t.two]] W fun e w' => e = .returned (.agg #[.int .i64 (outR v.er).1, .int .i64 (outR v.er).2]) ∧ Below W.heap.size W w' := by
 obtain ⟨k, n, nd, en, one, two⟩ := t
 rcases told_kind h.out with ⟨h5, ho⟩ | ⟨h5, g, u, ha, hg, ⟨u0, u1, u2, u3, u4, u5, u6⟩, ho⟩
 ·rw [ho]
  dsimp only at h5 ⊢
  clear h ho
  go_enter Try.func21, Try.ntmps21
  go_wp2_with fail
  exact bodyPost_ret (v := .agg #[.int .i64 5, .int .i64 0]) (by simp [results, Try.results21, go_sem, *]) rfl ⟨rfl, by (repeat' (first | (with_reducible first | exact bR _ _ | assumption | apply bS | apply bA | apply bD | apply bN | exact bL _) | (simp; done) | (simp; omega) | omega | exact bL _))⟩
 ·rw [ho]
  dsimp only at h5 ha
  subst h5 ha
  obtain ⟨a0, a1, a2, a3, a4, a5⟩ := u
  dsimp only at u0 u1 u2 u3 u4 u5 u6 ⊢
  simp only [Nat.zero_add] at u1 u2 u3 u4 u5 u6
  have hse := Lib.hid fun (W : World) => seen_any W a0 a1 a2 a3 a4 a5
  obtain ⟨s1, s2, hs⟩ : ∃ s1 s2, seenK a0 a1 = (s1, s2) := ⟨_, _, rfl⟩
  rw [hs] at hse ⊢
  dsimp only at hse ⊢
  clear h ho hs
  go_enter Try.func21, Try.ntmps21
  go_wp2_with fail
  refine (hse.out _).mono ?_
  rintro e w1 ⟨rfl, hb1⟩
  have x0 : w1.cell? ⟨W.heap.size + 1, 0, none⟩ = some (.int .i64 0) := carry hb1 (by simp) (by simp [go_sem])
  have x1 : w1.cell? ⟨W.heap.size + 1, 1, none⟩ = some (.int .i64 0) := carry hb1 (by simp) (by simp [go_sem])
  have xf : ∀ o, w1.frozen? ⟨W.heap.size + 1, o, none⟩ = false := fun o => by rw [hb1.frozen (p := ⟨W.heap.size + 1, o, none⟩) (by simp)]; simp [go_sem]
  have xl : W.heap.size + 1 < w1.heap.size := Nat.lt_of_lt_of_le (by simp) hb1.size
  have hbw : Below W.heap.size W w1 := belT (by (repeat' (first | (with_reducible first | exact bR _ _ | assumption | apply bS | apply bA | apply bD | apply bN | exact bL _) | (simp; done) | (simp; omega) | omega | exact bL _))) hb1
  have xf0 := xf 0; have xf1 := xf 1
  clear hb1 xf
  go_wp2_with fail
  exact bodyPost_ret (v := .agg #[.int .i64 s1, .int .i64 s2]) (by simp [results, Try.results21, go_sem, *]) rfl ⟨rfl, by (repeat' (first | (with_reducible first | exact bR _ _ | assumption | apply bS | apply bA | apply bD | apply bN | exact bL _) | (simp; done) | (simp; omega) | omega | exact bL _))⟩
open Go.RowKit
theorem step_fxr {ops : Array Oper} {o : Oper} {a : Act} {K : Act → World → Prop} {Q : Exit → Act → World → Prop} {E : Prop} (hgd : o.guard = none) (s x : Operand) (W : World) (B : Nat) (hB : B ≤ W.heap.size) (ov : Value) (l ys : List Fx) (arr : Array Value)
  (ho : o.op = .call { callee := .builtin .append, args := #[s, x], argTypes := #[63, 63] })
  (hs : a.eval s = ov) (m : Nat) (hm : m = ys.length) (hx : a.eval x = .slice (some ⟨W.heap.size, 0, none⟩) m m) (harr : arr.toList = fxL ys) (hown : OwnX B W ov l) (hlen : l.length + ys.length ≤ 1000000)
  (h : ∀ v' w', OwnX B w' v' (l ++ ys) → Bar (fun k => ov.ownBlock = some k) W.drew w' → (∀ g, v'.ownBlock = some g → ov.ownBlock = some g ∨ W.heap.size ≤ g) → K (a.put o.dst v') w') :
  if Region.wanted o (yielded ops a.tmps) = true then Oper.wp Try.prog o a (W.alloc (.cells arr 91)).drew K Q else E := by
 subst hm
 have hw : Region.wanted o (yielded ops a.tmps) = true := by simp [Region.wanted, hgd]
 rw [if_pos hw]
 obtain ⟨v', w', hr, h1, h2, h3⟩ := run_appX (W := (W.alloc (.cells arr 91)).drew) B (by simp; omega) o.type ov l (hown.below (((Below.refl _ _).alloc (Nat.le_refl _) _).drew)) ⟨W.heap.size, 0, none⟩ ys.length ys.length ys rfl (fun j u hj => by
  have e : (⟨W.heap.size, 0, none⟩ : Addr).add j = ⟨W.heap.size, j, none⟩ := by simp [Addr.add]; try omega
  show (W.alloc _).cell? _ = _
  rw [e, World.cell?_alloc_at _ _ _ _ rfl, ← hj, ← harr, Array.getElem?_toList]) hlen
 unfold Oper.wp
 simp [execOp, ho, resolve, invoke, builtin, hs, hx, hr, Result.andThen]
 refine h v' w' h1 ?_ fun g hg => ?_
 ·have hsz := h2.size
  simp at hsz
  exact ⟨h2.os, h2.tape, h2.output, by simp; omega, fun k hk hn => (h2.block k (by simp; simp at hk; omega) hn).trans (Below.heap_alloc W _ k (by simp at hk; omega))⟩
 ·rcases h3 g hg with h | h
  ·exact .inl h
  ·exact .inr (by simp at h; omega)
theorem own_slX {B : Nat} {w : World} {v : Value} {l : List Fx} (h : OwnX B w v l) : ∃ a c, v = .slice a l.length c := by
 rcases h.2 with ⟨h1, h0⟩ | ⟨g, cap, cur, h1, _⟩
 ·exact ⟨none, 0, by rw [h1, h0]⟩
 ·exact ⟨_, _, h1⟩
theorem OwnX.last {B : Nat} {w : World} {g c : Nat} {l : List Fx} {f0 : Fx} (h : OwnX B w (.slice (some ⟨g, 0, none⟩) (l.length + 1) c) (l ++ [f0])) (f : Fx) :
  OwnX B ((((((((((w.setCell ⟨g, l.length * 10, none⟩ (.int .i64 f.st)).setCell ⟨g, l.length * 10 + 1, none⟩ (.int .i64 f.nd)).setCell ⟨g, l.length * 10 + 2, none⟩ (.pointer f.en)).setCell ⟨g, l.length * 10 + 3, none⟩ (.int .i64 f.th.k)).setCell ⟨g, l.length * 10 + 4, none⟩ (.int .i64 f.th.n)).setCell ⟨g, l.length * 10 + 5, none⟩ (.int .i64 f.th.nd)).setCell ⟨g, l.length * 10 + 6, none⟩ (.pointer f.th.en)).setCell ⟨g, l.length * 10 + 7, none⟩ (.slice none 0 0)).setCell ⟨g, l.length * 10 + 8, none⟩ (.pointer f.th.one)).setCell ⟨g, l.length * 10 + 9, none⟩ (.pointer f.th.two)) (.slice (some ⟨g, 0, none⟩) (l.length + 1) c) (l ++ [f]) ∧ Bar (fun k => k = g) w ((((((((((w.setCell ⟨g, l.length * 10, none⟩ (.int .i64 f.st)).setCell ⟨g, l.length * 10 + 1, none⟩ (.int .i64 f.nd)).setCell ⟨g, l.length * 10 + 2, none⟩ (.pointer f.en)).setCell ⟨g, l.length * 10 + 3, none⟩ (.int .i64 f.th.k)).setCell ⟨g, l.length * 10 + 4, none⟩ (.int .i64 f.th.n)).setCell ⟨g, l.length * 10 + 5, none⟩ (.int .i64 f.th.nd)).setCell ⟨g, l.length * 10 + 6, none⟩ (.pointer f.th.en)).setCell ⟨g, l.length * 10 + 7, none⟩ (.slice none 0 0)).setCell ⟨g, l.length * 10 + 8, none⟩ (.pointer f.th.one)).setCell ⟨g, l.length * 10 + 9, none⟩ (.pointer f.th.two)) := by
 have e : (l ++ [f0]).length = l.length + 1 := by simp
 have e2 : (l ++ [f]).length = l.length + 1 := by simp
 unfold OwnX at h ⊢
 rw [e] at h
 rw [e2]
 have hx : (((((((((((fxL (l ++ [f0])).set (l.length * 10) (.int .i64 f.st)).set (l.length * 10 + 1) (.int .i64 f.nd)).set (l.length * 10 + 2) (.pointer f.en)).set (l.length * 10 + 3) (.int .i64 f.th.k)).set (l.length * 10 + 4) (.int .i64 f.th.n)).set (l.length * 10 + 5) (.int .i64 f.th.nd)).set (l.length * 10 + 6) (.pointer f.th.en)).set (l.length * 10 + 7) (.slice none 0 0)).set (l.length * 10 + 8) (.pointer f.th.one)).set (l.length * 10 + 9) (.pointer f.th.two)) = fxL (l ++ [f]) := by
  rw [fxL_app, fxL_app]
  have hl := fxL_len l
  rw [List.set_append_right _ _ (by rw [hl]; omega), hl]
  rw [List.set_append_right _ _ (by rw [hl]; omega), hl]
  rw [List.set_append_right _ _ (by rw [hl]; omega), hl]
  rw [List.set_append_right _ _ (by rw [hl]; omega), hl]
  rw [List.set_append_right _ _ (by rw [hl]; omega), hl]
  rw [List.set_append_right _ _ (by rw [hl]; omega), hl]
  rw [List.set_append_right _ _ (by rw [hl]; omega), hl]
  rw [List.set_append_right _ _ (by rw [hl]; omega), hl]
  rw [List.set_append_right _ _ (by rw [hl]; omega), hl]
  rw [List.set_append_right _ _ (by rw [hl]; omega), hl]
  have e1 : fxL [f0] = fxL1 f0 := by simp [fxL]
  have e3 : fxL [f] = fxL1 f := by simp [fxL]
  rw [e1, e3]
  simp [fxL1]
 rw [← hx]
 obtain ⟨h0, b0⟩ := h.stored (l.length * 10) (.int .i64 f.st)
 obtain ⟨h1, b1⟩ := h0.stored (l.length * 10 + 1) (.int .i64 f.nd)
 obtain ⟨h2, b2⟩ := h1.stored (l.length * 10 + 2) (.pointer f.en)
 obtain ⟨h3, b3⟩ := h2.stored (l.length * 10 + 3) (.int .i64 f.th.k)
 obtain ⟨h4, b4⟩ := h3.stored (l.length * 10 + 4) (.int .i64 f.th.n)
 obtain ⟨h5, b5⟩ := h4.stored (l.length * 10 + 5) (.int .i64 f.th.nd)
 obtain ⟨h6, b6⟩ := h5.stored (l.length * 10 + 6) (.pointer f.th.en)
 obtain ⟨h7, b7⟩ := h6.stored (l.length * 10 + 7) (.slice none 0 0)
 obtain ⟨h8, b8⟩ := h7.stored (l.length * 10 + 8) (.pointer f.th.one)
 obtain ⟨h9, b9⟩ := h8.stored (l.length * 10 + 9) (.pointer f.th.two)
 exact ⟨h9, (((((((((((Bar.refl _ w).trans (Bar.set (S := fun k => k = g) ⟨g, _, none⟩ _ rfl) fun _ _ h => h).trans (Bar.set (S := fun k => k = g) ⟨g, _, none⟩ _ rfl) fun _ _ h => h).trans (Bar.set (S := fun k => k = g) ⟨g, _, none⟩ _ rfl) fun _ _ h => h).trans (Bar.set (S := fun k => k = g) ⟨g, _, none⟩ _ rfl) fun _ _ h => h).trans (Bar.set (S := fun k => k = g) ⟨g, _, none⟩ _ rfl) fun _ _ h => h).trans (Bar.set (S := fun k => k = g) ⟨g, _, none⟩ _ rfl) fun _ _ h => h).trans (Bar.set (S := fun k => k = g) ⟨g, _, none⟩ _ rfl) fun _ _ h => h).trans (Bar.set (S := fun k => k = g) ⟨g, _, none⟩ _ rfl) fun _ _ h => h).trans (Bar.set (S := fun k => k = g) ⟨g, _, none⟩ _ rfl) fun _ _ h => h).trans (Bar.set (S := fun k => k = g) ⟨g, _, none⟩ _ rfl) fun _ _ h => h)⟩
end Go.Proofs.Ytnjalpcmjkahkaa
