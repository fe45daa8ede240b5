/- Rows of frames that the reference's engine owns. -/
import Derived.Test.YtnjalpcmjkahkaaZt15
import Derived.Test.YtnjalpcmjkahkaaZt17
import Derived.Laws.AppendOwn
import Derived.Laws.OwnMore
import Derived.OwnWalk
set_option maxRecDepth 100000
set_option maxHeartbeats 8000000
namespace Go.Proofs.Ytnjalpcmjkahkaa
open Go.RowKit
set_option linter.unusedVariables false
set_option linter.unusedSimpArgs false
structure Fx where
 st : Int
 nd : Int
 en : Option Addr
 th : V7
def fx0 : Fx := ⟨0, 0, none, v70⟩
def FxAt (w : World) (b off : Nat) (t : Fx) (i : Nat) : Prop := w.cell? ⟨b, off + i * 10, none⟩ = some (.int .i64 t.st) ∧ w.cell? ⟨b, off + i * 10 + 1, none⟩ = some (.int .i64 t.nd) ∧ w.cell? ⟨b, off + i * 10 + 2, none⟩ = some (.pointer t.en) ∧ w.cell? ⟨b, off + i * 10 + 3, none⟩ = some (.int .i64 t.th.k) ∧ w.cell? ⟨b, off + i * 10 + 4, none⟩ = some (.int .i64 t.th.n) ∧ w.cell? ⟨b, off + i * 10 + 5, none⟩ = some (.int .i64 t.th.nd) ∧ w.cell? ⟨b, off + i * 10 + 6, none⟩ = some (.pointer t.th.en) ∧ w.cell? ⟨b, off + i * 10 + 7, none⟩ = some (.slice none 0 0) ∧ w.cell? ⟨b, off + i * 10 + 8, none⟩ = some (.pointer t.th.one) ∧ w.cell? ⟨b, off + i * 10 + 9, none⟩ = some (.pointer t.th.two)
def FxSl (w : World) (b off : Nat) (ts : List Fx) : Prop := ∀ i, i < ts.length → FxAt w b off (ts.getD i fx0) i
theorem infoFx : (Try.prog.info? 91).map (fun i => (i.zero, i.size, i.bytes)) = some (some (.agg #[.int .i64 0, .int .i64 0, .pointer none, .int .i64 0, .int .i64 0, .int .i64 0, .pointer none, .slice none 0 0, .pointer none, .pointer none]), 10, 96) := by kernel_rfl
def fxL1 (t : Fx) : List Value := [.int .i64 t.st, .int .i64 t.nd, .pointer t.en, .int .i64 t.th.k, .int .i64 t.th.n, .int .i64 t.th.nd, .pointer t.th.en, .slice none 0 0, .pointer t.th.one, .pointer t.th.two]
def fxL (l : List Fx) : List Value := l.flatMap fxL1
theorem fxL_len (l : List Fx) : (fxL l).length = l.length * 10 := by
 induction l with
 | nil => rfl
 | cons t l ih => simp only [fxL, List.flatMap_cons, List.length_append, List.length_cons] at *; rw [ih]; simp [fxL1]; omega
theorem fxL_app (l m : List Fx) : fxL (l ++ m) = fxL l ++ fxL m := by simp [fxL]
theorem fxL_get : ∀ (l : List Fx) (i k : Nat), k < 10 → (fxL l)[i * 10 + k]? = (l[i]?).bind fun t => (fxL1 t)[k]?
 | [], i, k, _ => by simp [fxL]
 | t :: l, 0, k, hk => by
  simp only [fxL, List.flatMap_cons, Nat.zero_mul, Nat.zero_add]
  rw [List.getElem?_append_left (by simp [fxL1]; omega)]; rfl
 | t :: l, i + 1, k, hk => by
  have h := fxL_get l i k hk
  simp only [fxL, List.flatMap_cons] at *
  rw [List.getElem?_append_right (by simp [fxL1]; omega), show (i + 1) * 10 + k - (fxL1 t).length = i * 10 + k by simp [fxL1]; omega, h]
  simp
theorem fxL_one (l : List Fx) : ∀ u ∈ fxL l, u.oneCell' = true := by
 intro u hu
 unfold fxL at hu
 rw [List.mem_flatMap] at hu
 obtain ⟨t, _, ht⟩ := hu
 unfold fxL1 at ht
 simp only [List.mem_cons, List.not_mem_nil, or_false] at ht
 rcases ht with rfl | rfl | rfl | rfl | rfl | rfl | rfl | rfl | rfl | rfl <;> rfl
theorem fxSl_of {w : World} {g off : Nat} {l : List Fx} (h : ∀ j u, (fxL l)[j]? = some u → w.cell? ⟨g, off + j, none⟩ = some u) : FxSl w g off l := by
 intro i hi
 have hg : l[i]? = some (l.getD i fx0) := by rw [List.getD_eq_getElem?_getD, List.getElem?_eq_getElem hi]; rfl
 have k0 := h (i * 10 + 0) (.int .i64 (l.getD i fx0).st) (by rw [fxL_get l i 0 (by omega), hg]; rfl)
 have k1 := h (i * 10 + 1) (.int .i64 (l.getD i fx0).nd) (by rw [fxL_get l i 1 (by omega), hg]; rfl)
 have k2 := h (i * 10 + 2) (.pointer (l.getD i fx0).en) (by rw [fxL_get l i 2 (by omega), hg]; rfl)
 have k3 := h (i * 10 + 3) (.int .i64 (l.getD i fx0).th.k) (by rw [fxL_get l i 3 (by omega), hg]; rfl)
 have k4 := h (i * 10 + 4) (.int .i64 (l.getD i fx0).th.n) (by rw [fxL_get l i 4 (by omega), hg]; rfl)
 have k5 := h (i * 10 + 5) (.int .i64 (l.getD i fx0).th.nd) (by rw [fxL_get l i 5 (by omega), hg]; rfl)
 have k6 := h (i * 10 + 6) (.pointer (l.getD i fx0).th.en) (by rw [fxL_get l i 6 (by omega), hg]; rfl)
 have k7 := h (i * 10 + 7) (.slice none 0 0) (by rw [fxL_get l i 7 (by omega), hg]; rfl)
 have k8 := h (i * 10 + 8) (.pointer (l.getD i fx0).th.one) (by rw [fxL_get l i 8 (by omega), hg]; rfl)
 have k9 := h (i * 10 + 9) (.pointer (l.getD i fx0).th.two) (by rw [fxL_get l i 9 (by omega), hg]; rfl)
 exact ⟨k0, k1, k2, k3, k4, k5, k6, k7, k8, k9⟩
def OwnX (B : Nat) (w : World) (v : Value) (l : List Fx) : Prop := w.ownsRow B 91 10 v l.length (fxL l)
theorem OwnX.nil (B : Nat) (w : World) : OwnX B w (.slice none 0 0) [] := ⟨rfl, .inl ⟨rfl, rfl⟩⟩
theorem OwnX.below {B : Nat} {w w1 : World} {v : Value} {l : List Fx} (h : OwnX B w v l) (hb : Below w.heap.size w w1) : OwnX B w1 v l := Bar.own (Bar.of_below (S := fun _ => False) hb) h fun _ _ hs => hs
theorem OwnX.cases {B : Nat} {w : World} {v : Value} {l : List Fx} (h : OwnX B w v l) : (v = .slice none 0 0 ∧ l = []) ∨ ∃ g c, v = .slice (some ⟨g, 0, none⟩) l.length c ∧ B ≤ g ∧ g < w.heap.size ∧ l.length ≤ c ∧ FxSl w g 0 l ∧ ∀ o, w.frozen? ⟨g, o, none⟩ = false := by
 have hh := h
 rcases h.2 with ⟨rfl, h0⟩ | ⟨g, cap, cur, rfl, hb, hg, hc, hm, hsz, htk⟩
 ·exact .inl ⟨rfl, List.eq_nil_of_length_eq_zero h0⟩
 ·refine .inr ⟨g, cap, rfl, hb, (Array.getElem?_eq_some_iff.1 hg).1, hc, fxSl_of fun j u hj => ?_, fun o => World.ownsRow.frozenAt hh o⟩
  have := World.ownsRow.cells (show w.ownsRow B 91 10 (.slice (some ⟨g, 0, none⟩) l.length cap) l.length (fxL l) from hh) rfl j u hj
  by_cases hj0 : j = 0
  ·subst hj0; simpa [Addr.add] using this
  ·simpa [Addr.add, hj0] using this
theorem run_appX {W : World} (B : Nat) (hB : B ≤ W.heap.size) (ty : TypeId) (v : Value) (l : List Fx) (hown : OwnX B W v l) (ad : Addr) (m c : Nat) (ys : List Fx) (hm : m = ys.length) (hnews : ∀ j u, (fxL ys)[j]? = some u → W.cell? (ad.add j) = some u) (hlen : l.length + ys.length ≤ 1000000) :
  ∃ v' w', (Builtin.append_ #[63, 63] ty #[v, .slice (some ad) m c]).run Try.prog W = .ok v' w' ∧ OwnX B w' v' (l ++ ys) ∧ Bar (fun k => v.ownBlock = some k) W w' ∧ (∀ g, v'.ownBlock = some g → v.ownBlock = some g ∨ W.heap.size ≤ g) := by
 subst hm
 obtain ⟨i0, hi, hz0, hz1, hz2⟩ := info_parts infoFx
 obtain ⟨v', w', hr, h1, h2, h3⟩ := run_append_own (P := Try.prog) (w := W) B 63 ty 91 i0 (.agg #[.int .i64 0, .int .i64 0, .pointer none, .int .i64 0, .int .i64 0, .int .i64 0, .pointer none, .slice none 0 0, .pointer none, .pointer none]) 10 96 Try.underlying63 hi hz0 hz1 hz2 rfl (by decide) v l.length (fxL l) hown ad ys.length c (fxL ys) (fxL_len ys) hnews (fxL_one ys) (by unfold maxLen; omega) (by omega) hB
 have h1' : OwnX B w' v' (l ++ ys) := by unfold OwnX; rw [fxL_app, List.length_append]; exact h1
 have hbar : Bar (fun k => v.ownBlock = some k) W w' := ⟨h2.os, h2.tape, h2.output, h2.size, fun k hk hn => h2.block k hk (fun e => hn e.symm)⟩
 refine ⟨v', w', hr, h1', hbar, ?_⟩
 rcases hown.2 with ⟨e1, e0⟩ | ⟨g, cap, cur, e1, hBg, hg, hc, hcm, hcs, htk⟩
 ·have hl0 : l = [] := List.eq_nil_of_length_eq_zero e0
  subst hl0; subst e1
  intro k hk
  by_cases h0 : ys.length = 0
  ·have := h3.2 ⟨rfl, h0⟩; rw [this] at hk; cases hk
  ·have hr2 := run_append_nil (P := Try.prog) W 63 ty 91 i0 (.agg #[.int .i64 0, .int .i64 0, .pointer none, .int .i64 0, .int .i64 0, .int .i64 0, .pointer none, .slice none 0 0, .pointer none, .pointer none]) Try.underlying63 hi hz0 ad ys.length c (fxL ys) (by rw [fxL_len, hz1]) hnews (by omega) (by omega) (by rw [hz2]; omega)
   rw [hr] at hr2
   injection hr2 with e1 e2
   subst e1
   have hk : W.heap.size = k := Option.some.inj hk
   exact .inr (by omega)
 ·subst e1
  by_cases hroom : l.length + ys.length ≤ cap
  ·have hfit : l.length * i0.size + (fxL ys).length ≤ cur.size := by
    rw [hz1, hcs, fxL_len]
    have := Nat.mul_le_mul_right 10 hroom
    rw [Nat.add_mul] at this; omega
   have hr2 := run_append_room (P := Try.prog) W 63 ty 91 i0 Try.underlying63 hi g l.length cap cur hg ad ys.length c (fxL ys) (by rw [fxL_len, hz1]) hnews (fxL_one ys) hroom hfit
   rw [hr] at hr2
   injection hr2 with e1 e2
   intro k hk
   exact .inl (by rw [e1] at hk; exact hk)
  ·have hr2 := run_append_grow (P := Try.prog) W 63 ty 91 i0 (.agg #[.int .i64 0, .int .i64 0, .pointer none, .int .i64 0, .int .i64 0, .int .i64 0, .pointer none, .slice none 0 0, .pointer none, .pointer none]) Try.underlying63 hi hz0 ⟨g, 0, none⟩ l.length cap (fxL l) (by rw [fxL_len, hz1]) (fun j u hj => World.ownsRow.cells (show W.ownsRow B 91 10 (.slice (some ⟨g, 0, none⟩) l.length cap) l.length (fxL l) from hown) rfl j u hj) ad ys.length c (fxL ys) (by rw [fxL_len, hz1]) hnews (by omega) (by omega) (by rw [hz2]; exact growslice_fits (by omega) (by omega))
   rw [hr] at hr2
   injection hr2 with e1 e2
   have hob : v'.ownBlock = some W.heap.size := by rw [e1]; rfl
   intro k hk
   exact .inr (by rw [hob] at hk; injection hk with hk; omega)
theorem OwnX.pop {B : Nat} {w : World} {v : Value} {l : List Fx} {f : Fx} (h : OwnX B w v (l ++ [f])) :
  ∃ g c, v = .slice (some ⟨g, 0, none⟩) (l.length + 1) c ∧ l.length + 1 ≤ c ∧ B ≤ g ∧ g < w.heap.size ∧ FxAt w g 0 f l.length ∧ OwnX B w (.slice (some ⟨g, 0, none⟩) l.length c) l := by
 have hh := h
 rcases h.2 with ⟨_, h0⟩ | ⟨g, cap, cur, rfl, hb, hg, hc, hm, hsz, htk⟩
 ·simp at h0
 ·have hlen : (l ++ [f]).length = l.length + 1 := by simp
  rw [hlen] at hc htk
  rcases hh.cases with ⟨h1, _⟩ | ⟨g', c', h1, _, h3, _, h5, _⟩
  ·cases h1
  ·injection h1 with h1 _ h1c
   injection h1 with h1; injection h1 with h1 _ _; subst h1
   refine ⟨g, cap, by rw [hlen], hc, hb, h3, ?_, fxL_len l, .inr ⟨g, cap, cur, rfl, hb, hg, by omega, hm, hsz, ?_⟩⟩
   ·have := h5 l.length (by simp)
    rwa [show (l ++ [f]).getD l.length fx0 = f from by simp] at this
   ·rw [fxL_app] at htk
    have h2 : (cur.toList.take ((l.length + 1) * 10)).take (l.length * 10) = (fxL l ++ fxL [f]).take (l.length * 10) := by rw [htk]
    rw [List.take_take, Nat.min_eq_left (by omega), List.take_left' (fxL_len l)] at h2
    exact h2
open Go.RowKit
structure Fr where
 st : Int
 nd : Int
 en : Option Addr
 th : Th
def fr0 : Fr := ⟨0, 0, none, ⟨0, 0, none, none, none⟩⟩
def FrAt (w : World) (b off : Nat) (t : Fr) (i : Nat) : Prop := w.cell? ⟨b, off + i * 8, none⟩ = some (.int .i64 t.st) ∧ w.cell? ⟨b, off + i * 8 + 1, none⟩ = some (.int .i64 t.nd) ∧ w.cell? ⟨b, off + i * 8 + 2, none⟩ = some (.pointer t.en) ∧ w.cell? ⟨b, off + i * 8 + 3, none⟩ = some (.int .i64 t.th.a) ∧ w.cell? ⟨b, off + i * 8 + 4, none⟩ = some (.int .i64 t.th.b) ∧ w.cell? ⟨b, off + i * 8 + 5, none⟩ = some (.pointer t.th.c) ∧ w.cell? ⟨b, off + i * 8 + 6, none⟩ = some (.pointer t.th.d) ∧ w.cell? ⟨b, off + i * 8 + 7, none⟩ = some (.pointer t.th.e)
def FrSl (w : World) (b off : Nat) (ts : List Fr) : Prop := ∀ i, i < ts.length → FrAt w b off (ts.getD i fr0) i
theorem infoFr : (Try.prog.info? 129).map (fun i => (i.zero, i.size, i.bytes)) = some (some (.agg #[.int .i64 0, .int .i64 0, .pointer none, .int .i64 0, .int .i64 0, .pointer none, .pointer none, .pointer none]), 8, 64) := by kernel_rfl
def frL1 (t : Fr) : List Value := [.int .i64 t.st, .int .i64 t.nd, .pointer t.en, .int .i64 t.th.a, .int .i64 t.th.b, .pointer t.th.c, .pointer t.th.d, .pointer t.th.e]
def frL (l : List Fr) : List Value := l.flatMap frL1
theorem frL_len (l : List Fr) : (frL l).length = l.length * 8 := by
 induction l with
 | nil => rfl
 | cons t l ih => simp only [frL, List.flatMap_cons, List.length_append, List.length_cons] at *; rw [ih]; simp [frL1]; omega
theorem frL_app (l m : List Fr) : frL (l ++ m) = frL l ++ frL m := by simp [frL]
theorem frL_get : ∀ (l : List Fr) (i k : Nat), k < 8 → (frL l)[i * 8 + k]? = (l[i]?).bind fun t => (frL1 t)[k]?
 | [], i, k, _ => by simp [frL]
 | t :: l, 0, k, hk => by
  simp only [frL, List.flatMap_cons, Nat.zero_mul, Nat.zero_add]
  rw [List.getElem?_append_left (by simp [frL1]; omega)]; rfl
 | t :: l, i + 1, k, hk => by
  have h := frL_get l i k hk
  simp only [frL, List.flatMap_cons] at *
  rw [List.getElem?_append_right (by simp [frL1]; omega), show (i + 1) * 8 + k - (frL1 t).length = i * 8 + k by simp [frL1]; omega, h]
  simp
theorem frL_one (l : List Fr) : ∀ u ∈ frL l, u.oneCell' = true := by
 intro u hu
 unfold frL at hu
 rw [List.mem_flatMap] at hu
 obtain ⟨t, _, ht⟩ := hu
 unfold frL1 at ht
 simp only [List.mem_cons, List.not_mem_nil, or_false] at ht
 rcases ht with rfl | rfl | rfl | rfl | rfl | rfl | rfl | rfl <;> rfl
theorem frSl_of {w : World} {g off : Nat} {l : List Fr} (h : ∀ j u, (frL l)[j]? = some u → w.cell? ⟨g, off + j, none⟩ = some u) : FrSl w g off l := by
 intro i hi
 have hg : l[i]? = some (l.getD i fr0) := by rw [List.getD_eq_getElem?_getD, List.getElem?_eq_getElem hi]; rfl
 have k0 := h (i * 8 + 0) (.int .i64 (l.getD i fr0).st) (by rw [frL_get l i 0 (by omega), hg]; rfl)
 have k1 := h (i * 8 + 1) (.int .i64 (l.getD i fr0).nd) (by rw [frL_get l i 1 (by omega), hg]; rfl)
 have k2 := h (i * 8 + 2) (.pointer (l.getD i fr0).en) (by rw [frL_get l i 2 (by omega), hg]; rfl)
 have k3 := h (i * 8 + 3) (.int .i64 (l.getD i fr0).th.a) (by rw [frL_get l i 3 (by omega), hg]; rfl)
 have k4 := h (i * 8 + 4) (.int .i64 (l.getD i fr0).th.b) (by rw [frL_get l i 4 (by omega), hg]; rfl)
 have k5 := h (i * 8 + 5) (.pointer (l.getD i fr0).th.c) (by rw [frL_get l i 5 (by omega), hg]; rfl)
 have k6 := h (i * 8 + 6) (.pointer (l.getD i fr0).th.d) (by rw [frL_get l i 6 (by omega), hg]; rfl)
 have k7 := h (i * 8 + 7) (.pointer (l.getD i fr0).th.e) (by rw [frL_get l i 7 (by omega), hg]; rfl)
 exact ⟨k0, k1, k2, k3, k4, k5, k6, k7⟩
def OwnF (B : Nat) (w : World) (v : Value) (l : List Fr) : Prop := w.ownsRow B 129 8 v l.length (frL l)
theorem OwnF.nil (B : Nat) (w : World) : OwnF B w (.slice none 0 0) [] := ⟨rfl, .inl ⟨rfl, rfl⟩⟩
theorem OwnF.below {B : Nat} {w w1 : World} {v : Value} {l : List Fr} (h : OwnF B w v l) (hb : Below w.heap.size w w1) : OwnF B w1 v l := Bar.own (Bar.of_below (S := fun _ => False) hb) h fun _ _ hs => hs
theorem OwnF.cases {B : Nat} {w : World} {v : Value} {l : List Fr} (h : OwnF B w v l) : (v = .slice none 0 0 ∧ l = []) ∨ ∃ g c, v = .slice (some ⟨g, 0, none⟩) l.length c ∧ B ≤ g ∧ g < w.heap.size ∧ l.length ≤ c ∧ FrSl w g 0 l ∧ ∀ o, w.frozen? ⟨g, o, none⟩ = false := by
 have hh := h
 rcases h.2 with ⟨rfl, h0⟩ | ⟨g, cap, cur, rfl, hb, hg, hc, hm, hsz, htk⟩
 ·exact .inl ⟨rfl, List.eq_nil_of_length_eq_zero h0⟩
 ·refine .inr ⟨g, cap, rfl, hb, (Array.getElem?_eq_some_iff.1 hg).1, hc, frSl_of fun j u hj => ?_, fun o => World.ownsRow.frozenAt hh o⟩
  have := World.ownsRow.cells (show w.ownsRow B 129 8 (.slice (some ⟨g, 0, none⟩) l.length cap) l.length (frL l) from hh) rfl j u hj
  by_cases hj0 : j = 0
  ·subst hj0; simpa [Addr.add] using this
  ·simpa [Addr.add, hj0] using this
theorem run_appF {W : World} (B : Nat) (hB : B ≤ W.heap.size) (ty : TypeId) (v : Value) (l : List Fr) (hown : OwnF B W v l) (ad : Addr) (m c : Nat) (ys : List Fr) (hm : m = ys.length) (hnews : ∀ j u, (frL ys)[j]? = some u → W.cell? (ad.add j) = some u) (hlen : l.length + ys.length ≤ 1000000) :
  ∃ v' w', (Builtin.append_ #[50, 50] ty #[v, .slice (some ad) m c]).run Try.prog W = .ok v' w' ∧ OwnF B w' v' (l ++ ys) ∧ Bar (fun k => v.ownBlock = some k) W w' ∧ (∀ g, v'.ownBlock = some g → v.ownBlock = some g ∨ W.heap.size ≤ g) := by
 subst hm
 obtain ⟨i0, hi, hz0, hz1, hz2⟩ := info_parts infoFr
 obtain ⟨v', w', hr, h1, h2, h3⟩ := run_append_own (P := Try.prog) (w := W) B 50 ty 129 i0 (.agg #[.int .i64 0, .int .i64 0, .pointer none, .int .i64 0, .int .i64 0, .pointer none, .pointer none, .pointer none]) 8 64 Try.underlying50 hi hz0 hz1 hz2 rfl (by decide) v l.length (frL l) hown ad ys.length c (frL ys) (frL_len ys) hnews (frL_one ys) (by unfold maxLen; omega) (by omega) hB
 have h1' : OwnF B w' v' (l ++ ys) := by unfold OwnF; rw [frL_app, List.length_append]; exact h1
 have hbar : Bar (fun k => v.ownBlock = some k) W w' := ⟨h2.os, h2.tape, h2.output, h2.size, fun k hk hn => h2.block k hk (fun e => hn e.symm)⟩
 refine ⟨v', w', hr, h1', hbar, ?_⟩
 rcases hown.2 with ⟨e1, e0⟩ | ⟨g, cap, cur, e1, hBg, hg, hc, hcm, hcs, htk⟩
 ·have hl0 : l = [] := List.eq_nil_of_length_eq_zero e0
  subst hl0; subst e1
  intro k hk
  by_cases h0 : ys.length = 0
  ·have := h3.2 ⟨rfl, h0⟩; rw [this] at hk; cases hk
  ·have hr2 := run_append_nil (P := Try.prog) W 50 ty 129 i0 (.agg #[.int .i64 0, .int .i64 0, .pointer none, .int .i64 0, .int .i64 0, .pointer none, .pointer none, .pointer none]) Try.underlying50 hi hz0 ad ys.length c (frL ys) (by rw [frL_len, hz1]) hnews (by omega) (by omega) (by rw [hz2]; omega)
   rw [hr] at hr2
   injection hr2 with e1 e2
   subst e1
   have hk : W.heap.size = k := Option.some.inj hk
   exact .inr (by omega)
 ·subst e1
  by_cases hroom : l.length + ys.length ≤ cap
  ·have hfit : l.length * i0.size + (frL ys).length ≤ cur.size := by
    rw [hz1, hcs, frL_len]
    have := Nat.mul_le_mul_right 8 hroom
    rw [Nat.add_mul] at this; omega
   have hr2 := run_append_room (P := Try.prog) W 50 ty 129 i0 Try.underlying50 hi g l.length cap cur hg ad ys.length c (frL ys) (by rw [frL_len, hz1]) hnews (frL_one ys) hroom hfit
   rw [hr] at hr2
   injection hr2 with e1 e2
   intro k hk
   exact .inl (by rw [e1] at hk; exact hk)
  ·have hr2 := run_append_grow (P := Try.prog) W 50 ty 129 i0 (.agg #[.int .i64 0, .int .i64 0, .pointer none, .int .i64 0, .int .i64 0, .pointer none, .pointer none, .pointer none]) Try.underlying50 hi hz0 ⟨g, 0, none⟩ l.length cap (frL l) (by rw [frL_len, hz1]) (fun j u hj => World.ownsRow.cells (show W.ownsRow B 129 8 (.slice (some ⟨g, 0, none⟩) l.length cap) l.length (frL l) from hown) rfl j u hj) ad ys.length c (frL ys) (by rw [frL_len, hz1]) hnews (by omega) (by omega) (by rw [hz2]; exact growslice_fits (by omega) (by omega))
   rw [hr] at hr2
   injection hr2 with e1 e2
   have hob : v'.ownBlock = some W.heap.size := by rw [e1]; rfl
   intro k hk
   exact .inr (by rw [hob] at hk; injection hk with hk; omega)
theorem OwnF.pop {B : Nat} {w : World} {v : Value} {l : List Fr} {f : Fr} (h : OwnF B w v (l ++ [f])) :
  ∃ g c, v = .slice (some ⟨g, 0, none⟩) (l.length + 1) c ∧ l.length + 1 ≤ c ∧ B ≤ g ∧ g < w.heap.size ∧ FrAt w g 0 f l.length ∧ OwnF B w (.slice (some ⟨g, 0, none⟩) l.length c) l := by
 have hh := h
 rcases h.2 with ⟨_, h0⟩ | ⟨g, cap, cur, rfl, hb, hg, hc, hm, hsz, htk⟩
 ·simp at h0
 ·have hlen : (l ++ [f]).length = l.length + 1 := by simp
  rw [hlen] at hc htk
  rcases hh.cases with ⟨h1, _⟩ | ⟨g', c', h1, _, h3, _, h5, _⟩
  ·cases h1
  ·injection h1 with h1 _ h1c
   injection h1 with h1; injection h1 with h1 _ _; subst h1
   refine ⟨g, cap, by rw [hlen], hc, hb, h3, ?_, frL_len l, .inr ⟨g, cap, cur, rfl, hb, hg, by omega, hm, hsz, ?_⟩⟩
   ·have := h5 l.length (by simp)
    rwa [show (l ++ [f]).getD l.length fr0 = f from by simp] at this
   ·rw [frL_app] at htk
    have h2 : (cur.toList.take ((l.length + 1) * 8)).take (l.length * 8) = (frL l ++ frL [f]).take (l.length * 8) := by rw [htk]
    rw [List.take_take, Nat.min_eq_left (by omega), List.take_left' (frL_len l)] at h2
    exact h2
end Go.Proofs.Ytnjalpcmjkahkaa
