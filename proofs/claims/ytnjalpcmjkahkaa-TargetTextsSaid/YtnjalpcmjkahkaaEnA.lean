/- What is bound: the thing at a place of a tree. -/
import Derived.Test.YtnjalpcmjkahkaaEnP
import Derived.Deep.DeepCutAuto
namespace Go.Proofs.Ytnjalpcmjkahkaa
open Go.RowKit
set_option linter.unusedVariables false
set_option linter.unusedSimpArgs false

def th0 : Th := ⟨0, 0, none, none, none⟩
def TaR (W : World) (x : Th) (pv fv sv : Value) : Prop := ∃ (k : Nat) (l : List Th) (f : Nat), Hid (TrR W k pv l) ∧ f < l.length ∧ l.length ≤ 1099511627776 ∧ fv = .int .i64 f ∧ sv = .int .i64 l.length ∧ l.getD f th0 = x
theorem tr_in {W : World} {k : Nat} {p : Value} {l : List Th} (h : TrR W k p l) {f : Nat} (hf : f < l.length) : ∃ (g : Nat) (t : Th) (i o : Value) (l1 l2 : List Th) (k' m : Nat), p = .pointer (some ⟨g, 0, none⟩) ∧ g < W.heap.size ∧
      (ThC W g t ∧ W.cell? ⟨g, 5, none⟩ = some i ∧ W.cell? ⟨g, 6, none⟩ = some o) ∧
      TrR W k' i l1 ∧ TrR W k' o l2 ∧ l = t :: (l1 ++ l2) ∧ l1.length = m ∧ l2.length = m := by
  cases k with
  | zero => obtain ⟨_, rfl⟩ := h; simp at hf
  | succ k =>
    obtain ⟨g, t, i, o, l1, l2, rfl, hg, _, hc, h1, h2, rfl⟩ := h
    have e1 := h1.len; have e2 := h2.len
    exact ⟨g, t, i, o, l1, l2, k, l1.length, rfl, hg, hc, h1, h2, rfl, rfl, by omega⟩
theorem getD_in {t : Th} {l1 l2 : List Th} {f : Nat} (h0 : 0 < f) (h : f ≤ l1.length) : (t :: (l1 ++ l2)).getD f th0 = l1.getD (f - 1) th0 := by
  obtain ⟨j, rfl⟩ : ∃ j, f = j + 1 := ⟨f - 1, by omega⟩
  rw [List.getD_cons_succ, List.getD_eq_getElem?_getD, List.getElem?_append_left (by omega), ← List.getD_eq_getElem?_getD]; rfl
theorem getD_out {t : Th} {l1 l2 : List Th} {f : Nat} (h : l1.length < f) : (t :: (l1 ++ l2)).getD f th0 = l2.getD (f - 1 - l1.length) th0 := by
  obtain ⟨j, rfl⟩ : ∃ j, f = j + 1 := ⟨f - 1, by omega⟩
  rw [List.getD_cons_succ, List.getD_eq_getElem?_getD, List.getElem?_append_right (by omega), ← List.getD_eq_getElem?_getD]; rfl
set_option maxHeartbeats 2000000 in
theorem tat_any (W : World) (k : Nat) (p : Value) (l : List Th) (f : Nat) (h : Hid (TrR W k p l)) (hf : f < l.length) (hl : l.length ≤ 1099511627776) :
    Calls Try.prog 87 #[p, .int .i64 f, .int .i64 l.length] W fun e w' => e = .returned (l.getD f th0).val ∧ Below W.heap.size W w' := by
  obtain ⟨W1, hW1⟩ : ∃ w, W.alloc (.cells #[.int .i64 0, .int .i64 0, .pointer none, .pointer none, .pointer none] 56) = w := ⟨_, rfl⟩
  have hb : Below W.heap.size W W1 := by rw [← hW1]; exact below_alc _ _
  have hr0 : W1.cell? ⟨W.heap.size, 0, none⟩ = some (.int .i64 0) := by rw [← hW1]; simp [go_sem]
  have hr1 : W1.cell? ⟨W.heap.size, 1, none⟩ = some (.int .i64 0) := by rw [← hW1]; simp [go_sem]
  have hr2 : W1.cell? ⟨W.heap.size, 2, none⟩ = some (.pointer none) := by rw [← hW1]; simp [go_sem]
  have hr3 : W1.cell? ⟨W.heap.size, 3, none⟩ = some (.pointer none) := by rw [← hW1]; simp [go_sem]
  have hr4 : W1.cell? ⟨W.heap.size, 4, none⟩ = some (.pointer none) := by rw [← hW1]; simp [go_sem]
  have hrf : ∀ o, W1.frozen? ⟨W.heap.size, o, none⟩ = false := by intro o; rw [← hW1]; simp [go_sem]
  have hrl : W.heap.size < W1.heap.size := by rw [← hW1]; simp
  have hT := Lib.hid (h.out.below hb)
  obtain ⟨x, hx⟩ : ∃ x, l.getD f th0 = x := ⟨_, rfl⟩
  rw [hx]
  have hxh := Lib.hid hx
  have hst : TaR W1 x p (.int .i64 f) (.int .i64 l.length) := ⟨k, l, f, hT, hf, hl, rfl, rfl, hx⟩
  have hst := Lib.hid hst
  have hbh := Lib.hid hb
  clear hx hf hl hT h hb
  go_enter Try.func87, Try.ntmps87
  go_wp2_with fail
  (try rw [hW1])
  clear hW1
  go_loop [0, 1, 2] (fun pv fv sv => TaR W1 x pv fv sv) (fun _ fv _ => (intOf fv).toNat)
  case atStart => exact hst.out
  case round =>
    obtain ⟨k, l, f, hT, hf, hl, rfl, rfl, hx⟩ := hrel
    obtain ⟨g, t, i, o, l1, l2, k', m, rfl, hg, ⟨⟨c0, c1, c2, c3, c4⟩, c5, c6⟩, h1, h2, rfl, hm1, hm2⟩ := tr_in hT.out hf
    have hlen : (t :: (l1 ++ l2)).length = 2 * m + 1 := by rw [List.length_cons, List.length_append]; omega
    rw [hlen] at hf hl ⊢
    have h1 := Lib.hid h1
    have h2 := Lib.hid h2
    by_cases hf0 : 0 < f
    · have hf0i : (0 : Int) < (f : Int) := by omega
      have hq : ((2 * m + 1 : Nat) : Int).tdiv 2 = (m : Int) := by
        rw [Int.tdiv_eq_ediv_of_nonneg (by omega)]; omega
      by_cases hfm : f ≤ m
      · have hfmi : (f : Int) ≤ (m : Int) := by omega
        have hy := getD_in (t := t) (l2 := l2) hf0 (by omega : f ≤ l1.length)
        rw [hx] at hy
        have hy := Lib.hid hy
        have hm1h := Lib.hid hm1
        clear hx hm1 hm2 hlen hT
        go_wp2_with fail
        go_round
        case rel => exact ⟨k', l1, f - 1, h1, by have := hm1h.out; omega, by have := hm1h.out; omega, by (first | rfl | (congr 1; done) | (congr 1; omega)), by rw [hm1h.out]; (first | rfl | (congr 1; done) | (congr 1; omega)), hy.out.symm⟩
        case measure => simp [intOf]; omega
      · have hfmi : ¬ (f : Int) ≤ (m : Int) := by omega
        have hy := getD_out (t := t) (l2 := l2) (by omega : l1.length < f)
        rw [hx, hm1] at hy
        have hy := Lib.hid hy
        have hm2h := Lib.hid hm2
        clear hx hm1 hm2 hlen hT
        go_wp2_with fail
        go_round
        case rel => exact ⟨k', l2, f - 1 - m, h2, by have := hm2h.out; omega, by have := hm2h.out; omega, by (first | rfl | (congr 1; done) | (congr 1; omega)), by rw [hm2h.out]; (first | rfl | (congr 1; done) | (congr 1; omega)), hy.out.symm⟩
        case measure => simp [intOf]; omega
    · obtain rfl : f = 0 := by omega
      have hx : t = x := hx
      subst hx
      have rf0 := hrf 0; have rf1 := hrf 1; have rf2 := hrf 2; have rf3 := hrf 3; have rf4 := hrf 4
      clear h1 h2 hT hlen hm1 hm2
      go_wp2_with fail
      exact bodyPost_ret (v := t.val) (by simp [results, Try.results87, go_sem, hr0, hr1, hr2, hr3, hr4, hrl, Th.val]) rfl ⟨rfl, by have := hbh.out; (repeat' (first | with_reducible exact Below.refl _ _ | with_reducible assumption | with_reducible apply Below.setCell | with_reducible apply Below.alloc | with_reducible apply Below.drew | with_reducible apply below_drewN | with_reducible exact Nat.le_refl _ | (simp; done) | (simp; omega) | omega | exact Nat.le_refl _))⟩
end Go.Proofs.Ytnjalpcmjkahkaa
