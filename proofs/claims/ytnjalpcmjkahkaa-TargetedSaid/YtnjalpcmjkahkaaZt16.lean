/- What is bound: the thing at a place of a tree. -/
import Derived.Test.YtnjalpcmjkahkaaZt11
import Derived.Test.YtnjalpcmjkahkaaZt15
import Derived.Deep.DeepCutAuto
set_option maxRecDepth 100000
set_option maxHeartbeats 8000000
namespace Go.Proofs.Ytnjalpcmjkahkaa
open Go.RowKit
set_option linter.unusedVariables false
set_option linter.unusedSimpArgs false
def th0 : Th := ⟨0, 0, none, none, none⟩
def TaR (W : World) (x : Th) (pv fv sv : Value) : Prop := ∃ (k : Nat) (l : List Th) (f : Nat), Hid (TrR W k pv l) ∧ f < l.length ∧ l.length ≤ 1099511627776 ∧ fv = .int .i64 f ∧ sv = .int .i64 l.length ∧ l.getD f th0 = x
theorem tr_in {W : World} {k : Nat} {p : Value} {l : List Th} (h : TrR W k p l) {f : Nat} (hf : f < l.length) : ∃ (g : Nat) (t : Th) (i o : Value) (l1 l2 : List Th) (k' m : Nat), p = .pointer (some ⟨g, 0, none⟩) ∧ g < W.heap.size ∧
   (ThC W g t ∧ W.cell? ⟨g, 5, none⟩ = some i ∧ W.cell? ⟨g, 6, none⟩ = some o) ∧
   TrR W k' i l1 ∧ TrR W k' o l2 ∧ l = t :: (l1 ++ l2) ∧ l1.length = m ∧ l2.length = m := by
 cases k with
 | zero => obtain ⟨_, rfl⟩ := h; simp at hf
 | succ k =>
  obtain ⟨g, t, i, o, l1, l2, rfl, hg, _, hc, h1, h2, rfl⟩ := h
  have e1 := h1.len; have e2 := h2.len
  exact ⟨g, t, i, o, l1, l2, k, l1.length, rfl, hg, hc, h1, h2, rfl, rfl, by omega⟩
theorem getD_in {t : Th} {l1 l2 : List Th} {f : Nat} (h0 : 0 < f) (h : f ≤ l1.length) : (t :: (l1 ++ l2)).getD f th0 = l1.getD (f - 1) th0 := by
 obtain ⟨j, rfl⟩ : ∃ j, f = j + 1 := ⟨f - 1, by omega⟩
 rw [List.getD_cons_succ, List.getD_eq_getElem?_getD, List.getElem?_append_left (by omega), ← List.getD_eq_getElem?_getD]; rfl
theorem getD_out {t : Th} {l1 l2 : List Th} {f : Nat} (h : l1.length < f) : (t :: (l1 ++ l2)).getD f th0 = l2.getD (f - 1 - l1.length) th0 := by
 obtain ⟨j, rfl⟩ : ∃ j, f = j + 1 := ⟨f - 1, by omega⟩
 rw [List.getD_cons_succ, List.getD_eq_getElem?_getD, List.getElem?_append_right (by omega), ← List.getD_eq_getElem?_getD]; rfl
theorem tat_any (W : World) (k : Nat) (p : Value) (l : List Th) (f : Nat) (h : Hid (TrR W k p l)) (hf : f < l.length) (hl : l.length ≤ 1099511627776) :
  Calls Try.prog 87 #[p, .int .i64 f, .int .i64 l.length] W fun e w' => e = .returned (l.getD f th0).val ∧ Below W.heap.size W w' := by
 obtain ⟨W1, hW1⟩ : ∃ w, W.alloc (.cells #[.int .i64 0, .int .i64 0, .pointer none, .pointer none, .pointer none] 56) = w := ⟨_, rfl⟩
 have hb : Below W.heap.size W W1 := by rw [← hW1]; exact below_alc _ _
 have hr0 : W1.cell? ⟨W.heap.size, 0, none⟩ = some (.int .i64 0) := by rw [← hW1]; simp [go_sem]
 have hr1 : W1.cell? ⟨W.heap.size, 1, none⟩ = some (.int .i64 0) := by rw [← hW1]; simp [go_sem]
 have hr2 : W1.cell? ⟨W.heap.size, 2, none⟩ = some (.pointer none) := by rw [← hW1]; simp [go_sem]
 have hr3 : W1.cell? ⟨W.heap.size, 3, none⟩ = some (.pointer none) := by rw [← hW1]; simp [go_sem]
 have hr4 : W1.cell? ⟨W.heap.size, 4, none⟩ = some (.pointer none) := by rw [← hW1]; simp [go_sem]
 have hrf : ∀ o, W1.frozen? ⟨W.heap.size, o, none⟩ = false := by intro o; rw [← hW1]; simp [go_sem]
 have hrl : W.heap.size < W1.heap.size := by rw [← hW1]; simp
 have hT := Lib.hid (h.out.below hb)
 obtain ⟨x, hx⟩ : ∃ x, l.getD f th0 = x := ⟨_, rfl⟩
 rw [hx]
 have hxh := Lib.hid hx
 have hst : TaR W1 x p (.int .i64 f) (.int .i64 l.length) := ⟨k, l, f, hT, hf, hl, rfl, rfl, hx⟩
 have hst := Lib.hid hst
 have hbh := Lib.hid hb
 clear hx hf hl hT h hb
 go_enter Try.func87, Try.ntmps87
 go_wp2_with fail
 (try rw [hW1])
 clear hW1
 go_loop [0, 1, 2] (fun pv fv sv => TaR W1 x pv fv sv) (fun _ fv _ => (intOf fv).toNat)
 case atStart => exact hst.out
 case round =>
  obtain ⟨k, l, f, hT, hf, hl, rfl, rfl, hx⟩ := hrel
  obtain ⟨g, t, i, o, l1, l2, k', m, rfl, hg, ⟨⟨c0, c1, c2, c3, c4⟩, c5, c6⟩, h1, h2, rfl, hm1, hm2⟩ := tr_in hT.out hf
  have hlen : (t :: (l1 ++ l2)).length = 2 * m + 1 := by rw [List.length_cons, List.length_append]; omega
  rw [hlen] at hf hl ⊢
  have h1 := Lib.hid h1
  have h2 := Lib.hid h2
  by_cases hf0 : 0 < f
  ·have hf0i : (0 : Int) < (f : Int) := by omega
   have hq : ((2 * m + 1 : Nat) : Int).tdiv 2 = (m : Int) := by
    rw [Int.tdiv_eq_ediv_of_nonneg (by omega)]; omega
   by_cases hfm : f ≤ m
   ·have hfmi : (f : Int) ≤ (m : Int) := by omega
    have hy := getD_in (t := t) (l2 := l2) hf0 (by omega : f ≤ l1.length)
    rw [hx] at hy
    have hy := Lib.hid hy
    have hm1h := Lib.hid hm1
    clear hx hm1 hm2 hlen hT
    go_wp2_with fail
    go_round
    case rel => exact ⟨k', l1, f - 1, h1, by have := hm1h.out; omega, by have := hm1h.out; omega, by (first | rfl | (congr 1; done) | (congr 1; omega)), by rw [hm1h.out]; (first | rfl | (congr 1; done) | (congr 1; omega)), hy.out.symm⟩
    case measure => simp [intOf]; omega
   ·have hfmi : ¬ (f : Int) ≤ (m : Int) := by omega
    have hy := getD_out (t := t) (l2 := l2) (by omega : l1.length < f)
    rw [hx, hm1] at hy
    have hy := Lib.hid hy
    have hm2h := Lib.hid hm2
    clear hx hm1 hm2 hlen hT
    go_wp2_with fail
    go_round
    case rel => exact ⟨k', l2, f - 1 - m, h2, by have := hm2h.out; omega, by have := hm2h.out; omega, by (first | rfl | (congr 1; done) | (congr 1; omega)), by rw [hm2h.out]; (first | rfl | (congr 1; done) | (congr 1; omega)), hy.out.symm⟩
    case measure => simp [intOf]; omega
  ·obtain rfl : f = 0 := by omega
   have hx : t = x := hx
   subst hx
   have rf0 := hrf 0; have rf1 := hrf 1; have rf2 := hrf 2; have rf3 := hrf 3; have rf4 := hrf 4
   clear h1 h2 hT hlen hm1 hm2
   go_wp2_with fail
   exact bodyPost_ret (v := t.val) (by simp [results, Try.results87, go_sem, hr0, hr1, hr2, hr3, hr4, hrl, Th.val]) rfl ⟨rfl, by have := hbh.out; (repeat' (first | (with_reducible first | exact bR _ _ | assumption | apply bS | apply bA | apply bD | apply bN | exact bL _) | (simp; done) | (simp; omega) | omega | exact bL _))⟩
open Go.RowKit
def thSet (W : World) (g : Nat) (t : Th) : World := ((((W.setCell ⟨g, 0, none⟩ (.int .i64 t.a)).setCell ⟨g, 1, none⟩ (.int .i64 t.b)).setCell ⟨g, 2, none⟩ (.pointer t.c)).setCell ⟨g, 3, none⟩ (.pointer t.d)).setCell ⟨g, 4, none⟩ (.pointer t.e)
theorem thSet_ok {W : World} {g : Nat} {u : Th} (t : Th) (h : ThC W g u) : ThC (thSet W g t) g t ∧ Bar (fun k => k = g) W (thSet W g t) := by
 obtain ⟨h0, h1, h2, h3, h4⟩ := h
 have ne : ∀ a b : Nat, a ≠ b → (⟨g, a, none⟩ : Addr) ≠ ⟨g, b, none⟩ := fun a b hab e => by injection e with _ e2 _; exact hab e2
 have s : ∀ (V : World) (p : Nat) (u : Value), Bar (fun k => k = g) V (V.setCell ⟨g, p, none⟩ u) := fun V p u => Bar.set ⟨g, p, none⟩ u rfl
 unfold thSet
 exact ⟨⟨setO (setO (setO (setO (setS h0) (ne _ _ (by omega))) (ne _ _ (by omega))) (ne _ _ (by omega))) (ne _ _ (by omega)),
  setO (setO (setO (setS (setO h1 (ne _ _ (by omega)))) (ne _ _ (by omega))) (ne _ _ (by omega))) (ne _ _ (by omega)),
  setO (setO (setS (setO (setO h2 (ne _ _ (by omega))) (ne _ _ (by omega)))) (ne _ _ (by omega))) (ne _ _ (by omega)),
  setO (setS (setO (setO (setO h3 (ne _ _ (by omega))) (ne _ _ (by omega))) (ne _ _ (by omega)))) (ne _ _ (by omega)),
  setS (setO (setO (setO (setO h4 (ne _ _ (by omega))) (ne _ _ (by omega))) (ne _ _ (by omega))) (ne _ _ (by omega)))⟩,
  ((((s W 0 _).trans (s _ _ _) fun _ _ h => h).trans (s _ _ _) fun _ _ h => h).trans (s _ _ _) fun _ _ h => h).trans (s _ _ _) fun _ _ h => h⟩
def ansE (l : List Th) (f : Int) : Option Th := if 0 ≤ f ∧ f < l.length then some (l.getD f.toNat th0) else none
theorem ansE_app (l1 l2 : List Th) (f : Int) : ansE (l1 ++ l2) f = if 0 ≤ f ∧ f < l1.length then some (l1.getD f.toNat th0) else ansE l2 (f - l1.length) := by
 unfold ansE
 by_cases h : 0 ≤ f ∧ f < l1.length
 ·rw [if_pos h, if_pos (by rw [List.length_append]; omega), List.getD_eq_getElem?_getD, List.getElem?_append_left (by omega), ← List.getD_eq_getElem?_getD]
 ·rw [if_neg h]
  by_cases h2 : 0 ≤ f ∧ f < (l1 ++ l2).length
  ·rw [List.length_append] at h2
   rw [if_pos (by rw [List.length_append]; omega), if_pos (by omega), List.getD_eq_getElem?_getD, List.getElem?_append_right (by omega), ← List.getD_eq_getElem?_getD, show (f - (l1.length : Int)).toNat = f.toNat - l1.length by omega]
  ·rw [List.length_append] at h2
   rw [if_neg (by rw [List.length_append]; omega), if_neg (by omega)]
def atV (o : Option Th) : Value := match o with
 | some x => .tuple #[x.val, .bool true]
 | none => .tuple #[th0.val, .bool false]
def AtR (W : World) (x : Option Th) (pv fv : Value) : Prop := ∃ (ks : List Nat) (l : List Th) (f : Int), Hid (PtR W ks pv l) ∧ (-1099511627777 ≤ f - l.length ∧ f ≤ 1099511627776 ∧ l.length ≤ 1099511627776) ∧ fv = .int .i64 f ∧ Hid (ansE l f = x)
theorem eAt_any (W : World) (p : Value) (l : List Th) (f : Int) (h : Hid (EnR W p l)) (hl : l.length ≤ 1000000000) (hf : -1 ≤ f ∧ f ≤ 1000000000) :
  Calls Try.prog 77 #[.agg #[p], .int .i64 f] W fun e w' => e = .returned (atV (ansE l f)) ∧ Below W.heap.size W w' := by
 obtain ⟨W1, hW1⟩ : ∃ w, (W.alloc (.cells #[p] 53)).alloc (.cells #[.int .i64 0, .int .i64 0, .pointer none, .pointer none, .pointer none] 56) = w := ⟨_, rfl⟩
 have hb : Below W.heap.size W W1 := by rw [← hW1]; (repeat' (first | (with_reducible first | exact bR _ _ | assumption | apply bS | apply bA | apply bD | apply bN | exact bL _) | (simp; done) | (simp; omega) | omega | exact bL _))
 have hb0 : W1.cell? ⟨W.heap.size, 0, none⟩ = some p := by rw [← hW1]; simp [go_sem]
 have hr : ThC W1 (W.heap.size + 1) th0 := by rw [← hW1]; exact ⟨by simp [go_sem, th0], by simp [go_sem, th0], by simp [go_sem, th0], by simp [go_sem, th0], by simp [go_sem, th0]⟩
 have hrf : ∀ o, W1.frozen? ⟨W.heap.size + 1, o, none⟩ = false := by intro o; rw [← hW1]; simp [go_sem]
 have hrl : W.heap.size + 1 < W1.heap.size := by rw [← hW1]; simp
 have hrT : TyAt W1 (W.heap.size + 1) 56 := by rw [← hW1]; simpa using TyAt.new (W.alloc (.cells #[p] 53)) #[.int .i64 0, .int .i64 0, .pointer none, .pointer none, .pointer none] 56
 obtain ⟨ks, hks⟩ := h.out
 have hT := Lib.hid (PtR.bar (Bar.of_below (S := fun _ => False) hb) (enF_no W) hks)
 obtain ⟨x, hx⟩ : ∃ x, ansE l f = x := ⟨_, rfl⟩
 rw [hx]
 have hst := Lib.hid (show AtR W1 x p (.int .i64 f) from ⟨ks, l, f, hT, by omega, rfl, Lib.hid hx⟩)
 have hbh := Lib.hid hb
 have hpp : ∃ a, p = .pointer a := by
  cases ks with
  | nil => exact ⟨_, hks.1⟩
  | cons k ks => obtain ⟨g, _, _, _, _, rfl, _⟩ := hks; exact ⟨_, rfl⟩
 obtain ⟨pa, rfl⟩ := hpp
 have hrh := Lib.hid hr
 have hrfh := Lib.hid hrf
 have hW1h := Lib.hid hW1
 clear hx hf hl hT h hb hks hr hrf hW1
 go_enter Try.func77, Try.ntmps77
 go_upto_region 1 with fail
 rw [hW1h.out]
 clear hW1h
 go_wp2_with fail
 go_loop [6, 1] (fun pv fv => AtR W1 x pv fv) (fun _ fv => (intOf fv + 1099511627778).toNat)
 case atStart => exact hst.out
 case round =>
  obtain ⟨ks, l, f, hT, hfb, rfl, hx⟩ := hrel
  cases ks with
  | nil =>
   obtain ⟨rfl, rfl⟩ := hT.out
   have hx0 : x = none := by rw [← hx.out]; unfold ansE; rw [if_neg (by simp; try omega)]
   subst hx0
   obtain ⟨c0, c1, c2, c3, c4⟩ := hrh.out
   have rf0 := hrfh.out 0; have rf1 := hrfh.out 1; have rf2 := hrfh.out 2; have rf3 := hrfh.out 3; have rf4 := hrfh.out 4
   clear hx hT
   go_wp2_with fail
   exact bodyPost_ret (v := atV none) (by simp [results, Try.results77, go_sem, c0, c1, c2, c3, c4, hrl, atV, th0, Th.val]) rfl ⟨rfl, by have := hbh.out; have := this.size; (repeat' (first | (with_reducible first | exact bR _ _ | assumption | apply bS | apply bA | apply bD | apply bN | exact bL _) | (simp; done) | (simp; omega) | omega | exact bL _))⟩
  | cons k ks =>
   obtain ⟨g, i, o, l1, l2, rfl, hg, hTy, ⟨c0, c1, c2⟩, h1, h2, rfl⟩ := hT.out
   have hpos : 1 ≤ l1.length := by have := h1.len; have := Nat.pow_le_pow_right (n := 2) (by omega) (by omega : 1 ≤ k + 1); omega
   have hap := ansE_app l1 l2 f
   rw [hx.out] at hap
   rw [List.length_append] at hfb
   have h1 := Lib.hid h1
   have h2 := Lib.hid h2
   clear hx hT
   by_cases hin : 0 ≤ f ∧ f < l1.length
   ·rw [if_pos hin] at hap
    obtain ⟨hi0, hi1⟩ := hin
    obtain ⟨t, ht⟩ : ∃ t, l1.getD f.toNat th0 = t := ⟨_, rfl⟩
    rw [ht] at hap
    subst hap
    have kT := Lib.hid fun (w : World) (hb : Below W1.heap.size W1 w) => tat_any w (k + 1) i l1 f.toNat (Lib.hid (h1.out.below hb)) (by omega) (by omega)
    rw [show ((f.toNat : Nat) : Int) = f by omega, ht] at kT
    clear ht
    go_upto_region 5 with fail
    have hgn : ¬ g = W.heap.size + 1 := fun e => hTy.ne hrT (by decide) e
    refine wp_region_held_drew (S := fun w => Bar (fun k => k = W.heap.size + 1) W1 w) (by kernel_rfl) (Bar.of_below ((Below.refl _ _).drew)) (fun hHeld => ?_)
    refine rg_take 0 (some 26) (v := ?v1) rfl rfl (by kernel_rfl) (by kernel_rfl) (by kernel_rfl) (fun _ _ _ h => h) (by rfl) ?hy1 (by assumption) ?_
    case hy1 => intro W hSW; (try dsimp only at hSW); have z0 := hSW.cell c0 hgn; have z1 := hSW.cell c1 hgn; have z2 := Nat.lt_of_lt_of_le hg hSW.size; go_simp; (try with_reducible rfl)
    try simp only [Act.put, bP, bQ, bT]
    refine rg_take 1 (some 27) (v := ?v2) rfl rfl (by kernel_rfl) (by kernel_rfl) (by kernel_rfl) (fun _ _ _ h => h) (by rfl) ?hy2 (by assumption) ?_
    case hy2 => intro W hSW; (try dsimp only at hSW); have z0 := hSW.cell c0 hgn; have z1 := hSW.cell c1 hgn; have z2 := Nat.lt_of_lt_of_le hg hSW.size; go_simp; (try with_reducible rfl)
    try simp only [Act.put, bP, bQ, bT]
    refine rg_take 2 (some 28) (v := ?v3) rfl rfl (by kernel_rfl) (by kernel_rfl) (by kernel_rfl) (fun _ _ _ h => h) (by rfl) ?hy3 (by assumption) ?_
    case hy3 => intro W hSW; (try dsimp only at hSW); have z0 := hSW.cell c0 hgn; have z1 := hSW.cell c1 hgn; have z2 := Nat.lt_of_lt_of_le hg hSW.size; go_simp; (try with_reducible rfl)
    try simp only [Act.put, bP, bQ, bT]
    refine rg_take 3 (some 29) (v := ?v4) rfl rfl (by kernel_rfl) (by kernel_rfl) (by kernel_rfl) (fun _ _ _ h => h) (by rfl) ?hy4 (by assumption) ?_
    case hy4 => intro W hSW; (try dsimp only at hSW); have z0 := hSW.cell c0 hgn; have z1 := hSW.cell c1 hgn; have z2 := Nat.lt_of_lt_of_le hg hSW.size; go_simp; (try with_reducible rfl)
    try simp only [Act.put, bP, bQ, bT]
    refine rg_take 4 (some 30) (v := ?v5) rfl rfl (by kernel_rfl) (by kernel_rfl) (by kernel_rfl) (fun _ _ _ h => h) (by rfl) ?hy5 (by assumption) ?_
    case hy5 => intro W hSW; (try dsimp only at hSW); have z0 := hSW.cell c0 hgn; have z1 := hSW.cell c1 hgn; have z2 := Nat.lt_of_lt_of_le hg hSW.size; go_simp; (try with_reducible rfl)
    try simp only [Act.put, bP, bQ, bT]
    refine rg_take 5 (some 31) (v := ?v6) rfl rfl (by kernel_rfl) (by kernel_rfl) (by kernel_rfl) (fun _ _ _ h => h) (by rfl) ?hy6 (by assumption) ?_
    case hy6 => intro W hSW; (try dsimp only at hSW); have z0 := hSW.cell c0 hgn; have z1 := hSW.cell c1 hgn; have z2 := Nat.lt_of_lt_of_le hg hSW.size; go_simp; (try with_reducible rfl)
    try simp only [Act.put, bP, bQ, bT]
    refine rg_take 6 (some 32) (v := ?v7) rfl rfl (by kernel_rfl) (by kernel_rfl) (by kernel_rfl) (fun _ _ _ h => h) (by rfl) ?hy7 (by assumption) ?_
    case hy7 => intro W hSW; (try dsimp only at hSW); have z0 := hSW.cell c0 hgn; have z1 := hSW.cell c1 hgn; have z2 := Nat.lt_of_lt_of_le hg hSW.size; go_simp; (try with_reducible rfl)
    try simp only [Act.put, bP, bQ, bT]
    refine rg_take 7 (some 33) (v := ?v8) rfl rfl (by kernel_rfl) (by kernel_rfl) (by kernel_rfl) (fun _ _ _ h => h) (by rfl) ?hy8 (by assumption) ?_
    case hy8 => intro W hSW; (try dsimp only at hSW); have z0 := hSW.cell c0 hgn; have z1 := hSW.cell c1 hgn; have z2 := Nat.lt_of_lt_of_le hg hSW.size; go_simp; (try with_reducible rfl)
    try simp only [Act.put, bP, bQ, bT]
    refine rg_take 8 (some 34) (v := ?v9) rfl rfl (by kernel_rfl) (by kernel_rfl) (by kernel_rfl) (fun _ _ _ h => h) (by rfl) ?hy9 (by assumption) ?_
    case hy9 => intro W hSW; (try dsimp only at hSW); have z0 := hSW.cell c0 hgn; have z1 := hSW.cell c1 hgn; have z2 := Nat.lt_of_lt_of_le hg hSW.size; go_simp; (try with_reducible rfl)
    try simp only [Act.put, bP, bQ, bT]
    refine rg_one 9 rfl (by kernel_rfl) (by rfl) (fun K hK => ?_)
    go_simp
    refine (kT.out _ ((Below.refl _ _).drew)).mono ?_
    rintro e w9 ⟨rfl, hb9⟩
    have hb99 : Below W1.heap.size W1 w9 := belT ((Below.refl _ _).drew) hb9
    have hd := hrh.out.bar (Bar.of_below (S := fun _ => False) hb99) id
    have hdh := Lib.hid hd
    obtain ⟨d0, d1, d2, d3, d4⟩ := hd
    have ef : ∀ q, w9.frozen? ⟨W.heap.size + 1, q, none⟩ = false := fun q => (hb99.frozen (p := ⟨W.heap.size + 1, q, none⟩) hrl).trans (hrfh.out q)
    have ef0 := ef 0; have ef1 := ef 1; have ef2 := ef 2; have ef3 := ef 3; have ef4 := ef 4
    have hl9 : W.heap.size + 1 < w9.heap.size := Nat.lt_of_lt_of_le hrl hb99.size
    have hbw : Below W.heap.size W w9 := hbh.out.trans (hb99.mono (by omega))
    refine hK.out _ _ (Bar.of_below hb99) (fun hH1 => ?_)
    clear hK K hb9
    try simp only [Act.put, bP, bQ, bT]
    have hset := thSet_ok t hdh.out
    simp only [Th.val]
    refine rg_one 10 rfl (by kernel_rfl) (by rfl) (fun K hK => ?_)
    go_simp
    refine hK.out _ (thSet w9 (W.heap.size + 1) t) (hH1.trans hset.2 fun _ _ h => h) (fun hHS => ?_)
    clear hK K
    try simp only [Act.put, bP, bQ, bT]
    refine rg_take 11 (some 5) (v := ?v99) rfl rfl (by kernel_rfl) (by kernel_rfl) (by kernel_rfl) (fun _ _ _ h => h) (by rfl) ?hy99 (by assumption) ?_
    case hy99 => intro W hSW; (try dsimp only at hSW); go_simp; (try with_reducible rfl)
    try simp only [Act.put, bP, bQ, bT]
    refine wpAnyH_done (by kernel_rfl) ?_ _
    obtain ⟨⟨s0, s1, s2, s3, s4⟩, hsb⟩ := hset
    have hfin : Hid (Below W.heap.size W (thSet w9 (W.heap.size + 1) t)) := Lib.hid ⟨hsb.os.trans hbw.os, hsb.tape.trans hbw.tape, hsb.output.trans hbw.output, Nat.le_trans hbw.size hsb.size, fun k hk => (hsb.block k (by have := hbw.size; omega) (by omega)).trans (hbw.block k hk)⟩
    clear hsb d0 d1 d2 d3 d4 ef0 ef1 ef2 ef3 ef4
    generalize thSet w9 (W.heap.size + 1) t = wz at s0 s1 s2 s3 s4 hfin hHS ⊢
    go_wp2_with fail
    exact bodyPost_ret (v := atV (some t)) (by simp [results, Try.results77, go_sem, s0, s1, s2, s3, s4, atV, Th.val]) rfl ⟨rfl, hfin.out⟩
   ·rw [if_neg hin] at hap
    have hin1 : ¬ 0 ≤ f ∨ (0 ≤ f ∧ ¬ f < (l1.length : Int)) := by omega
    have hap := Lib.hid hap
    have hoo : ∃ a, o = .pointer a := by
     cases ks with
     | nil => exact ⟨_, h2.out.1⟩
     | cons k ks => obtain ⟨g, _, _, _, _, rfl, _⟩ := h2.out; exact ⟨_, rfl⟩
    obtain ⟨oa, rfl⟩ := hoo
    clear hin
    rcases hin1 with hi0 | ⟨hi0, hi1⟩
    all_goals
     go_wp2_with fail
     go_round
     case rel => exact ⟨ks, l2, f - l1.length, h2, by omega, rfl, Lib.hid hap.out.symm⟩
     case measure => simp [intOf]; omega
end Go.Proofs.Ytnjalpcmjkahkaa
