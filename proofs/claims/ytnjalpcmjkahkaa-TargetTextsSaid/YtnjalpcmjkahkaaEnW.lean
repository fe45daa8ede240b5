/- What is bound: a thing more. -/
import Derived.Test.YtnjalpcmjkahkaaEnB
import Derived.WalkSmall
namespace Go.Proofs.Ytnjalpcmjkahkaa
open Go.RowKit
set_option linter.unusedVariables false
set_option linter.unusedSimpArgs false

theorem thC_lit {W : World} {t : Th} {arr : Array Value} {T : TypeId} {g : Nat} (hg : g = W.heap.size) (r : List Value) (h : arr.toList = [.int .i64 t.a, .int .i64 t.b, .pointer t.c, .pointer t.d, .pointer t.e] ++ r) : ThC (W.alloc (.cells arr T)) g t := by
  subst hg
  have e : ∀ j v, arr.toList[j]? = some v → (W.alloc (.cells arr T)).cell? ⟨W.heap.size, j, none⟩ = some v := fun j v hv => by
    rw [World.cell?_alloc_at _ _ _ _ rfl, ← Array.getElem?_toList]; exact hv
  exact ⟨e 0 _ (by rw [h]; rfl), e 1 _ (by rw [h]; rfl), e 2 _ (by rw [h]; rfl), e 3 _ (by rw [h]; rfl), e 4 _ (by rw [h]; rfl)⟩
/-- what With leaves. -/
def WiP (W : World) (l : List Th) (t : Th) (e : Ending) (w' : World) : Prop := ∃ p', e = .returned (.agg #[.pointer p']) ∧ EnR w' (.pointer p') (t :: l) ∧ Below W.heap.size W w'
theorem part_lit {W : World} {g : Nat} (ks : List Nat) (k : Nat) {i o : Value} {l1 l2 : List Th} {arr : Array Value} (hg : g = W.heap.size) (h : arr = #[.int .i64 l1.length, i, o]) (h1 : TrR W (k + 1) i l1) (h2 : PtR W ks o l2) : PtR (W.alloc (.cells arr 142)) (k :: ks) (.pointer (some ⟨g, 0, none⟩)) (l1 ++ l2) := by
  subst hg h
  have hb := below_alc W (.cells #[.int .i64 l1.length, i, o] 142)
  exact ⟨W.heap.size, i, o, l1, l2, rfl, by simp, TyAt.new _ _ _, ⟨by simp [go_sem], by simp [go_sem], by simp [go_sem]⟩, h1.below hb, h2.bar (Bar.of_below (S := fun _ => False) hb) (enF_no W), rfl⟩
theorem tree_lit {W : World} {g : Nat} (k : Nat) {i o : Value} {l1 l2 : List Th} {t : Th} {arr : Array Value} (hg : g = W.heap.size) (h : arr = #[.int .i64 t.a, .int .i64 t.b, .pointer t.c, .pointer t.d, .pointer t.e, i, o]) (h1 : TrR W k i l1) (h2 : TrR W k o l2) : TrR (W.alloc (.cells arr 145)) (k + 1) (.pointer (some ⟨g, 0, none⟩)) (t :: (l1 ++ l2)) := by
  subst hg h
  have hb := below_alc W (.cells #[.int .i64 t.a, .int .i64 t.b, .pointer t.c, .pointer t.d, .pointer t.e, i, o] 145)
  exact ⟨W.heap.size, t, i, o, l1, l2, rfl, by simp, TyAt.new _ _ _, ⟨thC_lit rfl [i, o] rfl, by simp [go_sem], by simp [go_sem]⟩, h1.below hb, h2.below hb, rfl⟩
theorem tr_ptr {W : World} {k : Nat} {p : Value} {l : List Th} (h : TrR W k p l) : ∃ a, p = .pointer a := by
  cases k with
  | zero => exact ⟨_, h.1⟩
  | succ k => obtain ⟨g, _, _, _, _, _, rfl, _⟩ := h; exact ⟨_, rfl⟩
theorem pt_ptr {W : World} {ks : List Nat} {p : Value} {l : List Th} (h : PtR W ks p l) : ∃ a, p = .pointer a := by
  cases ks with
  | nil => exact ⟨_, h.1⟩
  | cons k ks => obtain ⟨g, _, _, _, _, rfl, _⟩ := h; exact ⟨_, rfl⟩
theorem tr_eq {W : World} {k k' : Nat} {p p' : Value} {l l' : List Th} (h : TrR W k p l) (h' : TrR W k' p' l') (hl : l.length = l'.length) : k = k' := by
  have e1 := h.len; have e2 := h'.len
  have e : 2 ^ k = 2 ^ k' := by omega
  exact Nat.pow_right_inj (by omega) |>.1 e
/-- behind a part of one thing. -/
theorem wi_new {W W1 : World} {l : List Th} {pa : Option Addr} {ks : List Nat} (t : Th) (hb : Below W.heap.size W W1) (hrl : W.heap.size + 1 + 1 < W1.heap.size) (hrT : TyAt W1 (W.heap.size + 1 + 1) 53) (hT : PtR W1 ks (.pointer pa) l) {arr arr2 : Array Value} (h1 : arr = #[.int .i64 t.a, .int .i64 t.b, .pointer t.c, .pointer t.d, .pointer t.e, .pointer none, .pointer none]) (h2 : arr2 = #[.int .i64 1, .pointer (some ⟨W1.heap.size, 0, none⟩), .pointer pa]) {V : Value} (hV : V = .pointer (some ⟨W1.heap.size + 1, 0, none⟩)) :
    WiP W l t (.returned (.agg #[.pointer (some ⟨W1.heap.size + 1, 0, none⟩)])) (((W1.alloc (.cells arr 145)).alloc (.cells arr2 142)).setCell ⟨W.heap.size + 1 + 1, 0, none⟩ V) := by
  subst hV
  have hx := below_alc W1 (.cells arr 145)
  have q1 := tree_lit (W := W1) (g := W1.heap.size) (arr := arr) 0 (i := .pointer none) (o := .pointer none) (l1 := []) (l2 := []) (t := t) rfl h1 ⟨rfl, rfl⟩ ⟨rfl, rfl⟩
  have q2 := part_lit (W := W1.alloc (.cells arr 145)) (g := W1.heap.size + 1) ks 0 (arr := arr2) (by simp) (by rw [h2]; rfl) q1 (PtR.bar (Bar.of_below (S := fun _ => False) hx) (enF_no W1) hT)
  have hy := below_alc (W1.alloc (.cells arr 145)) (.cells arr2 142)
  have hT2 := (hrT.bar (Bar.of_below (S := fun _ => False) (belT hx hy)) id)
  refine ⟨_, rfl, ⟨0 :: ks, ?_⟩, (belT hb (belT hx hy)).setCell (by show W.heap.size ≤ W.heap.size + 1 + 1; omega) _⟩
  exact PtR.bar (S := fun k => k = W.heap.size + 1 + 1) (Bar.set ⟨W.heap.size + 1 + 1, 0, none⟩ _ rfl) (fun g e => by subst e; exact ⟨fun h => hT2.ne h (by decide) rfl, fun h => hT2.ne h (by decide) rfl⟩) q2
set_option maxHeartbeats 4000000 in
theorem eWith_any (W : World) (p : Value) (l : List Th) (t : Th) (h : Hid (EnR W p l)) (hl : l.length ≤ 1000000000) :
    Calls Try.prog 81 #[.agg #[p], .agg #[.int .i64 t.a, .int .i64 t.b, .pointer t.c, .pointer t.d, .pointer t.e]] W (WiP W l t) := by
  obtain ⟨ks, hks⟩ := h.out
  obtain ⟨pa, rfl⟩ : ∃ a, p = .pointer a := by
    cases ks with
    | nil => exact ⟨_, hks.1⟩
    | cons k ks => obtain ⟨g, _, _, _, _, rfl, _⟩ := hks; exact ⟨_, rfl⟩
  obtain ⟨W1, hW1⟩ : ∃ w, ((W.alloc (.cells #[.pointer pa] 53)).alloc (.cells #[.int .i64 t.a, .int .i64 t.b, .pointer t.c, .pointer t.d, .pointer t.e] 56)).alloc (.cells #[.pointer none] 53) = w := ⟨_, rfl⟩
  have hb : Below W.heap.size W W1 := by rw [← hW1]; (repeat' (first | with_reducible exact Below.refl _ _ | with_reducible assumption | with_reducible apply Below.setCell | with_reducible apply Below.alloc | with_reducible apply Below.drew | with_reducible apply below_drewN | with_reducible exact Nat.le_refl _ | (simp; done) | (simp; omega) | omega | exact Nat.le_refl _))
  have hb0 : W1.cell? ⟨W.heap.size, 0, none⟩ = some (.pointer pa) := by rw [← hW1]; simp [go_sem]
  have ht : ThC W1 (W.heap.size + 1) t := by rw [← hW1]; exact ⟨by simp [go_sem], by simp [go_sem], by simp [go_sem], by simp [go_sem], by simp [go_sem]⟩
  have hr0 : W1.cell? ⟨W.heap.size + 1 + 1, 0, none⟩ = some (.pointer none) := by rw [← hW1]; simp [go_sem]
  have hrf : W1.frozen? ⟨W.heap.size + 1 + 1, 0, none⟩ = false := by rw [← hW1]; simp [go_sem]
  have hrl : W.heap.size + 1 + 1 < W1.heap.size := by rw [← hW1]; simp
  have hrT := Lib.hid (show TyAt W1 (W.heap.size + 1 + 1) 53 by rw [← hW1]; simpa using TyAt.new ((W.alloc (.cells #[.pointer pa] 53)).alloc (.cells #[.int .i64 t.a, .int .i64 t.b, .pointer t.c, .pointer t.d, .pointer t.e] 56)) #[.pointer none] 53)
  have hT := Lib.hid (PtR.bar (Bar.of_below (S := fun _ => False) hb) (enF_no W) hks)
  have hbh := Lib.hid hb
  have hW1h := Lib.hid hW1
  obtain ⟨t0, t1, t2, t3, t4⟩ := ht
  clear hb hks h hW1
  go_enter Try.func81, Try.ntmps81
  go_upto_region 1 with fail
  rw [hW1h.out]
  clear hW1h
  have hcs : (∃ k g i, ks = [k] ∧ pa = some ⟨g, 0, none⟩ ∧ g < W1.heap.size ∧ W1.cell? ⟨g, 0, none⟩ = some (.int .i64 l.length) ∧ W1.cell? ⟨g, 1, none⟩ = some i ∧ W1.cell? ⟨g, 2, none⟩ = some (.pointer none)) ∨ (pa = none ∧ l = []) ∨ (∃ k k2 ks2 g i g2 i2 o2 l1 l2 l3, ks = k :: k2 :: ks2 ∧ l = l1 ++ (l2 ++ l3) ∧ pa = some ⟨g, 0, none⟩ ∧ g < W1.heap.size ∧ g2 < W1.heap.size ∧ (W1.cell? ⟨g, 0, none⟩ = some (.int .i64 l1.length) ∧ W1.cell? ⟨g, 1, none⟩ = some i ∧ W1.cell? ⟨g, 2, none⟩ = some (.pointer (some ⟨g2, 0, none⟩))) ∧ (W1.cell? ⟨g2, 0, none⟩ = some (.int .i64 l2.length) ∧ W1.cell? ⟨g2, 1, none⟩ = some i2 ∧ W1.cell? ⟨g2, 2, none⟩ = some o2) ∧ TrR W1 (k + 1) i l1 ∧ TrR W1 (k2 + 1) i2 l2 ∧ PtR W1 ks2 o2 l3) := by
    cases ks with
    | nil => obtain ⟨e, e2⟩ := hT.out; injection e with e; exact .inr (.inl ⟨e, e2⟩)
    | cons k ks =>
      obtain ⟨g, i, o, l1, l2, e, hg, _, ⟨c0, c1, c2⟩, h1, h2, rfl⟩ := hT.out
      injection e with e
      cases ks with
      | nil =>
        obtain ⟨rfl, rfl⟩ := h2
        exact .inl ⟨k, g, i, rfl, e, hg, by rw [List.append_nil]; exact c0, c1, c2⟩
      | cons k2 ks2 =>
        obtain ⟨g2, i2, o2, l2, l3, rfl, hg2, _, ⟨d0, d1, d2⟩, h3, h4, rfl⟩ := h2
        exact .inr (.inr ⟨k, k2, ks2, g, i, g2, i2, o2, l1, l2, l3, rfl, rfl, e, hg, hg2, ⟨c0, c1, c2⟩, ⟨d0, d1, d2⟩, h1, h3, h4⟩)
  have hb := hbh
  rcases hcs with ⟨k, g, i, rfl, rfl, hg, c0, c1, c2⟩ | ⟨rfl, rfl⟩ | ⟨k, k2, ks2, g, i, g2, i2, o2, l1, l2, l3, rfl, rfl, rfl, hg, hg2, ⟨c0, c1, c2⟩, ⟨d0, d1, d2⟩, h1, h2, h3⟩
  · go_wp2_with fail
    go_quiet (fail)
    have hdq : Below W1.heap.size W1 (W1.drewN nq) := by (repeat' (first | with_reducible exact Below.refl _ _ | with_reducible assumption | with_reducible apply Below.setCell | with_reducible apply Below.alloc | with_reducible apply Below.drew | with_reducible apply below_drewN | with_reducible exact Nat.le_refl _ | (simp; done) | (simp; omega) | omega | exact Nat.le_refl _))
    have hbq := Lib.hid (belT hb.out hdq)
    have hTq := Lib.hid (PtR.bar (Bar.of_below (S := fun _ => False) hdq) (enF_no W1) hT.out)
    have hrTq := Lib.hid (hrT.out.bar (Bar.of_below (S := fun _ => False) hdq) id)
    have hl1 : W.heap.size + 1 < W1.heap.size := by omega
    have t0 := carry hdq hl1 t0; have t1 := carry hdq hl1 t1; have t2 := carry hdq hl1 t2; have t3 := carry hdq hl1 t3; have t4 := carry hdq hl1 t4
    have hr0 := carry hdq hrl hr0
    have hrf := (hdq.frozen (p := ⟨W.heap.size + 1 + 1, 0, none⟩) hrl).trans hrf
    have hrl : W.heap.size + 1 + 1 < (W1.drewN nq).heap.size := Nat.lt_of_lt_of_le hrl hdq.size
    generalize W1.drewN nq = wq at hdq hbq hTq hrTq t0 t1 t2 t3 t4 hr0 hrf hrl ⊢
    have hfin := Lib.hid fun (arr arr2 : Array Value) V e1 e2 e3 => wi_new (arr := arr) (arr2 := arr2) (V := V) t hbq.out hrl hrTq.out hTq.out e1 e2 e3
    clear hdq hb0 hl1 c0 c1 c2 hg
    have hc2 : ∀ o o2 : Obj, ((wq.alloc o).alloc o2).cell? ⟨W.heap.size + 1 + 1, 0, none⟩ = some (.pointer none) := fun o o2 => carry (belT (below_alc wq o) (below_alc _ o2)) hrl hr0
    have hf2 : ∀ o o2 : Obj, ((wq.alloc o).alloc o2).frozen? ⟨W.heap.size + 1 + 1, 0, none⟩ = false := fun o o2 => ((belT (below_alc wq o) (below_alc _ o2)).frozen (p := ⟨W.heap.size + 1 + 1, 0, none⟩) hrl).trans hrf
    go_wp2_with fail
    have s0 := setS (v := .pointer (some ⟨wq.heap.size + 1, 0, none⟩)) (hc2 (.cells #[.int .i64 t.a, .int .i64 t.b, .pointer t.c, .pointer t.d, .pointer t.e, .pointer none, .pointer none] 145) (.cells #[.int .i64 1, .pointer (some ⟨wq.heap.size, 0, none⟩), .pointer (some ⟨g, 0, none⟩)] 142))
    exact bodyPost_ret (v := .agg #[.pointer (some ⟨wq.heap.size + 1, 0, none⟩)]) (by simp only [results, Try.results81]; simp [go_sem, s0]) rfl (hfin.out _ _ _ rfl rfl rfl)
  · go_wp2_with fail
    go_quiet (fail)
    have hdq : Below W1.heap.size W1 (W1.drewN nq) := by (repeat' (first | with_reducible exact Below.refl _ _ | with_reducible assumption | with_reducible apply Below.setCell | with_reducible apply Below.alloc | with_reducible apply Below.drew | with_reducible apply below_drewN | with_reducible exact Nat.le_refl _ | (simp; done) | (simp; omega) | omega | exact Nat.le_refl _))
    have hbq := Lib.hid (belT hb.out hdq)
    have hTq := Lib.hid (PtR.bar (Bar.of_below (S := fun _ => False) hdq) (enF_no W1) hT.out)
    have hrTq := Lib.hid (hrT.out.bar (Bar.of_below (S := fun _ => False) hdq) id)
    have hl1 : W.heap.size + 1 < W1.heap.size := by omega
    have t0 := carry hdq hl1 t0; have t1 := carry hdq hl1 t1; have t2 := carry hdq hl1 t2; have t3 := carry hdq hl1 t3; have t4 := carry hdq hl1 t4
    have hr0 := carry hdq hrl hr0
    have hrf := (hdq.frozen (p := ⟨W.heap.size + 1 + 1, 0, none⟩) hrl).trans hrf
    have hrl : W.heap.size + 1 + 1 < (W1.drewN nq).heap.size := Nat.lt_of_lt_of_le hrl hdq.size
    generalize W1.drewN nq = wq at hdq hbq hTq hrTq t0 t1 t2 t3 t4 hr0 hrf hrl ⊢
    have hfin := Lib.hid fun (arr arr2 : Array Value) V e1 e2 e3 => wi_new (arr := arr) (arr2 := arr2) (V := V) t hbq.out hrl hrTq.out hTq.out e1 e2 e3
    clear hdq hb0 hl1
    have hc2 : ∀ o o2 : Obj, ((wq.alloc o).alloc o2).cell? ⟨W.heap.size + 1 + 1, 0, none⟩ = some (.pointer none) := fun o o2 => carry (belT (below_alc wq o) (below_alc _ o2)) hrl hr0
    have hf2 : ∀ o o2 : Obj, ((wq.alloc o).alloc o2).frozen? ⟨W.heap.size + 1 + 1, 0, none⟩ = false := fun o o2 => ((belT (below_alc wq o) (below_alc _ o2)).frozen (p := ⟨W.heap.size + 1 + 1, 0, none⟩) hrl).trans hrf
    go_wp2_with fail
    have s0 := setS (v := .pointer (some ⟨wq.heap.size + 1, 0, none⟩)) (hc2 (.cells #[.int .i64 t.a, .int .i64 t.b, .pointer t.c, .pointer t.d, .pointer t.e, .pointer none, .pointer none] 145) (.cells #[.int .i64 1, .pointer (some ⟨wq.heap.size, 0, none⟩), .pointer none] 142))
    exact bodyPost_ret (v := .agg #[.pointer (some ⟨wq.heap.size + 1, 0, none⟩)]) (by simp only [results, Try.results81]; simp [go_sem, s0]) rfl (hfin.out _ _ _ rfl rfl rfl)
  · by_cases hs : l1.length = l2.length
    · have hk : k = k2 := by have := tr_eq h1 h2 hs; omega
      subst hk
      have hsi : (l1.length : Int) = (l2.length : Int) := by omega
      obtain ⟨ia, rfl⟩ := tr_ptr h1
      obtain ⟨ib, rfl⟩ := tr_ptr h2
      obtain ⟨oc, rfl⟩ := pt_ptr h3
      have h1h := Lib.hid h1; have h2h := Lib.hid h2; have h3h := Lib.hid h3; have hsh := Lib.hid hs
      rw [← hsi] at d0
      have hlb : l1.length ≤ 1000000000 := by rw [List.length_append] at hl; omega
      clear h1 h2 h3 hs hsi
      go_wp2_with fail
      go_quiet (fail)
      have hdq : Below W1.heap.size W1 (W1.drewN nq) := by (repeat' (first | with_reducible exact Below.refl _ _ | with_reducible assumption | with_reducible apply Below.setCell | with_reducible apply Below.alloc | with_reducible apply Below.drew | with_reducible apply below_drewN | with_reducible exact Nat.le_refl _ | (simp; done) | (simp; omega) | omega | exact Nat.le_refl _))
      have hbq := Lib.hid (belT hb.out hdq)
      have q1 := Lib.hid (h1h.out.below hdq)
      have q2 := Lib.hid (h2h.out.below hdq)
      have q3 := Lib.hid (PtR.bar (Bar.of_below (S := fun _ => False) hdq) (enF_no W1) h3h.out)
      have hrTq := Lib.hid (hrT.out.bar (Bar.of_below (S := fun _ => False) hdq) id)
      have hl1 : W.heap.size + 1 < W1.heap.size := by omega
      have t0 := carry hdq hl1 t0; have t1 := carry hdq hl1 t1; have t2 := carry hdq hl1 t2; have t3 := carry hdq hl1 t3; have t4 := carry hdq hl1 t4
      have c0 := carry hdq hg c0; have c1 := carry hdq hg c1; have c2 := carry hdq hg c2
      have d0 := carry hdq hg2 d0; have d1 := carry hdq hg2 d1; have d2 := carry hdq hg2 d2
      have hr0 := carry hdq hrl hr0
      have hrf := (hdq.frozen (p := ⟨W.heap.size + 1 + 1, 0, none⟩) hrl).trans hrf
      have hrl : W.heap.size + 1 + 1 < (W1.drewN nq).heap.size := Nat.lt_of_lt_of_le hrl hdq.size
      have hg : g < (W1.drewN nq).heap.size := Nat.lt_of_lt_of_le hg hdq.size
      have hg2 : g2 < (W1.drewN nq).heap.size := Nat.lt_of_lt_of_le hg2 hdq.size
      generalize W1.drewN nq = wq at hdq hbq q1 q2 q3 hrTq t0 t1 t2 t3 t4 c0 c1 c2 d0 d1 d2 hr0 hrf hrl hg hg2 ⊢
      clear hdq hb0 hl1 h1h h2h h3h hT hrT
      go_upto_region 4 with fail
      go_region
      have hx := below_alc wq (.cells #[.int .i64 t.a, .int .i64 t.b, .pointer t.c, .pointer t.d, .pointer t.e, .pointer ia, .pointer ib] 145)
      have hxd : Below wq.heap.size wq (wq.alloc (.cells #[.int .i64 t.a, .int .i64 t.b, .pointer t.c, .pointer t.d, .pointer t.e, .pointer ia, .pointer ib] 145)).drew := hx.drew
      have qt := Lib.hid ((tree_lit (W := wq) (g := wq.heap.size) (k + 1) (t := t) (arr := #[.int .i64 t.a, .int .i64 t.b, .pointer t.c, .pointer t.d, .pointer t.e, .pointer ia, .pointer ib]) rfl rfl q1.out q2.out).below (Below.drew (Below.refl _ _)))
      have q3 := Lib.hid (PtR.bar (Bar.of_below (S := fun _ => False) hxd) (enF_no wq) q3.out)
      have hrTq := Lib.hid (hrTq.out.bar (Bar.of_below (S := fun _ => False) hxd) id)
      have hbq := Lib.hid (belT hbq.out hxd)
      have c0 := carry hxd hg c0; have c1 := carry hxd hg c1; have c2 := carry hxd hg c2
      have d0 := carry hxd hg2 d0; have d1 := carry hxd hg2 d1; have d2 := carry hxd hg2 d2
      have hr0 := carry hxd hrl hr0
      have hrf := (hxd.frozen (p := ⟨W.heap.size + 1 + 1, 0, none⟩) hrl).trans hrf
      have hsz := hxd.size
      have hrl := Nat.lt_of_lt_of_le hrl hsz
      have hg := Nat.lt_of_lt_of_le hg hsz
      have hg2 := Nat.lt_of_lt_of_le hg2 hsz
      obtain ⟨G, hG⟩ : ∃ G, wq.heap.size = G := ⟨_, rfl⟩
      rw [hG] at qt ⊢
      generalize (wq.alloc (.cells #[.int .i64 t.a, .int .i64 t.b, .pointer t.c, .pointer t.d, .pointer t.e, .pointer ia, .pointer ib] 145)).drew = wt at hxd qt q3 hrTq hbq c0 c1 c2 d0 d1 d2 hr0 hrf hrl hg hg2 ⊢
      clear hx hxd hsz hG t0 t1 t2 t3 t4 q1 q2
      go_upto_region 5 with fail
      go_region
      obtain ⟨W2, hW2⟩ : ∃ w, wt.setCell ⟨W.heap.size + 1 + 1, 0, none⟩ (.pointer (some ⟨wt.heap.size, 0, none⟩)) = w := ⟨_, rfl⟩
      have hb2 : Bar (fun k => k = W.heap.size + 1 + 1) wt W2 := by rw [← hW2]; exact Bar.set ⟨W.heap.size + 1 + 1, 0, none⟩ _ rfl
      have hF : EnF (fun k => k = W.heap.size + 1 + 1) wt := fun g e => by subst e; exact ⟨fun h => hrTq.out.ne h (by decide) rfl, fun h => hrTq.out.ne h (by decide) rfl⟩
      have qt2 := qt.out.bar hb2 hF
      have q32 := PtR.bar hb2 hF q3.out
      have hs2 : W2.heap.size = wt.heap.size := by rw [← hW2]; simp
      have s0 : W2.cell? ⟨W.heap.size + 1 + 1, 0, none⟩ = some (.pointer (some ⟨wt.heap.size, 0, none⟩)) := by rw [← hW2]; exact setS hr0
      have hB2 : Below W.heap.size W W2 := by rw [← hW2]; exact hbq.out.setCell (by show W.heap.size ≤ W.heap.size + 1 + 1; omega) _
      have hlt : W.heap.size + 1 + 1 < W2.heap.size := by omega
      rw [hW2]
      have hlen : 2 * (l1.length : Int) + 1 = ((t :: (l1 ++ l2)).length : Int) := by have := hsh.out; rw [List.length_cons, List.length_append]; omega
      have qp := part_lit (W := W2) (g := wt.heap.size) ks2 (k + 1) (i := .pointer (some ⟨G, 0, none⟩)) (o := .pointer oc) (l1 := t :: (l1 ++ l2)) (l2 := l3) (arr := #[.int .i64 (2 * (l1.length : Int) + 1), .pointer (some ⟨G, 0, none⟩), .pointer oc]) hs2.symm (by rw [hlen]) qt2 q32
      rw [show t :: (l1 ++ l2) ++ l3 = t :: (l1 ++ (l2 ++ l3)) by simp] at qp
      have hx := below_alc W2 (.cells #[.int .i64 (2 * (l1.length : Int) + 1), .pointer (some ⟨G, 0, none⟩), .pointer oc] 142)
      have hfin := Lib.hid (show WiP W (l1 ++ (l2 ++ l3)) t (.returned (.agg #[.pointer (some ⟨wt.heap.size, 0, none⟩)])) (W2.alloc (.cells #[.int .i64 (2 * (l1.length : Int) + 1), .pointer (some ⟨G, 0, none⟩), .pointer oc] 142)).drew from
        ⟨_, rfl, ⟨(k + 1) :: ks2, PtR.bar (Bar.of_below (S := fun _ => False) ((Below.refl _ _).drew)) (enF_no _) qp⟩, (belT hB2 hx).drew⟩)
      have s1 := carry hx.drew hlt s0
      clear hb2 hF qt2 q32 hW2 hB2 hlen qp hx c0 c1 c2 d0 d1 d2 hr0 hrf qt q3
      generalize (W2.alloc (.cells #[.int .i64 (2 * (l1.length : Int) + 1), .pointer (some ⟨G, 0, none⟩), .pointer oc] 142)).drew = wz at hfin s1 ⊢
      go_wp2_with fail
      exact bodyPost_ret (v := .agg #[.pointer (some ⟨wt.heap.size, 0, none⟩)]) (by simp [results, Try.results81, go_sem, s1]) rfl hfin.out
    · have hsi : ¬ (l1.length : Int) = (l2.length : Int) := by omega
      clear h1 h2 h3
      go_wp2_with fail
      go_quiet (fail)
      have hdq : Below W1.heap.size W1 (W1.drewN nq) := by (repeat' (first | with_reducible exact Below.refl _ _ | with_reducible assumption | with_reducible apply Below.setCell | with_reducible apply Below.alloc | with_reducible apply Below.drew | with_reducible apply below_drewN | with_reducible exact Nat.le_refl _ | (simp; done) | (simp; omega) | omega | exact Nat.le_refl _))
      have hbq := Lib.hid (belT hb.out hdq)
      have hTq := Lib.hid (PtR.bar (Bar.of_below (S := fun _ => False) hdq) (enF_no W1) hT.out)
      have hrTq := Lib.hid (hrT.out.bar (Bar.of_below (S := fun _ => False) hdq) id)
      have hl1 : W.heap.size + 1 < W1.heap.size := by omega
      have t0 := carry hdq hl1 t0; have t1 := carry hdq hl1 t1; have t2 := carry hdq hl1 t2; have t3 := carry hdq hl1 t3; have t4 := carry hdq hl1 t4
      have hr0 := carry hdq hrl hr0
      have hrf := (hdq.frozen (p := ⟨W.heap.size + 1 + 1, 0, none⟩) hrl).trans hrf
      have hrl : W.heap.size + 1 + 1 < (W1.drewN nq).heap.size := Nat.lt_of_lt_of_le hrl hdq.size
      generalize W1.drewN nq = wq at hdq hbq hTq hrTq t0 t1 t2 t3 t4 hr0 hrf hrl ⊢
      have hfin := Lib.hid fun (arr arr2 : Array Value) V e1 e2 e3 => wi_new (arr := arr) (arr2 := arr2) (V := V) t hbq.out hrl hrTq.out hTq.out e1 e2 e3
      clear hdq hb0 hl1 c0 c1 c2 d0 d1 d2 hg hg2
      have hc2 : ∀ o o2 : Obj, ((wq.alloc o).alloc o2).cell? ⟨W.heap.size + 1 + 1, 0, none⟩ = some (.pointer none) := fun o o2 => carry (belT (below_alc wq o) (below_alc _ o2)) hrl hr0
      have hf2 : ∀ o o2 : Obj, ((wq.alloc o).alloc o2).frozen? ⟨W.heap.size + 1 + 1, 0, none⟩ = false := fun o o2 => ((belT (below_alc wq o) (below_alc _ o2)).frozen (p := ⟨W.heap.size + 1 + 1, 0, none⟩) hrl).trans hrf
      go_wp2_with fail
      have s0 := setS (v := .pointer (some ⟨wq.heap.size + 1, 0, none⟩)) (hc2 (.cells #[.int .i64 t.a, .int .i64 t.b, .pointer t.c, .pointer t.d, .pointer t.e, .pointer none, .pointer none] 145) (.cells #[.int .i64 1, .pointer (some ⟨wq.heap.size, 0, none⟩), .pointer (some ⟨g, 0, none⟩)] 142))
      exact bodyPost_ret (v := .agg #[.pointer (some ⟨wq.heap.size + 1, 0, none⟩)]) (by simp only [results, Try.results81]; simp [go_sem, s0]) rfl (hfin.out _ _ _ rfl rfl rfl)
end Go.Proofs.Ytnjalpcmjkahkaa
