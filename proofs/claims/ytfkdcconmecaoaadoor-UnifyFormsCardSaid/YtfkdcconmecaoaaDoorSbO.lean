/- Rows of binds that a call makes: appended to. -/
import Derived.Test.YtfkdcconmecaoaaDoorSbH
import Derived.Laws.AppendOwn
/- Rows of binds that a call makes: appended to. -/
namespace Go.Proofs.YtfkdcconmecaoaaDoor
open Go.RowKit
set_option linter.unusedVariables false
set_option linter.unusedSimpArgs false

theorem infoB : (Tryd.prog.info? 40).map (fun i => (i.zero, i.size, i.bytes)) = some (some (.agg #[.int .i64 0, .bool false, .slice none 0 0, .int .i64 0, .int .i64 0, .int .i64 0, .int .i64 0, .int .i64 0]), 8, 80) := by kernel_rfl
theorem bnL_len (l : List Bn) : (bnL l).length = l.length * 8 := by
  induction l with
  | nil => rfl
  | cons t l ih => simp only [bnL, List.flatMap_cons, List.length_append, List.length_cons] at *; rw [ih]; simp [bnL1]; omega
theorem bnL_app (l m : List Bn) : bnL (l ++ m) = bnL l ++ bnL m := by simp [bnL]
theorem bnL_one (l : List Bn) : ∀ u ∈ bnL l, u.oneCell' = true := by
  intro u hu
  unfold bnL at hu
  rw [List.mem_flatMap] at hu
  obtain ⟨t, _, ht⟩ := hu
  unfold bnL1 at ht
  simp only [List.mem_cons, List.not_mem_nil, or_false] at ht
  rcases ht with rfl | rfl | rfl | rfl | rfl | rfl | rfl | rfl <;> rfl
def OwnB (B : Nat) (w : World) (v : Value) (l : List Bn) : Prop := w.ownsRow B 40 8 v l.length (bnL l)
theorem OwnB.nil (B : Nat) (w : World) : OwnB B w (.slice none 0 0) [] := ⟨rfl, .inl ⟨rfl, rfl⟩⟩
theorem OwnB.below {B : Nat} {w w1 : World} {v : Value} {l : List Bn} (h : OwnB B w v l) (hb : Below w.heap.size w w1) : OwnB B w1 v l := owns_below h hb
theorem OwnB.fresh (w : World) : OwnB w.heap.size (w.alloc (.cells #[] 40)) (.slice (some ⟨w.heap.size, 0, none⟩) 0 0) [] :=
  ⟨rfl, .inr ⟨w.heap.size, 0, #[], rfl, Nat.le_refl _, by show (w.heap.push _)[w.heap.size]? = _; simp, Nat.le_refl _, by decide, rfl, rfl⟩⟩
theorem OwnB.cases {B : Nat} {w : World} {v : Value} {l : List Bn} (h : OwnB B w v l) : (v = .slice none 0 0 ∧ l = []) ∨ ∃ g c, v = .slice (some ⟨g, 0, none⟩) l.length c ∧ B ≤ g ∧ g < w.heap.size ∧ l.length ≤ c ∧ (∀ j u, (bnL l)[j]? = some u → w.cell? ⟨g, j, none⟩ = some u) ∧ ∀ o, w.frozen? ⟨g, o, none⟩ = false := by
  have hh := h
  rcases h.2 with ⟨rfl, h0⟩ | ⟨g, cap, cur, rfl, hb, hg, hc, hm, hsz, htk⟩
  · exact .inl ⟨rfl, List.eq_nil_of_length_eq_zero h0⟩
  · refine .inr ⟨g, cap, rfl, hb, (Array.getElem?_eq_some_iff.1 hg).1, hc, fun j u hj => ?_, fun o => World.ownsRow.frozenAt hh o⟩
    have := World.ownsRow.cells (show w.ownsRow B 40 8 (.slice (some ⟨g, 0, none⟩) l.length cap) l.length (bnL l) from hh) rfl j u hj
    by_cases hj0 : j = 0
    · subst hj0; simpa [Addr.add] using this
    · simpa [Addr.add, hj0] using this
theorem OwnB.arg {B : Nat} {w : World} {a : Option Addr} {n c : Nat} {l : List Bn} (h : OwnB B w (.slice a n c) l) (ht : ∀ x ∈ l, TyArg w x.ad x.n x.ns ∧ x.n ≤ 140737488351232) : BnArg w a n l := by
  rcases h.cases with ⟨h1, rfl⟩ | ⟨g, c, h1, _, h3, _, h5, _⟩
  · injection h1 with _ h1 _; subst h1; exact ⟨rfl, .inl rfl⟩
  · injection h1 with h0 h1 _; subst h0; subst h1
    refine ⟨rfl, .inr ⟨g, 0, rfl, fun i hi => ⟨bnAt_of (fun j u hj => ?_) i hi, (ht _ (getB_mem hi)).1, (ht _ (getB_mem hi)).2⟩, h3⟩⟩
    rw [Nat.zero_add]; exact h5 j u hj
/-- some more behind those that there are: they lie in the block that was made last. -/
theorem op_bn {ops : Array Oper} {rest : List Oper} {o : Oper} {a : Act} {Q : Exit → Act → World → Prop} (hgd : o.guard = none) (s x : Operand) (W : World) (B : Nat) (hB : B ≤ W.heap.size) (ov : Value) (l ys : List Bn) (arr : Array Value)
    (ho : o.op = .call { callee := .builtin .append, args := #[s, x], argTypes := #[26, 26] })
    (hs : a.eval s = ov) (m : Nat) (hm : m = ys.length) (hx : a.eval x = .slice (some ⟨W.heap.size, 0, none⟩) m m) (harr : arr.toList = bnL ys) (hown : OwnB B W ov l) (hlen : (l.length + ys.length) * 80 ≤ 140737488355328)
    (h : ∀ v' w', OwnB B w' v' (l ++ ys) → Below B W w' → (v' = .slice none 0 0 → ys = []) → wpList Tryd.prog ops Q rest (a.put o.dst v') w') :
    wpList Tryd.prog ops Q (o :: rest) a (W.alloc (.cells arr 40)) := by
  subst hm
  obtain ⟨i0, hi, hz0, hz1, hz2⟩ := info_parts infoB
  refine wpList_append_own _ hgd s x 26 ho B 40 i0 (.agg #[.int .i64 0, .bool false, .slice none 0 0, .int .i64 0, .int .i64 0, .int .i64 0, .int .i64 0, .int .i64 0]) 8 80 Tryd.underlying26 hi hz0 hz1 hz2 rfl (by decide) ov l.length (bnL l) hs (World.ownsRow.alloc hown _) ⟨W.heap.size, 0, none⟩ ys.length ys.length (bnL ys) hx (bnL_len ys) ?_ (bnL_one ys) (by unfold maxLen; omega) (by omega) (by simp; omega) ?_
  · intro j u hj
    have e : (⟨W.heap.size, 0, none⟩ : Addr).add j = ⟨W.heap.size, j, none⟩ := by simp [Addr.add]; try omega
    rw [e, World.cell?_alloc_at _ _ _ _ rfl, ← hj, ← harr, Array.getElem?_toList]
  · intro v' w' hown' hgr hnil
    refine h v' w' (by unfold OwnB; rw [bnL_app, List.length_append]; exact hown') ?_ (fun e => List.eq_nil_of_length_eq_zero (hnil.1 e).2)
    have hsz := hgr.size
    simp at hsz
    refine ⟨hgr.os, hgr.tape, hgr.output, by omega, fun k hk => ?_⟩
    rw [hgr.block k (by simp; omega) ?_]
    · exact Below.heap_alloc W _ k (by omega)
    · intro e
      rcases hown.2 with ⟨rfl, _⟩ | ⟨g, cap, cur, rfl, hg, _⟩
      · simp [Value.ownBlock] at e
      · simp [Value.ownBlock] at e; omega

end Go.Proofs.YtfkdcconmecaoaaDoor

/- Binds of variables that are not there: plain facts. -/
namespace Go.Proofs.YtfkdcconmecaoaaDoor
set_option linter.unusedVariables false
set_option linter.unusedSimpArgs false

/-- one node is the variable that a bind speaks of. -/
def isV (x : Bn) (t : Ty) : Bool := (!x.ir && t.k == 2 && t.v == x.v) || (x.ir && t.k == 3 && t.t == x.v)
def thereB (x : Bn) (ts : List Ty) : Bool := ts.any (isV x)
def notB (xs : List Bn) (ts : List Ty) : List Bn := xs.filter fun x => !thereB x ts
theorem put_id {σ : Int → Option TT} {ρ : Int → Option Rw} : ∀ (T : TT) (o : Nat), (∀ t ∈ fl o T, (t.k = 2 → σ t.v = none) ∧ (t.k = 3 → ρ t.t = none)) → putT σ ρ T = T
  | .base k, o, h => rfl
  | .var v, o, h => by
    have := (h (vrT v) (by simp [fl])).1 rfl
    simp only [vrT] at this
    unfold putT; rw [this]; rfl
  | .fn a r b, o, h => by
    rw [fl_fn] at h
    have h1 := put_id a o fun t ht => h t (by simp [ht])
    have h2 := put_id b (o + a.sz) fun t ht => h t (by simp [ht])
    have h3 := (h (fnT (o + a.sz - 1) (o + (a.sz + b.sz) - 1) r) (by simp [fnT]; omega)).2 rfl
    simp only [fnT] at h3
    unfold putT
    rw [h1, h2]
    have : putR ρ r = r := by unfold putR; rw [h3]; split <;> rfl
    rw [this]
theorem fst_none {xs : List Bn} {ir : Bool} {v : Int} (h : ∀ x ∈ xs, ¬ (x.ir = ir ∧ x.v = v)) : fst xs ir v = none := by
  unfold fst
  rw [List.findIdx?_eq_none_iff]
  intro x hx
  have := h x hx
  simp only [Bool.and_eq_false_iff, beq_eq_false_iff_ne, ne_eq]
  by_cases h1 : x.ir = ir
  · exact .inr fun h2 => this ⟨h1, h2⟩
  · exact .inl h1
theorem notB_sg {xs : List Bn} {ts : List Ty} {t : Ty} (ht : t ∈ ts) : (t.k = 2 → sgB (notB xs ts) t.v = none) ∧ (t.k = 3 → rhB (notB xs ts) t.t = none) := by
  constructor
  · intro hk
    unfold sgB
    rw [fst_none]; · rfl
    intro x hx ⟨h1, h2⟩
    unfold notB at hx
    rw [List.mem_filter] at hx
    have h3 : thereB x ts = true := List.any_eq_true.2 ⟨t, ht, by unfold isV; simp [h1, h2, hk]⟩
    rw [h3] at hx; simp at hx
  · intro hk
    unfold rhB
    rw [fst_none]; · rfl
    intro x hx ⟨h1, h2⟩
    unfold notB at hx
    rw [List.mem_filter] at hx
    have h3 : thereB x ts = true := List.any_eq_true.2 ⟨t, ht, by unfold isV; simp [h1, h2, hk]⟩
    rw [h3] at hx; simp at hx
theorem sn_put {xs : List Bn} {ts : List Ty} (h : tyV ts = true) : putT (sgB (notB xs ts)) (rhB (notB xs ts)) (treeOf ts) = treeOf ts := by
  obtain ⟨_, h2, _⟩ := tyV_of h
  refine put_id _ 0 fun t ht => notB_sg ?_
  rw [h2]; exact ht
theorem sn_any {xs : List Bn} {ts : List Ty} (h : subE (notB xs ts) ts = 0) : subT (notB xs ts) ts = ts := by
  unfold subE at h
  cases hv : tyV ts with
  | false => rw [hv] at h; simp at h
  | true =>
    rw [hv, sn_put hv] at h
    unfold subT
    rw [hv, sn_put hv]
    have hb : bsV (notB xs ts) = true := by cases h' : bsV (notB xs ts) <;> simp_all
    have hf : (treeOf ts).fits = true := by cases h' : (treeOf ts).fits <;> simp_all
    rw [hb, hf]
    exact (tyV_of hv).2.1.symm
theorem sn_nil {ts : List Ty} (h : subE [] ts = 0) : subT [] ts = ts := sn_any (xs := []) h
theorem sn_no {xs : List Bn} {ts : List Ty} (h : subE xs ts ≠ 0) : subE xs ts = 900 ∧ subT xs ts = [] := by
  unfold subE at *
  unfold subT
  cases h1 : (bsV xs && tyV ts)
  · simp
  · rw [h1] at h
    rw [Bool.true_and] at h ⊢
    cases h2 : (putT (sgB xs) (rhB xs) (treeOf ts)).fits
    · simp
    · rw [h2] at h; simp at h
/-- the first k binds. -/
theorem notB_succ {xs : List Bn} {ts : List Ty} {k : Nat} (hk : k < xs.length) : notB (xs.take (k + 1)) ts = notB (xs.take k) ts ++ (if thereB (xs.getD k bn0) ts then [] else [xs.getD k bn0]) := by
  unfold notB
  rw [List.take_succ_eq_append_getElem hk, List.filter_append]
  have e : xs.getD k bn0 = xs[k] := by rw [List.getD_eq_getElem?_getD, List.getElem?_eq_getElem hk]; rfl
  rw [e]
  cases h : thereB xs[k] ts <;> simp [h]
theorem thereB_succ {x : Bn} {ts : List Ty} {k : Nat} (hk : k < ts.length) : thereB x (ts.take (k + 1)) = (thereB x (ts.take k) || isV x (ts.getD k ty0)) := by
  unfold thereB
  rw [List.take_succ_eq_append_getElem hk, List.any_append]
  have e : ts.getD k ty0 = ts[k] := by rw [List.getD_eq_getElem?_getD, List.getElem?_eq_getElem hk]; rfl
  rw [e]; simp
end Go.Proofs.YtfkdcconmecaoaaDoor
