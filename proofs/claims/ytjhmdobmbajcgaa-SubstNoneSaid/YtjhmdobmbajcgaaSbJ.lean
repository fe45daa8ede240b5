/- Binds of variables that are not there: plain facts. -/
import Derived.Test.YtjhmdobmbajcgaaSbO
import Derived.Test.YtjhmdobmbajcgaaSbI
namespace Go.Proofs.Ytjhmdobmbajcgaa
set_option linter.unusedVariables false
set_option linter.unusedSimpArgs false

/-- one node is the variable that a bind speaks of. -/
def isV (x : Bn) (t : Ty) : Bool := (!x.ir && t.k == 2 && t.v == x.v) || (x.ir && t.k == 3 && t.t == x.v)
def thereB (x : Bn) (ts : List Ty) : Bool := ts.any (isV x)
def notB (xs : List Bn) (ts : List Ty) : List Bn := xs.filter fun x => !thereB x ts
theorem put_id {σ : Int → Option TT} {ρ : Int → Option Rw} : ∀ (T : TT) (o : Nat), (∀ t ∈ fl o T, (t.k = 2 → σ t.v = none) ∧ (t.k = 3 → ρ t.t = none)) → putT σ ρ T = T
  | .base k, o, h => rfl
  | .var v, o, h => by
    have := (h (vrT v) (by simp [fl])).1 rfl
    simp only [vrT] at this
    unfold putT; rw [this]; rfl
  | .fn a r b, o, h => by
    rw [fl_fn] at h
    have h1 := put_id a o fun t ht => h t (by simp [ht])
    have h2 := put_id b (o + a.sz) fun t ht => h t (by simp [ht])
    have h3 := (h (fnT (o + a.sz - 1) (o + (a.sz + b.sz) - 1) r) (by simp [fnT]; omega)).2 rfl
    simp only [fnT] at h3
    unfold putT
    rw [h1, h2]
    have : putR ρ r = r := by unfold putR; rw [h3]; split <;> rfl
    rw [this]
theorem fst_none {xs : List Bn} {ir : Bool} {v : Int} (h : ∀ x ∈ xs, ¬ (x.ir = ir ∧ x.v = v)) : fst xs ir v = none := by
  unfold fst
  rw [List.findIdx?_eq_none_iff]
  intro x hx
  have := h x hx
  simp only [Bool.and_eq_false_iff, beq_eq_false_iff_ne, ne_eq]
  by_cases h1 : x.ir = ir
  · exact .inr fun h2 => this ⟨h1, h2⟩
  · exact .inl h1
theorem notB_sg {xs : List Bn} {ts : List Ty} {t : Ty} (ht : t ∈ ts) : (t.k = 2 → sgB (notB xs ts) t.v = none) ∧ (t.k = 3 → rhB (notB xs ts) t.t = none) := by
  constructor
  · intro hk
    unfold sgB
    rw [fst_none]; · rfl
    intro x hx ⟨h1, h2⟩
    unfold notB at hx
    rw [List.mem_filter] at hx
    have h3 : thereB x ts = true := List.any_eq_true.2 ⟨t, ht, by unfold isV; simp [h1, h2, hk]⟩
    rw [h3] at hx; simp at hx
  · intro hk
    unfold rhB
    rw [fst_none]; · rfl
    intro x hx ⟨h1, h2⟩
    unfold notB at hx
    rw [List.mem_filter] at hx
    have h3 : thereB x ts = true := List.any_eq_true.2 ⟨t, ht, by unfold isV; simp [h1, h2, hk]⟩
    rw [h3] at hx; simp at hx
theorem sn_put {xs : List Bn} {ts : List Ty} (h : tyV ts = true) : putT (sgB (notB xs ts)) (rhB (notB xs ts)) (treeOf ts) = treeOf ts := by
  obtain ⟨_, h2, _⟩ := tyV_of h
  refine put_id _ 0 fun t ht => notB_sg ?_
  rw [h2]; exact ht
theorem sn_any {xs : List Bn} {ts : List Ty} (h : subE (notB xs ts) ts = 0) : subT (notB xs ts) ts = ts := by
  unfold subE at h
  cases hv : tyV ts with
  | false => rw [hv] at h; simp at h
  | true =>
    rw [hv, sn_put hv] at h
    unfold subT
    rw [hv, sn_put hv]
    have hb : bsV (notB xs ts) = true := by cases h' : bsV (notB xs ts) <;> simp_all
    have hf : (treeOf ts).fits = true := by cases h' : (treeOf ts).fits <;> simp_all
    rw [hb, hf]
    exact (tyV_of hv).2.1.symm
theorem sn_nil {ts : List Ty} (h : subE [] ts = 0) : subT [] ts = ts := sn_any (xs := []) h
theorem sn_no {xs : List Bn} {ts : List Ty} (h : subE xs ts ≠ 0) : subE xs ts = 900 ∧ subT xs ts = [] := by
  unfold subE at *
  unfold subT
  cases h1 : (bsV xs && tyV ts)
  · simp
  · rw [h1] at h
    rw [Bool.true_and] at h ⊢
    cases h2 : (putT (sgB xs) (rhB xs) (treeOf ts)).fits
    · simp
    · rw [h2] at h; simp at h
/-- the first k binds. -/
theorem notB_succ {xs : List Bn} {ts : List Ty} {k : Nat} (hk : k < xs.length) : notB (xs.take (k + 1)) ts = notB (xs.take k) ts ++ (if thereB (xs.getD k bn0) ts then [] else [xs.getD k bn0]) := by
  unfold notB
  rw [List.take_succ_eq_append_getElem hk, List.filter_append]
  have e : xs.getD k bn0 = xs[k] := by rw [List.getD_eq_getElem?_getD, List.getElem?_eq_getElem hk]; rfl
  rw [e]
  cases h : thereB xs[k] ts <;> simp [h]
theorem thereB_succ {x : Bn} {ts : List Ty} {k : Nat} (hk : k < ts.length) : thereB x (ts.take (k + 1)) = (thereB x (ts.take k) || isV x (ts.getD k ty0)) := by
  unfold thereB
  rw [List.take_succ_eq_append_getElem hk, List.any_append]
  have e : ts.getD k ty0 = ts[k] := by rw [List.getD_eq_getElem?_getD, List.getElem?_eq_getElem hk]; rfl
  rw [e]; simp
end Go.Proofs.Ytjhmdobmbajcgaa
