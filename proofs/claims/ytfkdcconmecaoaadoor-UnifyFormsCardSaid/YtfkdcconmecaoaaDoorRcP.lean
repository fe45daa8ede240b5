/- Substitution over rows of nodes: plain facts. -/
import Derived.Test.YtfkdcconmecaoaaDoorSbA
namespace Go.Proofs.YtfkdcconmecaoaaDoor
set_option linter.unusedVariables false
set_option linter.unusedSimpArgs false

theorem fl_child : ∀ (T : TT) (o i : Nat), i < T.sz → ((fl o T).getD i ty0).k = 3 → T.ok = true → (o : Int) ≤ ((fl o T).getD i ty0).a ∧ ((fl o T).getD i ty0).a < o + i ∧ (o : Int) ≤ ((fl o T).getD i ty0).b ∧ ((fl o T).getD i ty0).b < o + i
  | .base k, o, i, hi, h3, ho => by
    simp only [TT.sz] at hi
    obtain rfl : i = 0 := by omega
    have hk : k = 0 ∨ k = 1 := by simpa [TT.ok] using ho
    have : k = 3 := h3
    omega
  | .var v, o, i, hi, h3, ho => by
    simp only [TT.sz] at hi
    obtain rfl : i = 0 := by omega
    have : (2 : Int) = 3 := h3
    omega
  | .fn a r b, o, i, hi, h3, ho => by
    unfold TT.ok at ho
    simp only [Bool.and_eq_true] at ho
    simp only [TT.sz] at hi
    have pa := a.sz_pos
    have pb := b.sz_pos
    by_cases h1 : i < a.sz
    · rw [fl_fn_a o a b r h1] at h3 ⊢
      exact fl_child a o i h1 h3 ho.1.1
    · obtain ⟨j, rfl⟩ : ∃ j, i = a.sz + j := ⟨i - a.sz, by omega⟩
      by_cases h2 : j < b.sz
      · rw [fl_fn_b o a b r h2] at h3 ⊢
        have := fl_child b (o + a.sz) j h2 h3 ho.2
        omega
      · obtain rfl : j = b.sz := by omega
        rw [fl_fn_r o a b r]
        unfold fnT
        simp only []
        omega
theorem tyV_child {ts : List Ty} (h : tyV ts = true) {i : Nat} (hi : i < ts.length) (h3 : (ts.getD i ty0).k = 3) : 0 ≤ (ts.getD i ty0).a ∧ (ts.getD i ty0).a < i ∧ 0 ≤ (ts.getD i ty0).b ∧ (ts.getD i ty0).b < i := by
  obtain ⟨T, h1, h2, h4, h5, h6⟩ := tyV_tree h
  rw [h2] at h3 ⊢
  have := fl_child T 0 i (by omega) h3 h1
  omega
theorem tyV_ok1 {ts : List Ty} (h : tyV ts = true) {i : Nat} (hi : i < ts.length) : tyOk (ts.getD i ty0) = true := by
  unfold tyV at h
  simp only [Bool.and_eq_true, List.all_eq_true] at h
  exact h.1.2 _ (getT_mem hi)
theorem tyV_le {ts : List Ty} (h : tyV ts = true) : 1 ≤ ts.length ∧ ts.length ≤ 256 := by
  unfold tyV at h
  simp only [Bool.and_eq_true, decide_eq_true_eq] at h
  exact h.1.1
theorem runT_take {σ : Int → Option TT} {ρ : Int → Option Rw} {ts : List Ty} {j : Nat} {s0 st : List Ty × List Int} (hj : j < ts.length) (h : runT σ ρ (ts.take j) s0 = some st) : runT σ ρ (ts.take (j + 1)) s0 = stepT σ ρ (ts.getD j ty0) st := by
  rw [List.take_succ_eq_append_getElem hj, runT_app, h, Option.bind_some]
  have e : ts.getD j ty0 = ts[j] := by rw [List.getD_eq_getElem?_getD, List.getElem?_eq_getElem hj]; rfl
  rw [e]
  simp only [runT]
  cases stepT σ ρ ts[j] st <;> rfl
theorem runT_stop {σ : Int → Option TT} {ρ : Int → Option Rw} {ts : List Ty} {j : Nat} {s0 st : List Ty × List Int} (hj : j < ts.length) (h : runT σ ρ (ts.take j) s0 = some st) (hn : stepT σ ρ (ts.getD j ty0) st = none) : runT σ ρ ts s0 = none := by
  have h1 := runT_take hj h
  rw [hn] at h1
  have : ts = ts.take (j + 1) ++ ts.drop (j + 1) := (List.take_append_drop _ _).symm
  rw [this, runT_app, h1]; rfl
theorem stepT_len {σ : Int → Option TT} {ρ : Int → Option Rw} {x : Ty} {st st' : List Ty × List Int} (h : stepT σ ρ x st = some st') : st'.2.length = st.2.length + 1 ∧ st'.1.length ≤ 256 := by
  unfold stepT at h
  simp only [] at h
  split at h
  · cases h
  · split at h
    · cases h
    · injection h with h
      subst h
      exact ⟨by simp, by simp only []; omega⟩
theorem runT_len {σ : Int → Option TT} {ρ : Int → Option Rw} : ∀ (xs : List Ty) (st st' : List Ty × List Int), st.1.length ≤ 256 → runT σ ρ xs st = some st' → st'.2.length = st.2.length + xs.length ∧ st'.1.length ≤ 256
  | [], st, st', h0, h => by
    injection h with h
    subst h
    exact ⟨by simp, h0⟩
  | x :: xs, st, st', h0, h => by
    simp only [runT] at h
    cases hs : stepT σ ρ x st with
    | none => rw [hs] at h; cases h
    | some s =>
      rw [hs, Option.bind_some] at h
      obtain ⟨h1, h2⟩ := stepT_len hs
      obtain ⟨h3, h4⟩ := runT_len xs s st' h2 h
      exact ⟨by rw [h3, h1, List.length_cons]; omega, h4⟩
/-- what one node turns to. -/
def lastE (out : List Ty) (ends : List Int) : Option (List Ty × List Int) := if 256 < out.length then none else some (out, ends ++ [(out.length : Int) - 1])
theorem stepT_base {σ : Int → Option TT} {ρ : Int → Option Rw} {k : Int} (hk : k = 0 ∨ k = 1) (out : List Ty) (ends : List Int) : stepT σ ρ (bsT k) (out, ends) = lastE (out ++ [bsT k]) ends := by
  unfold stepT lastE
  have e2 : ¬ (bsT k).k = 2 := by unfold bsT; simp only []; omega
  have e3 : ¬ (bsT k).k = 3 := by unfold bsT; simp only []; omega
  simp only [if_neg e2, if_neg e3]
theorem stepT_none {σ : Int → Option TT} {ρ : Int → Option Rw} {v : Int} (hv : σ v = none) (out : List Ty) (ends : List Int) : stepT σ ρ (vrT v) (out, ends) = lastE (out ++ ([vrT v] : List Ty).map (shT out.length)) ends := by
  unfold stepT lastE
  have e2 : (vrT v).k = 2 := rfl
  have e3 : ¬ (vrT v).k = 3 := by unfold vrT; simp
  have e4 : ([vrT v] : List Ty).map (shT out.length) = [vrT v] := by
    simp only [List.map_cons, List.map_nil]
    unfold shT; rw [if_neg e3]
  rw [e4]
  simp only [if_pos e2, show (vrT v).v = v from rfl, hv]
theorem stepT_some {σ : Int → Option TT} {ρ : Int → Option Rw} {v : Int} {U : TT} {ns : List Ty} (hv : σ v = some U) (hn : ns = fl 0 U) (out : List Ty) (ends : List Int) : stepT σ ρ (vrT v) (out, ends) = lastE (out ++ ns.map (shT out.length)) ends := by
  unfold stepT lastE
  have e2 : (vrT v).k = 2 := rfl
  rw [hn]
  simp only [if_pos e2, show (vrT v).v = v from rfl, hv]
theorem stepT_fn {σ : Int → Option TT} {ρ : Int → Option Rw} {a b : Int} {r : Rw} (out : List Ty) (ends : List Int) (hc : (putR ρ r).cnt = true) : stepT σ ρ (fnT a b r) (out, ends) = lastE (out ++ [fnT (ends.getD a.toNat 0) (ends.getD b.toNat 0) (putR ρ r)]) ends := by
  unfold stepT lastE
  have x2 : ¬ (fnT a b r).k = 2 := by unfold fnT; simp
  have x3 : (fnT a b r).k = 3 := rfl
  simp only [if_neg x2, if_pos x3]
  rw [show (⟨(fnT a b r).c0, (fnT a b r).c1, (fnT a b r).c2, (fnT a b r).c3, (fnT a b r).t⟩ : Rw) = r from rfl, hc]
  rfl
theorem stepT_fn_no {σ : Int → Option TT} {ρ : Int → Option Rw} {a b : Int} {r : Rw} (out : List Ty) (ends : List Int) (hc : (putR ρ r).cnt = false) : stepT σ ρ (fnT a b r) (out, ends) = none := by
  unfold stepT
  have x2 : ¬ (fnT a b r).k = 2 := by unfold fnT; simp
  have x3 : (fnT a b r).k = 3 := rfl
  simp only [if_neg x2, if_pos x3]
  rw [show (⟨(fnT a b r).c0, (fnT a b r).c1, (fnT a b r).c2, (fnT a b r).c3, (fnT a b r).t⟩ : Rw) = r from rfl, hc]
  rfl
theorem lastE_some {out : List Ty} {ends : List Int} (h : out.length ≤ 256) : lastE out ends = some (out, ends ++ [(out.length : Int) - 1]) := by unfold lastE; rw [if_neg (by omega)]
theorem lastE_none {out : List Ty} {ends : List Int} (h : 256 < out.length) : lastE out ends = none := by unfold lastE; rw [if_pos h]
/-- the whole type. -/
def tfP (xs : List Bn) (ts : List Ty) : TT := putT (sgB xs) (rhB xs) (treeOf ts)
def tfL (xs : List Bn) (ts : List Ty) : List Ty := if (tfP xs ts).fits then fl 0 (tfP xs ts) else []
theorem run_all {xs : List Bn} {ts : List Ty} (hx : bsV xs = true) (h : tyV ts = true) : (∀ o e, runT (sgB xs) (rhB xs) ts ([], []) = some (o, e) → (tfP xs ts).fits = true ∧ o = tfL xs ts) ∧ (runT (sgB xs) (rhB xs) ts ([], []) = none → (tfP xs ts).fits = false ∧ tfL xs ts = []) := by
  obtain ⟨h1, h2, h3, h4, h5⟩ := tyV_of h
  have hr := runT_fl (σ := sgB xs) (ρ := rhB xs) (fun v U hU => (sgB_ok hx v U hU).1) (treeOf ts) [] [] h1
  simp only [List.length_nil, Nat.zero_add, List.nil_append] at hr
  rw [← h2] at hr
  have e : putT (sgB xs) (rhB xs) (treeOf ts) = tfP xs ts := rfl
  rw [e] at hr
  refine ⟨fun o e' ho => ?_, fun hn => ?_⟩
  · obtain ⟨k1, k2, k3, _⟩ := hr.1 o e' ho
    have hf : (tfP xs ts).fits = true := by unfold TT.fits; rw [decide_eq_true k2, k3]; rfl
    exact ⟨hf, by unfold tfL; rw [hf, if_pos rfl]; exact k1⟩
  · have hf : (tfP xs ts).fits = false := by
      unfold TT.fits
      rcases hr.2 hn with k | k
      · rw [decide_eq_false (by omega)]; rfl
      · rw [k]; simp
    exact ⟨hf, by unfold tfL; rw [hf]; rfl⟩
theorem run_end {xs : List Bn} {ts o : List Ty} {e : List Int} {j : Nat} (hx : bsV xs = true) (h : tyV ts = true) (hj : ¬ j < ts.length) (hr : runT (sgB xs) (rhB xs) (ts.take j) ([], []) = some (o, e)) : (tfP xs ts).fits = true ∧ o = tfL xs ts := by
  rw [List.take_of_length_le (by omega)] at hr
  exact (run_all hx h).1 o e hr
end Go.Proofs.YtfkdcconmecaoaaDoor
