/- The binds that a unification makes, as a substitution: plain. -/
import Derived.Test.YtfkdcconmecaoaaDoorSfc
import Derived.Test.YtfkdcconmecaoaaDoorSbO
/- The binds that a unification makes, as a substitution: plain. -/
namespace Go.Proofs.YtfkdcconmecaoaaDoor
set_option linter.unusedVariables false
set_option linter.unusedSimpArgs false

theorem fst_cons (x : Bn) (xs : List Bn) (ir : Bool) (v : Int) : fst (x :: xs) ir v = if x.ir = ir ∧ x.v = v then some 0 else (fst xs ir v).map (· + 1) := by
  unfold fst
  rw [List.findIdx?_cons]
  by_cases h : x.ir = ir ∧ x.v = v
  · rw [if_pos h, h.1, h.2]; simp
  · rw [if_neg h]
    have : (x.ir == ir && x.v == v) = false := by
      cases e : (x.ir == ir && x.v == v) with
      | false => rfl
      | true => simp only [Bool.and_eq_true, beq_iff_eq] at e; exact absurd e h
    rw [this]; simp
theorem sgB_cons (x : Bn) (xs : List Bn) (v : Int) : sgB (x :: xs) v = if x.ir = false ∧ x.v = v then some (treeOf x.ns) else sgB xs v := by
  unfold sgB
  rw [fst_cons]
  by_cases h : x.ir = false ∧ x.v = v
  · rw [if_pos h, if_pos h]; simp
  · rw [if_neg h, if_neg h, Option.map_map]; rfl
theorem rhB_cons (x : Bn) (xs : List Bn) (v : Int) : rhB (x :: xs) v = if x.ir = true ∧ x.v = v then some x.r else rhB xs v := by
  unfold rhB
  rw [fst_cons]
  by_cases h : x.ir = true ∧ x.v = v
  · rw [if_pos h, if_pos h]; simp
  · rw [if_neg h, if_neg h, Option.map_map]; rfl
theorem sgB_made : ∀ {xs : List Bn} {m : List Bo}, BnL xs m → (∀ b ∈ m, b.ok = true) → (tyN m).Nodup → ∀ v, sgB xs v = sgU m v
  | [], [], _, _, _, v => rfl
  | x :: xs, b :: m, h, hok, hn, v => by
    rw [sgB_cons]
    have ih : (tyN m).Nodup → sgB xs v = sgU m v := fun hn => sgB_made h.2 (fun b hb => hok b (List.mem_cons_of_mem _ hb)) hn v
    unfold sgU
    cases b with
    | rw u r =>
      have e : ¬ (x.ir = false ∧ x.v = v) := fun e => by have := h.1.2.1; rw [this] at e; cases e.1
      rw [if_neg e, ih hn]; simp [Bo.tyOf]
    | ty u T =>
      have hn' : (u :: tyN m).Nodup := hn
      obtain ⟨q1, q2, q3, _⟩ := h.1
      have hT : T.ok = true := by have := hok _ (List.mem_cons_self ..); simp only [Bo.ok, Bool.and_eq_true] at this; exact this.1.2
      rw [ih (List.nodup_cons.1 hn').2]
      by_cases e : u = v
      · subst e
        rw [if_pos ⟨q2, q1⟩, q3, treeOf_fl hT, sgU_none.2 (List.nodup_cons.1 hn').1]; simp [Bo.tyOf]
      · rw [if_neg (fun h => e (q1.symm.trans h.2))]
        have : ¬ v = u := fun h => e h.symm
        simp [Bo.tyOf, this]
theorem rhB_made : ∀ {xs : List Bn} {m : List Bo}, BnL xs m → (rwN m).Nodup → ∀ v, rhB xs v = rhU m v
  | [], [], _, _, v => rfl
  | x :: xs, b :: m, h, hn, v => by
    rw [rhB_cons]
    have ih : (rwN m).Nodup → rhB xs v = rhU m v := fun hn => rhB_made h.2 hn v
    unfold rhU
    cases b with
    | ty u r =>
      have e : ¬ (x.ir = true ∧ x.v = v) := fun e => by have := h.1.2.1; rw [this] at e; cases e.1
      rw [if_neg e, ih hn]; simp [Bo.rwOf]
    | rw u T =>
      have hn' : (u :: rwN m).Nodup := hn
      obtain ⟨q1, q2, q3, q4, q5⟩ := h.1
      rw [ih (List.nodup_cons.1 hn').2]
      by_cases e : u = v
      · subst e
        rw [if_pos ⟨q2, q1⟩, q5, rhU_none.2 (List.nodup_cons.1 hn').1]; simp [Bo.rwOf]
      · rw [if_neg (fun h => e (q1.symm.trans h.2))]
        have : ¬ v = u := fun h => e h.symm
        simp [Bo.rwOf, this]
theorem bn_ok {x : Bn} {b : Bo} (h : bnRel x b) (hb : b.ok = true) : x.ok = true := by
  cases b with
  | ty v T =>
    obtain ⟨q1, q2, q3, q4, q5⟩ := h
    simp only [Bo.ok, Bool.and_eq_true, decide_eq_true_eq] at hb
    unfold Bn.ok
    rw [q1, q2, q3, q5, fl_may hb.1.2 hb.2, decide_eq_true hb.1.1]; rfl
  | rw v r =>
    obtain ⟨q1, q2, q3, q4, q5⟩ := h
    simp only [Bo.ok, Bool.and_eq_true, decide_eq_true_eq] at hb
    unfold Bn.ok
    rw [q1, q2, q4, q5, hb.2, decide_eq_true hb.1]; rfl
theorem bnL_ok : ∀ {xs : List Bn} {m : List Bo}, BnL xs m → (∀ b ∈ m, b.ok = true) → xs.all Bn.ok = true
  | [], [], _, _ => rfl
  | x :: xs, b :: m, h, hok => by
    rw [List.all_cons, bn_ok h.1 (hok b (List.mem_cons_self ..)), bnL_ok h.2 (fun b hb => hok b (List.mem_cons_of_mem _ hb))]; rfl
theorem bnL_mem : ∀ {xs : List Bn} {m : List Bo}, BnL xs m → ∀ x ∈ xs, ∃ b ∈ m, bnRel x b
  | x :: xs, b :: m, h, y, hy => by
    rcases List.mem_cons.1 hy with rfl | hy
    · exact ⟨b, List.mem_cons_self .., h.1⟩
    · obtain ⟨c, hc, hr⟩ := bnL_mem h.2 y hy
      exact ⟨c, List.mem_cons_of_mem _ hc, hr⟩
  | [], [], _, y, hy => by cases hy
/-- what the binds make of a type is what the unification makes of it. -/
theorem put_made {xs : List Bn} {st : US} (h : BnL xs st.made) (hi : UInv st) (T : TT) : putT (sgB xs) (rhB xs) T = underU st T :=
  putT_ext (sgB_made h hi.ok hi.ty) (rhB_made h hi.rw) T
theorem fl_hasV : ∀ (T : TT) (o : Nat) (t : Ty), T.ok = true → t ∈ fl o T → (t.k = 2 → hasV T t.v) ∧ (t.k = 3 → 0 ≤ t.t → hasT T t.t)
  | .base k, o, t, hk, h => by
    have e := List.mem_singleton.1 h
    subst e
    have hk : k = 0 ∨ k = 1 := by simpa [TT.ok] using hk
    rcases hk with rfl | rfl
    · exact ⟨fun h => absurd h (by simp [bsT]), fun h => absurd h (by simp [bsT])⟩
    · exact ⟨fun h => absurd h (by simp [bsT]), fun h => absurd h (by simp [bsT])⟩
  | .var v, o, t, _, h => by
    have e := List.mem_singleton.1 h
    subst e
    exact ⟨fun _ => rfl, fun h => absurd h (by simp [vrT])⟩
  | .fn a r b, o, t, hk, h => by
    have hk := fn_ok hk
    rw [fl_fn] at h
    rcases List.mem_append.1 h with h | h
    · rcases List.mem_append.1 h with h | h
      · have := fl_hasV a _ t hk.1 h; exact ⟨fun e => .inl (this.1 e), fun e e' => .inl (this.2 e e')⟩
      · have := fl_hasV b _ t hk.2.2 h; exact ⟨fun e => .inr (this.1 e), fun e e' => .inr (.inr (this.2 e e'))⟩
    · have e := List.mem_singleton.1 h
      subst e
      exact ⟨fun h => absurd h (by simp [fnT]), fun _ e' => .inr (.inl ⟨e', rfl⟩)⟩
/-- the two types of a unification that came to an end. -/
structure UnOk (ta tb : List Ty) (st : US) : Prop where
  va : tyV ta = true
  vb : tyV tb = true
  inv : UInv st
  sol : underU st (treeOf ta) = underU st (treeOf tb)
theorem unRes_ok {f : Int} {ta tb : List Ty} {st : US} (h : UnRes f ta tb (.ok st)) : UnOk ta tb st := by
  unfold UnRes at h
  split at h
  · rename_i hk
    obtain ⟨n, hn⟩ := h
    obtain ⟨hf, v1, v2, i1, i2⟩ := unOk_of hk
    have := oneU_res n (empty_inv hf) i1 i2 hn
    exact ⟨v1, v2, this.inv, this.sol⟩
  · cases h
theorem us_sub {xs : List Bn} {st : US} {ts : List Ty} (h : BnL xs st.made) (hi : UInv st) (he : subE xs ts = 0) : subT xs ts = fl 0 (underU st (treeOf ts)) := by
  unfold subE at he
  split at he
  · rename_i hc
    simp only [Bool.and_eq_true] at hc
    unfold subT
    rw [hc.1.1, hc.1.2, hc.2, put_made h hi]; rfl
  · cases he
theorem us_one {xs : List Bn} {st : US} {ta tb : List Ty} (h : BnL xs st.made) (hu : UnOk ta tb st) (ha : subE xs ta = 0) (hb : subE xs tb = 0) : subT xs ta = subT xs tb := by
  rw [us_sub h hu.inv ha, us_sub h hu.inv hb, hu.sol]
theorem us_ok {xs : List Bn} {st : US} {ts : List Ty} (h : BnL xs st.made) (hi : UInv st) (he : subE xs ts = 0) : (underU st (treeOf ts)).ok = true := by
  unfold subE at he
  split at he
  · rename_i hc
    simp only [Bool.and_eq_true] at hc
    have hf := hc.2
    rw [put_made h hi] at hf
    exact under_ok hi (tyV_of hc.1.2).1 (fits_iff.1 hf).2
  · cases he
end Go.Proofs.YtfkdcconmecaoaaDoor

/- What a unification's binds leave: plain. -/
namespace Go.Proofs.YtfkdcconmecaoaaDoor
set_option linter.unusedVariables false
set_option linter.unusedSimpArgs false

theorem us_free {xs : List Bn} {st : US} {ts : List Ty} (h : BnL xs st.made) (hi : UInv st) (he : subE xs ts = 0) : ∀ x ∈ xs, thereB x (subT xs ts) = false := by
  intro x hx
  have hT := us_ok h hi he
  rw [us_sub h hi he]
  obtain ⟨b, hb, hr⟩ := bnL_mem h x hx
  have hf := under_free hi (treeOf ts)
  have hok := hi.ok b hb
  cases e : thereB x (fl 0 (underU st (treeOf ts))) with
  | false => rfl
  | true =>
    unfold thereB at e
    obtain ⟨t, ht, e⟩ := List.any_eq_true.1 e
    have hl := fl_hasV _ _ _ hT ht
    unfold isV at e
    cases b with
    | ty u T =>
      obtain ⟨q1, q2, _⟩ := hr
      rw [q1, q2] at e
      simp only [Bool.not_false, Bool.true_and, Bool.false_and, Bool.or_false, Bool.and_eq_true, beq_iff_eq] at e
      have := hf.1 _ (hl.1 e.1)
      rw [e.2] at this
      exact absurd (tyN_mem hb) (sgU_none.1 this)
    | rw u r =>
      obtain ⟨q1, q2, _⟩ := hr
      rw [q1, q2] at e
      simp only [Bool.not_true, Bool.true_and, Bool.false_and, Bool.false_or, Bool.and_eq_true, beq_iff_eq] at e
      simp only [Bo.ok, Bool.and_eq_true, decide_eq_true_eq] at hok
      have := hf.2 _ (hl.2 e.1 (by rw [e.2]; exact hok.1.1))
      rw [e.2] at this
      exact absurd (rwN_mem hb) (rhU_none.1 this)
end Go.Proofs.YtfkdcconmecaoaaDoor
