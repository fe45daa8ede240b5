/- Parsing, plain: a text in brackets. -/
import Derived.Test.YtnhfbbognjdnpaaDoorPaU
namespace Go.Proofs.YtnhfbbognjdnpaaDoor
set_option linter.unusedVariables false
set_option linter.unusedSimpArgs false

/-- tokens that lie among others, behind them nothing or a bracket that shuts. -/
structure Emb (ts ts' : List Tk) (k : Nat) (d : Int) : Prop where
  get : ∀ i t, ts[i]? = some t → ts'[i + k]? = some (shT d t)
  stop : ∀ t, ts'[ts.length + k]? = some t → t.kind = 3 ∧ t.text = sgShut
  le : ts.length ≤ ts'.length
structure SK (ts : List Tk) (k : Nat) (d : Int) (s s' : PS) : Prop where
  i : s'.i = s.i + k
  ns : s'.ns = s.ns.map (shN d)
  le : s.i ≤ ts.length
/-- where one finds something, so does the other, or is too deep. -/
def OkTo {α : Type} (V : α → α → Prop) (x x' : Except PE α) : Prop := ∀ a, x = .ok a → (∃ a', x' = .ok a' ∧ V a a') ∨ ∃ p, x' = .error (401, p)
theorem OkTo.ok {α : Type} {V : α → α → Prop} {a a' : α} (h : V a a') : OkTo V (.ok a) (.ok a') := fun b hb => .inl ⟨a', rfl, by injection hb with hb; subst hb; exact h⟩
theorem OkTo.err {α : Type} {V : α → α → Prop} {e : PE} {x' : Except PE α} : OkTo V (.error e) x' := fun b hb => by cases hb
theorem OkTo.bind {α β : Type} {V : α → α → Prop} {U : β → β → Prop} {x x' : Except PE α} {f f' : α → Except PE β} (h : OkTo V x x') (hf : ∀ a a', x = .ok a → V a a' → OkTo U (f a) (f' a')) : OkTo U (x >>= f) (x' >>= f') := by
  intro b hb
  obtain ⟨a, rfl, hb⟩ := ex_ok.1 hb
  rcases h a rfl with ⟨a', rfl, hv⟩ | ⟨p, rfl⟩
  · exact hf a a' rfl hv b hb
  · exact .inr ⟨p, rfl⟩
def VK {α : Type} (ts : List Tk) (k : Nat) (d : Int) (a a' : α × PS) : Prop := a'.1 = a.1 ∧ SK ts k d a.2 a'.2
theorem put_em {ts ts' : List Tk} {k : Nat} {d en en' : Int} {x x' : Nd} (hx : x' = shN d x) {st st' : PS} (h : SK ts k d st st') : OkTo (VK ts k d) (putP ts en x st) (putP ts' en' x' st') := by
  rintro ⟨r, s1⟩ h1
  obtain ⟨rfl, rfl, h3⟩ := putP_ok h1
  subst hx
  refine .inl ⟨(st.ns.length, ⟨st'.i, st'.ns ++ [shN d x]⟩), ?_, rfl, ⟨h.i, by rw [h.ns, List.map_append]; rfl, h.le⟩⟩
  unfold putP
  rw [h.ns, List.length_map, if_neg (by omega)]
section
variable {ts ts' : List Tk} {k : Nat} {d en en' : Int} (hE : Emb ts ts' k d)
include hE
theorem get_em {i : Nat} (h : i < ts.length) : ∃ t, ts[i]? = some t ∧ ts'[i + k]? = some (shT d t) := ⟨ts[i], List.getElem?_eq_getElem h, hE.get i _ (List.getElem?_eq_getElem h)⟩
theorem here_em {i : Nat} (h : i < ts.length) : hereP ts' en' (i + k) = hereP ts en i + d := by
  obtain ⟨t, h1, h2⟩ := get_em hE h
  unfold hereP; rw [h1, h2]; rfl
theorem isP_em {i : Nat} (h : i ≤ ts.length) {u : List UInt8} (hu : u ≠ sgShut) : isP ts' (i + k) u = isP ts i u := by
  by_cases hl : i < ts.length
  · obtain ⟨t, h1, h2⟩ := get_em hE hl
    unfold isP; rw [h1, h2]; rfl
  · obtain rfl : i = ts.length := by omega
    have e0 : isP ts ts.length u = false := by unfold isP; rw [List.getElem?_eq_none (Nat.le_refl _)]
    rw [e0]
    unfold isP
    cases hg : ts'[ts.length + k]? with
    | none => rfl
    | some t =>
      obtain ⟨_, h2⟩ := hE.stop t hg
      have : (t.text == u) = false := by rw [h2]; exact beq_eq_false_iff_ne.2 (Ne.symm hu)
      simp only [this, Bool.and_false]
theorem starts_em {i : Nat} (h : i ≤ ts.length) : startsP ts' (i + k) = startsP ts i := by
  have h1 := isP_em hE h (u := kwTrue) (by decide)
  have h2 := isP_em hE h (u := kwFalse) (by decide)
  have h3 := isP_em hE h (u := sgOpen) (by decide)
  have h4 := isP_em hE h (u := kwHandle) (by decide)
  unfold startsP
  rw [h1, h2, h3, h4]
  by_cases hl : i < ts.length
  · obtain ⟨t, h1, h2⟩ := get_em hE hl
    rw [h1, h2]; rfl
  · obtain rfl : i = ts.length := by omega
    have e : ∀ u, isP ts ts.length u = false := fun u => by unfold isP; rw [List.getElem?_eq_none (Nat.le_refl _)]
    rw [List.getElem?_eq_none (Nat.le_refl _)]
    cases hg : ts'[ts.length + k]? with
    | none => rfl
    | some t =>
      obtain ⟨h5, _⟩ := hE.stop t hg
      simp only [e, h5]; decide
theorem want_em (u : List UInt8) {st st' : PS} (h : SK ts k d st st') : OkTo (SK ts k d) (wantP ts en u st) (wantP ts' en' u st') := by
  intro s1 h1
  obtain ⟨h2, rfl, h3⟩ := wantP_ok h1
  refine .inl ⟨⟨st'.i + 1, st'.ns⟩, ?_, ⟨by rw [h.i]; dsimp only; omega, h.ns, h3⟩⟩
  have h4 : isP ts' st'.i u = true := by
    obtain ⟨t, g1, g2⟩ := get_em hE h3
    rw [h.i]
    unfold isP at h2 ⊢
    rw [g1] at h2; rw [g2]; exact h2
  unfold wantP; rw [if_pos h4]
theorem name_em {st st' : PS} (h : SK ts k d st st') : OkTo (VK ts k d) (nameP ts en st) (nameP ts' en' st') := by
  rintro ⟨x, s1⟩ h1
  obtain ⟨rfl, h3, t, h4, h5, rfl⟩ := nameP_ok h1
  refine .inl ⟨(bs t.text, ⟨st'.i + 1, st'.ns⟩), ?_, rfl, ⟨by rw [h.i]; dsimp only; omega, h.ns, h3⟩⟩
  unfold nameP
  rw [h.i, hE.get _ _ h4]
  show (if t.kind = 0 then _ else _) = _
  rw [if_pos h5]; rfl
def ME (ts : List Tk) (k : Nat) (d : Int) (e e' : PS → Except PE (Nat × PS)) : Prop := ∀ st st', SK ts k d st st' → OkTo (VK ts k d) (e st) (e' st')
theorem fun_em {e e' : PS → Except PE (Nat × PS)} (he : ME ts k d e e') {b : Int} {st st' : PS} (h : SK ts k d st st') : OkTo (VK ts k d) (funP ts en e b st) (funP ts' en' e' (b + d) st') := by
  unfold funP
  refine (name_em hE h).bind fun ⟨x, s⟩ ⟨x', s'⟩ _ ⟨h1, h2⟩ => ?_
  obtain rfl : x' = x := h1
  refine (want_em hE _ h2).bind fun s1 s1' _ h3 => ?_
  refine (he _ _ h3).bind fun ⟨a, s2⟩ ⟨a', s2'⟩ _ ⟨h4, h5⟩ => ?_
  obtain rfl : a' = a := h4
  exact put_em rfl h5
theorem let_em {e e' : PS → Except PE (Nat × PS)} (he : ME ts k d e e') {b : Int} {st st' : PS} (h : SK ts k d st st') : OkTo (VK ts k d) (letP ts en e b st) (letP ts' en' e' (b + d) st') := by
  unfold letP
  refine (name_em hE h).bind fun ⟨x, s⟩ ⟨x', s'⟩ _ ⟨h1, h2⟩ => ?_
  obtain rfl : x' = x := h1
  refine (want_em hE _ h2).bind fun s1 s1' _ h3 => ?_
  refine (he _ _ h3).bind fun ⟨a, s2⟩ ⟨a', s2'⟩ _ ⟨h4, h5⟩ => ?_
  obtain rfl : a' = a := h4
  refine (want_em hE _ h5).bind fun s3 s3' _ h6 => ?_
  refine (he _ _ h6).bind fun ⟨a2, s4⟩ ⟨a2', s4'⟩ _ ⟨h7, h8⟩ => ?_
  obtain rfl : a2' = a2 := h7
  exact put_em rfl h8
theorem rec_em {e e' : PS → Except PE (Nat × PS)} (he : ME ts k d e e') {b : Int} {st st' : PS} (h : SK ts k d st st') : OkTo (VK ts k d) (recP ts en e b st) (recP ts' en' e' (b + d) st') := by
  unfold recP
  refine (name_em hE h).bind fun ⟨x, s⟩ ⟨x', s'⟩ _ ⟨h1, h2⟩ => ?_
  obtain rfl : x' = x := h1
  refine (name_em hE h2).bind fun ⟨y, s0⟩ ⟨y', s0'⟩ _ ⟨h1, h2⟩ => ?_
  obtain rfl : y' = y := h1
  refine (want_em hE _ h2).bind fun s1 s1' _ h3 => ?_
  refine (he _ _ h3).bind fun ⟨a, s2⟩ ⟨a', s2'⟩ _ ⟨h4, h5⟩ => ?_
  obtain rfl : a' = a := h4
  refine (want_em hE _ h5).bind fun s3 s3' _ h6 => ?_
  refine (he _ _ h6).bind fun ⟨a2, s4⟩ ⟨a2', s4'⟩ _ ⟨h7, h8⟩ => ?_
  obtain rfl : a2' = a2 := h7
  exact put_em rfl h8
theorem if_em {e e' : PS → Except PE (Nat × PS)} (he : ME ts k d e e') {b : Int} {st st' : PS} (h : SK ts k d st st') : OkTo (VK ts k d) (ifP ts en e b st) (ifP ts' en' e' (b + d) st') := by
  unfold ifP
  refine (he _ _ h).bind fun ⟨a, s2⟩ ⟨a', s2'⟩ _ ⟨h4, h5⟩ => ?_
  obtain rfl : a' = a := h4
  refine (want_em hE _ h5).bind fun s3 s3' _ h6 => ?_
  refine (he _ _ h6).bind fun ⟨a2, s4⟩ ⟨a2', s4'⟩ _ ⟨h7, h8⟩ => ?_
  obtain rfl : a2' = a2 := h7
  refine (want_em hE _ h8).bind fun s5 s5' _ h9 => ?_
  refine (he _ _ h9).bind fun ⟨a3, s6⟩ ⟨a3', s6'⟩ _ ⟨h10, h11⟩ => ?_
  obtain rfl : a3' = a3 := h10
  exact put_em rfl h11
theorem handle_em {e e' : PS → Except PE (Nat × PS)} (he : ME ts k d e e') {b : Int} {st st' : PS} (h : SK ts k d st st') : OkTo (VK ts k d) (handleP ts en e b st) (handleP ts' en' e' (b + d) st') := by
  unfold handleP
  refine (he _ _ h).bind fun ⟨a, s2⟩ ⟨a', s2'⟩ _ ⟨h4, h5⟩ => ?_
  obtain rfl : a' = a := h4
  refine (want_em hE _ h5).bind fun s3 s3' _ h6 => ?_
  refine (name_em hE h6).bind fun ⟨o, s⟩ ⟨o', s'⟩ _ ⟨h1, h2⟩ => ?_
  obtain rfl : o' = o := h1
  refine (name_em hE h2).bind fun ⟨x, s0⟩ ⟨x', s0'⟩ _ ⟨h1, h2⟩ => ?_
  obtain rfl : x' = x := h1
  refine (name_em hE h2).bind fun ⟨y, s1⟩ ⟨y', s1'⟩ _ ⟨h1, h2⟩ => ?_
  obtain rfl : y' = y := h1
  refine (want_em hE _ h2).bind fun s4 s4' _ h7 => ?_
  refine (he _ _ h7).bind fun ⟨a2, s5⟩ ⟨a2', s5'⟩ _ ⟨h8, h9⟩ => ?_
  obtain rfl : a2' = a2 := h8
  refine (want_em hE _ h9).bind fun s6 s6' _ h10 => ?_
  refine (name_em hE h10).bind fun ⟨z, s7⟩ ⟨z', s7'⟩ _ ⟨h1, h2⟩ => ?_
  obtain rfl : z' = z := h1
  refine (want_em hE _ h2).bind fun s8 s8' _ h11 => ?_
  refine (he _ _ h11).bind fun ⟨a3, s9⟩ ⟨a3', s9'⟩ _ ⟨h12, h13⟩ => ?_
  obtain rfl : a3' = a3 := h12
  refine (want_em hE _ h13).bind fun s10 s10' _ h14 => ?_
  exact put_em rfl h14
theorem atom_em {e e' : PS → Except PE (Nat × PS)} (he : ME ts k d e e') : ME ts k d (atomP ts en e) (atomP ts' en' e') := by
  intro st st' h
  have j1 := isP_em hE h.le (u := kwTrue) (by decide)
  have j2 := isP_em hE h.le (u := kwFalse) (by decide)
  have j3 := isP_em hE h.le (u := sgOpen) (by decide)
  have j4 := isP_em hE h.le (u := kwHandle) (by decide)
  have hi := h.i
  unfold atomP
  rw [hi, j1, j2, j3, j4]
  cases hg : ts[st.i]? with
  | none => exact OkTo.err
  | some t =>
    have hl := (List.getElem?_eq_some_iff.1 hg).1
    rw [hE.get _ _ hg]
    have o1 : SK ts k d ⟨st.i + 1, st.ns⟩ ⟨st.i + k + 1, st'.ns⟩ := ⟨by dsimp only; omega, h.ns, hl⟩
    show OkTo (VK ts k d) (if t.kind = 0 then _ else _) (if t.kind = 0 then _ else _)
    split
    · exact put_em rfl o1
    · show OkTo (VK ts k d) (if t.kind = 1 then _ else _) (if t.kind = 1 then _ else _)
      split
      · exact put_em rfl o1
      · split
        · exact put_em rfl o1
        · split
          · exact put_em rfl o1
          · split
            · refine (he _ _ o1).bind fun ⟨a, s2⟩ ⟨a', s2'⟩ _ ⟨h4, h5⟩ => ?_
              obtain rfl : a' = a := h4
              refine (want_em hE _ h5).bind fun s3 s3' _ h6 => ?_
              exact OkTo.ok ⟨rfl, h6⟩
            · split
              · exact handle_em hE he o1
              · exact OkTo.err
theorem first_em {e e' : PS → Except PE (Nat × PS)} (he : ME ts k d e e') : ME ts k d (firstP ts en e) (firstP ts' en' e') := by
  intro st st' h
  unfold firstP
  rw [h.i, isP_em hE h.le (by decide)]
  by_cases h0 : isP ts st.i kwDo = true
  · rw [if_pos h0, if_pos h0]
    refine (name_em hE (st := ⟨st.i + 1, st.ns⟩) (st' := ⟨st.i + k + 1, st'.ns⟩) ⟨by dsimp only; omega, h.ns, isP_lt h0⟩).bind fun ⟨x, s⟩ ⟨x', s'⟩ _ ⟨h1, h2⟩ => ?_
    obtain rfl : x' = x := h1
    refine (atom_em hE he _ _ h2).bind fun ⟨a, s2⟩ ⟨a', s2'⟩ _ ⟨h4, h5⟩ => ?_
    obtain rfl : a' = a := h4
    exact put_em (by rw [here_em hE (en := en) (isP_lt h0)]; rfl) h5
  · rw [if_neg h0, if_neg h0]; exact atom_em hE he _ _ h
theorem appLoop_em {e e' : PS → Except PE (Nat × PS)} (he : ME ts k d e e') {b : Int} : ∀ (f f' l : Nat) (st st' : PS), f ≤ f' → SK ts k d st st' → OkTo (VK ts k d) (appLoop ts en e b f l st) (appLoop ts' en' e' (b + d) f' l st')
  | 0, f', l, st, st', _, h => OkTo.err
  | f + 1, 0, l, st, st', hf, h => by omega
  | f + 1, f' + 1, l, st, st', hf, h => by
    unfold appLoop
    rw [h.i, starts_em hE h.le]
    by_cases hs : startsP ts st.i = true
    · rw [if_pos hs, if_pos hs]
      refine (atom_em hE he _ _ h).bind fun ⟨a, s2⟩ ⟨a', s2'⟩ hx ⟨h4, h5⟩ => ?_
      obtain rfl : a' = a := h4
      refine (put_em rfl h5).bind fun ⟨l2, s3⟩ ⟨l2', s3'⟩ hy ⟨h6, h7⟩ => ?_
      obtain rfl : l2' = l2 := h6
      exact appLoop_em he f f' l2' _ _ (by omega) h7
    · rw [if_neg hs, if_neg hs]; exact OkTo.ok ⟨rfl, h⟩
theorem apply_em {e e' : PS → Except PE (Nat × PS)} (he : ME ts k d e e') (hm : Mono ts e) : ME ts k d (applyP ts en e) (applyP ts' en' e') := by
  intro st st' h
  unfold applyP
  refine (first_em hE he _ _ h).bind fun ⟨a, s2⟩ ⟨a', s2'⟩ hx ⟨h4, h5⟩ => ?_
  obtain rfl : a' = a := h4
  have f1 := firstP_fwd hm _ _ _ hx
  have e1 := f1.lt
  have e2 := f1.le
  dsimp only
  rw [h.i, here_em hE (en := en) (by omega)]
  exact appLoop_em hE he _ _ _ _ _ (by have := hE.le; omega) h5
omit hE in
theorem prim_em {o o' : PS → Except PE (Nat × PS)} (ho : ME ts k d o o') {n p : Int} {l : Nat} {st st' : PS} (h : SK ts k d st st') : OkTo (VK ts k d) (primP ts en n p l o st) (primP ts' en' n (p + d) l o' st') := by
  unfold primP
  refine (ho _ _ h).bind fun ⟨a, s2⟩ ⟨a', s2'⟩ hx ⟨h4, h5⟩ => ?_
  obtain rfl : a' = a := h4
  exact put_em rfl h5
theorem rankLoop_em {o o' : PS → Except PE (Nat × PS)} (ho : ME ts k d o o') {u v : List UInt8} (hu0 : u ≠ sgShut) (hv0 : v ≠ sgShut) {nu nv : Int} : ∀ (f f' l : Nat) (st st' : PS), f ≤ f' → SK ts k d st st' → OkTo (VK ts k d) (rankLoop ts en u v nu nv o f l st) (rankLoop ts' en' u v nu nv o' f' l st')
  | 0, f', l, st, st', _, h => OkTo.err
  | f + 1, 0, l, st, st', hf, h => by omega
  | f + 1, f' + 1, l, st, st', hf, h => by
    have o1 : st.i < ts.length → SK ts k d ⟨st.i + 1, st.ns⟩ ⟨st.i + k + 1, st'.ns⟩ := fun hl => ⟨by dsimp only; omega, h.ns, hl⟩
    unfold rankLoop
    rw [h.i, isP_em hE h.le hu0, isP_em hE h.le hv0]
    by_cases hu : isP ts st.i u = true
    · rw [if_pos hu, if_pos hu, here_em hE (en := en) (isP_lt hu)]
      refine (prim_em ho (o1 (isP_lt hu))).bind fun ⟨a, s2⟩ ⟨a', s2'⟩ hx ⟨h4, h5⟩ => ?_
      obtain rfl : a' = a := h4
      exact rankLoop_em ho hu0 hv0 f f' a' s2 s2' (by omega) h5
    · rw [if_neg hu, if_neg hu]
      by_cases hv : isP ts st.i v = true
      · rw [if_pos hv, if_pos hv, here_em hE (en := en) (isP_lt hv)]
        refine (prim_em ho (o1 (isP_lt hv))).bind fun ⟨a, s2⟩ ⟨a', s2'⟩ hx ⟨h4, h5⟩ => ?_
        obtain rfl : a' = a := h4
        exact rankLoop_em ho hu0 hv0 f f' a' s2 s2' (by omega) h5
      · rw [if_neg hv, if_neg hv]; exact OkTo.ok ⟨rfl, h⟩
theorem product_em {e e' : PS → Except PE (Nat × PS)} (he : ME ts k d e e') (hm : Mono ts e) : ME ts k d (productP ts en e) (productP ts' en' e') := by
  intro st st' h
  unfold productP
  refine (apply_em hE he hm _ _ h).bind fun ⟨a, s2⟩ ⟨a', s2'⟩ hx ⟨h4, h5⟩ => ?_
  obtain rfl : a' = a := h4
  exact rankLoop_em hE (apply_em hE he hm) (by decide) (by decide) _ _ _ _ _ (by have := hE.le; omega) h5
theorem sum_em {e e' : PS → Except PE (Nat × PS)} (he : ME ts k d e e') (hm : Mono ts e) : ME ts k d (sumP ts en e) (sumP ts' en' e') := by
  intro st st' h
  unfold sumP
  refine (product_em hE he hm _ _ h).bind fun ⟨a, s2⟩ ⟨a', s2'⟩ hx ⟨h4, h5⟩ => ?_
  obtain rfl : a' = a := h4
  exact rankLoop_em hE (product_em hE he hm) (by decide) (by decide) _ _ _ _ _ (by have := hE.le; omega) h5
theorem compare_em {e e' : PS → Except PE (Nat × PS)} (he : ME ts k d e e') (hm : Mono ts e) : ME ts k d (compareP ts en e) (compareP ts' en' e') := by
  intro st st' h
  unfold compareP
  refine (sum_em hE he hm _ _ h).bind fun ⟨a, s2⟩ ⟨a', s2'⟩ hx ⟨h4, h5⟩ => ?_
  obtain rfl : a' = a := h4
  have hi : s2'.i = s2.i + k := h5.i
  have hl : s2.i ≤ ts.length := h5.le
  have o1 : s2.i < ts.length → SK ts k d ⟨s2.i + 1, s2.ns⟩ ⟨s2.i + k + 1, s2'.ns⟩ := fun hl => ⟨by dsimp only; omega, h5.ns, hl⟩
  dsimp only
  rw [hi, isP_em hE hl (by decide), isP_em hE hl (by decide)]
  by_cases hu : isP ts s2.i sgEq2 = true
  · rw [if_pos hu, if_pos hu, here_em hE (en := en) (isP_lt hu)]
    exact prim_em (sum_em hE he hm) (o1 (isP_lt hu))
  · rw [if_neg hu, if_neg hu]
    by_cases hv : isP ts s2.i sgLess = true
    · rw [if_pos hv, if_pos hv, here_em hE (en := en) (isP_lt hv)]
      exact prim_em (sum_em hE he hm) (o1 (isP_lt hv))
    · rw [if_neg hv, if_neg hv]; exact OkTo.ok ⟨rfl, h5⟩
theorem open_em {e e' : PS → Except PE (Nat × PS)} (he : ME ts k d e e') (hm : Mono ts e) : ME ts k d (openP ts en e) (openP ts' en' e') := by
  intro st st' h
  unfold openP
  rw [h.i, isP_em hE h.le (by decide), isP_em hE h.le (by decide), isP_em hE h.le (by decide)]
  by_cases h0 : isP ts st.i kwFun = true
  · rw [if_pos h0, if_pos h0, here_em hE (en := en) (isP_lt h0)]
    exact fun_em hE he (st := ⟨st.i + 1, st.ns⟩) (st' := ⟨st.i + k + 1, st'.ns⟩) ⟨by dsimp only; omega, h.ns, isP_lt h0⟩
  rw [if_neg h0, if_neg h0]
  by_cases h1 : isP ts st.i kwLet = true
  · rw [if_pos h1, if_pos h1, here_em hE (en := en) (isP_lt h1), show st.i + k + 1 = st.i + 1 + k by omega, isP_em hE (isP_lt h1) (by decide)]
    by_cases h2 : isP ts (st.i + 1) kwRec = true
    · rw [if_pos h2, if_pos h2]
      exact rec_em hE he (st := ⟨st.i + 2, st.ns⟩) (st' := ⟨st.i + k + 2, st'.ns⟩) ⟨by dsimp only; omega, h.ns, isP_lt h2⟩
    · rw [if_neg h2, if_neg h2]
      exact let_em hE he (st := ⟨st.i + 1, st.ns⟩) (st' := ⟨st.i + 1 + k, st'.ns⟩) ⟨rfl, h.ns, isP_lt h1⟩
  rw [if_neg h1, if_neg h1]
  by_cases h3 : isP ts st.i kwIf = true
  · rw [if_pos h3, if_pos h3, here_em hE (en := en) (isP_lt h3)]
    exact if_em hE he (st := ⟨st.i + 1, st.ns⟩) (st' := ⟨st.i + k + 1, st'.ns⟩) ⟨by dsimp only; omega, h.ns, isP_lt h3⟩
  · rw [if_neg h3, if_neg h3]; exact compare_em hE he hm _ _ h
/-- one deeper. -/
theorem expr_em : ∀ r, ME ts k d (exprP ts en (r + 1)) (exprP ts' en' r)
  | 0 => fun st st' h a _ => .inr ⟨_, rfl⟩
  | r + 1 => fun st st' h => open_em hE (expr_em r) (exprP_fwd (r + 1)) st st' h
end
end Go.Proofs.YtnhfbbognjdnpaaDoor
