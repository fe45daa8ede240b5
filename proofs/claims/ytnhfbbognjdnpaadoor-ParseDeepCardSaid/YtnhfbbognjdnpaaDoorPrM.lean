/- Texts of many like parts: what the lexer and the parser make of them. -/
import Derived.Test.YtnhfbbognjdnpaaDoorPrH
namespace Go.Proofs.YtnhfbbognjdnpaaDoor
open Go.RowKit
set_option linter.unusedVariables false
set_option linter.unusedSimpArgs false

section
variable {ts : List Tk} {en : Int} {E : PS → Except PE (Nat × PS)}
/-- nothing goes on here. -/
structure StopAt (ts : List Tk) (i : Nat) : Prop where
  s : startsP ts i = false
  o : ∀ u ∈ [sgMul, sgDiv, sgAdd, sgSub, sgEq2, sgLess], isP ts i u = false
theorem apply_stop {st0 st : PS} {a : Nat} (h : firstP ts en E st0 = .ok (a, st)) (hs : startsP ts st.i = false) : applyP ts en E st0 = .ok (a, st) := by
  unfold applyP
  rw [h]
  show appLoop ts en E _ (ts.length + 1) a st = _
  unfold appLoop
  rw [if_neg (by rw [hs]; decide)]
theorem rank_stop {st : PS} {a : Nat} {u v : List UInt8} {nu nv : Int} {o : PS → Except PE (Nat × PS)} (f : Nat) (hu : isP ts st.i u = false) (hv : isP ts st.i v = false) : rankLoop ts en u v nu nv o (f + 1) a st = .ok (a, st) := by
  unfold rankLoop
  rw [if_neg (by rw [hu]; decide), if_neg (by rw [hv]; decide)]
theorem product_stop {st0 st : PS} {a : Nat} (h : applyP ts en E st0 = .ok (a, st)) (hu : isP ts st.i sgMul = false) (hv : isP ts st.i sgDiv = false) : productP ts en E st0 = .ok (a, st) := by
  unfold productP
  rw [h]
  exact rank_stop _ hu hv
theorem sum_stop {st0 st : PS} {a : Nat} (h : productP ts en E st0 = .ok (a, st)) (hu : isP ts st.i sgAdd = false) (hv : isP ts st.i sgSub = false) : sumP ts en E st0 = .ok (a, st) := by
  unfold sumP
  rw [h]
  exact rank_stop _ hu hv
theorem compare_stop {st0 st : PS} {a : Nat} (h : sumP ts en E st0 = .ok (a, st)) (hu : isP ts st.i sgEq2 = false) (hv : isP ts st.i sgLess = false) : compareP ts en E st0 = .ok (a, st) := by
  unfold compareP
  rw [h]
  show (if isP ts st.i sgEq2 then _ else if isP ts st.i sgLess then _ else _) = _
  rw [if_neg (by rw [hu]; decide), if_neg (by rw [hv]; decide)]
theorem open_cmp {st : PS} (h0 : isP ts st.i kwFun = false) (h1 : isP ts st.i kwLet = false) (h2 : isP ts st.i kwIf = false) : openP ts en E st = compareP ts en E st := by
  unfold openP
  rw [if_neg (by rw [h0]; decide), if_neg (by rw [h1]; decide), if_neg (by rw [h2]; decide)]
theorem open_stop {st0 st : PS} (h0 : isP ts st0.i kwFun = false) (h1 : isP ts st0.i kwLet = false) (h2 : isP ts st0.i kwIf = false) {a : Nat} (h : firstP ts en E st0 = .ok (a, st)) (hs : StopAt ts st.i) : openP ts en E st0 = .ok (a, st) := by
  rw [open_cmp h0 h1 h2]
  exact compare_stop (sum_stop (product_stop (apply_stop h hs.s) (hs.o _ (by simp)) (hs.o _ (by simp))) (hs.o _ (by simp)) (hs.o _ (by simp))) (hs.o _ (by simp)) (hs.o _ (by simp))
theorem stop_end {i : Nat} (h : ts.length ≤ i) : StopAt ts i := ⟨starts_end h, fun u _ => isP_end h u⟩
theorem isP_tok {i : Nat} {t : Tk} (ht : ts[i]? = some t) (hk : t.kind = 2 ∨ t.kind = 3) (u : List UInt8) : isP ts i u = (t.text == u) := by
  unfold isP
  rw [ht]
  rcases hk with h | h <;> (dsimp only; rw [h]; rfl)
theorem isP_not {i : Nat} {t : Tk} (ht : ts[i]? = some t) (hk : t.kind = 0 ∨ t.kind = 1) (u : List UInt8) : isP ts i u = false := by
  unfold isP
  rw [ht]
  rcases hk with h | h <;> (dsimp only; rw [h]; rfl)
theorem starts_tok {i : Nat} {t : Tk} (ht : ts[i]? = some t) (hk : t.kind = 2 ∨ t.kind = 3) (hx : t.text ∈ [kwThen, kwElse, kwIn, sgShut, sgAdd]) : startsP ts i = false := by
  have hi := isP_tok ht hk
  unfold startsP
  simp only [ht, hi]
  have e0 : (t.kind == 0) = false := by rcases hk with h | h <;> rw [h] <;> rfl
  have e1 : (t.kind == 1) = false := by rcases hk with h | h <;> rw [h] <;> rfl
  rw [e0, e1]
  simp only [List.mem_cons, List.not_mem_nil, or_false] at hx
  rcases hx with h | h | h | h | h <;> rw [h] <;> decide
theorem stop_tok {i : Nat} {t : Tk} (ht : ts[i]? = some t) (hk : t.kind = 2 ∨ t.kind = 3) (hx : t.text ∈ [kwThen, kwElse, kwIn, sgShut]) : StopAt ts i := by
  refine ⟨starts_tok ht hk (by simp only [List.mem_cons, List.not_mem_nil, or_false] at hx ⊢; rcases hx with h | h | h | h <;> simp [h]), fun u hu => ?_⟩
  rw [isP_tok ht hk]
  simp only [List.mem_cons, List.not_mem_nil, or_false] at hx hu
  rcases hx with h | h | h | h <;> rcases hu with h' | h' | h' | h' | h' | h' <;> rw [h, h'] <;> decide
/-- a name or a number is an atom. -/
theorem first_atom {i : Nat} {ns : List Nd} {t : Tk} (ht : ts[i]? = some t) (hk : t.kind = 0 ∨ t.kind = 1) : ∃ x, firstP ts en E ⟨i, ns⟩ = putP ts en x ⟨i + 1, ns⟩ := by
  unfold firstP
  rw [isP_not ht hk, if_neg (by decide)]
  unfold atomP
  simp only [ht]
  rcases hk with h | h
  · rw [if_pos h]; exact ⟨_, rfl⟩
  · rw [if_neg (by rw [h]; decide), if_pos h]; exact ⟨_, rfl⟩
theorem open_atom {i : Nat} {ns : List Nd} {t : Tk} (ht : ts[i]? = some t) (hk : t.kind = 0 ∨ t.kind = 1) (hs : StopAt ts (i + 1)) (hl : ns.length < 512) : ∃ x, openP ts en E ⟨i, ns⟩ = .ok (ns.length, ⟨i + 1, ns ++ [x]⟩) := by
  obtain ⟨x, hx⟩ := first_atom (en := en) (E := E) (ns := ns) ht hk
  refine ⟨x, open_stop (isP_not ht hk _) (isP_not ht hk _) (isP_not ht hk _) ?_ hs⟩
  rw [hx]
  unfold putP
  rw [if_neg (by dsimp only; omega)]
end
/-- sums of ones. -/
def mR : Nat → List UInt8
  | 0 => []
  | m + 1 => [32, 43, 32, 49] ++ mR m
def mS : Nat → List UInt8
  | 0 => [49]
  | m + 1 => mS m ++ [32, 43, 32, 49]
theorem mR_snoc : ∀ m, mR m ++ [32, 43, 32, 49] = [32, 43, 32, 49] ++ mR m
  | 0 => rfl
  | m + 1 => by
    show ([32, 43, 32, 49] ++ mR m) ++ [32, 43, 32, 49] = [32, 43, 32, 49] ++ ([32, 43, 32, 49] ++ mR m)
    rw [List.append_assoc, mR_snoc m]
theorem mS_eq : ∀ m, mS m = 49 :: mR m
  | 0 => rfl
  | m + 1 => by
    show mS m ++ _ = 49 :: ([32, 43, 32, 49] ++ mR m)
    rw [mS_eq m, ← mR_snoc m]
    rfl
theorem mS_len : ∀ m, (mS m).length = 4 * m + 1
  | 0 => rfl
  | m + 1 => by
    show (mS m ++ _).length = _
    rw [List.length_append, mS_len m]
    simp; omega
def mK : Nat → Nat → List Tk
  | 0, _ => []
  | m + 1, p => ⟨3, sgAdd, 0, ((p + 1 : Nat) : Int)⟩ :: ⟨1, [], 1, ((p + 3 : Nat) : Int)⟩ :: mK m (p + 4)
theorem mK_len : ∀ m p, (mK m p).length = 2 * m
  | 0, _ => rfl
  | m + 1, p => by
    show (_ :: _ :: mK m (p + 4)).length = _
    simp only [List.length_cons, mK_len m]
    omega
theorem mK_odd : ∀ (m p j : Nat), j < m → (mK m p)[2 * j + 1]? = some ⟨1, [], 1, ((p + 4 * j + 3 : Nat) : Int)⟩
  | 0, _, j, h => by omega
  | m + 1, p, 0, _ => rfl
  | m + 1, p, j + 1, h => by
    rw [show 2 * (j + 1) + 1 = (2 * j + 1) + 1 + 1 by omega]
    show (mK m (p + 4))[2 * j + 1]? = _
    rw [mK_odd m (p + 4) j (by omega), show p + 4 + 4 * j + 3 = p + 4 * (j + 1) + 3 by omega]
theorem mK_even : ∀ (m p j : Nat), j < m → (mK m p)[2 * j]? = some ⟨3, sgAdd, 0, ((p + 4 * j + 1 : Nat) : Int)⟩
  | 0, _, j, h => by omega
  | m + 1, p, 0, _ => rfl
  | m + 1, p, j + 1, h => by
    rw [show 2 * (j + 1) = (2 * j) + 1 + 1 by omega]
    show (mK m (p + 4))[2 * j]? = _
    rw [mK_even m (p + 4) j (by omega), show p + 4 + 4 * j + 1 = p + 4 * (j + 1) + 1 by omega]
theorem first_one (m : Nat) : firstF (49 :: mR m) = (⟨1, [], 1, 0⟩, 1, 0) := by cases m <;> rfl
theorem lx_blank {q l : List UInt8} {p : Nat} {acc : List Tk} (hq : skipF false (q ++ l) = skipF false l + q.length) : lxAt (q ++ l) p acc = lxAt l (p + q.length) acc := by
  have hd : (q ++ l).drop (skipF false (q ++ l)) = l.drop (skipF false l) := by
    rw [hq, Nat.add_comm, List.drop_append]; simp
  by_cases h : l.drop (skipF false l) = []
  · rw [lxAt_end (by rw [hd]; exact h), lxAt_end h]
  · by_cases he : (firstF (l.drop (skipF false l))).2.2 = 0
    · obtain ⟨⟨t, n, er⟩, hf⟩ : ∃ r, firstF (l.drop (skipF false l)) = r := ⟨_, rfl⟩
      rw [hf] at he
      obtain rfl : er = 0 := he
      rw [lxAt_step (l := l) h hf, lxAt_step (l := q ++ l) (by rw [hd]; exact h) (by rw [hd]; exact hf), hd, hq]
      rw [show p + (skipF false l + q.length) = p + q.length + skipF false l by omega]
    · rw [lxAt_bad (by rw [hd]; exact h) (by rw [hd]; exact he), lxAt_bad h he, hd, hq]
      congr 2
      omega
/-- one token, and what is behind it. -/
theorem lx_tok {l r : List UInt8} {t : Tk} {n p : Nat} {acc : List Tk} (hs : skipF false l = 0) (hne : l ≠ []) (hf : firstF l = (t, n, 0)) (hr : l.drop n = r) : lxAt l p acc = lxAt r (p + n) (acc ++ [⟨t.kind, t.text, t.num, (p : Int)⟩]) := by
  rw [lxAt_step (by rw [hs]; exact hne) (by rw [hs, List.drop_zero]; exact hf), hs, List.drop_zero, hr]
  rfl
theorem lx_many : ∀ (m p : Nat) (acc : List Tk), lxAt (mR m) p acc = (acc ++ mK m p, 0, 0)
  | 0, p, acc => by rw [show mR 0 = [] from rfl, lxAt_nil]; simp [mK]
  | m + 1, p, acc => by
    show lxAt ([32] ++ (43 :: 32 :: 49 :: mR m)) p acc = _
    rw [lx_blank rfl, lx_tok (r := 32 :: 49 :: mR m) rfl (by simp) (show firstF (43 :: 32 :: 49 :: mR m) = (⟨3, sgAdd, 0, 0⟩, 1, 0) from rfl) rfl]
    show lxAt ([32] ++ (49 :: mR m)) (p + 1 + 1) _ = _
    rw [lx_blank rfl, lx_tok (r := mR m) rfl (by simp) (first_one m) rfl]
    show lxAt (mR m) (p + 1 + 1 + 1 + 1) _ = _
    rw [lx_many m]
    show (acc ++ [(⟨3, sgAdd, 0, ((p + 1 : Nat) : Int)⟩ : Tk)] ++ [(⟨1, [], 1, ((p + 1 + 1 + 1 : Nat) : Int)⟩ : Tk)] ++ mK m (p + 4), (0 : Int), (0 : Int)) = (acc ++ (⟨3, sgAdd, 0, ((p + 1 : Nat) : Int)⟩ :: ⟨1, [], 1, ((p + 3 : Nat) : Int)⟩ :: mK m (p + 4)), 0, 0)
    simp; omega
theorem bs_app (l r : List UInt8) : bs (l ++ r) = bs l ++ bs r := ba_ext (by simp [bs])
theorem va_many : ∀ m, (vaV (bs (mS m))).2 = true
  | 0 => by decide +kernel
  | m + 1 => by
    show (vaV (bs (mS m ++ [32, 43, 32, 49]))).2 = true
    rw [bs_app, vaV_app _ _ (va_many m), if_pos (by decide +kernel)]
theorem bs_sizeL (l : List UInt8) : (bs l).size = l.length := by simp [bs, ByteArray.size]
theorem lexR_many (m : Nat) (hm : m ≤ 400) : lexR (bs (mS m)) = (⟨1, [], 1, 0⟩ :: mK m 1, 0, 0) := by
  rw [lexR_ok _ (by rw [bs_sizeL, mS_len]; omega) (va_many m)]
  show lxAt (mS m) 0 [] = _
  rw [mS_eq, lx_tok (r := mR m) rfl (by simp) (first_one m) rfl, lx_many]
  rfl
section
variable {ts : List Tk} {en : Int} {E : PS → Except PE (Nat × PS)} {m : Nat}
/-- ones, with signs between. -/
structure Alt (ts : List Tk) (m : Nat) : Prop where
  l : ts.length = 2 * m + 1
  o : ∀ j, j ≤ m → ∃ t, ts[2 * j]? = some t ∧ t.kind = 1
  s : ∀ j, j < m → ∃ t, ts[2 * j + 1]? = some t ∧ t.kind = 3 ∧ t.text = sgAdd ∧ 0 < t.at_
theorem Alt.sign (h : Alt ts m) {j : Nat} (hj : j ≤ m) : startsP ts (2 * j + 1) = false ∧ isP ts (2 * j + 1) sgMul = false ∧ isP ts (2 * j + 1) sgDiv = false ∧ isP ts (2 * j + 1) sgSub = false := by
  by_cases hlt : j < m
  · obtain ⟨t, h1, h2, h3, _⟩ := h.s j hlt
    exact ⟨starts_tok h1 (.inr h2) (by rw [h3]; simp), by rw [isP_tok h1 (.inr h2), h3]; decide, by rw [isP_tok h1 (.inr h2), h3]; decide, by rw [isP_tok h1 (.inr h2), h3]; decide⟩
  · have he : ts.length ≤ 2 * j + 1 := by rw [h.l]; omega
    exact ⟨starts_end he, isP_end he _, isP_end he _, isP_end he _⟩
theorem Alt.one (h : Alt ts m) {j : Nat} (hj : j ≤ m) {ns : List Nd} (hl : ns.length < 512) : ∃ x, productP ts en E ⟨2 * j, ns⟩ = .ok (ns.length, ⟨2 * j + 1, ns ++ [x]⟩) := by
  obtain ⟨t, h1, h2⟩ := h.o j hj
  obtain ⟨x, hx⟩ := first_atom (en := en) (E := E) (ns := ns) h1 (.inr h2)
  obtain ⟨g1, g2, g3, _⟩ := h.sign hj
  refine ⟨x, product_stop (apply_stop ?_ g1) g2 g3⟩
  rw [hx]
  unfold putP
  rw [if_neg (by dsimp only; omega)]
theorem Alt.here (h : Alt ts m) {j : Nat} (hj : j ≤ m) (hen : 0 < en) : 0 < hereP ts en (2 * j + 1) := by
  unfold hereP
  by_cases hlt : j < m
  · obtain ⟨t, h1, _, _, h4⟩ := h.s j hlt
    rw [h1]; exact h4
  · rw [List.getElem?_eq_none (by rw [h.l]; omega)]; exact hen
theorem Alt.loop_ok (h : Alt ts m) (hm : 2 * m + 1 ≤ 512) : ∀ (k j f l : Nat) (ns : List Nd), j + k = m → ns.length = 2 * j + 1 → k < f → ∃ r ns', rankLoop ts en sgAdd sgSub 0 1 (productP ts en E) f l ⟨2 * j + 1, ns⟩ = .ok (r, ⟨2 * m + 1, ns'⟩) ∧ ns'.length = 2 * m + 1
  | 0, j, 0, l, ns, _, _, hf => by omega
  | 0, j, f + 1, l, ns, hj, hn, _ => by
    obtain rfl : j = m := by omega
    exact ⟨l, ns, rank_stop f (isP_end (by rw [h.l]; exact Nat.le_refl _) _) (isP_end (by rw [h.l]; exact Nat.le_refl _) _), hn⟩
  | k + 1, j, 0, l, ns, _, _, hf => by omega
  | k + 1, j, f + 1, l, ns, hj, hn, hf => by
    obtain ⟨t, h1, h2, h3, _⟩ := h.s j (by omega)
    obtain ⟨x, hx⟩ := h.one (en := en) (E := E) (j := j + 1) (by omega) (ns := ns) (by omega)
    have hp : primP ts en 0 (hereP ts en (2 * j + 1)) l (productP ts en E) ⟨2 * j + 1 + 1, ns⟩ = putP ts en ⟨8, (l : Nat), (ns.length : Nat), 0, 0, ba0, ba0, ba0, ba0, hereP ts en (2 * j + 1)⟩ ⟨2 * (j + 1) + 1, ns ++ [x]⟩ := by
      unfold primP
      rw [show 2 * j + 1 + 1 = 2 * (j + 1) by omega, hx]
      rfl
    rw [rankLoop, if_pos (by rw [isP_tok h1 (.inr h2), h3]; decide)]
    dsimp only
    rw [hp]
    unfold putP
    rw [if_neg (by simp only [List.length_append, List.length_singleton]; omega)]
    exact h.loop_ok hm k (j + 1) f _ _ (by omega) (by simp only [List.length_append, List.length_singleton]; omega) (by omega)
theorem Alt.loop_bad (h : Alt ts m) (hen : 0 < en) (hm : 512 < 2 * m + 1) : ∀ (k j f l : Nat) (ns : List Nd), j + k = m → ns.length = 2 * j + 1 → 2 * j + 1 ≤ 511 → k < f → ∃ p, rankLoop ts en sgAdd sgSub 0 1 (productP ts en E) f l ⟨2 * j + 1, ns⟩ = .error (402, p) ∧ 0 < p
  | 0, j, f, l, ns, hj, _, hl, _ => by omega
  | k + 1, j, 0, l, ns, _, _, _, hf => by omega
  | k + 1, j, f + 1, l, ns, hj, hn, hl, hf => by
    obtain ⟨t, h1, h2, h3, _⟩ := h.s j (by omega)
    obtain ⟨x, hx⟩ := h.one (en := en) (E := E) (j := j + 1) (by omega) (ns := ns) (by omega)
    have hp : primP ts en 0 (hereP ts en (2 * j + 1)) l (productP ts en E) ⟨2 * j + 1 + 1, ns⟩ = putP ts en ⟨8, (l : Nat), (ns.length : Nat), 0, 0, ba0, ba0, ba0, ba0, hereP ts en (2 * j + 1)⟩ ⟨2 * (j + 1) + 1, ns ++ [x]⟩ := by
      unfold primP
      rw [show 2 * j + 1 + 1 = 2 * (j + 1) by omega, hx]
      rfl
    rw [rankLoop, if_pos (by rw [isP_tok h1 (.inr h2), h3]; decide)]
    dsimp only
    rw [hp]
    unfold putP
    by_cases hlt : 512 ≤ (ns ++ [x]).length
    · rw [if_pos hlt]
      exact ⟨_, rfl, h.here (by omega) hen⟩
    · rw [if_neg hlt]
      simp only [List.length_append, List.length_singleton] at hlt
      exact h.loop_bad hen hm k (j + 1) f _ _ (by omega) (by simp only [List.length_append, List.length_singleton]; omega) (by omega) (by omega)
theorem Alt.sum0 (h : Alt ts m) {x : Nd} (hx : productP ts en E ⟨0, []⟩ = .ok (0, ⟨1, [x]⟩)) : sumP ts en E ⟨0, []⟩ = rankLoop ts en sgAdd sgSub 0 1 (productP ts en E) (ts.length + 1) 0 ⟨2 * 0 + 1, [x]⟩ := by
  unfold sumP
  rw [hx]
  rfl
theorem Alt.prog_ok (h : Alt ts m) (hm : 2 * m + 1 ≤ 512) : ∃ ns, progP ts en = .ok ([], ns) ∧ ns.length = 2 * m + 1 := by
  obtain ⟨t, h1, h2⟩ := h.o 0 (by omega)
  have hn := isP_not h1 (.inr h2)
  obtain ⟨x, hx⟩ := h.one (en := en) (E := exprP ts en 39) (j := 0) (by omega) (ns := []) (by decide)
  obtain ⟨r, ns', hl, hlen⟩ := h.loop_ok (en := en) (E := exprP ts en 39) hm m 0 (ts.length + 1) 0 [x] (by omega) rfl (by rw [h.l]; omega)
  rw [← h.sum0 hx] at hl
  have he : exprP ts en 40 ⟨0, []⟩ = .ok (r, ⟨2 * m + 1, ns'⟩) := by
    show openP ts en (exprP ts en 39) ⟨0, []⟩ = _
    rw [open_cmp (hn _) (hn _) (hn _)]
    exact compare_stop hl (isP_end (by rw [h.l]; exact Nat.le_refl _) _) (isP_end (by rw [h.l]; exact Nat.le_refl _) _)
  refine ⟨ns', ?_, hlen⟩
  unfold progP
  rw [declLoop, if_neg (by have := hn kwOp; rw [show 2 * 0 = 0 from rfl] at this; rw [this]; decide)]
  show ((exprP ts en 40 ⟨0, []⟩) >>= _) = _
  rw [he]
  show (if 2 * m + 1 < ts.length then _ else _) = _
  rw [if_neg (by rw [h.l]; omega)]
theorem Alt.prog_bad (h : Alt ts m) (hen : 0 < en) (hm : 512 < 2 * m + 1) : ∃ p, progP ts en = .error (402, p) ∧ 0 < p := by
  obtain ⟨t, h1, h2⟩ := h.o 0 (by omega)
  have hn := isP_not h1 (.inr h2)
  obtain ⟨x, hx⟩ := h.one (en := en) (E := exprP ts en 39) (j := 0) (by omega) (ns := []) (by decide)
  obtain ⟨p, hl, hp⟩ := h.loop_bad (en := en) (E := exprP ts en 39) hen hm m 0 (ts.length + 1) 0 [x] (by omega) rfl (by decide) (by rw [h.l]; omega)
  rw [← h.sum0 hx] at hl
  have he : exprP ts en 40 ⟨0, []⟩ = .error (402, p) := by
    show openP ts en (exprP ts en 39) ⟨0, []⟩ = _
    rw [open_cmp (hn _) (hn _) (hn _)]
    unfold compareP
    rw [hl]
    rfl
  refine ⟨p, ?_, hp⟩
  unfold progP
  rw [declLoop, if_neg (by have := hn kwOp; rw [show 2 * 0 = 0 from rfl] at this; rw [this]; decide)]
  show ((exprP ts en 40 ⟨0, []⟩) >>= _) = _
  rw [he]
  rfl
end
theorem alt_many (m : Nat) : Alt (⟨1, [], 1, 0⟩ :: mK m 1) m := by
  refine ⟨by simp only [List.length_cons, mK_len], fun j hj => ?_, fun j hj => ?_⟩
  · cases j with
    | zero => exact ⟨_, rfl, rfl⟩
    | succ j =>
      refine ⟨⟨1, [], 1, ((1 + 4 * j + 3 : Nat) : Int)⟩, ?_, rfl⟩
      rw [show 2 * (j + 1) = 2 * j + 1 + 1 by omega, List.getElem?_cons_succ, mK_odd m 1 j (by omega)]
  · refine ⟨⟨3, sgAdd, 0, ((1 + 4 * j + 1 : Nat) : Int)⟩, ?_, rfl, rfl, by show (0 : Int) < ((1 + 4 * j + 1 : Nat) : Int); omega⟩
    rw [List.getElem?_cons_succ, mK_even m 1 j hj]
theorem parse_many (m : Nat) (hm : m ≤ 400) : (2 * m + 1 ≤ 512 → ∃ ns, parseV (bs (mS m)) = .ok ([], ns) ∧ ns.length = 2 * m + 1) ∧ (512 < 2 * m + 1 → ∃ p, parseV (bs (mS m)) = .error (402, p) ∧ 0 < p) := by
  have e : parseV (bs (mS m)) = progP (⟨1, [], 1, 0⟩ :: mK m 1) ((bs (mS m)).size : Int) := by
    unfold parseV; rw [lexR_many m hm]; rfl
  rw [e]
  exact ⟨fun h => (alt_many m).prog_ok h, fun h => (alt_many m).prog_bad (by rw [bs_sizeL, mS_len]; omega) h⟩
end Go.Proofs.YtnhfbbognjdnpaaDoor
