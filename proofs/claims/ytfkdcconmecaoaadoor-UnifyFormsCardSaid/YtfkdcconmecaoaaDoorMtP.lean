/- Variables of types by first appearance; one type as an instance of another: plain facts. -/
import Derived.Test.YtfkdcconmecaoaaDoorSbP
/- Variables of types by first appearance; one type as an instance of another: plain facts. -/
namespace Go.Proofs.YtfkdcconmecaoaaDoor
set_option linter.unusedVariables false
set_option linter.unusedSimpArgs false

def hasI (l : List Int) (v : Int) : Bool := decide (v ∈ l)
def addI (l : List Int) (v : Int) : List Int := if hasI l v then l else l ++ [v]
def addT (l : List Int) (t : Int) : List Int := if t < 0 then l else addI l t
def tvs : TT → List Int → List Int
  | .base _, l => l
  | .var v, l => addI l v
  | .fn a _ b, l => tvs b (tvs a l)
def rvs : TT → List Int → List Int
  | .base _, l => l
  | .var _, l => l
  | .fn a r b, l => rvs b (addT (rvs a l) r.t)
def woI (xs ks : List Int) : List Int := xs.filter fun x => !hasI ks x
theorem addI_len (l : List Int) (v : Int) : l.length ≤ (addI l v).length ∧ (addI l v).length ≤ l.length + 1 := by
  unfold addI; split <;> simp
theorem addT_len (l : List Int) (v : Int) : l.length ≤ (addT l v).length ∧ (addT l v).length ≤ l.length + 1 := by
  unfold addT; split
  · omega
  · exact addI_len l v
theorem tvs_len : ∀ (T : TT) (l : List Int), l.length ≤ (tvs T l).length ∧ (tvs T l).length ≤ l.length + T.sz
  | .base _, l => by simp [tvs]
  | .var v, l => by have := addI_len l v; simp only [tvs, TT.sz]; omega
  | .fn a r b, l => by have h1 := tvs_len a l; have h2 := tvs_len b (tvs a l); simp only [tvs, TT.sz]; omega
theorem rvs_len : ∀ (T : TT) (l : List Int), l.length ≤ (rvs T l).length ∧ (rvs T l).length ≤ l.length + T.sz
  | .base _, l => by simp [rvs]
  | .var v, l => by simp [rvs]
  | .fn a r b, l => by have h1 := rvs_len a l; have h2 := addT_len (rvs a l) r.t; have h3 := rvs_len b (addT (rvs a l) r.t); simp only [rvs, TT.sz]; omega
theorem hasI_iff (l : List Int) (v : Int) : hasI l v = true ↔ v ∈ l := by unfold hasI; simp
theorem addI_mem (l : List Int) (v x : Int) : x ∈ addI l v ↔ x ∈ l ∨ x = v := by
  unfold addI
  by_cases h : v ∈ l
  · rw [if_pos ((hasI_iff l v).2 h)]
    constructor
    · exact .inl
    · rintro (h' | rfl)
      · exact h'
      · exact h
  · rw [if_neg (fun h' => h ((hasI_iff l v).1 h'))]; simp
theorem addI_nodup {l : List Int} (h : l.Nodup) (v : Int) : (addI l v).Nodup := by
  unfold addI
  by_cases h' : v ∈ l
  · rw [if_pos ((hasI_iff l v).2 h')]; exact h
  · rw [if_neg (fun h2 => h' ((hasI_iff l v).1 h2)), List.nodup_append]
    exact ⟨h, by simp, by intro a ha b hb; simp at hb; subst hb; intro e; exact h' (e ▸ ha)⟩
theorem addT_nodup {l : List Int} (h : l.Nodup) (v : Int) : (addT l v).Nodup := by
  unfold addT; split
  · exact h
  · exact addI_nodup h v
theorem tvs_nodup : ∀ (T : TT) {l : List Int}, l.Nodup → (tvs T l).Nodup
  | .base _, _, h => h
  | .var v, _, h => addI_nodup h v
  | .fn a r b, _, h => tvs_nodup b (tvs_nodup a h)
theorem rvs_nodup : ∀ (T : TT) {l : List Int}, l.Nodup → (rvs T l).Nodup
  | .base _, _, h => h
  | .var _, _, h => h
  | .fn a r b, _, h => rvs_nodup b (addT_nodup (rvs_nodup a h) r.t)
theorem tvs_bd : ∀ (T : TT) {l : List Int}, T.ok = true → (∀ x ∈ l, 0 ≤ x ∧ x < 4096) → ∀ x ∈ tvs T l, 0 ≤ x ∧ x < 4096
  | .base _, _, _, h => h
  | .var v, l, ho, h => by
    intro x hx
    simp only [tvs] at hx
    rcases (addI_mem l v x).1 hx with hx | rfl
    · exact h x hx
    · simpa [TT.ok] using ho
  | .fn a r b, l, ho, h => by
    unfold TT.ok at ho
    simp only [Bool.and_eq_true] at ho
    exact tvs_bd b ho.2 (tvs_bd a ho.1.1 h)
theorem rvs_bd : ∀ (T : TT) {l : List Int}, T.ok = true → (∀ x ∈ l, 0 ≤ x ∧ x < 4096) → ∀ x ∈ rvs T l, 0 ≤ x ∧ x < 4096
  | .base _, _, _, h => h
  | .var v, _, _, h => h
  | .fn a r b, l, ho, h => by
    unfold TT.ok at ho
    simp only [Bool.and_eq_true] at ho
    refine rvs_bd b ho.2 ?_
    have h1 := rvs_bd a ho.1.1 h
    unfold addT
    split
    · exact h1
    · intro x hx
      rcases (addI_mem _ _ x).1 hx with hx | rfl
      · exact h1 x hx
      · have := of_decide_eq_true (show mayR r.a r.b r.c r.d r.t = true from ho.1.2); omega
/-- which variables a tree has. -/
def hasV : TT → Int → Prop
  | .base _, _ => False
  | .var v, x => x = v
  | .fn a _ b, x => hasV a x ∨ hasV b x
def hasT : TT → Int → Prop
  | .base _, _ => False
  | .var _, _ => False
  | .fn a r b, x => hasT a x ∨ (0 ≤ r.t ∧ x = r.t) ∨ hasT b x
theorem tvs_mem : ∀ (T : TT) (l : List Int) (x : Int), x ∈ tvs T l ↔ x ∈ l ∨ hasV T x
  | .base _, l, x => by simp [tvs, hasV]
  | .var v, l, x => by simp only [tvs, hasV]; exact addI_mem l v x
  | .fn a r b, l, x => by simp only [tvs, hasV]; rw [tvs_mem b, tvs_mem a, or_assoc]
theorem rvs_mem : ∀ (T : TT) (l : List Int) (x : Int), x ∈ rvs T l ↔ x ∈ l ∨ hasT T x
  | .base _, l, x => by simp [rvs, hasT]
  | .var v, l, x => by simp [rvs, hasT]
  | .fn a r b, l, x => by
    simp only [rvs, hasT]
    rw [rvs_mem b]
    have : x ∈ addT (rvs a l) r.t ↔ x ∈ rvs a l ∨ (0 ≤ r.t ∧ x = r.t) := by
      unfold addT
      split
      · constructor
        · exact .inl
        · rintro (h | h)
          · exact h
          · omega
      · rw [addI_mem]
        constructor
        · rintro (h | h)
          · exact .inl h
          · exact .inr ⟨by omega, h⟩
        · rintro (h | h)
          · exact .inl h
          · exact .inr h.2
    rw [this, rvs_mem a, or_assoc, or_assoc]
/-- putting for what is there alone. -/
theorem putT_on {σ σ' : Int → Option TT} {ρ ρ' : Int → Option Rw} : ∀ (T : TT), (∀ x, hasV T x → σ x = σ' x) → (∀ x, hasT T x → ρ x = ρ' x) → putT σ ρ T = putT σ' ρ' T
  | .base _, _, _ => rfl
  | .var v, h, _ => by unfold putT; rw [h v rfl]
  | .fn a r b, h, h' => by
    unfold putT
    rw [putT_on a (fun x hx => h x (.inl hx)) (fun x hx => h' x (.inl hx)), putT_on b (fun x hx => h x (.inr hx)) (fun x hx => h' x (.inr (.inr hx)))]
    have : putR ρ r = putR ρ' r := by
      unfold putR
      split
      · rfl
      · rw [h' r.t (.inr (.inl ⟨by omega, rfl⟩))]
    rw [this]
/-- each variable for itself: nothing changes. -/
theorem putT_own (σ : Int → Option TT) (ρ : Int → Option Rw) (T : TT) (h : ∀ x U, σ x = some U → U = .var x) (h' : ∀ x q, ρ x = some q → q = ⟨0, 0, 0, 0, x⟩) : putT σ ρ T = T := by
  induction T with
  | base _ => rfl
  | var v =>
    unfold putT
    cases hq : σ v with
    | none => rfl
    | some U => rw [h v U hq]; rfl
  | fn a r b iha ihb =>
    unfold putT
    rw [iha, ihb]
    have : putR ρ r = r := by
      unfold putR
      split
      · rfl
      · split
        · rfl
        · rename_i q hq
          obtain ⟨ra, rb, rc, rd, rt⟩ := r
          rw [h' _ _ hq]
          simp
    rw [this]
/-- one putting behind another. -/
def thenR (ρ ρ' : Int → Option Rw) (t : Int) : Option Rw := match ρ t with
  | none => ρ' t
  | some q => some (putR ρ' q)
def thenT (σ σ' : Int → Option TT) (ρ' : Int → Option Rw) (v : Int) : Option TT := match σ v with
  | none => σ' v
  | some U => some (putT σ' ρ' U)
theorem putR_then (ρ ρ' : Int → Option Rw) (r : Rw) : putR ρ' (putR ρ r) = putR (thenR ρ ρ') r := by
  obtain ⟨a, b, c, d, t⟩ := r
  unfold putR thenR
  by_cases h : t < 0
  · simp only [if_pos h]
  · simp only [if_neg h]
    cases hq : ρ t with
    | none => simp only [if_neg h]
    | some q =>
      simp only
      unfold putR
      by_cases hq2 : q.t < 0
      · simp only [if_pos hq2]
      · simp only [if_neg hq2]
        cases ρ' q.t with
        | none => rfl
        | some p => simp only [Rw.mk.injEq, and_true]; omega
theorem putT_then (σ σ' : Int → Option TT) (ρ ρ' : Int → Option Rw) : ∀ T, putT σ' ρ' (putT σ ρ T) = putT (thenT σ σ' ρ') (thenR ρ ρ') T
  | .base _ => rfl
  | .var v => by
    show putT σ' ρ' ((σ v).getD (.var v)) = (thenT σ σ' ρ' v).getD (.var v)
    unfold thenT
    cases σ v with
    | none => rfl
    | some U => rfl
  | .fn a r b => by
    show TT.fn _ _ _ = TT.fn _ _ _
    rw [putT_then σ σ' ρ ρ' a, putT_then σ σ' ρ ρ' b, putR_then]
theorem hasI_app (l : List Int) (x v : Int) : hasI (l ++ [x]) v = (hasI l v || x == v) := by
  unfold hasI
  rw [Bool.eq_iff_iff]
  simp
  constructor
  · rintro (h | h)
    · exact .inl h
    · exact .inr h.symm
  · rintro (h | h)
    · exact .inl h
    · exact .inr h.symm
theorem hasI_take {l : List Int} {j : Nat} (hj : j < l.length) (v : Int) : hasI (l.take (j + 1)) v = (hasI (l.take j) v || l.getD j 0 == v) := by
  rw [List.take_succ_eq_append_getElem hj, hasI_app]
  have e : l.getD j 0 = l[j] := by rw [List.getD_eq_getElem?_getD, List.getElem?_eq_getElem hj]; rfl
  rw [e]
theorem hasI_nil (v : Int) : hasI [] v = false := rfl
theorem woI_take {xs ks : List Int} {j : Nat} (hj : j < xs.length) : woI (xs.take (j + 1)) ks = woI (xs.take j) ks ++ (if hasI ks (xs.getD j 0) then [] else [xs.getD j 0]) := by
  unfold woI
  rw [List.take_succ_eq_append_getElem hj, List.filter_append]
  have e : xs.getD j 0 = xs[j] := by rw [List.getD_eq_getElem?_getD, List.getElem?_eq_getElem hj]; rfl
  rw [e]
  congr 1
  cases hq : hasI ks xs[j] <;> simp [hq]
theorem woI_len (xs ks : List Int) : (woI xs ks).length ≤ xs.length := List.length_filter_le _ _
end Go.Proofs.YtfkdcconmecaoaaDoor

/- One type as an instance of another: plain facts. -/
namespace Go.Proofs.YtfkdcconmecaoaaDoor
set_option linter.unusedVariables false
set_option linter.unusedSimpArgs false

/-- what the variables of a type are in another one. -/
structure MS where
  (s : Int → Option TT) (r : Int → Option Rw)
def MS.none : MS := ⟨fun _ => .none, fun _ => .none⟩
def upd {α : Type} (f : Int → Option α) (v : Int) (x : α) : Int → Option α := fun u => if u = v then some x else f u
def subRw (s g : Rw) : Rw := ⟨s.a - g.a, s.b - g.b, s.c - g.c, s.d - g.d, s.t⟩
def geR (s g : Rw) : Bool := decide (g.a ≤ s.a ∧ g.b ≤ s.b ∧ g.c ≤ s.c ∧ g.d ≤ s.d)
def mtR (g s : Rw) (m : MS) : Option MS :=
  if g.t < 0 then (if g = s then some m else .none)
  else if geR s g then (match m.r g.t with
    | .none => some ⟨m.s, upd m.r g.t (subRw s g)⟩
    | some q => if q = subRw s g then some m else .none)
  else .none
def mtT : TT → TT → MS → Option MS
  | .var v, s, m => (match m.s v with
    | .none => some ⟨upd m.s v s, m.r⟩
    | some q => if q = s then some m else .none)
  | .base k, s, m => if s = .base k then some m else .none
  | .fn a r b, .fn a' r' b', m => ((mtT a a' m).bind (mtR r r')).bind (mtT b b')
  | .fn _ _ _, .base _, _ => .none
  | .fn _ _ _, .var _, _ => .none
/-- what is put in is met. -/
def MIn (m : MS) (σ : Int → Option TT) (ρ : Int → Option Rw) : Prop :=
  (∀ v U, m.s v = some U → U = putT σ ρ (.var v)) ∧ (∀ t q, m.r t = some q → q = putR ρ ⟨0, 0, 0, 0, t⟩)
theorem mtR_made {m : MS} {σ : Int → Option TT} {ρ : Int → Option Rw} (hm : MIn m σ ρ) (hρ : ∀ v q, ρ v = some q → 0 ≤ q.a ∧ 0 ≤ q.b ∧ 0 ≤ q.c ∧ 0 ≤ q.d) (r : Rw) : ∃ m', mtR r (putR ρ r) m = some m' ∧ MIn m' σ ρ := by
  unfold mtR
  by_cases h : r.t < 0
  · rw [if_pos h]
    have : putR ρ r = r := by unfold putR; rw [if_pos h]
    rw [this, if_pos rfl]
    exact ⟨m, rfl, hm⟩
  · rw [if_neg h]
    have hs : subRw (putR ρ r) r = putR ρ ⟨0, 0, 0, 0, r.t⟩ := by
      unfold putR subRw
      simp only [if_neg h]
      cases ρ r.t with
      | none => simp only [Rw.mk.injEq, and_true]; omega
      | some q => simp only [Rw.mk.injEq, and_true]; omega
    have hg : geR (putR ρ r) r = true := by
      unfold geR
      refine decide_eq_true ?_
      unfold putR
      rw [if_neg h]
      cases hq : ρ r.t with
      | none => simp
      | some q => have := hρ _ _ hq; simp only; omega
    rw [if_pos hg, hs]
    cases hq : m.r r.t with
    | none =>
      refine ⟨_, rfl, hm.1, ?_⟩
      intro t q h'
      simp only [upd] at h'
      by_cases e : t = r.t
      · rw [if_pos e] at h'; injection h' with h'; rw [← h', e]
      · rw [if_neg e] at h'; exact hm.2 t q h'
    | some q =>
      rw [hm.2 _ _ hq]
      simp only [if_pos]
      exact ⟨m, rfl, hm⟩
theorem mtT_made {σ : Int → Option TT} {ρ : Int → Option Rw} (hρ : ∀ v q, ρ v = some q → 0 ≤ q.a ∧ 0 ≤ q.b ∧ 0 ≤ q.c ∧ 0 ≤ q.d) : ∀ (T : TT) (m : MS), MIn m σ ρ → ∃ m', mtT T (putT σ ρ T) m = some m' ∧ MIn m' σ ρ
  | .base k, m, hm => ⟨m, by unfold mtT putT; rw [if_pos rfl], hm⟩
  | .var v, m, hm => by
    unfold mtT
    cases hq : m.s v with
    | none =>
      refine ⟨_, rfl, ?_, hm.2⟩
      intro u U h'
      simp only [upd] at h'
      by_cases e : u = v
      · rw [if_pos e] at h'; injection h' with h'; rw [← h', e]
      · rw [if_neg e] at h'; exact hm.1 u U h'
    | some q =>
      rw [hm.1 _ _ hq]
      simp only [if_pos]
      exact ⟨m, rfl, hm⟩
  | .fn a r b, m, hm => by
    obtain ⟨m1, h1, k1⟩ := mtT_made hρ a m hm
    obtain ⟨m2, h2, k2⟩ := mtR_made k1 hρ r
    obtain ⟨m3, h3, k3⟩ := mtT_made hρ b m2 k2
    refine ⟨m3, ?_, k3⟩
    show ((mtT a (putT σ ρ a) m).bind (mtR r (putR ρ r))).bind (mtT b (putT σ ρ b)) = _
    rw [h1, Option.bind_some, h2, Option.bind_some, h3]
def instT (g s : TT) : Bool := (mtT g s MS.none).isSome
theorem instT_put (σ : Int → Option TT) (ρ : Int → Option Rw) (hρ : ∀ v q, ρ v = some q → 0 ≤ q.a ∧ 0 ≤ q.b ∧ 0 ≤ q.c ∧ 0 ≤ q.d) (T : TT) : instT T (putT σ ρ T) = true := by
  obtain ⟨m, h, _⟩ := mtT_made hρ T MS.none ⟨fun _ _ h => (by cases h), fun _ _ h => (by cases h)⟩
  unfold instT; rw [h]; rfl
end Go.Proofs.YtfkdcconmecaoaaDoor
