/- One type as an instance of another: plain facts. -/
import Derived.Test.YtfkdcconmecaoaaDoorVrP
namespace Go.Proofs.YtfkdcconmecaoaaDoor
set_option linter.unusedVariables false
set_option linter.unusedSimpArgs false

/-- what the variables of a type are in another one. -/
structure MS where
  (s : Int → Option TT) (r : Int → Option Rw)
def MS.none : MS := ⟨fun _ => .none, fun _ => .none⟩
def upd {α : Type} (f : Int → Option α) (v : Int) (x : α) : Int → Option α := fun u => if u = v then some x else f u
def subRw (s g : Rw) : Rw := ⟨s.a - g.a, s.b - g.b, s.c - g.c, s.d - g.d, s.t⟩
def geR (s g : Rw) : Bool := decide (g.a ≤ s.a ∧ g.b ≤ s.b ∧ g.c ≤ s.c ∧ g.d ≤ s.d)
def mtR (g s : Rw) (m : MS) : Option MS :=
  if g.t < 0 then (if g = s then some m else .none)
  else if geR s g then (match m.r g.t with
    | .none => some ⟨m.s, upd m.r g.t (subRw s g)⟩
    | some q => if q = subRw s g then some m else .none)
  else .none
def mtT : TT → TT → MS → Option MS
  | .var v, s, m => (match m.s v with
    | .none => some ⟨upd m.s v s, m.r⟩
    | some q => if q = s then some m else .none)
  | .base k, s, m => if s = .base k then some m else .none
  | .fn a r b, .fn a' r' b', m => ((mtT a a' m).bind (mtR r r')).bind (mtT b b')
  | .fn _ _ _, .base _, _ => .none
  | .fn _ _ _, .var _, _ => .none
/-- what is put in is met. -/
def MIn (m : MS) (σ : Int → Option TT) (ρ : Int → Option Rw) : Prop :=
  (∀ v U, m.s v = some U → U = putT σ ρ (.var v)) ∧ (∀ t q, m.r t = some q → q = putR ρ ⟨0, 0, 0, 0, t⟩)
theorem mtR_made {m : MS} {σ : Int → Option TT} {ρ : Int → Option Rw} (hm : MIn m σ ρ) (hρ : ∀ v q, ρ v = some q → 0 ≤ q.a ∧ 0 ≤ q.b ∧ 0 ≤ q.c ∧ 0 ≤ q.d) (r : Rw) : ∃ m', mtR r (putR ρ r) m = some m' ∧ MIn m' σ ρ := by
  unfold mtR
  by_cases h : r.t < 0
  · rw [if_pos h]
    have : putR ρ r = r := by unfold putR; rw [if_pos h]
    rw [this, if_pos rfl]
    exact ⟨m, rfl, hm⟩
  · rw [if_neg h]
    have hs : subRw (putR ρ r) r = putR ρ ⟨0, 0, 0, 0, r.t⟩ := by
      unfold putR subRw
      simp only [if_neg h]
      cases ρ r.t with
      | none => simp only [Rw.mk.injEq, and_true]; omega
      | some q => simp only [Rw.mk.injEq, and_true]; omega
    have hg : geR (putR ρ r) r = true := by
      unfold geR
      refine decide_eq_true ?_
      unfold putR
      rw [if_neg h]
      cases hq : ρ r.t with
      | none => simp
      | some q => have := hρ _ _ hq; simp only; omega
    rw [if_pos hg, hs]
    cases hq : m.r r.t with
    | none =>
      refine ⟨_, rfl, hm.1, ?_⟩
      intro t q h'
      simp only [upd] at h'
      by_cases e : t = r.t
      · rw [if_pos e] at h'; injection h' with h'; rw [← h', e]
      · rw [if_neg e] at h'; exact hm.2 t q h'
    | some q =>
      rw [hm.2 _ _ hq]
      simp only [if_pos]
      exact ⟨m, rfl, hm⟩
theorem mtT_made {σ : Int → Option TT} {ρ : Int → Option Rw} (hρ : ∀ v q, ρ v = some q → 0 ≤ q.a ∧ 0 ≤ q.b ∧ 0 ≤ q.c ∧ 0 ≤ q.d) : ∀ (T : TT) (m : MS), MIn m σ ρ → ∃ m', mtT T (putT σ ρ T) m = some m' ∧ MIn m' σ ρ
  | .base k, m, hm => ⟨m, by unfold mtT putT; rw [if_pos rfl], hm⟩
  | .var v, m, hm => by
    unfold mtT
    cases hq : m.s v with
    | none =>
      refine ⟨_, rfl, ?_, hm.2⟩
      intro u U h'
      simp only [upd] at h'
      by_cases e : u = v
      · rw [if_pos e] at h'; injection h' with h'; rw [← h', e]
      · rw [if_neg e] at h'; exact hm.1 u U h'
    | some q =>
      rw [hm.1 _ _ hq]
      simp only [if_pos]
      exact ⟨m, rfl, hm⟩
  | .fn a r b, m, hm => by
    obtain ⟨m1, h1, k1⟩ := mtT_made hρ a m hm
    obtain ⟨m2, h2, k2⟩ := mtR_made k1 hρ r
    obtain ⟨m3, h3, k3⟩ := mtT_made hρ b m2 k2
    refine ⟨m3, ?_, k3⟩
    show ((mtT a (putT σ ρ a) m).bind (mtR r (putR ρ r))).bind (mtT b (putT σ ρ b)) = _
    rw [h1, Option.bind_some, h2, Option.bind_some, h3]
def instT (g s : TT) : Bool := (mtT g s MS.none).isSome
theorem instT_put (σ : Int → Option TT) (ρ : Int → Option Rw) (hρ : ∀ v q, ρ v = some q → 0 ≤ q.a ∧ 0 ≤ q.b ∧ 0 ≤ q.c ∧ 0 ≤ q.d) (T : TT) : instT T (putT σ ρ T) = true := by
  obtain ⟨m, h, _⟩ := mtT_made hρ T MS.none ⟨fun _ _ h => (by cases h), fun _ _ h => (by cases h)⟩
  unfold instT; rw [h]; rfl
end Go.Proofs.YtfkdcconmecaoaaDoor
