/- Unification of types with rows: plain; what is made solves what is asked, and is most general. -/
import Derived.Test.YtfkdcconmecaoaaDoorMtP
import Derived.Test.YtfkdcconmecaoaaDoorRwD
namespace Go.Proofs.YtfkdcconmecaoaaDoor
set_option linter.unusedVariables false
set_option linter.unusedSimpArgs false

/-- a bind that was made. -/
inductive Bo where
  | ty (v : Int) (T : TT)
  | rw (v : Int) (r : Rw)
  deriving DecidableEq
def Bo.tyOf : Bo → Int → Option TT
  | .ty v T, u => if u = v then some T else none
  | .rw _ _, _ => none
def Bo.rwOf : Bo → Int → Option Rw
  | .ty _ _, _ => none
  | .rw v r, u => if u = v then some r else none
def sgU : List Bo → Int → Option TT
  | [], _ => none
  | b :: m, v => (sgU m v).or (b.tyOf v)
def rhU : List Bo → Int → Option Rw
  | [], _ => none
  | b :: m, v => (rhU m v).or (b.rwOf v)
def tyI : List Bo → Nat → Int → Option Nat
  | [], _, _ => none
  | b :: m, k, v => (tyI m (k + 1) v).or (if (b.tyOf v).isSome then some k else none)
def rwI : List Bo → Nat → Int → Option Nat
  | [], _, _ => none
  | b :: m, k, v => (rwI m (k + 1) v).or (if (b.rwOf v).isSome then some k else none)
structure US where
  (made : List Bo) (fresh : Int)
  deriving DecidableEq
def putB (σ : Int → Option TT) (ρ : Int → Option Rw) : Bo → Bo
  | .ty v T => .ty v (putT σ ρ T)
  | .rw v r => .rw v (putR ρ r)
def fitB : Bo → Bool
  | .ty _ T => T.fits
  | .rw _ r => r.cnt
def sg1 (v : Int) (T : TT) : Int → Option TT := fun u => if u = v then some T else none
def rh1 (v : Int) (r : Rw) : Int → Option Rw := fun u => if u = v then some r else none
def sg0 : Int → Option TT := fun _ => none
def rh0 : Int → Option Rw := fun _ => none
def hasVb : TT → Int → Bool
  | .base _, _ => false
  | .var v, x => x == v
  | .fn a _ b, x => hasVb a x || hasVb b x
theorem hasVb_iff : ∀ (T : TT) (x : Int), hasVb T x = true ↔ hasV T x
  | .base _, _ => by simp [hasVb, hasV]
  | .var v, x => by simp [hasVb, hasV]
  | .fn a r b, x => by simp only [hasVb, hasV, Bool.or_eq_true]; rw [hasVb_iff a, hasVb_iff b]
/-- a new bind is put into all that are there. -/
def putM (σ : Int → Option TT) (ρ : Int → Option Rw) (m : List Bo) : Option (List Bo) :=
  if (m.map (putB σ ρ)).all fitB then some (m.map (putB σ ρ)) else none
def bindU (s : US) (v : Int) (T : TT) : Except Nat US :=
  if hasVb T v then .error 2 else if !T.fits then .error 3 else
  match putM (sg1 v T) rh0 s.made with
  | none => .error 3
  | some m => .ok ⟨m ++ [.ty v T], s.fresh⟩
def bindR (s : US) (v : Int) (r : Rw) : Except Nat US :=
  match putM sg0 (rh1 v r) s.made with
  | none => .error 3
  | some m => .ok ⟨m ++ [.rw v r], s.fresh⟩
def bindRs : US → List Bd → Except Nat US
  | s, [] => .ok s
  | s, x :: l => match bindR s x.v ⟨x.a, x.b, x.c, x.d, x.t⟩ with
    | .error e => .error e
    | .ok s' => bindRs s' l
def uniR (a b : Rw) (f : Int) : Option (List Bd) :=
  uniT (mxz (a.a - b.a)) (mxz (a.b - b.b)) (mxz (a.c - b.c)) (mxz (a.d - b.d)) (mxz (b.a - a.a)) (mxz (b.b - a.b)) (mxz (b.c - a.c)) (mxz (b.d - a.d)) a.t b.t f
def rowU (s : US) (a b : Rw) : Except Nat US :=
  match uniR (putR (rhU s.made) a) (putR (rhU s.made) b) s.fresh with
  | none => .error 1
  | some l => if !(putR (rhU s.made) a).cnt || !(putR (rhU s.made) b).cnt || decide (4096 ≤ s.fresh) then .error 3 else
    bindRs ⟨s.made, if l.length = 2 then s.fresh + 1 else s.fresh⟩ l
def underU (s : US) (T : TT) : TT := putT (sgU s.made) (rhU s.made) T
/-- two types under the binds, neither of them a variable. -/
def oneU : Nat → US → TT → TT → Option (Except Nat US)
  | 0, _, _, _ => none
  | n + 1, s, a, b => match underU s a, underU s b with
    | .var v, .var u => if v = u then some (.ok s) else some (bindU s v (.var u))
    | .var v, U => some (bindU s v U)
    | U, .var u => some (bindU s u U)
    | .base k, .base k' => if k = k' then some (.ok s) else some (.error 1)
    | .fn a1 r1 b1, .fn a2 r2 b2 =>
      if !(TT.fn a1 r1 b1).fits || !(TT.fn a2 r2 b2).fits then some (.error 3) else
      match oneU n s a1 a2 with
      | none => none
      | some (.error e) => some (.error e)
      | some (.ok s1) => match rowU s1 r1 r2 with
        | .error e => some (.error e)
        | .ok s2 => oneU n s2 b1 b2
    | _, _ => some (.error 1)

/- Invariants. -/
def Bo.isTyOf (b : Bo) (v : Int) : Prop := (b.tyOf v).isSome
def Bo.ok : Bo → Bool
  | .ty v T => decide (0 ≤ v ∧ v < 4096) && T.ok && decide (T.sz ≤ 256)
  | .rw v r => decide (0 ≤ v ∧ v < 4096) && r.may
/-- tails below a bound. -/
def TT.tl (f : Int) : TT → Bool
  | .base _ => true
  | .var _ => true
  | .fn a r b => a.tl f && decide (r.t < f) && b.tl f
def Bo.tl (f : Int) : Bo → Bool
  | .ty _ T => T.tl f
  | .rw v r => decide (v < f) && decide (r.t < f)
/-- no variable of it is bound. -/
def freeT (m : List Bo) (T : TT) : Prop := (∀ x, hasV T x → sgU m x = none) ∧ (∀ x, hasT T x → rhU m x = none)
def freeR (m : List Bo) (r : Rw) : Prop := 0 ≤ r.t → rhU m r.t = none
def Bo.free (m : List Bo) : Bo → Prop
  | .ty _ T => freeT m T
  | .rw _ r => freeR m r
def tyN (m : List Bo) : List Int := m.filterMap fun | .ty v _ => some v | .rw _ _ => none
def rwN (m : List Bo) : List Int := m.filterMap fun | .ty _ _ => none | .rw v _ => some v
structure UInv (s : US) : Prop where
  ok : ∀ b ∈ s.made, b.ok = true
  tl : ∀ b ∈ s.made, b.tl s.fresh = true
  free : ∀ b ∈ s.made, b.free s.made
  ty : (tyN s.made).Nodup
  rw : (rwN s.made).Nodup
  f0 : 0 ≤ s.fresh
  f1 : s.fresh ≤ 4096
theorem sgU_mem : ∀ {m : List Bo} {v : Int} {T : TT}, sgU m v = some T → .ty v T ∈ m
  | b :: m, v, T, h => by
    unfold sgU at h
    cases hq : sgU m v with
    | some U => rw [hq] at h; simp at h; subst h; exact List.mem_cons_of_mem _ (sgU_mem hq)
    | none =>
      rw [hq] at h; simp at h
      cases b with
      | rw _ _ => simp [Bo.tyOf] at h
      | ty u U =>
        simp only [Bo.tyOf] at h
        by_cases e : v = u
        · rw [if_pos e] at h; injection h with h; subst h e; exact List.mem_cons_self ..
        · rw [if_neg e] at h; cases h
theorem rhU_mem : ∀ {m : List Bo} {v : Int} {r : Rw}, rhU m v = some r → .rw v r ∈ m
  | b :: m, v, T, h => by
    unfold rhU at h
    cases hq : rhU m v with
    | some U => rw [hq] at h; simp at h; subst h; exact List.mem_cons_of_mem _ (rhU_mem hq)
    | none =>
      rw [hq] at h; simp at h
      cases b with
      | ty _ _ => simp [Bo.rwOf] at h
      | rw u U =>
        simp only [Bo.rwOf] at h
        by_cases e : v = u
        · rw [if_pos e] at h; injection h with h; subst h e; exact List.mem_cons_self ..
        · rw [if_neg e] at h; cases h
theorem sgU_none : ∀ {m : List Bo} {v : Int}, sgU m v = none ↔ v ∉ tyN m
  | [], v => by simp [sgU, tyN]
  | b :: m, v => by
    have ih := sgU_none (m := m) (v := v)
    unfold sgU
    rw [Option.or_eq_none_iff, ih]
    cases b with
    | rw u r => simp [tyN, Bo.tyOf]
    | ty u T =>
      simp only [tyN, Bo.tyOf, List.filterMap_cons, List.mem_cons]
      by_cases e : v = u
      · simp [e]
      · simp [e]
theorem rhU_none : ∀ {m : List Bo} {v : Int}, rhU m v = none ↔ v ∉ rwN m
  | [], v => by simp [rhU, rwN]
  | b :: m, v => by
    have ih := rhU_none (m := m) (v := v)
    unfold rhU
    rw [Option.or_eq_none_iff, ih]
    cases b with
    | ty u r => simp [rwN, Bo.rwOf]
    | rw u T =>
      simp only [rwN, Bo.rwOf, List.filterMap_cons, List.mem_cons]
      by_cases e : v = u
      · simp [e]
      · simp [e]
theorem sgU_app (m : List Bo) (b : Bo) (v : Int) : sgU (m ++ [b]) v = (b.tyOf v).or (sgU m v) := by
  induction m with
  | nil => simp [sgU]
  | cons c m ih => simp only [List.cons_append, sgU]; rw [ih, Option.or_assoc]
theorem rhU_app (m : List Bo) (b : Bo) (v : Int) : rhU (m ++ [b]) v = (b.rwOf v).or (rhU m v) := by
  induction m with
  | nil => simp [rhU]
  | cons c m ih => simp only [List.cons_append, rhU]; rw [ih, Option.or_assoc]
theorem sgU_map (σ : Int → Option TT) (ρ : Int → Option Rw) (m : List Bo) (v : Int) : sgU (m.map (putB σ ρ)) v = (sgU m v).map (putT σ ρ) := by
  induction m with
  | nil => rfl
  | cons b m ih =>
    simp only [List.map_cons, sgU]; rw [ih]
    cases sgU m v with
    | some _ => simp
    | none =>
      cases b with
      | rw _ _ => simp [putB, Bo.tyOf]
      | ty u T => simp only [putB, Bo.tyOf]; by_cases e : v = u <;> simp [e]
theorem rhU_map (σ : Int → Option TT) (ρ : Int → Option Rw) (m : List Bo) (v : Int) : rhU (m.map (putB σ ρ)) v = (rhU m v).map (putR ρ) := by
  induction m with
  | nil => rfl
  | cons b m ih =>
    simp only [List.map_cons, rhU]; rw [ih]
    cases rhU m v with
    | some _ => simp
    | none =>
      cases b with
      | ty _ _ => simp [putB, Bo.rwOf]
      | rw u T => simp only [putB, Bo.rwOf]; by_cases e : v = u <;> simp [e]
theorem tyN_map (σ : Int → Option TT) (ρ : Int → Option Rw) (m : List Bo) : tyN (m.map (putB σ ρ)) = tyN m := by
  induction m with
  | nil => rfl
  | cons b m ih => cases b <;> simp_all [tyN, putB]
theorem rwN_map (σ : Int → Option TT) (ρ : Int → Option Rw) (m : List Bo) : rwN (m.map (putB σ ρ)) = rwN m := by
  induction m with
  | nil => rfl
  | cons b m ih => cases b <;> simp_all [rwN, putB]
theorem tyN_app (m l : List Bo) : tyN (m ++ l) = tyN m ++ tyN l := List.filterMap_append
theorem rwN_app (m l : List Bo) : rwN (m ++ l) = rwN m ++ rwN l := List.filterMap_append
theorem tyN_mem {m : List Bo} {v : Int} {T : TT} (h : .ty v T ∈ m) : v ∈ tyN m := List.mem_filterMap.2 ⟨_, h, rfl⟩
theorem rwN_mem {m : List Bo} {v : Int} {r : Rw} (h : .rw v r ∈ m) : v ∈ rwN m := List.mem_filterMap.2 ⟨_, h, rfl⟩

/- Variables of what was put. -/
theorem hasV_put {σ : Int → Option TT} {ρ : Int → Option Rw} : ∀ (T : TT) (x : Int), hasV (putT σ ρ T) x ↔ (hasV T x ∧ σ x = none) ∨ ∃ v U, hasV T v ∧ σ v = some U ∧ hasV U x
  | .base _, x => by simp [putT, hasV]
  | .var v, x => by
    unfold putT
    cases h : σ v with
    | none =>
      simp only [Option.getD_none, hasV]
      constructor
      · rintro rfl; exact .inl ⟨rfl, h⟩
      · rintro (⟨rfl, _⟩ | ⟨u, U, rfl, h', _⟩)
        · rfl
        · rw [h] at h'; cases h'
    | some U =>
      simp only [Option.getD_some, hasV]
      constructor
      · intro h'; exact .inr ⟨v, U, rfl, h, h'⟩
      · rintro (⟨rfl, h'⟩ | ⟨u, W, rfl, h', h2⟩)
        · rw [h] at h'; cases h'
        · rw [h] at h'; injection h' with h'; subst h'; exact h2
  | .fn a r b, x => by
    simp only [putT, hasV]
    rw [hasV_put a x, hasV_put b x]
    constructor
    · rintro ((⟨h1, h2⟩ | ⟨v, U, h1, h2, h3⟩) | (⟨h1, h2⟩ | ⟨v, U, h1, h2, h3⟩))
      · exact .inl ⟨.inl h1, h2⟩
      · exact .inr ⟨v, U, .inl h1, h2, h3⟩
      · exact .inl ⟨.inr h1, h2⟩
      · exact .inr ⟨v, U, .inr h1, h2, h3⟩
    · rintro (⟨h1 | h1, h2⟩ | ⟨v, U, h1 | h1, h2, h3⟩)
      · exact .inl (.inl ⟨h1, h2⟩)
      · exact .inr (.inl ⟨h1, h2⟩)
      · exact .inl (.inr ⟨v, U, h1, h2, h3⟩)
      · exact .inr (.inr ⟨v, U, h1, h2, h3⟩)
theorem tail_put (ρ : Int → Option Rw) (r : Rw) (x : Int) : (0 ≤ (putR ρ r).t ∧ x = (putR ρ r).t) → (0 ≤ r.t ∧ x = r.t ∧ ρ x = none) ∨ ∃ q, 0 ≤ r.t ∧ ρ r.t = some q ∧ 0 ≤ q.t ∧ x = q.t := by
  unfold putR
  by_cases h : r.t < 0
  · rw [if_pos h]; rintro ⟨h1, h2⟩; omega
  · rw [if_neg h]
    cases hq : ρ r.t with
    | none => rintro ⟨h1, h2⟩; simp only at h1 h2; exact .inl ⟨h1, h2, h2 ▸ hq⟩
    | some q => rintro ⟨h1, h2⟩; exact .inr ⟨q, by omega, rfl, h1, h2⟩
theorem hasT_put {σ : Int → Option TT} {ρ : Int → Option Rw} : ∀ (T : TT) (x : Int), hasT (putT σ ρ T) x → (hasT T x ∧ ρ x = none) ∨ (∃ v U, hasV T v ∧ σ v = some U ∧ hasT U x) ∨ ∃ t q, hasT T t ∧ ρ t = some q ∧ 0 ≤ q.t ∧ x = q.t
  | .base _, x => by simp [putT, hasT]
  | .var v, x => by
    unfold putT
    cases h : σ v with
    | none => simp [hasT]
    | some U => simp only [Option.getD_some]; intro h'; exact .inr (.inl ⟨v, U, rfl, h, h'⟩)
  | .fn a r b, x => by
    simp only [putT, hasT, hasV]
    rintro (h | h | h)
    · rcases hasT_put a x h with ⟨h1, h2⟩ | ⟨v, U, h1, h2, h3⟩ | ⟨t, q, h1, h2, h3, h4⟩
      · exact .inl ⟨.inl h1, h2⟩
      · exact .inr (.inl ⟨v, U, .inl h1, h2, h3⟩)
      · exact .inr (.inr ⟨t, q, .inl h1, h2, h3, h4⟩)
    · rcases tail_put ρ r x h with ⟨h1, h2, h3⟩ | ⟨q, h1, h2, h3, h4⟩
      · exact .inl ⟨.inr (.inl ⟨h1, h2⟩), h3⟩
      · exact .inr (.inr ⟨r.t, q, .inr (.inl ⟨h1, rfl⟩), h2, h3, h4⟩)
    · rcases hasT_put b x h with ⟨h1, h2⟩ | ⟨v, U, h1, h2, h3⟩ | ⟨t, q, h1, h2, h3, h4⟩
      · exact .inl ⟨.inr (.inr h1), h2⟩
      · exact .inr (.inl ⟨v, U, .inr h1, h2, h3⟩)
      · exact .inr (.inr ⟨t, q, .inr (.inr h1), h2, h3, h4⟩)
theorem freeT_id {m : List Bo} {T : TT} (h : freeT m T) : putT (sgU m) (rhU m) T = T := by
  rw [putT_on (σ' := fun _ => none) (ρ' := fun _ => none) T h.1 h.2]
  exact putT_id _ _ _ (fun _ => rfl) (fun _ => rfl)
/-- under the binds nothing that is bound is left. -/
theorem under_free {s : US} (hi : UInv s) (T : TT) : freeT s.made (underU s T) := by
  constructor
  · intro x hx
    rcases (hasV_put T x).1 hx with ⟨_, h⟩ | ⟨v, U, _, h, h2⟩
    · exact h
    · exact (hi.free _ (sgU_mem h)).1 x h2
  · intro x hx
    rcases hasT_put T x hx with ⟨_, h⟩ | ⟨v, U, _, h, h2⟩ | ⟨t, q, _, h, h2, rfl⟩
    · exact h
    · exact (hi.free _ (sgU_mem h)).2 x h2
    · exact hi.free _ (rhU_mem h) h2
theorem tl_iff (f : Int) : ∀ T : TT, 0 ≤ f → (T.tl f = true ↔ ∀ x, hasT T x → x < f)
  | .base _, _ => by simp [TT.tl, hasT]
  | .var _, _ => by simp [TT.tl, hasT]
  | .fn a r b, hf => by
    simp only [TT.tl, hasT, Bool.and_eq_true, decide_eq_true_eq]
    rw [tl_iff f a hf, tl_iff f b hf]
    constructor
    · rintro ⟨⟨h1, h2⟩, h3⟩ x (h | h | h)
      · exact h1 x h
      · omega
      · exact h3 x h
    · intro h
      refine ⟨⟨fun x hx => h x (.inl hx), ?_⟩, fun x hx => h x (.inr (.inr hx))⟩
      by_cases h0 : 0 ≤ r.t
      · exact h _ (.inr (.inl ⟨h0, rfl⟩))
      · omega

theorem putR_rh0 (r : Rw) : putR rh0 r = r := by unfold putR rh0; split <;> rfl
theorem putT_0 (T : TT) : putT sg0 rh0 T = T := putT_id _ _ _ (fun _ => rfl) (fun _ => rfl)
theorem putM_some {σ : Int → Option TT} {ρ : Int → Option Rw} {m m' : List Bo} (h : putM σ ρ m = some m') : m' = m.map (putB σ ρ) ∧ ∀ b ∈ m, fitB (putB σ ρ b) = true := by
  unfold putM at h
  by_cases hf : (m.map (putB σ ρ)).all fitB = true
  · rw [if_pos hf] at h; injection h with h
    exact ⟨h.symm, fun b hb => by simpa using (List.all_eq_true.1 hf) _ (List.mem_map_of_mem hb)⟩
  · rw [if_neg hf] at h; cases h
theorem fits_iff {T : TT} : T.fits = true ↔ T.sz ≤ 256 ∧ T.cnt = true := by unfold TT.fits; simp
theorem bindU_ok {s s' : US} {v : Int} {T : TT} (h : bindU s v T = .ok s') : hasVb T v = false ∧ T.fits = true ∧ s' = ⟨s.made.map (putB (sg1 v T) rh0) ++ [.ty v T], s.fresh⟩ ∧ ∀ b ∈ s.made, fitB (putB (sg1 v T) rh0 b) = true := by
  unfold bindU at h
  cases h1 : hasVb T v
  · rw [h1, if_neg (by simp)] at h
    cases h2 : T.fits
    · rw [h2, if_pos (by simp)] at h; cases h
    · rw [h2, if_neg (by simp)] at h
      cases h3 : putM (sg1 v T) rh0 s.made with
      | none => rw [h3] at h; cases h
      | some m =>
        rw [h3] at h; injection h with h
        obtain ⟨rfl, hf⟩ := putM_some h3
        exact ⟨rfl, rfl, h.symm, hf⟩
  · rw [h1, if_pos rfl] at h; cases h
theorem bindR_ok {s s' : US} {v : Int} {r : Rw} (h : bindR s v r = .ok s') : s' = ⟨s.made.map (putB sg0 (rh1 v r)) ++ [.rw v r], s.fresh⟩ ∧ ∀ b ∈ s.made, fitB (putB sg0 (rh1 v r) b) = true := by
  unfold bindR at h
  cases h3 : putM sg0 (rh1 v r) s.made with
  | none => rw [h3] at h; cases h
  | some m =>
    rw [h3] at h; injection h with h
    obtain ⟨rfl, hf⟩ := putM_some h3
    exact ⟨h.symm, hf⟩
theorem sgU_bindU (m : List Bo) (v : Int) (T : TT) (u : Int) : sgU (m.map (putB (sg1 v T) rh0) ++ [.ty v T]) u = if u = v then some T else (sgU m u).map (putT (sg1 v T) rh0) := by
  rw [sgU_app, sgU_map]
  simp only [Bo.tyOf]
  by_cases e : u = v <;> simp [e]
theorem rhU_bindU (m : List Bo) (v : Int) (T : TT) (u : Int) : rhU (m.map (putB (sg1 v T) rh0) ++ [.ty v T]) u = rhU m u := by
  rw [rhU_app, rhU_map]
  simp only [Bo.rwOf, Option.none_or]
  cases rhU m u with
  | none => rfl
  | some r => simp [putR_rh0]
theorem sgU_bindR (m : List Bo) (v : Int) (r : Rw) (u : Int) : sgU (m.map (putB sg0 (rh1 v r)) ++ [.rw v r]) u = (sgU m u).map (putT sg0 (rh1 v r)) := by
  rw [sgU_app, sgU_map]; simp [Bo.tyOf]
theorem rhU_bindR (m : List Bo) (v : Int) (r : Rw) (u : Int) : rhU (m.map (putB sg0 (rh1 v r)) ++ [.rw v r]) u = if u = v then some r else (rhU m u).map (putR (rh1 v r)) := by
  rw [rhU_app, rhU_map]
  simp only [Bo.rwOf]
  by_cases e : u = v <;> simp [e]
theorem tyN_bindU (m : List Bo) (v : Int) (T : TT) : tyN (m.map (putB (sg1 v T) rh0) ++ [.ty v T]) = tyN m ++ [v] := by rw [tyN_app, tyN_map]; rfl
theorem rwN_bindU (m : List Bo) (v : Int) (T : TT) : rwN (m.map (putB (sg1 v T) rh0) ++ [.ty v T]) = rwN m := by rw [rwN_app, rwN_map]; simp [rwN]
theorem tyN_bindR (m : List Bo) (v : Int) (r : Rw) : tyN (m.map (putB sg0 (rh1 v r)) ++ [.rw v r]) = tyN m := by rw [tyN_app, tyN_map]; simp [tyN]
theorem rwN_bindR (m : List Bo) (v : Int) (r : Rw) : rwN (m.map (putB sg0 (rh1 v r)) ++ [.rw v r]) = rwN m ++ [v] := by rw [rwN_app, rwN_map]; rfl
theorem nodup_snoc {l : List Int} {v : Int} (h : l.Nodup) (hv : v ∉ l) : (l ++ [v]).Nodup := by
  rw [List.nodup_append]
  exact ⟨h, by simp, by intro a ha b hb; simp at hb; subst hb; intro e; exact hv (e ▸ ha)⟩
theorem bindU_inv {s s' : US} {v : Int} {T : TT} (hi : UInv s) (hv : 0 ≤ v ∧ v < 4096) (hu : sgU s.made v = none) (hT : T.ok = true) (hz : T.cnt = true → True) (hf : freeT s.made T) (ht : T.tl s.fresh = true) (h : bindU s v T = .ok s') : UInv s' ∧ s'.fresh = s.fresh := by
  obtain ⟨h1, h2, rfl, h3⟩ := bindU_ok h
  have hnv : ¬ hasV T v := fun h => by rw [(hasVb_iff T v).2 h] at h1; cases h1
  have hz := (fits_iff.1 h2).1
  refine ⟨⟨?_, ?_, ?_, ?_, ?_, hi.f0, hi.f1⟩, rfl⟩
  · intro b hb
    rcases List.mem_append.1 hb with hb | hb
    · obtain ⟨c, hc, rfl⟩ := List.mem_map.1 hb
      have hok := hi.ok c hc
      have hfit := h3 c hc
      cases c with
      | rw u r => simp only [putB, Bo.ok] at *; rw [putR_rh0]; exact hok
      | ty u U =>
        simp only [putB, Bo.ok, fitB, Bool.and_eq_true, decide_eq_true_eq] at *
        refine ⟨⟨hok.1.1, ?_⟩, (fits_iff.1 hfit).1⟩
        refine putT_ok ?_ ?_ hok.1.2 (fits_iff.1 hfit).2
        · intro x W hx; unfold sg1 at hx; by_cases e : x = v
          · rw [if_pos e] at hx; injection hx with hx; exact hx ▸ hT
          · rw [if_neg e] at hx; cases hx
        · intro x q hx; cases hx
    · simp at hb; subst hb
      simp only [Bo.ok, Bool.and_eq_true, decide_eq_true_eq]
      exact ⟨⟨hv, hT⟩, hz⟩
  · intro b hb
    rcases List.mem_append.1 hb with hb | hb
    · obtain ⟨c, hc, rfl⟩ := List.mem_map.1 hb
      have htl := hi.tl c hc
      cases c with
      | rw u r => simp only [putB, Bo.tl] at *; rw [putR_rh0]; exact htl
      | ty u U =>
        simp only [putB, Bo.tl] at *
        rw [tl_iff _ _ hi.f0] at *
        intro x hx
        rcases hasT_put U x hx with ⟨h, _⟩ | ⟨w, W, _, h, h'⟩ | ⟨t, q, _, h, _⟩
        · exact htl x h
        · unfold sg1 at h; by_cases e : w = v
          · rw [if_pos e] at h; injection h with h; subst h; exact ht x h'
          · rw [if_neg e] at h; cases h
        · cases h
    · simp at hb; subst hb; exact ht
  · have hfT : freeT (s.made.map (putB (sg1 v T) rh0) ++ [.ty v T]) T := by
      constructor
      · intro x hx
        rw [sgU_bindU, if_neg (show ¬ x = v from fun e => hnv (e ▸ hx)), hf.1 x hx]; rfl
      · intro x hx; rw [rhU_bindU]; exact hf.2 x hx
    intro b hb
    rcases List.mem_append.1 hb with hb | hb
    · obtain ⟨c, hc, rfl⟩ := List.mem_map.1 hb
      have hfr := hi.free c hc
      cases c with
      | rw u r => simp only [putB, Bo.free, freeR] at *; rw [putR_rh0, rhU_bindU]; exact hfr
      | ty u U =>
        simp only [putB, Bo.free] at *
        constructor
        · intro x hx
          rcases (hasV_put U x).1 hx with ⟨h, h'⟩ | ⟨w, W, _, h, h'⟩
          · have e : x ≠ v := by intro e; unfold sg1 at h'; rw [if_pos e] at h'; cases h'
            rw [sgU_bindU, if_neg e, hfr.1 x h]; rfl
          · unfold sg1 at h; by_cases e : w = v
            · rw [if_pos e] at h; injection h with h; subst h; exact hfT.1 x h'
            · rw [if_neg e] at h; cases h
        · intro x hx
          rcases hasT_put U x hx with ⟨h, h'⟩ | ⟨w, W, _, h, h'⟩ | ⟨t, q, _, h, _⟩
          · rw [rhU_bindU]; exact hfr.2 x h
          · unfold sg1 at h; by_cases e : w = v
            · rw [if_pos e] at h; injection h with h; subst h; exact hfT.2 x h'
            · rw [if_neg e] at h; cases h
          · cases h
    · simp at hb; subst hb; exact hfT
  · show (tyN (_ ++ _)).Nodup
    rw [tyN_bindU]; exact nodup_snoc hi.ty (sgU_none.1 hu)
  · show (rwN (_ ++ _)).Nodup
    rw [rwN_bindU]; exact hi.rw
theorem bindR_inv {s s' : US} {v : Int} {r : Rw} (hi : UInv s) (hv : 0 ≤ v ∧ v < 4096) (hvf : v < s.fresh) (hu : rhU s.made v = none) (hT : r.may = true) (hf : freeR s.made r) (ht : r.t < s.fresh) (hne : r.t ≠ v) (h : bindR s v r = .ok s') : UInv s' ∧ s'.fresh = s.fresh := by
  obtain ⟨rfl, h3⟩ := bindR_ok h
  have hr1 : ∀ {x : Int} {q : Rw}, rh1 v r x = some q → x = v ∧ q = r := by
    intro x q hx; unfold rh1 at hx; by_cases e : x = v
    · rw [if_pos e] at hx; injection hx with hx; exact ⟨e, hx.symm⟩
    · rw [if_neg e] at hx; cases hx
  have hr0 : ∀ {x : Int}, rh1 v r x = none → x ≠ v := by intro x hx e; unfold rh1 at hx; rw [if_pos e] at hx; cases hx
  have hfr1 : freeR (s.made.map (putB sg0 (rh1 v r)) ++ [.rw v r]) r := by
    intro h0; rw [rhU_bindR, if_neg hne, hf h0]; rfl
  have hρ : ∀ x q, rh1 v r x = some q → q.may = true := fun x q hx => by obtain ⟨_, rfl⟩ := hr1 hx; exact hT
  refine ⟨⟨?_, ?_, ?_, ?_, ?_, hi.f0, hi.f1⟩, rfl⟩
  · intro b hb
    rcases List.mem_append.1 hb with hb | hb
    · obtain ⟨c, hc, rfl⟩ := List.mem_map.1 hb
      have hok := hi.ok c hc
      have hfit := h3 c hc
      cases c with
      | rw u q =>
        simp only [putB, Bo.ok, fitB, Bool.and_eq_true, decide_eq_true_eq] at *
        exact ⟨hok.1, may_of hfit (putR_tail hρ hok.2)⟩
      | ty u U =>
        simp only [putB, Bo.ok, fitB, Bool.and_eq_true, decide_eq_true_eq] at *
        exact ⟨⟨hok.1.1, putT_ok (fun x W hx => by cases hx) hρ hok.1.2 (fits_iff.1 hfit).2⟩, (fits_iff.1 hfit).1⟩
    · simp at hb; subst hb
      simp only [Bo.ok, Bool.and_eq_true, decide_eq_true_eq]
      exact ⟨hv, hT⟩
  · intro b hb
    rcases List.mem_append.1 hb with hb | hb
    · obtain ⟨c, hc, rfl⟩ := List.mem_map.1 hb
      have htl := hi.tl c hc
      cases c with
      | rw u q =>
        simp only [putB, Bo.tl, Bool.and_eq_true, decide_eq_true_eq] at *
        refine ⟨htl.1, ?_⟩
        by_cases h0 : 0 ≤ (putR (rh1 v r) q).t
        · rcases tail_put (rh1 v r) q _ ⟨h0, rfl⟩ with ⟨_, h, _⟩ | ⟨p, _, h, _, h'⟩
          · rw [h]; exact htl.2
          · rw [h', (hr1 h).2]; exact ht
        · have := hi.f0; omega
      | ty u U =>
        simp only [putB, Bo.tl] at *
        rw [tl_iff _ _ hi.f0] at *
        intro x hx
        rcases hasT_put U x hx with ⟨h, _⟩ | ⟨w, W, _, h, _⟩ | ⟨t, q, _, h, _, h'⟩
        · exact htl x h
        · cases h
        · rw [h', (hr1 h).2]; exact ht
    · simp at hb; subst hb; simp only [Bo.tl, Bool.and_eq_true, decide_eq_true_eq]; exact ⟨hvf, ht⟩
  · intro b hb
    rcases List.mem_append.1 hb with hb | hb
    · obtain ⟨c, hc, rfl⟩ := List.mem_map.1 hb
      have hfr := hi.free c hc
      cases c with
      | rw u q =>
        simp only [putB, Bo.free] at *
        intro h0
        rcases tail_put (rh1 v r) q _ ⟨h0, rfl⟩ with ⟨h1, h, h2⟩ | ⟨p, _, h, h1, h'⟩
        · rw [h] at h2 ⊢; rw [rhU_bindR, if_neg (hr0 h2), hfr h1]; rfl
        · obtain ⟨_, rfl⟩ := hr1 h; rw [h']; exact hfr1 h1
      | ty u U =>
        simp only [putB, Bo.free] at *
        constructor
        · intro x hx
          rcases (hasV_put U x).1 hx with ⟨h, h'⟩ | ⟨w, W, _, h, h'⟩
          · rw [sgU_bindR, hfr.1 x h]; rfl
          · cases h
        · intro x hx
          rcases hasT_put U x hx with ⟨h, h'⟩ | ⟨w, W, _, h, h'⟩ | ⟨t, q, _, h, h0, rfl⟩
          · rw [rhU_bindR, if_neg (hr0 h'), hfr.2 x h]; rfl
          · cases h
          · obtain ⟨_, rfl⟩ := hr1 h; exact hfr1 h0
    · simp at hb; subst hb; exact hfr1
  · show (tyN (_ ++ _)).Nodup
    rw [tyN_bindR]; exact hi.ty
  · show (rwN (_ ++ _)).Nodup
    rw [rwN_bindR]; exact nodup_snoc hi.rw (rhU_none.1 hu)

theorem mxz_zero {x : Int} : mxz x = 0 ↔ x ≤ 0 := by unfold mxz; split <;> omega
theorem mxz_of {x : Int} (h : 0 ≤ x) : mxz x = x := by unfold mxz; rw [if_neg (by omega)]
theorem mxz_bd {x : Int} (h : x ≤ 32) : 0 ≤ mxz x ∧ mxz x ≤ 32 := by unfold mxz; split <;> omega
theorem mxz_sum (x y : Int) : mxz (y - x) + x = mxz (x - y) + y := by unfold mxz; split <;> split <;> omega
def leR (a b : Rw) : Prop := a.a ≤ b.a ∧ a.b ≤ b.b ∧ a.c ≤ b.c ∧ a.d ≤ b.d
/-- what one row has more than another one. -/
def moreR (a b : Rw) (t : Int) : Rw := ⟨mxz (a.a - b.a), mxz (a.b - b.b), mxz (a.c - b.c), mxz (a.d - b.d), t⟩
theorem moreR_may {a b : Rw} {t : Int} (ha : a.cnt = true) (hb : b.cnt = true) (ht : -1 ≤ t ∧ t < 4096) : (moreR a b t).may = true := by
  have h1 := of_decide_eq_true (show cntR a.a a.b a.c a.d = true from ha)
  have h2 := of_decide_eq_true (show cntR b.a b.b b.c b.d = true from hb)
  refine may_of ?_ ht
  refine decide_eq_true ?_
  have x1 := mxz_bd (show a.a - b.a ≤ 32 by omega)
  have x2 := mxz_bd (show a.b - b.b ≤ 32 by omega)
  have x3 := mxz_bd (show a.c - b.c ≤ 32 by omega)
  have x4 := mxz_bd (show a.d - b.d ≤ 32 by omega)
  simp only [moreR]
  omega
/-- how two rows are made one. -/
inductive RowOk (s : US) (A B : Rw) : US → Prop where
  | same (h : A = B) : RowOk s A B s
  | left (s') (h : leR A B) (h0 : 0 ≤ A.t) (hn : B.t ≠ A.t) (hb : bindR s A.t (moreR B A B.t) = .ok s') : RowOk s A B s'
  | right (s') (h : leR B A) (h0 : 0 ≤ B.t) (hn : A.t ≠ B.t) (hb : bindR s B.t (moreR A B A.t) = .ok s') : RowOk s A B s'
  | both (s1 s') (h0 : 0 ≤ A.t) (h1 : 0 ≤ B.t) (hn : A.t ≠ B.t) (hb : bindR ⟨s.made, s.fresh + 1⟩ A.t (moreR B A s.fresh) = .ok s1) (hb' : bindR s1 B.t (moreR A B s.fresh) = .ok s') : RowOk s A B s'
theorem rowU_ok {s s' : US} {a b : Rw} (ha : -1 ≤ (putR (rhU s.made) a).t) (hb : -1 ≤ (putR (rhU s.made) b).t) (h : rowU s a b = .ok s') :
    (putR (rhU s.made) a).cnt = true ∧ (putR (rhU s.made) b).cnt = true ∧ s.fresh < 4096 ∧ RowOk s (putR (rhU s.made) a) (putR (rhU s.made) b) s' := by
  unfold rowU at h
  generalize putR (rhU s.made) a = A at *
  generalize putR (rhU s.made) b = B at *
  cases hu : uniR A B s.fresh with
  | none => rw [hu] at h; cases h
  | some l =>
    rw [hu] at h
    simp only at h
    by_cases hc : (!A.cnt || !B.cnt || decide (4096 ≤ s.fresh)) = true
    · rw [if_pos hc] at h; cases h
    · rw [if_neg hc] at h
      simp only [Bool.or_eq_true, Bool.not_eq_true', decide_eq_true_eq, not_or, Bool.not_eq_false] at hc
      obtain ⟨⟨hA, hB⟩, hf⟩ := hc
      refine ⟨hA, hB, by omega, ?_⟩
      unfold uniR uniT at hu
      simp only [mxz_zero] at hu
      by_cases h1 : A.t = B.t
      · rw [if_pos h1] at hu
        by_cases h2 : A.a - B.a ≤ 0 ∧ A.b - B.b ≤ 0 ∧ A.c - B.c ≤ 0 ∧ A.d - B.d ≤ 0 ∧ B.a - A.a ≤ 0 ∧ B.b - A.b ≤ 0 ∧ B.c - A.c ≤ 0 ∧ B.d - A.d ≤ 0
        · rw [if_pos h2] at hu; injection hu with hu; subst hu
          simp only [List.length_nil, bindRs] at h
          injection h with h
          rw [if_neg (by omega)] at h
          obtain ⟨m, f⟩ := s
          simp only at h; subst h
          refine RowOk.same ?_
          obtain ⟨a1, a2, a3, a4, a5⟩ := A
          obtain ⟨b1, b2, b3, b4, b5⟩ := B
          simp only at *
          simp only [Rw.mk.injEq]; omega
        · rw [if_neg h2] at hu; cases hu
      · rw [if_neg h1] at hu
        split at hu
        · cases hu
        · rename_i h2
          split at hu
          · rename_i h3
            injection hu with hu; subst hu
            simp only [List.length_cons, List.length_nil, bindRs] at h
            rw [if_neg (by omega)] at h
            cases hb1 : bindR ⟨s.made, s.fresh⟩ A.t ⟨mxz (B.a - A.a), mxz (B.b - A.b), mxz (B.c - A.c), mxz (B.d - A.d), B.t⟩ with
            | error e => rw [hb1] at h; cases h
            | ok s1 =>
              rw [hb1] at h; injection h with h; subst h
              exact RowOk.left _ (by unfold leR; omega) (by omega) (fun e => h1 e.symm) hb1
          · rename_i h3
            split at hu
            · rename_i h4
              injection hu with hu; subst hu
              simp only [List.length_cons, List.length_nil, bindRs] at h
              rw [if_neg (by omega)] at h
              cases hb1 : bindR ⟨s.made, s.fresh⟩ B.t ⟨mxz (A.a - B.a), mxz (A.b - B.b), mxz (A.c - B.c), mxz (A.d - B.d), A.t⟩ with
              | error e => rw [hb1] at h; cases h
              | ok s1 =>
                rw [hb1] at h; injection h with h; subst h
                exact RowOk.right _ (by unfold leR; omega) (by omega) h1 hb1
            · rename_i h4
              injection hu with hu; subst hu
              rw [if_pos (show List.length [_, _] = 2 from rfl)] at h
              simp only [bindRs] at h
              cases hb1 : bindR ⟨s.made, s.fresh + 1⟩ A.t ⟨mxz (B.a - A.a), mxz (B.b - A.b), mxz (B.c - A.c), mxz (B.d - A.d), s.fresh⟩ with
              | error e => rw [hb1] at h; cases h
              | ok s1 =>
                rw [hb1] at h
                simp only at h
                cases hb2 : bindR s1 B.t ⟨mxz (A.a - B.a), mxz (A.b - B.b), mxz (A.c - B.c), mxz (A.d - B.d), s.fresh⟩ with
                | error e => rw [hb2] at h; cases h
                | ok s2 =>
                  rw [hb2] at h; injection h with h; subst h
                  exact RowOk.both _ _ (by omega) (by omega) h1 hb1 hb2

/- What was made solves what was asked. -/
structure Ext (s s' : US) : Prop where
  ty : ∀ X, underU s' (underU s X) = underU s' X
  rw : ∀ q, putR (rhU s'.made) (putR (rhU s.made) q) = putR (rhU s'.made) q
theorem freeR_id {m : List Bo} {r : Rw} (h : freeR m r) : putR (rhU m) r = r := by
  unfold putR; split
  · rfl
  · rw [h (by omega)]
theorem under_freeR {s : US} (hi : UInv s) (r : Rw) : freeR s.made (putR (rhU s.made) r) := by
  intro h0
  rcases tail_put (rhU s.made) r _ ⟨h0, rfl⟩ with ⟨_, h, h'⟩ | ⟨q, _, h, h1, h2⟩
  · exact h'
  · rw [h2]; exact hi.free _ (rhU_mem h) h1
theorem Ext.refl {s : US} (hi : UInv s) : Ext s s := ⟨fun X => freeT_id (under_free hi X), fun q => freeR_id (under_freeR hi q)⟩
theorem Ext.trans {s s1 s2 : US} (h : Ext s s1) (h' : Ext s1 s2) : Ext s s2 :=
  ⟨fun X => by rw [← h'.ty (underU s X), h.ty, h'.ty], fun q => by rw [← h'.rw (putR (rhU s.made) q), h.rw, h'.rw]⟩
theorem putT_ext {σ σ' : Int → Option TT} {ρ ρ' : Int → Option Rw} (h : ∀ x, σ x = σ' x) (h' : ∀ x, ρ x = ρ' x) (T : TT) : putT σ ρ T = putT σ' ρ' T := putT_on T (fun x _ => h x) (fun x _ => h' x)
theorem putR_ext {ρ ρ' : Int → Option Rw} (h' : ∀ x, ρ x = ρ' x) (r : Rw) : putR ρ r = putR ρ' r := by
  rw [show ρ = ρ' from funext h']
theorem bindU_under {s s' : US} {v : Int} {T : TT} (hu : sgU s.made v = none) (h : bindU s v T = .ok s') (X : TT) : underU s' X = putT (sg1 v T) rh0 (underU s X) := by
  obtain ⟨_, _, rfl, _⟩ := bindU_ok h
  unfold underU
  rw [putT_then]
  refine putT_ext (fun x => ?_) (fun x => ?_) X
  · simp only [sgU_bindU]
    unfold thenT
    by_cases e : x = v
    · subst e; rw [if_pos rfl, hu]; simp [sg1]
    · rw [if_neg e]
      cases sgU s.made x with
      | none => simp [sg1, e]
      | some U => rfl
  · simp only [rhU_bindU]
    unfold thenR
    cases rhU s.made x with
    | none => rfl
    | some q => simp [putR_rh0]
theorem bindU_underR {s s' : US} {v : Int} {T : TT} (h : bindU s v T = .ok s') (q : Rw) : putR (rhU s'.made) q = putR (rhU s.made) q := by
  obtain ⟨_, _, rfl, _⟩ := bindU_ok h
  exact putR_ext (fun x => rhU_bindU _ _ _ _) q
theorem bindU_ext {s s' : US} {v : Int} {T : TT} (hi : UInv s) (hu : sgU s.made v = none) (h : bindU s v T = .ok s') : Ext s s' :=
  ⟨fun X => by rw [bindU_under hu h, bindU_under hu h, (Ext.refl hi).ty], fun q => by rw [bindU_underR h, bindU_underR h, (Ext.refl hi).rw]⟩
theorem putT_not {v : Int} {T U : TT} (h : ¬ hasV U v) : putT (sg1 v T) rh0 U = U := by
  rw [putT_on (σ' := sg0) (ρ' := rh0) U (fun x hx => by unfold sg1 sg0; rw [if_neg (show ¬ x = v from fun e => h (e ▸ hx))]) (fun _ _ => rfl)]
  exact putT_0 U
theorem bindU_solves {s s' : US} {v : Int} {T : TT} (hu : sgU s.made v = none) (hf : freeT s.made T) (h : bindU s v T = .ok s') : underU s' (.var v) = underU s' T := by
  rw [bindU_under hu h, bindU_under hu h]
  have hT : underU s T = T := freeT_id hf
  have hv : underU s (.var v) = .var v := by unfold underU putT; rw [hu]; rfl
  have hn : ¬ hasV T v := fun e => by have := (bindU_ok h).1; rw [(hasVb_iff T v).2 e] at this; cases this
  rw [hT, hv, putT_not hn]
  show (sg1 v T v).getD _ = T
  simp [sg1]
theorem bindR_underR {s s' : US} {v : Int} {r : Rw} (hu : rhU s.made v = none) (h : bindR s v r = .ok s') (q : Rw) : putR (rhU s'.made) q = putR (rh1 v r) (putR (rhU s.made) q) := by
  obtain ⟨rfl, _⟩ := bindR_ok h
  rw [putR_then]
  refine putR_ext (fun x => ?_) q
  simp only [rhU_bindR]
  unfold thenR
  by_cases e : x = v
  · subst e; rw [if_pos rfl, hu]; simp [rh1]
  · rw [if_neg e]
    cases rhU s.made x with
    | none => simp [rh1, e]
    | some U => rfl
theorem bindR_under {s s' : US} {v : Int} {r : Rw} (hu : rhU s.made v = none) (h : bindR s v r = .ok s') (X : TT) : underU s' X = putT sg0 (rh1 v r) (underU s X) := by
  have hr := bindR_underR hu h
  obtain ⟨rfl, _⟩ := bindR_ok h
  unfold underU
  rw [putT_then]
  refine putT_ext (fun x => ?_) (fun x => ?_) X
  · simp only [sgU_bindR]
    unfold thenT
    cases sgU s.made x with
    | none => rfl
    | some U => rfl
  · simp only [rhU_bindR]
    unfold thenR
    by_cases e : x = v
    · subst e; rw [if_pos rfl, hu]; simp [rh1]
    · rw [if_neg e]
      cases rhU s.made x with
      | none => simp [rh1, e]
      | some U => rfl
theorem bindR_ext {s s' : US} {v : Int} {r : Rw} (hi : UInv s) (hu : rhU s.made v = none) (h : bindR s v r = .ok s') : Ext s s' :=
  ⟨fun X => by rw [bindR_under hu h, bindR_under hu h, (Ext.refl hi).ty], fun q => by rw [bindR_underR hu h, bindR_underR hu h, (Ext.refl hi).rw]⟩
theorem Bo.tl_mono {f f' : Int} (h : f ≤ f') (h0 : 0 ≤ f) : ∀ {b : Bo}, b.tl f = true → b.tl f' = true
  | .ty _ T, hb => by simp only [Bo.tl] at *; rw [tl_iff _ _ h0] at hb; rw [tl_iff _ _ (by omega)]; intro x hx; have := hb x hx; omega
  | .rw _ r, hb => by simp only [Bo.tl, Bool.and_eq_true, decide_eq_true_eq] at *; omega
theorem UInv.more {m : List Bo} {f : Int} (h : UInv ⟨m, f⟩) (hf : f < 4096) : UInv ⟨m, f + 1⟩ :=
  ⟨h.ok, fun b hb => Bo.tl_mono (by show f ≤ f + 1; omega) h.f0 (h.tl b hb), h.free, h.ty, h.rw, by have := h.f0; show 0 ≤ f + 1; simp only at this; omega, by show f + 1 ≤ 4096; omega⟩
theorem rw_key {s : US} (hi : UInv s) {v : Int} (h : s.fresh ≤ v) : rhU s.made v = none := by
  cases hq : rhU s.made v with
  | none => rfl
  | some q => have := hi.tl _ (rhU_mem hq); simp only [Bo.tl, Bool.and_eq_true, decide_eq_true_eq] at this; omega
theorem may_t {r : Rw} (h : r.may = true) : -1 ≤ r.t ∧ r.t < 4096 := may_tail h
/-- a row under the binds. -/
theorem under_t {s : US} (hi : UInv s) {a : Rw} (ha : a.may = true) (ht : a.t < s.fresh) : -1 ≤ (putR (rhU s.made) a).t ∧ (putR (rhU s.made) a).t < 4096 ∧ (putR (rhU s.made) a).t < s.fresh := by
  have h1 := putR_tail (ρ := rhU s.made) (fun v q hq => by have := hi.ok _ (rhU_mem hq); simp only [Bo.ok, Bool.and_eq_true] at this; exact this.2) ha
  refine ⟨h1.1, h1.2, ?_⟩
  by_cases h0 : 0 ≤ (putR (rhU s.made) a).t
  · rcases tail_put (rhU s.made) a _ ⟨h0, rfl⟩ with ⟨_, h, _⟩ | ⟨q, _, h, h1, h2⟩
    · rw [h]; exact ht
    · rw [h2]; have := hi.tl _ (rhU_mem h); simp only [Bo.tl, Bool.and_eq_true, decide_eq_true_eq] at this; exact this.2
  · have := hi.f0; omega
theorem rw_eq {a b : Rw} (h1 : a.a = b.a) (h2 : a.b = b.b) (h3 : a.c = b.c) (h4 : a.d = b.d) (h5 : a.t = b.t) : a = b := by
  obtain ⟨_, _, _, _, _⟩ := a; obtain ⟨_, _, _, _, _⟩ := b; simp_all
theorem put1_not {v : Int} {r q : Rw} (h : q.t ≠ v) : putR (rh1 v r) q = q := by
  unfold putR rh1
  simp only [if_neg h]
  split <;> rfl
theorem put1_at {v : Int} {r q : Rw} (h : q.t = v) (h0 : 0 ≤ v) : putR (rh1 v r) q = ⟨r.a + q.a, r.b + q.b, r.c + q.c, r.d + q.d, r.t⟩ := by
  unfold putR rh1
  rw [if_neg (by omega), if_pos h]
structure RowRes (s s' : US) (a b : Rw) : Prop where
  inv : UInv s'
  ext : Ext s s'
  sol : putR (rhU s'.made) a = putR (rhU s'.made) b
  fr : s.fresh ≤ s'.fresh
theorem rowU_res {s s' : US} {a b : Rw} (hi : UInv s) (ha : a.may = true) (hb : b.may = true) (hta : a.t < s.fresh) (htb : b.t < s.fresh) (h : rowU s a b = .ok s') : RowRes s s' a b := by
  obtain ⟨a1, a2, a3⟩ := under_t hi ha hta
  obtain ⟨b1, b2, b3⟩ := under_t hi hb htb
  obtain ⟨hA, hB, hf, hr⟩ := rowU_ok a1 b1 h
  have fA := under_freeR hi a
  have fB := under_freeR hi b
  have iA := (Ext.refl hi).rw a
  have iB := (Ext.refl hi).rw b
  generalize eA : putR (rhU s.made) a = A at *
  generalize eB : putR (rhU s.made) b = B at *
  have hf0 := hi.f0
  cases hr with
  | same hs => exact ⟨hi, Ext.refl hi, by rw [eA, eB, hs], by omega⟩
  | left _ hl h0 hn hbd =>
    have hu := fA h0
    obtain ⟨i', f'⟩ := bindR_inv hi ⟨h0, a2⟩ a3 hu (moreR_may hB hA ⟨b1, b2⟩) (fun h => fB h) b3 hn hbd
    have hx := bindR_ext hi hu hbd
    refine ⟨i', hx, ?_, by omega⟩
    rw [← hx.rw a, ← hx.rw b, eA, eB, bindR_underR hu hbd, bindR_underR hu hbd, iA, iB, put1_at rfl h0, put1_not hn]
    unfold leR at hl
    simp only [moreR]
    rw [mxz_of (by omega), mxz_of (by omega), mxz_of (by omega), mxz_of (by omega)]
    exact rw_eq (by simp only; omega) (by simp only; omega) (by simp only; omega) (by simp only; omega) rfl
  | right _ hl h0 hn hbd =>
    have hu := fB h0
    obtain ⟨i', f'⟩ := bindR_inv hi ⟨h0, b2⟩ b3 hu (moreR_may hA hB ⟨a1, a2⟩) (fun h => fA h) a3 hn hbd
    have hx := bindR_ext hi hu hbd
    refine ⟨i', hx, ?_, by omega⟩
    rw [← hx.rw a, ← hx.rw b, eA, eB, bindR_underR hu hbd, bindR_underR hu hbd, iA, iB, put1_at rfl h0, put1_not hn]
    unfold leR at hl
    simp only [moreR]
    rw [mxz_of (by omega), mxz_of (by omega), mxz_of (by omega), mxz_of (by omega)]
    exact rw_eq (by simp only; omega) (by simp only; omega) (by simp only; omega) (by simp only; omega) rfl
  | both s1 _ h0 h1 hn hbd hbd' =>
    have hi1 : UInv ⟨s.made, s.fresh + 1⟩ := UInv.more (m := s.made) (f := s.fresh) hi hf
    have huA := fA h0
    have huB := fB h1
    have hkF := rw_key hi (Int.le_refl s.fresh)
    obtain ⟨i1, f1⟩ := bindR_inv hi1 ⟨h0, a2⟩ (by show A.t < s.fresh + 1; omega) huA (moreR_may hB hA ⟨by omega, hf⟩) (fun h => hkF) (by show s.fresh < s.fresh + 1; omega) (by show s.fresh ≠ A.t; omega) hbd
    have e1 := (bindR_ok hbd).1
    have hr1 : ∀ x, rhU s1.made x = if x = A.t then some (moreR B A s.fresh) else (rhU s.made x).map (putR (rh1 A.t (moreR B A s.fresh))) := by
      intro x; rw [e1]; exact rhU_bindR _ _ _ _
    have huB1 : rhU s1.made B.t = none := by rw [hr1, if_neg (fun e => hn e.symm), huB]; rfl
    have hkF1 : rhU s1.made s.fresh = none := by rw [hr1, if_neg (by omega), hkF]; rfl
    have f1' : s1.fresh = s.fresh + 1 := f1
    obtain ⟨i2, f2⟩ := bindR_inv i1 ⟨h1, b2⟩ (by omega) huB1 (moreR_may hA hB ⟨by omega, hf⟩) (fun h => hkF1) (by rw [f1']; show s.fresh < s.fresh + 1; omega) (by show s.fresh ≠ B.t; omega) hbd'
    have hx1 := bindR_ext hi1 huA hbd
    have hx2 := bindR_ext i1 huB1 hbd'
    have hx : Ext s s' := ⟨fun X => (Ext.trans hx1 hx2).ty X, fun q => (Ext.trans hx1 hx2).rw q⟩
    refine ⟨i2, hx, ?_, by omega⟩
    have g1 : ∀ q, putR (rhU s1.made) q = putR (rh1 A.t (moreR B A s.fresh)) (putR (rhU s.made) q) := fun q => bindR_underR (s := ⟨s.made, s.fresh + 1⟩) huA hbd q
    rw [← hx.rw a, ← hx.rw b, eA, eB, bindR_underR huB1 hbd', bindR_underR huB1 hbd', g1, g1, iA, iB, put1_at rfl h0, put1_not (v := A.t) (q := B) (fun e => hn e.symm), put1_not (q := ⟨_, _, _, _, _⟩) (by show s.fresh ≠ B.t; omega), put1_at rfl h1]
    simp only [moreR]
    exact rw_eq (mxz_sum _ _) (mxz_sum _ _) (mxz_sum _ _) (mxz_sum _ _) rfl

/-- what is asked of a type that is to be made one. -/
structure TIn (s : US) (T : TT) : Prop where
  ok : T.ok = true
  tl : T.tl s.fresh = true
theorem under_tl {s : US} (hi : UInv s) {T : TT} (h : T.tl s.fresh = true) : (underU s T).tl s.fresh = true := by
  rw [tl_iff _ _ hi.f0] at *
  intro x hx
  rcases hasT_put T x hx with ⟨h', _⟩ | ⟨v, U, _, h', h2⟩ | ⟨t, q, _, h', _, h2⟩
  · exact h x h'
  · have := hi.tl _ (sgU_mem h'); simp only [Bo.tl] at this; rw [tl_iff _ _ hi.f0] at this; exact this x h2
  · have := hi.tl _ (rhU_mem h'); simp only [Bo.tl, Bool.and_eq_true, decide_eq_true_eq] at this; rw [h2]; exact this.2
theorem under_ok {s : US} (hi : UInv s) {T : TT} (h : T.ok = true) (hc : (underU s T).cnt = true) : (underU s T).ok = true :=
  putT_ok (fun v U hv => by have := hi.ok _ (sgU_mem hv); simp only [Bo.ok, Bool.and_eq_true] at this; exact this.1.2) (fun v q hv => by have := hi.ok _ (rhU_mem hv); simp only [Bo.ok, Bool.and_eq_true] at this; exact this.2) h hc
theorem under_var {s : US} (hi : UInv s) {T : TT} (h : T.ok = true) {v : Int} (hv : underU s T = .var v) : 0 ≤ v ∧ v < 4096 := by
  have := under_ok hi h (by rw [hv]; rfl)
  rw [hv] at this
  simpa [TT.ok] using this
theorem TT.tl_mono {f f' : Int} (h : f ≤ f') (h0 : 0 ≤ f) {T : TT} (hT : T.tl f = true) : T.tl f' = true := by
  rw [tl_iff _ _ h0] at hT; rw [tl_iff _ _ (by omega)]; intro x hx; have := hT x hx; omega
theorem freeT_var {m : List Bo} {v : Int} (h : freeT m (.var v)) : sgU m v = none := h.1 v rfl
theorem under_fn (s : US) (a b : TT) (r : Rw) : underU s (.fn a r b) = .fn (underU s a) (putR (rhU s.made) r) (underU s b) := rfl
theorem freeT_fn {m : List Bo} {a b : TT} {r : Rw} (h : freeT m (.fn a r b)) : freeT m a ∧ freeR m r ∧ freeT m b :=
  ⟨⟨fun x hx => h.1 x (.inl hx), fun x hx => h.2 x (.inl hx)⟩, fun h0 => h.2 _ (.inr (.inl ⟨h0, rfl⟩)), ⟨fun x hx => h.1 x (.inr hx), fun x hx => h.2 x (.inr (.inr hx))⟩⟩

structure OneRes (s s' : US) (a b : TT) : Prop where
  inv : UInv s'
  ext : Ext s s'
  sol : underU s' a = underU s' b
  fr : s.fresh ≤ s'.fresh
theorem OneRes.of_under {s s' : US} {a b : TT} (h : OneRes s s' (underU s a) (underU s b)) : OneRes s s' a b :=
  ⟨h.inv, h.ext, by rw [← h.ext.ty a, ← h.ext.ty b]; exact h.sol, h.fr⟩
theorem OneRes.symm {s s' : US} {a b : TT} (h : OneRes s s' a b) : OneRes s s' b a := ⟨h.inv, h.ext, h.sol.symm, h.fr⟩
theorem bindU_res {s s' : US} {v : Int} {T : TT} (hi : UInv s) (hv : 0 ≤ v ∧ v < 4096) (hu : sgU s.made v = none) (hT : T.cnt = true → T.ok = true) (hf : freeT s.made T) (ht : T.tl s.fresh = true) (h : bindU s v T = .ok s') : OneRes s s' (.var v) T := by
  obtain ⟨i, f⟩ := bindU_inv hi hv hu (hT (fits_iff.1 (bindU_ok h).2.1).2) (fun _ => trivial) hf ht h
  exact ⟨i, bindU_ext hi hu h, bindU_solves hu hf h, by omega⟩
/-- the four ways of two types under the binds. -/
def stepU (rec : US → TT → TT → Option (Except Nat US)) (s : US) : TT → TT → Option (Except Nat US)
  | .var v, .var u => if v = u then some (.ok s) else some (bindU s v (.var u))
  | .var v, U => some (bindU s v U)
  | U, .var u => some (bindU s u U)
  | .base k, .base k' => if k = k' then some (.ok s) else some (.error 1)
  | .fn a1 r1 b1, .fn a2 r2 b2 =>
    if !(TT.fn a1 r1 b1).fits || !(TT.fn a2 r2 b2).fits then some (.error 3) else
    match rec s a1 a2 with
    | none => none
    | some (.error e) => some (.error e)
    | some (.ok s1) => match rowU s1 r1 r2 with
      | .error e => some (.error e)
      | .ok s2 => rec s2 b1 b2
  | _, _ => some (.error 1)
theorem oneU_succ (n : Nat) (s : US) (a b : TT) : oneU (n + 1) s a b = stepU (oneU n) s (underU s a) (underU s b) := by
  show _ = _
  unfold oneU stepU
  cases underU s a <;> cases underU s b <;> rfl
/-- the parts of two functions' types. -/
structure FnOk (rec : US → TT → TT → Option (Except Nat US)) (s : US) (a1 : TT) (r1 : Rw) (b1 a2 : TT) (r2 : Rw) (b2 : TT) (s' : US) : Prop where
  f1 : (TT.fn a1 r1 b1).fits = true
  f2 : (TT.fn a2 r2 b2).fits = true
  ex : ∃ s1 s2, rec s a1 a2 = some (.ok s1) ∧ rowU s1 r1 r2 = .ok s2 ∧ rec s2 b1 b2 = some (.ok s')
theorem stepU_fn {rec : US → TT → TT → Option (Except Nat US)} {s s' : US} {a1 b1 a2 b2 : TT} {r1 r2 : Rw} (h : stepU rec s (.fn a1 r1 b1) (.fn a2 r2 b2) = some (.ok s')) : FnOk rec s a1 r1 b1 a2 r2 b2 s' := by
  simp only [stepU] at h
  by_cases hf : (!(TT.fn a1 r1 b1).fits || !(TT.fn a2 r2 b2).fits) = true
  · rw [if_pos hf] at h; cases h
  · rw [if_neg hf] at h
    simp only [Bool.or_eq_true, Bool.not_eq_true', not_or, Bool.not_eq_false] at hf
    cases h1 : rec s a1 a2 with
    | none => rw [h1] at h; cases h
    | some e1 =>
      rw [h1] at h
      cases e1 with
      | error e => cases h
      | ok s1 =>
        simp only at h
        cases h2 : rowU s1 r1 r2 with
        | error e => rw [h2] at h; cases h
        | ok s2 => rw [h2] at h; exact ⟨hf.1, hf.2, s1, s2, h1, h2, h⟩
theorem fn_fits {a b : TT} {r : Rw} (h : (TT.fn a r b).fits = true) : a.cnt = true ∧ b.cnt = true ∧ r.cnt = true ∧ a.sz + b.sz + 1 ≤ 256 := by
  obtain ⟨h1, h2⟩ := fits_iff.1 h
  simp only [TT.cnt, Bool.and_eq_true] at h2
  exact ⟨h2.1.1, h2.1.2, h2.2, h1⟩
theorem fn_ok {a b : TT} {r : Rw} (h : (TT.fn a r b).ok = true) : a.ok = true ∧ r.may = true ∧ b.ok = true := by
  simp only [TT.ok, Bool.and_eq_true] at h; exact ⟨h.1.1, h.1.2, h.2⟩
theorem fn_tl {f : Int} {a b : TT} {r : Rw} (h : (TT.fn a r b).tl f = true) : a.tl f = true ∧ r.t < f ∧ b.tl f = true := by
  simp only [TT.tl, Bool.and_eq_true, decide_eq_true_eq] at h; exact ⟨h.1.1, h.1.2, h.2⟩
theorem oneU_res : ∀ (n : Nat) {s s' : US} {a b : TT}, UInv s → TIn s a → TIn s b → oneU n s a b = some (.ok s') → OneRes s s' a b := by
  intro n
  induction n with
  | zero => intro s s' a b _ _ _ h; cases h
  | succ n ih =>
    intro s s' a b hi ha hb h
    rw [oneU_succ] at h
    refine OneRes.of_under ?_
    have fA := under_free hi a
    have fB := under_free hi b
    have tA := under_tl hi ha.tl
    have tB := under_tl hi hb.tl
    have oA := under_ok hi ha.ok
    have oB := under_ok hi hb.ok
    have vA := fun v => under_var hi ha.ok (v := v)
    have vB := fun v => under_var hi hb.ok (v := v)
    generalize underU s a = A at *
    generalize underU s b = B at *
    cases A with
    | var v =>
      have hv := vA v rfl
      have hu := freeT_var fA
      cases B with
      | var u =>
        simp only [stepU] at h
        by_cases e : v = u
        · rw [if_pos e] at h; injection h with h; injection h with h; subst h e
          exact ⟨hi, Ext.refl hi, rfl, by omega⟩
        · rw [if_neg e] at h; injection h with h
          exact bindU_res hi hv hu oB fB tB h
      | base k => simp only [stepU] at h; injection h with h; exact bindU_res hi hv hu oB fB tB h
      | fn a2 r2 b2 => simp only [stepU] at h; injection h with h; exact bindU_res hi hv hu oB fB tB h
    | base k =>
      cases B with
      | var u => simp only [stepU] at h; injection h with h; exact (bindU_res hi (vB u rfl) (freeT_var fB) oA fA tA h).symm
      | base k' =>
        simp only [stepU] at h
        by_cases e : k = k'
        · rw [if_pos e] at h; injection h with h; injection h with h; subst h e
          exact ⟨hi, Ext.refl hi, rfl, by omega⟩
        · rw [if_neg e] at h; cases h
      | fn a2 r2 b2 => cases h
    | fn a1 r1 b1 =>
      cases B with
      | var u => simp only [stepU] at h; injection h with h; exact (bindU_res hi (vB u rfl) (freeT_var fB) oA fA tA h).symm
      | base k' => cases h
      | fn a2 r2 b2 =>
        obtain ⟨f1, f2, s1, s2, h1, h2, h3⟩ := stepU_fn h
        obtain ⟨oa1, or1, ob1⟩ := fn_ok (oA (fits_iff.1 f1).2)
        obtain ⟨oa2, or2, ob2⟩ := fn_ok (oB (fits_iff.1 f2).2)
        obtain ⟨ta1, tr1, tb1⟩ := fn_tl tA
        obtain ⟨ta2, tr2, tb2⟩ := fn_tl tB
        have g1 := ih hi ⟨oa1, ta1⟩ ⟨oa2, ta2⟩ h1
        have g2 := rowU_res g1.inv or1 or2 (by have := g1.fr; omega) (by have := g1.fr; omega) h2
        have le2 : s.fresh ≤ s2.fresh := by have := g1.fr; have := g2.fr; omega
        have g3 := ih g2.inv ⟨ob1, TT.tl_mono le2 hi.f0 tb1⟩ ⟨ob2, TT.tl_mono le2 hi.f0 tb2⟩ h3
        have e23 := g2.ext.trans g3.ext
        refine ⟨g3.inv, g1.ext.trans e23, ?_, by have := g3.fr; omega⟩
        rw [under_fn, under_fn, g3.sol]
        congr 1
        · rw [← e23.ty a1, ← e23.ty a2, g1.sol]
        · rw [← g3.ext.rw r1, ← g3.ext.rw r2, g2.sol]
/- It comes to an end. -/
theorem pigeon : ∀ (k : Nat) (l : List Int), l.Nodup → (∀ x ∈ l, 0 ≤ x ∧ x < (k : Int)) → l.length ≤ k
  | 0, l, _, h => by
    cases l with
    | nil => simp
    | cons a l => have := h a (List.mem_cons_self ..); omega
  | k + 1, l, hn, h => by
    have h1 : (l.filter (fun x => decide (x ≠ (k : Int)))).length ≤ k := pigeon k _ (hn.filter _) (by
      intro x hx
      obtain ⟨h1, h2⟩ := List.mem_filter.1 hx
      have := h x h1
      simp at h2
      omega)
    have h2 : (l.filter (fun x => decide (x = (k : Int)))).length ≤ 1 := by
      have hn2 := hn.filter (fun x => decide (x = (k : Int)))
      have hall : ∀ x ∈ l.filter (fun x => decide (x = (k : Int))), x = (k : Int) := fun x hx => by simpa using (List.mem_filter.1 hx).2
      generalize l.filter (fun x => decide (x = (k : Int))) = m at *
      cases m with
      | nil => simp
      | cons a m =>
        cases m with
        | nil => simp
        | cons b m =>
          rw [hall a (by simp), hall b (by simp)] at hn2
          simp at hn2
    have h3 : l.length = (l.filter (fun x => decide (x ≠ (k : Int)))).length + (l.filter (fun x => decide (x = (k : Int)))).length := by
      clear h1 h2 hn h
      induction l with
      | nil => rfl
      | cons a l ih => by_cases e : a = (k : Int) <;> simp [e] at * <;> omega
    omega
theorem tyN_bd {s : US} (hi : UInv s) : (tyN s.made).length ≤ 4096 := by
  refine pigeon 4096 _ hi.ty fun x hx => ?_
  obtain ⟨b, hb, hx⟩ := List.mem_filterMap.1 hx
  have := hi.ok b hb
  cases b with
  | rw _ _ => cases hx
  | ty v T => simp only [Option.some.injEq] at hx; subst hx; simp only [Bo.ok, Bool.and_eq_true, decide_eq_true_eq] at this; omega
theorem rwN_bd {s : US} (hi : UInv s) : (rwN s.made).length ≤ s.fresh.toNat := by
  refine pigeon _ _ hi.rw fun x hx => ?_
  obtain ⟨b, hb, hx⟩ := List.mem_filterMap.1 hx
  have h1 := hi.ok b hb
  have h2 := hi.tl b hb
  cases b with
  | ty _ _ => cases hx
  | rw v T => simp only [Option.some.injEq] at hx; subst hx; simp only [Bo.ok, Bo.tl, Bool.and_eq_true, decide_eq_true_eq] at h1 h2; omega
theorem made_bd {s : US} (hi : UInv s) : s.made.length ≤ 8192 := by
  have h1 := tyN_bd hi
  have h2 := rwN_bd hi
  have h3 : s.made.length = (tyN s.made).length + (rwN s.made).length := by
    generalize s.made = m
    induction m with
    | nil => rfl
    | cons b m ih => cases b <;> simp_all [tyN, rwN] <;> omega
  have := hi.f1; omega
/-- how many variables are not bound. -/
def muU (s : US) : Nat := (4096 - (tyN s.made).length) + (s.fresh.toNat - (rwN s.made).length)
theorem bindU_mu {s s' : US} {v : Int} {T : TT} (hi' : UInv s') (h : bindU s v T = .ok s') : muU s' < muU s := by
  have h1 := tyN_bd hi'
  have h2 := rwN_bd hi'
  obtain ⟨_, _, rfl, _⟩ := bindU_ok h
  unfold muU
  simp only [tyN_bindU, rwN_bindU, List.length_append, List.length_cons, List.length_nil] at *
  omega
theorem bindR_mu {s s' : US} {v : Int} {r : Rw} (hi' : UInv s') (h : bindR s v r = .ok s') : muU s' < muU s := by
  have h1 := tyN_bd hi'
  have h2 := rwN_bd hi'
  obtain ⟨rfl, _⟩ := bindR_ok h
  unfold muU
  simp only [tyN_bindR, rwN_bindR, List.length_append, List.length_cons, List.length_nil] at *
  omega

theorem rowU_mu {s s' : US} {a b : Rw} (hi : UInv s) (ha : a.may = true) (hb : b.may = true) (hta : a.t < s.fresh) (htb : b.t < s.fresh) (h : rowU s a b = .ok s') : s' = s ∨ muU s' < muU s := by
  have hres := rowU_res hi ha hb hta htb h
  obtain ⟨a1, a2, a3⟩ := under_t hi ha hta
  obtain ⟨b1, b2, b3⟩ := under_t hi hb htb
  obtain ⟨hA, hB, hf, hr⟩ := rowU_ok a1 b1 h
  have hf0 := hi.f0
  cases hr with
  | same h => exact .inl rfl
  | left _ hl h0 hn hbd => exact .inr (bindR_mu hres.inv hbd)
  | right _ hl h0 hn hbd => exact .inr (bindR_mu hres.inv hbd)
  | both s1 _ h0 h1 hn hbd hbd' =>
    have h2 := bindR_mu hres.inv hbd'
    have e1 := (bindR_ok hbd).1
    have e2 : muU s1 ≤ muU s := by
      have := rwN_bd hi
      rw [e1]
      unfold muU
      simp only [tyN_bindR, rwN_bindR, List.length_append, List.length_cons, List.length_nil] at *
      omega
    exact .inr (by omega)
theorem oneU_mu : ∀ (n : Nat) {s s' : US} {a b : TT}, UInv s → TIn s a → TIn s b → oneU n s a b = some (.ok s') → s' = s ∨ muU s' < muU s := by
  intro n
  induction n with
  | zero => intro s s' a b _ _ _ h; cases h
  | succ n ih =>
    intro s s' a b hi ha hb h
    have hres := oneU_res (n + 1) hi ha hb h
    rw [oneU_succ] at h
    have tA := under_tl hi ha.tl
    have tB := under_tl hi hb.tl
    have oA := under_ok hi ha.ok
    have oB := under_ok hi hb.ok
    generalize underU s a = A at *
    generalize underU s b = B at *
    cases A with
    | var v =>
      cases B with
      | var u =>
        simp only [stepU] at h
        by_cases e : v = u
        · rw [if_pos e] at h; injection h with h; injection h with h; exact .inl h.symm
        · rw [if_neg e] at h; injection h with h; exact .inr (bindU_mu hres.inv h)
      | base k => simp only [stepU] at h; injection h with h; exact .inr (bindU_mu hres.inv h)
      | fn a2 r2 b2 => simp only [stepU] at h; injection h with h; exact .inr (bindU_mu hres.inv h)
    | base k =>
      cases B with
      | var u => simp only [stepU] at h; injection h with h; exact .inr (bindU_mu hres.inv h)
      | base k' =>
        simp only [stepU] at h
        by_cases e : k = k'
        · rw [if_pos e] at h; injection h with h; injection h with h; exact .inl h.symm
        · rw [if_neg e] at h; cases h
      | fn a2 r2 b2 => cases h
    | fn a1 r1 b1 =>
      cases B with
      | var u => simp only [stepU] at h; injection h with h; exact .inr (bindU_mu hres.inv h)
      | base k' => cases h
      | fn a2 r2 b2 =>
        obtain ⟨f1, f2, s1, s2, h1, h2, h3⟩ := stepU_fn h
        obtain ⟨oa1, or1, ob1⟩ := fn_ok (oA (fits_iff.1 f1).2)
        obtain ⟨oa2, or2, ob2⟩ := fn_ok (oB (fits_iff.1 f2).2)
        obtain ⟨ta1, tr1, tb1⟩ := fn_tl tA
        obtain ⟨ta2, tr2, tb2⟩ := fn_tl tB
        have g1 := oneU_res n hi ⟨oa1, ta1⟩ ⟨oa2, ta2⟩ h1
        have l1 := g1.fr
        have g2 := rowU_res g1.inv or1 or2 (by omega) (by omega) h2
        have l2 := g2.fr
        have m1 := ih hi ⟨oa1, ta1⟩ ⟨oa2, ta2⟩ h1
        have m2 := rowU_mu g1.inv or1 or2 (by omega) (by omega) h2
        have m3 := ih g2.inv ⟨ob1, TT.tl_mono (by omega) hi.f0 tb1⟩ ⟨ob2, TT.tl_mono (by omega) hi.f0 tb2⟩ h3
        rcases m1 with rfl | m1 <;> rcases m2 with rfl | m2 <;> rcases m3 with rfl | m3
        · exact .inl rfl
        all_goals (right; omega)
theorem oneU_more : ∀ (n : Nat) {s : US} {a b : TT} {r : Except Nat US}, oneU n s a b = some r → oneU (n + 1) s a b = some r := by
  intro n
  induction n with
  | zero => intro s a b r h; cases h
  | succ n ih =>
    intro s a b r h
    rw [oneU_succ] at h ⊢
    generalize underU s a = A at *
    generalize underU s b = B at *
    cases A with
    | var v => cases B <;> exact h
    | base k => cases B <;> exact h
    | fn a1 r1 b1 =>
      cases B with
      | var u => exact h
      | base k' => exact h
      | fn a2 r2 b2 =>
        simp only [stepU] at h ⊢
        by_cases hf : (!(TT.fn a1 r1 b1).fits || !(TT.fn a2 r2 b2).fits) = true
        · rw [if_pos hf] at h ⊢; exact h
        · rw [if_neg hf] at h ⊢
          cases h1 : oneU n s a1 a2 with
          | none => rw [h1] at h; cases h
          | some e1 =>
            rw [h1] at h
            rw [ih h1]
            cases e1 with
            | error e => exact h
            | ok s1 =>
              simp only at h ⊢
              cases h2 : rowU s1 r1 r2 with
              | error e => rw [h2] at h; exact h
              | ok s2 => rw [h2] at h; simp only at h ⊢; exact ih h
theorem oneU_le {n m : Nat} {s : US} {a b : TT} {r : Except Nat US} (h : oneU n s a b = some r) (hm : n ≤ m) : oneU m s a b = some r := by
  obtain ⟨k, rfl⟩ := Nat.exists_eq_add_of_le hm
  clear hm
  induction k with
  | zero => exact h
  | succ k ih => exact oneU_more _ ih
theorem oneU_total : ∀ (m z : Nat) (s : US) (a b : TT), muU s ≤ m → (underU s a).sz ≤ z → UInv s → TIn s a → TIn s b → ∃ n r, oneU n s a b = some r := by
  intro m
  induction m using Nat.strongRecOn with
  | _ m ihm =>
  intro z
  induction z with
  | zero => intro s a b _ hz; have := (underU s a).sz_pos; omega
  | succ z ihz =>
    intro s a b hm hz hi ha hb
    have fA := under_free hi a
    have fB := under_free hi b
    have tA := under_tl hi ha.tl
    have tB := under_tl hi hb.tl
    have oA := under_ok hi ha.ok
    have oB := under_ok hi hb.ok
    suffices hs : ∃ n r, stepU (oneU n) s (underU s a) (underU s b) = some r by
      obtain ⟨n, r, hr⟩ := hs
      exact ⟨n + 1, r, by rw [oneU_succ]; exact hr⟩
    generalize underU s a = A at *
    generalize underU s b = B at *
    cases A with
    | var v =>
      cases B with
      | var u => refine ⟨0, ?_⟩; simp only [stepU]; by_cases e : v = u <;> simp [e]
      | base k => exact ⟨0, _, rfl⟩
      | fn a2 r2 b2 => exact ⟨0, _, rfl⟩
    | base k =>
      cases B with
      | var u => exact ⟨0, _, rfl⟩
      | base k' => refine ⟨0, ?_⟩; simp only [stepU]; by_cases e : k = k' <;> simp [e]
      | fn a2 r2 b2 => exact ⟨0, _, rfl⟩
    | fn a1 r1 b1 =>
      cases B with
      | var u => exact ⟨0, _, rfl⟩
      | base k' => exact ⟨0, _, rfl⟩
      | fn a2 r2 b2 =>
        simp only [stepU]
        by_cases hf : (!(TT.fn a1 r1 b1).fits || !(TT.fn a2 r2 b2).fits) = true
        · exact ⟨0, _, by rw [if_pos hf]⟩
        · simp only [if_neg hf]
          simp only [Bool.or_eq_true, Bool.not_eq_true', not_or, Bool.not_eq_false] at hf
          obtain ⟨oa1, or1, ob1⟩ := fn_ok (oA (fits_iff.1 hf.1).2)
          obtain ⟨oa2, or2, ob2⟩ := fn_ok (oB (fits_iff.1 hf.2).2)
          obtain ⟨ta1, tr1, tb1⟩ := fn_tl tA
          obtain ⟨ta2, tr2, tb2⟩ := fn_tl tB
          obtain ⟨fa1, fr1, fb1⟩ := freeT_fn fA
          have hsz : a1.sz + b1.sz + 1 ≤ z + 1 := hz
          have pa := a1.sz_pos
          have pb := b1.sz_pos
          obtain ⟨n1, e1, h1⟩ := ihz s a1 a2 hm (by rw [show underU s a1 = a1 from freeT_id fa1]; omega) hi ⟨oa1, ta1⟩ ⟨oa2, ta2⟩
          cases e1 with
          | error e => exact ⟨n1, .error e, by rw [h1]⟩
          | ok s1 =>
            cases h2 : rowU s1 r1 r2 with
            | error e => exact ⟨n1, .error e, by rw [h1]; simp only; rw [h2]⟩
            | ok s2 =>
              have g1 := oneU_res n1 hi ⟨oa1, ta1⟩ ⟨oa2, ta2⟩ h1
              have l1 := g1.fr
              have g2 := rowU_res g1.inv or1 or2 (by omega) (by omega) h2
              have l2 := g2.fr
              have m1 := oneU_mu n1 hi ⟨oa1, ta1⟩ ⟨oa2, ta2⟩ h1
              have m2 := rowU_mu g1.inv or1 or2 (by omega) (by omega) h2
              have hx : ∃ n3 r3, oneU n3 s2 b1 b2 = some r3 := by
                have hb1' : TIn s2 b1 := ⟨ob1, TT.tl_mono (by omega) hi.f0 tb1⟩
                have hb2' : TIn s2 b2 := ⟨ob2, TT.tl_mono (by omega) hi.f0 tb2⟩
                by_cases e : s2 = s
                · subst e
                  exact ihz s2 b1 b2 hm (by rw [show underU s2 b1 = b1 from freeT_id fb1]; omega) hi hb1' hb2'
                · have hlt : muU s2 < muU s := by
                    rcases m1 with rfl | m1 <;> rcases m2 with rfl | m2
                    · exact absurd rfl e
                    all_goals omega
                  exact ihm (muU s2) (by omega) _ s2 b1 b2 (Nat.le_refl _) (Nat.le_refl _) g2.inv hb1' hb2'
              obtain ⟨n3, r3, h3⟩ := hx
              refine ⟨max n1 n3, r3, ?_⟩
              rw [oneU_le h1 (Nat.le_max_left _ _)]
              simp only
              rw [h2]
              exact oneU_le h3 (Nat.le_max_right _ _)

/- Any two types that are one under some binds are made one, and what is made is as general. -/
def NonR (ρ : Int → Option Rw) : Prop := ∀ v q, ρ v = some q → 0 ≤ q.a ∧ 0 ≤ q.b ∧ 0 ≤ q.c ∧ 0 ≤ q.d
structure Sol (σ : Int → Option TT) (ρ : Int → Option Rw) (m : List Bo) : Prop where
  ty : ∀ v T, sgU m v = some T → putT σ ρ T = putT σ ρ (.var v)
  rw : ∀ t q, 0 ≤ t → rhU m t = some q → putR ρ q = putR ρ ⟨0, 0, 0, 0, t⟩
def hatR (ρ : Int → Option Rw) (t : Int) : Rw := putR ρ ⟨0, 0, 0, 0, t⟩
theorem putR_hat (ρ : Int → Option Rw) (r : Rw) : putR ρ r = ⟨(hatR ρ r.t).a + r.a, (hatR ρ r.t).b + r.b, (hatR ρ r.t).c + r.c, (hatR ρ r.t).d + r.d, (hatR ρ r.t).t⟩ := by
  obtain ⟨a, b, c, d, t⟩ := r
  unfold hatR putR
  by_cases h : t < 0
  · simp only [if_pos h]; simp
  · simp only [if_neg h]
    cases ρ t with
    | none => simp
    | some q => simp
theorem hatR_non {ρ : Int → Option Rw} (h : NonR ρ) (t : Int) : 0 ≤ (hatR ρ t).a ∧ 0 ≤ (hatR ρ t).b ∧ 0 ≤ (hatR ρ t).c ∧ 0 ≤ (hatR ρ t).d := by
  unfold hatR putR
  by_cases h0 : t < 0
  · simp only [if_pos h0]; simp
  · simp only [if_neg h0]
    cases hq : ρ t with
    | none => simp
    | some q => have := h t q hq; simp only; omega
theorem hatR_neg {ρ : Int → Option Rw} {t : Int} (h : t < 0) : hatR ρ t = ⟨0, 0, 0, 0, t⟩ := by unfold hatR putR; rw [if_pos h]
theorem putT_congr {σ σ' : Int → Option TT} {ρ ρ' : Int → Option Rw} : ∀ (T : TT), (∀ v, hasV T v → putT σ ρ (.var v) = putT σ' ρ' (.var v)) → (∀ r, (0 ≤ r.t → hasT T r.t) → putR ρ r = putR ρ' r) → putT σ ρ T = putT σ' ρ' T
  | .base _, _, _ => rfl
  | .var v, h, _ => h v rfl
  | .fn a r b, h, h' => by
    show TT.fn _ _ _ = TT.fn _ _ _
    rw [putT_congr a (fun v hv => h v (.inl hv)) (fun q hq => h' q fun h0 => .inl (hq h0)), putT_congr b (fun v hv => h v (.inr hv)) (fun q hq => h' q fun h0 => .inr (.inr (hq h0))), h' r (fun h0 => .inr (.inl ⟨h0, rfl⟩))]
theorem Sol.row {σ : Int → Option TT} {ρ : Int → Option Rw} {m : List Bo} (h : Sol σ ρ m) (q : Rw) : putR ρ (putR (rhU m) q) = putR ρ q := by
  by_cases h0 : q.t < 0
  · have : putR (rhU m) q = q := by unfold putR; rw [if_pos h0]
    rw [this]
  · cases hq : rhU m q.t with
    | none =>
      have : putR (rhU m) q = q := by unfold putR; rw [if_neg h0, hq]
      rw [this]
    | some p =>
      have : putR (rhU m) q = ⟨p.a + q.a, p.b + q.b, p.c + q.c, p.d + q.d, p.t⟩ := by unfold putR; rw [if_neg h0, hq]
      rw [this]
      have h1 := h.rw q.t p (by omega) hq
      rw [putR_hat ρ p] at h1
      have e : putR ρ ⟨0, 0, 0, 0, q.t⟩ = hatR ρ q.t := rfl
      rw [e] at h1
      rw [putR_hat ρ q, putR_hat, ← h1]
      simp only [Rw.mk.injEq, and_true]
      omega
theorem Sol.all {σ : Int → Option TT} {ρ : Int → Option Rw} {m : List Bo} (h : Sol σ ρ m) : ∀ X, putT σ ρ (putT (sgU m) (rhU m) X) = putT σ ρ X
  | .base _ => rfl
  | .var v => by
    show putT σ ρ ((sgU m v).getD (.var v)) = _
    cases hq : sgU m v with
    | none => rfl
    | some T => exact h.ty v T hq
  | .fn a r b => by
    show TT.fn _ _ _ = TT.fn _ _ _
    rw [h.all a, h.all b, h.row r]
theorem put_sz_lt {σ : Int → Option TT} {ρ : Int → Option Rw} {v : Int} : ∀ {T : TT}, hasV T v → (putT σ ρ (.var v)).sz ≤ (putT σ ρ T).sz ∧ (T ≠ .var v → (putT σ ρ (.var v)).sz < (putT σ ρ T).sz)
  | .base _, h => by cases h
  | .var u, h => by
    have : v = u := h
    subst this; exact ⟨Nat.le_refl _, fun h => absurd rfl h⟩
  | .fn a r b, h => by
    show _ ≤ (putT σ ρ a).sz + (putT σ ρ b).sz + 1 ∧ (_ → _ < (putT σ ρ a).sz + (putT σ ρ b).sz + 1)
    rcases h with h | h
    · have := (put_sz_lt (σ := σ) (ρ := ρ) h).1; exact ⟨by omega, fun _ => by omega⟩
    · have := (put_sz_lt (σ := σ) (ρ := ρ) h).1; exact ⟨by omega, fun _ => by omega⟩
/-- what is answered, if there are binds under which both are one. -/
structure Comp (σ : Int → Option TT) (ρ : Int → Option Rw) (s s' : US) : Prop where
  ex : ∃ ρ', Sol σ ρ' s'.made ∧ NonR ρ' ∧ ∀ x, x < s.fresh → ρ' x = ρ x
def CompR (σ : Int → Option TT) (ρ : Int → Option Rw) (s : US) (r : Except Nat US) : Prop := r = .error 3 ∨ ∃ s', r = .ok s' ∧ Comp σ ρ s s'
theorem bindU_comp {σ : Int → Option TT} {ρ : Int → Option Rw} {s : US} {v : Int} {T : TT} (hS : Sol σ ρ s.made) (hN : NonR ρ) (hu : sgU s.made v = none) (hne : T ≠ .var v) (he : putT σ ρ (.var v) = putT σ ρ T) : CompR σ ρ s (bindU s v T) := by
  cases hb : bindU s v T with
  | error e =>
    left
    unfold bindU at hb
    cases h1 : hasVb T v
    · rw [h1, if_neg (by simp)] at hb
      by_cases h2 : (!T.fits) = true
      · rw [if_pos h2] at hb; injection hb with hb; rw [← hb]
      · rw [if_neg h2] at hb
        cases h3 : putM (sg1 v T) rh0 s.made with
        | none => rw [h3] at hb; injection hb with hb; rw [← hb]
        | some m => rw [h3] at hb; cases hb
    · have := (put_sz_lt (σ := σ) (ρ := ρ) ((hasVb_iff T v).1 h1)).2 hne
      rw [he] at this; omega
  | ok s' =>
    right
    refine ⟨s', rfl, ρ, ?_, hN, fun _ _ => rfl⟩
    obtain ⟨_, _, rfl, _⟩ := bindU_ok hb
    have hput : ∀ X, putT σ ρ (putT (sg1 v T) rh0 X) = putT σ ρ X := by
      intro X
      rw [putT_then]
      refine putT_congr X (fun u _ => ?_) (fun r _ => ?_)
      · show (thenT (sg1 v T) σ ρ u).getD _ = _
        unfold thenT sg1
        by_cases e : u = v
        · rw [if_pos e]; simp only [Option.getD_some]; rw [← he, e]
        · rw [if_neg e]; rfl
      · rw [← putR_then, putR_rh0]
    constructor
    · intro u U hU
      simp only [sgU_bindU] at hU
      by_cases e : u = v
      · rw [if_pos e] at hU; injection hU with hU; rw [← hU, e]; exact he.symm
      · rw [if_neg e] at hU
        cases hq : sgU s.made u with
        | none => rw [hq] at hU; cases hU
        | some W => rw [hq] at hU; injection hU with hU; rw [← hU, hput]; exact hS.ty u W hq
    · intro t q h0 hq
      simp only [rhU_bindU] at hq
      exact hS.rw t q h0 hq
theorem bindR_comp {σ : Int → Option TT} {ρ : Int → Option Rw} {s : US} {v : Int} {r : Rw} (hS : Sol σ ρ s.made) (hv : 0 ≤ v) (he : putR ρ ⟨0, 0, 0, 0, v⟩ = putR ρ r) : bindR s v r = .error 3 ∨ ∃ s', bindR s v r = .ok s' ∧ Sol σ ρ s'.made := by
  cases hb : bindR s v r with
  | error e =>
    left
    unfold bindR at hb
    cases h3 : putM sg0 (rh1 v r) s.made with
    | none => rw [h3] at hb; injection hb with hb; rw [← hb]
    | some m => rw [h3] at hb; cases hb
  | ok s' =>
    right
    refine ⟨s', rfl, ?_⟩
    obtain ⟨rfl, _⟩ := bindR_ok hb
    have hputR : ∀ q, putR ρ (putR (rh1 v r) q) = putR ρ q := by
      intro q
      by_cases e : q.t = v
      · rw [put1_at e hv, putR_hat, putR_hat ρ q, e]
        have e2 : putR ρ ⟨0, 0, 0, 0, v⟩ = hatR ρ v := rfl
        rw [e2, putR_hat ρ r] at he
        rw [he]
        simp only [Rw.mk.injEq, and_true]
        omega
      · rw [put1_not e]
    have hput : ∀ X, putT σ ρ (putT sg0 (rh1 v r) X) = putT σ ρ X := by
      intro X
      rw [putT_then]
      refine putT_congr X (fun u _ => ?_) (fun q _ => ?_)
      · rfl
      · rw [← putR_then, hputR]
    constructor
    · intro u U hU
      simp only [sgU_bindR] at hU
      cases hq : sgU s.made u with
      | none => rw [hq] at hU; cases hU
      | some W => rw [hq] at hU; injection hU with hU; rw [← hU, hput]; exact hS.ty u W hq
    · intro t q h0 hq
      simp only [rhU_bindR] at hq
      by_cases e : t = v
      · rw [if_pos e] at hq; injection hq with hq; rw [← hq, e]; exact he.symm
      · rw [if_neg e] at hq
        cases hq' : rhU s.made t with
        | none => rw [hq'] at hq; cases hq
        | some W => rw [hq'] at hq; injection hq with hq; rw [← hq, hputR]; exact hS.rw t W h0 hq'

theorem Sol.more {σ : Int → Option TT} {ρ : Int → Option Rw} {s : US} (hi : UInv s) (hS : Sol σ ρ s.made) (R : Rw) : Sol σ (upd ρ s.fresh R) s.made := by
  have hr : ∀ q : Rw, q.t < s.fresh → putR (upd ρ s.fresh R) q = putR ρ q := by
    intro q hq
    unfold putR upd
    rw [if_neg (show ¬ q.t = s.fresh by omega)]
  have hT : ∀ T : TT, T.tl s.fresh = true → putT σ (upd ρ s.fresh R) T = putT σ ρ T := by
    intro T hT
    rw [tl_iff _ _ hi.f0] at hT
    exact putT_on T (fun _ _ => rfl) (fun x hx => by unfold upd; rw [if_neg (by have := hT x hx; omega)])
  constructor
  · intro v T h
    have := hi.tl _ (sgU_mem h)
    rw [hT T this]
    exact hS.ty v T h
  · intro t q h0 h
    have := hi.tl _ (rhU_mem h)
    simp only [Bo.tl, Bool.and_eq_true, decide_eq_true_eq] at this
    rw [hr q this.2, hr ⟨0, 0, 0, 0, t⟩ this.1]
    exact hS.rw t q h0 h
theorem rowU_comp {σ : Int → Option TT} {ρ : Int → Option Rw} {s : US} {a b : Rw} (hi : UInv s) (ha : a.may = true) (hb : b.may = true) (hta : a.t < s.fresh) (htb : b.t < s.fresh) (hS : Sol σ ρ s.made) (hN : NonR ρ) (he : putR ρ a = putR ρ b) : CompR σ ρ s (rowU s a b) := by
  have hres := fun s' => rowU_res (s' := s') hi ha hb hta htb
  obtain ⟨a1, a2, a3⟩ := under_t hi ha hta
  obtain ⟨b1, b2, b3⟩ := under_t hi hb htb
  have hok := fun s' => rowU_ok (s' := s') a1 b1
  have he' : putR ρ (putR (rhU s.made) a) = putR ρ (putR (rhU s.made) b) := by rw [hS.row, hS.row]; exact he
  have huA := under_freeR hi a
  have huB := under_freeR hi b
  unfold rowU at *
  generalize putR (rhU s.made) a = A at *
  generalize putR (rhU s.made) b = B at *
  rw [putR_hat ρ A, putR_hat ρ B] at he'
  simp only [Rw.mk.injEq] at he'
  have nA := hatR_non hN A.t
  have nB := hatR_non hN B.t
  have hA0 : A.t < 0 → hatR ρ A.t = ⟨0, 0, 0, 0, A.t⟩ := hatR_neg
  have hB0 : B.t < 0 → hatR ρ B.t = ⟨0, 0, 0, 0, B.t⟩ := hatR_neg
  have hf0 := hi.f0
  cases hu : uniR A B s.fresh with
  | none =>
    exfalso
    unfold uniR uniT at hu
    simp only [mxz_zero] at hu
    by_cases h1 : A.t = B.t
    · rw [if_pos h1] at hu
      rw [h1] at he' nA
      rw [if_pos (by omega)] at hu
      cases hu
    · rw [if_neg h1] at hu
      by_cases h2 : B.t < 0
      · have h3 := hB0 h2
        rw [h3] at he' nB
        simp only at he' nB
        rw [if_neg (by omega), if_pos (.inl h2)] at hu
        cases hu
      · by_cases h4 : A.t < 0
        · have h3 := hA0 h4
          rw [h3] at he' nA
          simp only at he' nA
          rw [if_neg (by omega), if_neg (by omega), if_pos (.inl h4)] at hu
          cases hu
        · rw [if_neg (by omega)] at hu
          split at hu
          · cases hu
          · split at hu
            · cases hu
            · cases hu
  | some l =>
    rw [hu] at hok
    simp only at hok ⊢
    by_cases hc : (!A.cnt || !B.cnt || decide (4096 ≤ s.fresh)) = true
    · left; rw [if_pos hc]
    rw [if_neg hc] at hok ⊢
    simp only [Bool.or_eq_true, Bool.not_eq_true', decide_eq_true_eq, not_or, Bool.not_eq_false] at hc
    obtain ⟨⟨hA, hB⟩, hf⟩ := hc
    clear hok hres
    unfold uniR uniT at hu
    simp only [mxz_zero] at hu
    by_cases h1 : A.t = B.t
    · rw [if_pos h1] at hu
      rw [h1] at he' nA
      rw [if_pos (by omega)] at hu
      injection hu with hu; subst hu
      right
      refine ⟨⟨s.made, s.fresh⟩, rfl, ⟨ρ, hS, hN, fun _ _ => rfl⟩⟩
    · rw [if_neg h1] at hu
      split at hu
      · cases hu
      · rename_i h2
        split at hu
        · rename_i h3
          injection hu with hu; subst hu
          have hk : putR ρ ⟨0, 0, 0, 0, A.t⟩ = putR ρ (moreR B A B.t) := by
            rw [putR_hat ρ (moreR B A B.t), show putR ρ ⟨0, 0, 0, 0, A.t⟩ = hatR ρ A.t from rfl]
            simp only [moreR]
            rw [mxz_of (by omega), mxz_of (by omega), mxz_of (by omega), mxz_of (by omega)]
            exact rw_eq (by simp only; omega) (by simp only; omega) (by simp only; omega) (by simp only; omega) (by simp only; omega)
          rw [if_neg (show ¬ List.length [_] = 2 by simp)]
          simp only [bindRs]
          rcases bindR_comp (s := ⟨s.made, s.fresh⟩) hS (show 0 ≤ A.t by omega) hk with h | ⟨s', h, hS'⟩
          · left; unfold moreR at h; simp only [h]
          · right; unfold moreR at h; simp only [h]; exact ⟨s', rfl, ρ, hS', hN, fun _ _ => rfl⟩
        · rename_i h3
          split at hu
          · rename_i h4
            injection hu with hu; subst hu
            have hk : putR ρ ⟨0, 0, 0, 0, B.t⟩ = putR ρ (moreR A B A.t) := by
              rw [putR_hat ρ (moreR A B A.t), show putR ρ ⟨0, 0, 0, 0, B.t⟩ = hatR ρ B.t from rfl]
              simp only [moreR]
              rw [mxz_of (by omega), mxz_of (by omega), mxz_of (by omega), mxz_of (by omega)]
              exact rw_eq (by simp only; omega) (by simp only; omega) (by simp only; omega) (by simp only; omega) (by simp only; omega)
            rw [if_neg (show ¬ List.length [_] = 2 by simp)]
            simp only [bindRs]
            rcases bindR_comp (s := ⟨s.made, s.fresh⟩) hS (show 0 ≤ B.t by omega) hk with h | ⟨s', h, hS'⟩
            · left; unfold moreR at h; simp only [h]
            · right; unfold moreR at h; simp only [h]; exact ⟨s', rfl, ρ, hS', hN, fun _ _ => rfl⟩
          · rename_i h4
            injection hu with hu; subst hu
            rw [if_pos (show List.length [_, _] = 2 from rfl)]
            simp only [bindRs]
            let R : Rw := ⟨(hatR ρ A.t).a - mxz (B.a - A.a), (hatR ρ A.t).b - mxz (B.b - A.b), (hatR ρ A.t).c - mxz (B.c - A.c), (hatR ρ A.t).d - mxz (B.d - A.d), (hatR ρ A.t).t⟩
            have hRn : 0 ≤ R.a ∧ 0 ≤ R.b ∧ 0 ≤ R.c ∧ 0 ≤ R.d := by
              show 0 ≤ (hatR ρ A.t).a - mxz (B.a - A.a) ∧ 0 ≤ (hatR ρ A.t).b - mxz (B.b - A.b) ∧ 0 ≤ (hatR ρ A.t).c - mxz (B.c - A.c) ∧ 0 ≤ (hatR ρ A.t).d - mxz (B.d - A.d)
              unfold mxz
              refine ⟨?_, ?_, ?_, ?_⟩ <;> (split <;> omega)
            have hN' : NonR (upd ρ s.fresh R) := by
              intro v q hq
              unfold upd at hq
              by_cases e : v = s.fresh
              · rw [if_pos e] at hq; injection hq with hq; rw [← hq]; exact hRn
              · rw [if_neg e] at hq; exact hN v q hq
            have hS0 : Sol σ (upd ρ s.fresh R) s.made := hS.more hi R
            have hhF : hatR (upd ρ s.fresh R) s.fresh = R := by
              unfold hatR putR upd
              simp only [if_neg (show ¬ s.fresh < 0 by omega), if_pos]
              exact rw_eq (by simp) (by simp) (by simp) (by simp) rfl
            have hhO : ∀ t, t < s.fresh → hatR (upd ρ s.fresh R) t = hatR ρ t := by
              intro t ht
              unfold hatR putR upd
              simp only [if_neg (show ¬ t = s.fresh by omega)]
            have hkA : putR (upd ρ s.fresh R) ⟨0, 0, 0, 0, A.t⟩ = putR (upd ρ s.fresh R) (moreR B A s.fresh) := by
              rw [putR_hat (upd ρ s.fresh R) (moreR B A s.fresh), show putR (upd ρ s.fresh R) ⟨0, 0, 0, 0, A.t⟩ = hatR (upd ρ s.fresh R) A.t from rfl]
              simp only [moreR]
              rw [hhF, hhO _ a3]
              exact rw_eq (by show _ = (hatR ρ A.t).a - mxz (B.a - A.a) + _; omega) (by show _ = (hatR ρ A.t).b - mxz (B.b - A.b) + _; omega) (by show _ = (hatR ρ A.t).c - mxz (B.c - A.c) + _; omega) (by show _ = (hatR ρ A.t).d - mxz (B.d - A.d) + _; omega) rfl
            have hkB : putR (upd ρ s.fresh R) ⟨0, 0, 0, 0, B.t⟩ = putR (upd ρ s.fresh R) (moreR A B s.fresh) := by
              rw [putR_hat (upd ρ s.fresh R) (moreR A B s.fresh), show putR (upd ρ s.fresh R) ⟨0, 0, 0, 0, B.t⟩ = hatR (upd ρ s.fresh R) B.t from rfl]
              simp only [moreR]
              rw [hhF, hhO _ b3]
              have m1 := mxz_sum A.a B.a
              have m2 := mxz_sum A.b B.b
              have m3 := mxz_sum A.c B.c
              have m4 := mxz_sum A.d B.d
              exact rw_eq (by show _ = (hatR ρ A.t).a - mxz (B.a - A.a) + _; omega) (by show _ = (hatR ρ A.t).b - mxz (B.b - A.b) + _; omega) (by show _ = (hatR ρ A.t).c - mxz (B.c - A.c) + _; omega) (by show _ = (hatR ρ A.t).d - mxz (B.d - A.d) + _; omega) (by show _ = (hatR ρ A.t).t; omega)
            rcases bindR_comp (s := ⟨s.made, s.fresh + 1⟩) hS0 (show 0 ≤ A.t by omega) hkA with h | ⟨s1, h, hS1⟩
            · left; unfold moreR at h; simp only [h]
            · unfold moreR at h; simp only [h]
              rcases bindR_comp (s := s1) hS1 (show 0 ≤ B.t by omega) hkB with h' | ⟨s2, h', hS2⟩
              · left; unfold moreR at h'; simp only [h']
              · right; unfold moreR at h'; simp only [h']
                exact ⟨s2, rfl, upd ρ s.fresh R, hS2, hN', fun x hx => by unfold upd; rw [if_neg (by omega)]⟩
theorem putT_fresh {σ : Int → Option TT} {ρ ρ' : Int → Option Rw} {f : Int} (hf : 0 ≤ f) (h : ∀ x, x < f → ρ' x = ρ x) {T : TT} (hT : T.tl f = true) : putT σ ρ' T = putT σ ρ T := by
  rw [tl_iff _ _ hf] at hT
  exact putT_on T (fun _ _ => rfl) (fun x hx => h x (hT x hx))
theorem oneU_comp : ∀ (n : Nat) {σ : Int → Option TT} {ρ : Int → Option Rw} {s : US} {a b : TT} {r : Except Nat US}, UInv s → TIn s a → TIn s b → Sol σ ρ s.made → NonR ρ → putT σ ρ a = putT σ ρ b → oneU n s a b = some r → CompR σ ρ s r := by
  intro n
  induction n with
  | zero => intro σ ρ s a b r _ _ _ _ _ _ h; cases h
  | succ n ih =>
    intro σ ρ s a b r hi ha hb hS hN he h
    rw [oneU_succ] at h
    have he' : putT σ ρ (underU s a) = putT σ ρ (underU s b) := by unfold underU; rw [hS.all, hS.all]; exact he
    have fA := under_free hi a
    have fB := under_free hi b
    have tA := under_tl hi ha.tl
    have tB := under_tl hi hb.tl
    have oA := under_ok hi ha.ok
    have oB := under_ok hi hb.ok
    generalize underU s a = A at *
    generalize underU s b = B at *
    cases A with
    | var v =>
      have hu := freeT_var fA
      cases B with
      | var u =>
        simp only [stepU] at h
        by_cases e : v = u
        · rw [if_pos e] at h; injection h with h; subst h
          exact .inr ⟨s, rfl, ρ, hS, hN, fun _ _ => rfl⟩
        · rw [if_neg e] at h; injection h with h; subst h
          exact bindU_comp hS hN hu (fun e' => e (by injection e' with e'; exact e'.symm)) he'
      | base k => simp only [stepU] at h; injection h with h; subst h; exact bindU_comp hS hN hu (by simp) he'
      | fn a2 r2 b2 => simp only [stepU] at h; injection h with h; subst h; exact bindU_comp hS hN hu (by simp) he'
    | base k =>
      cases B with
      | var u => simp only [stepU] at h; injection h with h; subst h; exact bindU_comp hS hN (freeT_var fB) (by simp) he'.symm
      | base k' =>
        simp only [stepU] at h
        by_cases e : k = k'
        · rw [if_pos e] at h; injection h with h; subst h
          exact .inr ⟨s, rfl, ρ, hS, hN, fun _ _ => rfl⟩
        · exfalso; simp only [putT, TT.base.injEq] at he'; exact e he'
      | fn a2 r2 b2 => exfalso; simp [putT] at he'
    | fn a1 r1 b1 =>
      cases B with
      | var u => simp only [stepU] at h; injection h with h; subst h; exact bindU_comp hS hN (freeT_var fB) (by simp) he'.symm
      | base k' => exfalso; simp [putT] at he'
      | fn a2 r2 b2 =>
        simp only [stepU] at h
        by_cases hf : (!(TT.fn a1 r1 b1).fits || !(TT.fn a2 r2 b2).fits) = true
        · rw [if_pos hf] at h; injection h with h; exact .inl h.symm
        rw [if_neg hf] at h
        simp only [Bool.or_eq_true, Bool.not_eq_true', not_or, Bool.not_eq_false] at hf
        obtain ⟨oa1, or1, ob1⟩ := fn_ok (oA (fits_iff.1 hf.1).2)
        obtain ⟨oa2, or2, ob2⟩ := fn_ok (oB (fits_iff.1 hf.2).2)
        obtain ⟨ta1, tr1, tb1⟩ := fn_tl tA
        obtain ⟨ta2, tr2, tb2⟩ := fn_tl tB
        have he3 : putT σ ρ a1 = putT σ ρ a2 ∧ putR ρ r1 = putR ρ r2 ∧ putT σ ρ b1 = putT σ ρ b2 := by simpa [putT] using he'
        obtain ⟨ea, er, eb⟩ := he3
        have hf0 := hi.f0
        cases h1 : oneU n s a1 a2 with
        | none => rw [h1] at h; cases h
        | some e1 =>
          rw [h1] at h
          rcases ih hi ⟨oa1, ta1⟩ ⟨oa2, ta2⟩ hS hN ea h1 with rfl | ⟨s1, rfl, ρ1, hS1, hN1, hx1⟩
          · simp only at h; injection h with h; exact .inl h.symm
          · simp only at h
            have g1 := oneU_res n hi ⟨oa1, ta1⟩ ⟨oa2, ta2⟩ h1
            have l1 := g1.fr
            have er1 : putR ρ1 r1 = putR ρ1 r2 := by
              have k : ∀ q : Rw, q.t < s.fresh → putR ρ1 q = putR ρ q := fun q hq => by unfold putR; rw [hx1 _ hq]
              rw [k _ tr1, k _ tr2]; exact er
            have hr := rowU_comp g1.inv or1 or2 (by omega) (by omega) hS1 hN1 er1
            cases h2 : rowU s1 r1 r2 with
            | error e =>
              rw [h2] at h hr
              rcases hr with hr | ⟨s', hr, _⟩
              · injection hr with hr; subst hr; simp only at h; injection h with h; exact .inl h.symm
              · cases hr
            | ok s2 =>
              have g2 := rowU_res g1.inv or1 or2 (by omega) (by omega) h2
              have l2 := g2.fr
              rw [h2] at h hr
              rcases hr with hr | ⟨s2', hr, ρ2, hS2, hN2, hx2⟩
              · cases hr
              · injection hr with hr; subst hr
                simp only at h
                have hx3 : ∀ x, x < s.fresh → ρ2 x = ρ x := fun x hx => by rw [hx2 x (by omega), hx1 x hx]
                have eb2 : putT σ ρ2 b1 = putT σ ρ2 b2 := by rw [putT_fresh hf0 hx3 tb1, putT_fresh hf0 hx3 tb2]; exact eb
                rcases ih g2.inv ⟨ob1, TT.tl_mono (by omega) hi.f0 tb1⟩ ⟨ob2, TT.tl_mono (by omega) hi.f0 tb2⟩ hS2 hN2 eb2 h with rfl | ⟨s3, rfl, ρ3, hS3, hN3, hx4⟩
                · exact .inl rfl
                · exact .inr ⟨s3, rfl, ρ3, hS3, hN3, fun x hx => by rw [hx4 x (by omega), hx3 x hx]⟩

def bdOf (v : Int) (r : Rw) : Bd := ⟨v, r.a, r.b, r.c, r.d, r.t⟩
def Bd.row (x : Bd) : Rw := ⟨x.a, x.b, x.c, x.d, x.t⟩
theorem uniR_cases {A B : Rw} {f : Int} {l : List Bd} (ha : -1 ≤ A.t) (hb : -1 ≤ B.t) (hu : uniR A B f = some l) :
    l = [] ∨ (0 ≤ A.t ∧ B.t ≠ A.t ∧ l = [bdOf A.t (moreR B A B.t)]) ∨ (0 ≤ B.t ∧ A.t ≠ B.t ∧ l = [bdOf B.t (moreR A B A.t)]) ∨ (0 ≤ A.t ∧ 0 ≤ B.t ∧ A.t ≠ B.t ∧ l = [bdOf A.t (moreR B A f), bdOf B.t (moreR A B f)]) := by
  unfold uniR uniT at hu
  simp only [mxz_zero] at hu
  by_cases h1 : A.t = B.t
  · rw [if_pos h1] at hu
    split at hu
    · injection hu with hu; exact .inl hu.symm
    · cases hu
  · rw [if_neg h1] at hu
    split at hu
    · cases hu
    · rename_i h2
      split at hu
      · rename_i h3
        injection hu with hu
        exact .inr (.inl ⟨by omega, fun e => h1 e.symm, hu.symm⟩)
      · rename_i h3
        split at hu
        · rename_i h4
          injection hu with hu
          exact .inr (.inr (.inl ⟨by omega, h1, hu.symm⟩))
        · rename_i h4
          injection hu with hu
          exact .inr (.inr (.inr ⟨by omega, by omega, h1, hu.symm⟩))
/-- binds of tails that may be made one behind the other. -/
def GoodL : US → List Bd → Prop
  | s, [] => UInv s
  | s, x :: l => UInv s ∧ (0 ≤ x.v ∧ x.v < 4096) ∧ x.row.may = true ∧ ∀ s', bindR s x.v x.row = .ok s' → GoodL s' l
theorem GoodL.inv {s : US} {l : List Bd} (h : GoodL s l) : UInv s := by
  cases l with
  | nil => exact h
  | cons x l => exact h.1
theorem uniR_good {s : US} {a b : Rw} {l : List Bd} (hi : UInv s) (ha : a.may = true) (hb : b.may = true) (hta : a.t < s.fresh) (htb : b.t < s.fresh)
    (hA : (putR (rhU s.made) a).cnt = true) (hB : (putR (rhU s.made) b).cnt = true) (hf : s.fresh < 4096) (hu : uniR (putR (rhU s.made) a) (putR (rhU s.made) b) s.fresh = some l) :
    GoodL ⟨s.made, if l.length = 2 then s.fresh + 1 else s.fresh⟩ l := by
  obtain ⟨a1, a2, a3⟩ := under_t hi ha hta
  obtain ⟨b1, b2, b3⟩ := under_t hi hb htb
  have fA := under_freeR hi a
  have fB := under_freeR hi b
  generalize putR (rhU s.made) a = A at *
  generalize putR (rhU s.made) b = B at *
  have hf0 := hi.f0
  have hi0 : UInv ⟨s.made, s.fresh⟩ := hi
  rcases uniR_cases a1 b1 hu with rfl | ⟨h0, hn, rfl⟩ | ⟨h0, hn, rfl⟩ | ⟨h0, h1, hn, rfl⟩
  · exact hi
  · exact ⟨hi0, ⟨h0, a2⟩, moreR_may hB hA ⟨b1, b2⟩, fun s' hbd => (bindR_inv hi0 ⟨h0, a2⟩ a3 (fA h0) (moreR_may hB hA ⟨b1, b2⟩) (fun h => fB h) b3 hn hbd).1⟩
  · exact ⟨hi0, ⟨h0, b2⟩, moreR_may hA hB ⟨a1, a2⟩, fun s' hbd => (bindR_inv hi0 ⟨h0, b2⟩ b3 (fB h0) (moreR_may hA hB ⟨a1, a2⟩) (fun h => fA h) a3 hn hbd).1⟩
  · have hi1 : UInv ⟨s.made, s.fresh + 1⟩ := UInv.more (m := s.made) (f := s.fresh) hi hf
    have huA := fA h0
    have huB := fB h1
    have hkF := rw_key hi (Int.le_refl s.fresh)
    refine ⟨hi1, ⟨h0, a2⟩, (show (moreR B A s.fresh).may = true from moreR_may hB hA ⟨by omega, hf⟩), fun s1 hbd => ?_⟩
    obtain ⟨i1, f1⟩ := bindR_inv hi1 ⟨h0, a2⟩ (by show A.t < s.fresh + 1; omega) huA (moreR_may hB hA ⟨by omega, hf⟩) (fun h => hkF) (by show s.fresh < s.fresh + 1; omega) (by show s.fresh ≠ A.t; omega) hbd
    have e1 := (bindR_ok hbd).1
    have hr1 : ∀ x, rhU s1.made x = if x = A.t then some (moreR B A s.fresh) else (rhU s.made x).map (putR (rh1 A.t (moreR B A s.fresh))) := by
      intro x; rw [e1]; exact rhU_bindR _ _ _ _
    have huB1 : rhU s1.made B.t = none := by rw [hr1, if_neg (fun e => hn e.symm), huB]; rfl
    have hkF1 : rhU s1.made s.fresh = none := by rw [hr1, if_neg (by omega), hkF]; rfl
    have f1' : s1.fresh = s.fresh + 1 := f1
    exact ⟨i1, ⟨h1, b2⟩, (show (moreR A B s.fresh).may = true from moreR_may hA hB ⟨by omega, hf⟩), fun s2 hbd' => (bindR_inv i1 ⟨h1, b2⟩ (by rw [f1']; show B.t < s.fresh + 1; omega) huB1 (moreR_may hA hB ⟨by omega, hf⟩) (fun h => hkF1) (by rw [f1']; show s.fresh < s.fresh + 1; omega) (by show s.fresh ≠ B.t; omega) hbd').1⟩
end Go.Proofs.YtfkdcconmecaoaaDoor
