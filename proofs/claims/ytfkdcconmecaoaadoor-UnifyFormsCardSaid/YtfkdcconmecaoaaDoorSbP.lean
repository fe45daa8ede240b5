/- Types and rows for variables: plain facts. -/
import Derived.Test.YtfkdcconmecaoaaDoorTyP
import Derived.LaidEqlPtr
import Derived.Lib.Builder
/- Types and rows for variables: plain facts. -/
namespace Go.Proofs.YtfkdcconmecaoaaDoor
set_option linter.unusedVariables false
set_option linter.unusedSimpArgs false

def putR (ρ : Int → Option Rw) (r : Rw) : Rw := if r.t < 0 then r else match ρ r.t with
  | none => r
  | some q => ⟨q.a + r.a, q.b + r.b, q.c + r.c, q.d + r.d, q.t⟩
def putT (σ : Int → Option TT) (ρ : Int → Option Rw) : TT → TT
  | .base k => .base k
  | .var v => (σ v).getD (.var v)
  | .fn a r b => .fn (putT σ ρ a) (putR ρ r) (putT σ ρ b)
def Rw.cnt (r : Rw) : Bool := cntR r.a r.b r.c r.d
def TT.cnt : TT → Bool
  | .base _ => true
  | .var _ => true
  | .fn a r b => a.cnt && b.cnt && r.cnt
def TT.fits (T : TT) : Bool := decide (T.sz ≤ 256) && T.cnt
theorem may_cnt {r : Rw} (h : r.may = true) : r.cnt = true := by
  unfold Rw.may mayR at h
  have := of_decide_eq_true h
  exact decide_eq_true (by omega)
theorem may_tail {r : Rw} (h : r.may = true) : -1 ≤ r.t ∧ r.t < 4096 := by
  unfold Rw.may mayR at h
  have := of_decide_eq_true h
  omega
theorem may_of {r : Rw} (h : r.cnt = true) (ht : -1 ≤ r.t ∧ r.t < 4096) : r.may = true := by
  unfold Rw.cnt cntR at h
  have := of_decide_eq_true h
  exact decide_eq_true (by omega)
theorem ok_cnt : ∀ {T : TT}, T.ok = true → T.cnt = true
  | .base _, _ => rfl
  | .var _, _ => rfl
  | .fn a r b, h => by
    unfold TT.ok at h
    simp only [Bool.and_eq_true] at h
    unfold TT.cnt
    rw [ok_cnt h.1.1, ok_cnt h.2, may_cnt h.1.2]; rfl
theorem putR_tail {ρ : Int → Option Rw} (hρ : ∀ v q, ρ v = some q → q.may = true) {r : Rw} (h : r.may = true) : -1 ≤ (putR ρ r).t ∧ (putR ρ r).t < 4096 := by
  unfold putR
  split
  · exact may_tail h
  · split
    · exact may_tail h
    · rename_i q hq; have := may_tail (hρ _ _ hq); exact this
/-- what is put in stays within bounds. -/
theorem putR_bd {ρ : Int → Option Rw} (hρ : ∀ v q, ρ v = some q → q.may = true) {r : Rw} (h : r.may = true) : (0 ≤ (putR ρ r).a ∧ (putR ρ r).a ≤ 64) ∧ (0 ≤ (putR ρ r).b ∧ (putR ρ r).b ≤ 64) ∧ (0 ≤ (putR ρ r).c ∧ (putR ρ r).c ≤ 64) ∧ (0 ≤ (putR ρ r).d ∧ (putR ρ r).d ≤ 64) := by
  have h1 := of_decide_eq_true (show mayR r.a r.b r.c r.d r.t = true from h)
  unfold putR
  split
  · omega
  · split
    · omega
    · rename_i q hq
      have h2 := of_decide_eq_true (show mayR q.a q.b q.c q.d q.t = true from hρ _ _ hq)
      simp only []
      omega
theorem putT_ok {σ : Int → Option TT} {ρ : Int → Option Rw} (hσ : ∀ v U, σ v = some U → U.ok = true) (hρ : ∀ v q, ρ v = some q → q.may = true) : ∀ {T : TT}, T.ok = true → (putT σ ρ T).cnt = true → (putT σ ρ T).ok = true
  | .base _, h, _ => h
  | .var v, h, _ => by
    unfold putT
    cases hv : σ v with
    | none => exact h
    | some U => exact hσ v U hv
  | .fn a r b, h, hc => by
    unfold TT.ok at h
    simp only [Bool.and_eq_true] at h
    unfold putT TT.cnt at hc
    simp only [Bool.and_eq_true] at hc
    unfold putT TT.ok
    rw [putT_ok hσ hρ h.1.1 hc.1.1, putT_ok hσ hρ h.2 hc.1.2, may_of hc.2 (putR_tail hρ h.1.2)]; rfl
theorem putT_sz {σ : Int → Option TT} {ρ : Int → Option Rw} (hσ : ∀ v U, σ v = some U → U.sz ≤ 256) : ∀ T : TT, (putT σ ρ T).sz ≤ T.sz * 256
  | .base _ => by simp [putT, TT.sz]
  | .var v => by
    unfold putT
    cases hv : σ v with
    | none => simp [TT.sz]
    | some U => have := hσ v U hv; simp [TT.sz]; omega
  | .fn a r b => by
    have h1 := putT_sz (ρ := ρ) hσ a
    have h2 := putT_sz (ρ := ρ) hσ b
    simp only [putT, TT.sz] at *
    omega
theorem putT_id (σ : Int → Option TT) (ρ : Int → Option Rw) (T : TT) (hσ : ∀ v, σ v = none) (hρ : ∀ v, ρ v = none) : putT σ ρ T = T := by
  induction T with
  | base _ => rfl
  | var v => unfold putT; rw [hσ]; rfl
  | fn a r b iha ihb =>
    unfold putT
    rw [iha, ihb]
    have : putR ρ r = r := by unfold putR; rw [hρ]; split <;> rfl
    rw [this]

/- The document's way, over rows of nodes. -/
def shT (k : Int) (t : Ty) : Ty := if t.k = 3 then { t with a := t.a + k, b := t.b + k } else t
theorem sh_fl (k : Nat) : ∀ (T : TT) (o : Nat), T.ok = true → (fl o T).map (shT k) = fl (o + k) T
  | .base b, o, h => by
    have : b = 0 ∨ b = 1 := by simpa [TT.ok] using h
    simp only [fl, List.map_cons, List.map_nil]
    unfold shT; rw [if_neg (by unfold bsT; simp only []; omega)]
  | .var v, o, h => by
    simp only [fl, List.map_cons, List.map_nil]
    unfold shT; rw [if_neg (by unfold vrT; simp)]
  | .fn a r b, o, h => by
    unfold TT.ok at h
    simp only [Bool.and_eq_true] at h
    simp only [fl, List.map_append, List.map_cons, List.map_nil]
    rw [sh_fl k a o h.1.1, sh_fl k b _ h.2, show o + a.sz + k = o + k + a.sz by omega]
    congr 1
    unfold shT
    rw [if_pos (by rfl)]
    unfold fnT
    simp only [List.cons.injEq, and_true, Ty.mk.injEq, true_and]
    constructor <;> omega
/-- what the document makes of a row of nodes: one node. -/
def stepT (σ : Int → Option TT) (ρ : Int → Option Rw) (x : Ty) (st : List Ty × List Int) : Option (List Ty × List Int) :=
  let out : Option (List Ty) :=
    if x.k = 2 then some (st.1 ++ (match σ x.v with | some U => (fl 0 U).map (shT st.1.length) | none => [x]))
    else if x.k = 3 then
      let q := putR ρ ⟨x.c0, x.c1, x.c2, x.c3, x.t⟩
      if q.cnt then some (st.1 ++ [fnT (st.2.getD x.a.toNat 0) (st.2.getD x.b.toNat 0) q]) else none
    else some (st.1 ++ [x])
  match out with
  | none => none
  | some o => if 256 < o.length then none else some (o, st.2 ++ [(o.length : Int) - 1])
def runT (σ : Int → Option TT) (ρ : Int → Option Rw) : List Ty → List Ty × List Int → Option (List Ty × List Int)
  | [], st => some st
  | x :: xs, st => (stepT σ ρ x st).bind (runT σ ρ xs)
theorem runT_app (σ : Int → Option TT) (ρ : Int → Option Rw) : ∀ (xs ys : List Ty) (st : List Ty × List Int), runT σ ρ (xs ++ ys) st = (runT σ ρ xs st).bind (runT σ ρ ys)
  | [], ys, st => rfl
  | x :: xs, ys, st => by
    simp only [List.cons_append, runT]
    cases stepT σ ρ x st with
    | none => rfl
    | some s => simp only [Option.bind_some]; exact runT_app σ ρ xs ys s
/-- .. and of a tree's nodes. -/
theorem runT_fl {σ : Int → Option TT} {ρ : Int → Option Rw} (hσ : ∀ v U, σ v = some U → U.ok = true) : ∀ (T : TT) (out : List Ty) (ends : List Int), T.ok = true →
    (∀ o' e', runT σ ρ (fl ends.length T) (out, ends) = some (o', e') → o' = out ++ fl out.length (putT σ ρ T) ∧ out.length + (putT σ ρ T).sz ≤ 256 ∧ (putT σ ρ T).cnt = true ∧ e'.length = ends.length + T.sz ∧ (∀ j, j < ends.length → e'.getD j 0 = ends.getD j 0) ∧ e'.getD (ends.length + T.sz - 1) 0 = ((out.length + (putT σ ρ T).sz : Nat) : Int) - 1) ∧
    (runT σ ρ (fl ends.length T) (out, ends) = none → 256 < out.length + (putT σ ρ T).sz ∨ (putT σ ρ T).cnt = false) := by
  have one : ∀ (x : Ty) (l : List Ty) (out : List Ty) (ends : List Int) (Q : TT), stepT σ ρ x (out, ends) = (if 256 < (out ++ l).length then none else some (out ++ l, ends ++ [((out ++ l).length : Int) - 1])) → l = fl out.length Q → Q.cnt = true →
      (∀ o' e', runT σ ρ [x] (out, ends) = some (o', e') → o' = out ++ fl out.length Q ∧ out.length + Q.sz ≤ 256 ∧ Q.cnt = true ∧ e'.length = ends.length + 1 ∧ (∀ j, j < ends.length → e'.getD j 0 = ends.getD j 0) ∧ e'.getD (ends.length + 1 - 1) 0 = ((out.length + Q.sz : Nat) : Int) - 1) ∧
      (runT σ ρ [x] (out, ends) = none → 256 < out.length + Q.sz ∨ Q.cnt = false) := by
    intro x l out ends Q h1 h2 h3
    have hl : (out ++ l).length = out.length + Q.sz := by rw [List.length_append, h2, fl_len]
    rw [hl] at h1
    simp only [runT]
    rw [h1]
    by_cases h4 : 256 < out.length + Q.sz
    · rw [if_pos h4]
      exact ⟨fun _ _ h => (by cases h), fun _ => .inl h4⟩
    · rw [if_neg h4]
      refine ⟨fun o' e' h => ?_, fun h => by cases h⟩
      simp only [Option.bind_some, Option.some.injEq, Prod.mk.injEq] at h
      obtain ⟨rfl, rfl⟩ := h
      refine ⟨by rw [h2], by omega, h3, by simp, fun j hj => ?_, ?_⟩
      · rw [List.getD_eq_getElem?_getD, List.getD_eq_getElem?_getD, List.getElem?_append_left hj]
      · rw [List.getD_eq_getElem?_getD, List.getElem?_append_right (by omega)]
        simp
  intro T
  induction T with
  | base k =>
    intro out ends h
    have hk : k = 0 ∨ k = 1 := by simpa [TT.ok] using h
    refine one (bsT k) [bsT k] out ends (.base k) ?_ rfl rfl
    unfold stepT
    have e2 : ¬ (bsT k).k = 2 := by unfold bsT; simp only []; omega
    have e3 : ¬ (bsT k).k = 3 := by unfold bsT; simp only []; omega
    simp only [if_neg e2, if_neg e3]
  | var v =>
    intro out ends h
    cases hv : σ v with
    | none =>
      have e : putT σ ρ (.var v) = .var v := by unfold putT; rw [hv]; rfl
      rw [e]
      refine one (vrT v) [vrT v] out ends (.var v) ?_ rfl rfl
      unfold stepT
      have e2 : (vrT v).k = 2 := rfl
      simp only [if_pos e2, show (vrT v).v = v from rfl, hv]
    | some U =>
      have e : putT σ ρ (.var v) = U := by unfold putT; rw [hv]; rfl
      rw [e]
      have hU := hσ v U hv
      refine one (vrT v) ((fl 0 U).map (shT out.length)) out ends U ?_ (by rw [sh_fl _ U 0 hU, Nat.zero_add]) (ok_cnt hU)
      unfold stepT
      have e2 : (vrT v).k = 2 := rfl
      simp only [if_pos e2, show (vrT v).v = v from rfl, hv]
  | fn a r b iha ihb =>
    intro out ends h
    unfold TT.ok at h
    simp only [Bool.and_eq_true] at h
    have pa := a.sz_pos
    have pb := b.sz_pos
    have eP : putT σ ρ (.fn a r b) = .fn (putT σ ρ a) (putR ρ r) (putT σ ρ b) := rfl
    have eS : (TT.fn a r b).sz = a.sz + b.sz + 1 := rfl
    have eZ : (TT.fn (putT σ ρ a) (putR ρ r) (putT σ ρ b)).sz = (putT σ ρ a).sz + (putT σ ρ b).sz + 1 := rfl
    have eC : (TT.fn (putT σ ρ a) (putR ρ r) (putT σ ρ b)).cnt = ((putT σ ρ a).cnt && (putT σ ρ b).cnt && (putR ρ r).cnt) := rfl
    rw [eP, eS, eZ, eC]
    obtain ⟨a1, a2⟩ := iha out ends h.1.1
    unfold fl
    rw [List.append_assoc, runT_app]
    cases hA : runT σ ρ (fl ends.length a) (out, ends) with
    | none =>
      refine ⟨fun _ _ h => (by cases h), fun _ => ?_⟩
      rcases a2 hA with h1 | h1
      · exact .inl (by omega)
      · exact .inr (by rw [h1]; rfl)
    | some st =>
      obtain ⟨o1, e1⟩ := st
      obtain ⟨p1, p2, p3, p4, p5, p6⟩ := a1 o1 e1 hA
      simp only [Option.bind_some]
      obtain ⟨b1, b2⟩ := ihb o1 e1 h.2
      rw [← p4, runT_app]
      have ol : o1.length = out.length + (putT σ ρ a).sz := by rw [p1, List.length_append, fl_len]
      cases hB : runT σ ρ (fl e1.length b) (o1, e1) with
      | none =>
        refine ⟨fun _ _ h => (by cases h), fun _ => ?_⟩
        rcases b2 hB with h1 | h1
        · exact .inl (by omega)
        · exact .inr (by rw [h1]; simp)
      | some st2 =>
        obtain ⟨o2, e2⟩ := st2
        obtain ⟨q1, q2, q3, q4, q5, q6⟩ := b1 o2 e2 hB
        have ol2 : o2.length = out.length + (putT σ ρ a).sz + (putT σ ρ b).sz := by rw [q1, List.length_append, fl_len, ol]
        simp only [Option.bind_some, runT]
        have ga : e2.getD (ends.length + a.sz - 1) 0 = ((out.length + (putT σ ρ a).sz : Nat) : Int) - 1 := by rw [q5 _ (by omega), p6]
        have gb : e2.getD (e1.length + b.sz - 1) 0 = ((out.length + (putT σ ρ a).sz + (putT σ ρ b).sz : Nat) : Int) - 1 := by rw [q6, ol]
        have hstep : stepT σ ρ (fnT ((e1.length : Nat) - 1) ((e1.length + b.sz : Nat) - 1) r) (o2, e2) = if (putR ρ r).cnt then (if 256 < o2.length + 1 then none else some (o2 ++ [fnT (((out.length + (putT σ ρ a).sz : Nat) : Int) - 1) (((out.length + (putT σ ρ a).sz + (putT σ ρ b).sz : Nat) : Int) - 1) (putR ρ r)], e2 ++ [((o2.length + 1 : Nat) : Int) - 1])) else none := by
          unfold stepT
          have x2 : ¬ (fnT ((e1.length : Nat) - 1) ((e1.length + b.sz : Nat) - 1) r).k = 2 := by unfold fnT; simp
          have x3 : (fnT ((e1.length : Nat) - 1) ((e1.length + b.sz : Nat) - 1) r).k = 3 := rfl
          simp only [if_neg x2, if_pos x3]
          have y1 : (fnT ((e1.length : Nat) - 1) ((e1.length + b.sz : Nat) - 1) r).a.toNat = ends.length + a.sz - 1 := by
            show (((e1.length : Nat) : Int) - 1).toNat = _
            omega
          have y2 : (fnT ((e1.length : Nat) - 1) ((e1.length + b.sz : Nat) - 1) r).b.toNat = e1.length + b.sz - 1 := by
            show (((e1.length + b.sz : Nat) : Int) - 1).toNat = _
            omega
          rw [y1, y2, ga, gb]
          show _ = if (putR ρ r).cnt = true then _ else _
          rw [show (⟨(fnT ((e1.length : Nat) - 1) ((e1.length + b.sz : Nat) - 1) r).c0, (fnT ((e1.length : Nat) - 1) ((e1.length + b.sz : Nat) - 1) r).c1, (fnT ((e1.length : Nat) - 1) ((e1.length + b.sz : Nat) - 1) r).c2, (fnT ((e1.length : Nat) - 1) ((e1.length + b.sz : Nat) - 1) r).c3, (fnT ((e1.length : Nat) - 1) ((e1.length + b.sz : Nat) - 1) r).t⟩ : Rw) = r from rfl]
          cases (putR ρ r).cnt
          · rfl
          · simp only [if_true, List.length_append, List.length_cons, List.length_nil, Nat.zero_add]
        have e3 : ((e1.length : Nat) : Int) - 1 = ((e1.length : Nat) : Int) - 1 := rfl
        rw [hstep]
        cases hq : (putR ρ r).cnt
        · refine ⟨fun _ _ h => (by simp at h), fun _ => .inr (by simp)⟩
        · simp only [if_true]
          by_cases h4 : 256 < o2.length + 1
          · rw [if_pos h4]
            exact ⟨fun _ _ h => (by cases h), fun _ => .inl (by omega)⟩
          · rw [if_neg h4]
            refine ⟨fun o' e' h => ?_, fun h => by cases h⟩
            simp only [Option.bind_some, Option.some.injEq, Prod.mk.injEq] at h
            obtain ⟨rfl, rfl⟩ := h
            refine ⟨?_, by omega, by rw [p3, q3]; rfl, by rw [List.length_append, q4, p4]; simp; omega, fun j hj => ?_, ?_⟩
            · rw [q1, ol, p1]
              simp only [List.append_assoc]
            · rw [List.getD_eq_getElem?_getD, List.getElem?_append_left (by omega), ← List.getD_eq_getElem?_getD, q5 _ (by omega), p5 _ hj]
            · rw [List.getD_eq_getElem?_getD, List.getElem?_append_right (by omega), show ends.length + (a.sz + b.sz + 1) - 1 - e2.length = 0 by omega]
              simp only [List.getElem?_cons_zero, Option.getD_some]
              omega
end Go.Proofs.YtfkdcconmecaoaaDoor

/- Shapes in memory: what is known of them; package shape's makers. -/
namespace Go.Proofs.YtfkdcconmecaoaaDoor
open Go.RowKit
set_option linter.unusedVariables false
set_option linter.unusedSimpArgs false

theorem below_alc (w : World) (o : Obj) : Below w.heap.size w (w.alloc o) := (Below.refl _ _).alloc (Nat.le_refl _) _
abbrev ptrS (g : Nat) : Value := .pointer (some ⟨g, 0, none⟩)
/-- a shape's block. -/
def shB (k v : Int) (pa pb : Value) (r : Rw) (n : Nat) (c : Bool) : Obj :=
  .cells #[.int .i64 k, .int .i64 v, pa, pb, .int .i64 r.a, .int .i64 r.b, .int .i64 r.c, .int .i64 r.d, .int .i64 r.t, .int .i64 n, .bool c] 116
def Shp (w : World) : TT → Nat → Prop
  | .base k, g => (k = 0 ∨ k = 1) ∧ w.heap[g]? = some (shB k 0 (.pointer none) (.pointer none) ⟨0, 0, 0, 0, 0⟩ 1 true)
  | .var v, g => w.heap[g]? = some (shB 2 v (.pointer none) (.pointer none) ⟨0, 0, 0, 0, 0⟩ 1 true)
  | .fn a r b, g => ∃ ga gb, w.heap[g]? = some (shB 3 0 (ptrS ga) (ptrS gb) r (a.sz + b.sz + 1) (a.cnt && b.cnt && r.cnt)) ∧ Shp w a ga ∧ Shp w b gb
def kdS : TT → Int
  | .base k => k
  | .var _ => 2
  | .fn _ _ _ => 3
def vrS : TT → Int
  | .var v => v
  | _ => 0
def rwS : TT → Rw
  | .fn _ r _ => r
  | _ => ⟨0, 0, 0, 0, 0⟩
/-- the block of a shape, whatever its kind. -/
theorem Shp.blk {w : World} {T : TT} {g : Nat} (h : Shp w T g) : ∃ pa pb, w.heap[g]? = some (shB (kdS T) (vrS T) pa pb (rwS T) T.sz T.cnt) := by
  cases T with
  | base k => exact ⟨_, _, h.2⟩
  | var v => exact ⟨_, _, h⟩
  | fn a r b => obtain ⟨ga, gb, h, _, _⟩ := h; exact ⟨_, _, h⟩
theorem Shp.lt {w : World} {T : TT} {g : Nat} (h : Shp w T g) : g < w.heap.size := by
  obtain ⟨_, _, h⟩ := h.blk
  exact (Array.getElem?_eq_some_iff.1 h).1
theorem Shp.below {w w' : World} {B : Nat} : ∀ {T : TT} {g : Nat}, Shp w T g → w.heap.size ≤ B → Below B w w' → Shp w' T g
  | .base k, g, h, hB, hb => ⟨h.1, by rw [hb.block g (Nat.lt_of_lt_of_le (Shp.lt (T := .base k) h) hB)]; exact h.2⟩
  | .var v, g, h, hB, hb => by
    have hl := Shp.lt (T := .var v) h
    show w'.heap[g]? = _
    rw [hb.block g (Nat.lt_of_lt_of_le hl hB)]; exact h
  | .fn a r b, g, h, hB, hb => by
    have hl := Shp.lt (T := .fn a r b) h
    obtain ⟨ga, gb, h1, h2, h3⟩ := h
    exact ⟨ga, gb, by rw [hb.block g (Nat.lt_of_lt_of_le hl hB)]; exact h1, h2.below hB hb, h3.below hB hb⟩
theorem Shp.keep {w w' : World} {T : TT} {g : Nat} (h : Shp w T g) (hb : Below w.heap.size w w') : Shp w' T g := h.below (Nat.le_refl _) hb
theorem shB_inj {k v k' v' : Int} {pa pb pa' pb' : Value} {r r' : Rw} {n n' : Nat} {c c' : Bool} (h : some (shB k v pa pb r n c) = some (shB k' v' pa' pb' r' n' c')) : k = k' ∧ v = v' ∧ pa = pa' ∧ pb = pb' ∧ r = r' := by
  unfold shB at h
  simp only [Option.some.injEq, Obj.cells.injEq, Array.mk.injEq, List.cons.injEq, Value.int.injEq, and_true, true_and] at h
  obtain ⟨ra, rb, rc, rd, rt⟩ := r
  obtain ⟨ra', rb', rc', rd', rt'⟩ := r'
  simp only [] at h
  obtain ⟨h1, h2, h3, h4, h5, h6, h7, h8, h9, _⟩ := h
  exact ⟨h1, h2, h3, h4, by rw [h5, h6, h7, h8, h9]⟩
/-- one block bears one tree. -/
theorem Shp.one {w : World} : ∀ {T U : TT} {g : Nat}, Shp w T g → Shp w U g → T = U
  | .base k, .base k', g, h, h' => by have := shB_inj (h.2.symm.trans h'.2); rw [this.1]
  | .base k, .var v, g, h, h' => by
    have := shB_inj (h.2.symm.trans (show w.heap[g]? = _ from h'))
    have := h.1; omega
  | .base k, .fn a r b, g, h, h' => by
    obtain ⟨ga, gb, h1, _, _⟩ := h'
    have := shB_inj (h.2.symm.trans h1)
    have := h.1; omega
  | .var v, .base k, g, h, h' => by
    have := shB_inj ((show w.heap[g]? = _ from h).symm.trans h'.2)
    have := h'.1; omega
  | .var v, .var v', g, h, h' => by have := shB_inj ((show w.heap[g]? = _ from h).symm.trans (show w.heap[g]? = _ from h')); rw [this.2.1]
  | .var v, .fn a r b, g, h, h' => by
    obtain ⟨ga, gb, h1, _, _⟩ := h'
    have := shB_inj ((show w.heap[g]? = _ from h).symm.trans h1)
    omega
  | .fn a r b, .base k, g, h, h' => by
    obtain ⟨ga, gb, h1, _, _⟩ := h
    have := shB_inj (h1.symm.trans h'.2)
    have := h'.1; omega
  | .fn a r b, .var v, g, h, h' => by
    obtain ⟨ga, gb, h1, _, _⟩ := h
    have := shB_inj (h1.symm.trans (show w.heap[g]? = _ from h'))
    omega
  | .fn a r b, .fn a' r' b', g, h, h' => by
    obtain ⟨ga, gb, h1, h2, h3⟩ := h
    obtain ⟨ga', gb', h1', h2', h3'⟩ := h'
    obtain ⟨_, _, e1, e2, e3⟩ := shB_inj (h1.symm.trans h1')
    simp only [ptrS, Value.pointer.injEq, Option.some.injEq, Addr.mk.injEq, and_true] at e1 e2
    subst e1 e2 e3
    rw [Shp.one h2 h2', Shp.one h3 h3']
/-- the cells of a shape's block. -/
structure ShC (w : World) (g : Nat) (k v : Int) (pa pb : Value) (r : Rw) (n : Nat) (c : Bool) : Prop where
  c0 : w.cell? ⟨g, 0, none⟩ = some (.int .i64 k)
  c1 : w.cell? ⟨g, 1, none⟩ = some (.int .i64 v)
  c2 : w.cell? ⟨g, 2, none⟩ = some pa
  c3 : w.cell? ⟨g, 3, none⟩ = some pb
  c4 : w.cell? ⟨g, 4, none⟩ = some (.int .i64 r.a)
  c5 : w.cell? ⟨g, 5, none⟩ = some (.int .i64 r.b)
  c6 : w.cell? ⟨g, 6, none⟩ = some (.int .i64 r.c)
  c7 : w.cell? ⟨g, 7, none⟩ = some (.int .i64 r.d)
  c8 : w.cell? ⟨g, 8, none⟩ = some (.int .i64 r.t)
  c9 : w.cell? ⟨g, 9, none⟩ = some (.int .i64 n)
  c10 : w.cell? ⟨g, 10, none⟩ = some (.bool c)
theorem shC_of {w : World} {g : Nat} {k v : Int} {pa pb : Value} {r : Rw} {n : Nat} {c : Bool} (h : w.heap[g]? = some (shB k v pa pb r n c)) : ShC w g k v pa pb r n c := by
  unfold shB at h
  have e := fun j => Lib.cell_of_heap h j
  exact ⟨(e 0).trans rfl, (e 1).trans rfl, (e 2).trans rfl, (e 3).trans rfl, (e 4).trans rfl, (e 5).trans rfl, (e 6).trans rfl, (e 7).trans rfl, (e 8).trans rfl, (e 9).trans rfl, (e 10).trans rfl⟩
theorem alloc_last (w : World) (o : Obj) : (w.alloc o).heap[w.heap.size]? = some o := by show (w.heap.push o)[w.heap.size]? = _; simp
theorem shp_new {w : World} {a b : TT} {r : Rw} {ga gb : Nat} {n : Int} {c : Bool} (ha : Shp w a ga) (hb : Shp w b gb) (hn : n = ((a.sz + b.sz + 1 : Nat) : Int)) (hc : c = (a.cnt && b.cnt && r.cnt)) :
    Shp (w.alloc (.cells #[.int .i64 3, .int .i64 0, ptrS ga, ptrS gb, .int .i64 r.a, .int .i64 r.b, .int .i64 r.c, .int .i64 r.d, .int .i64 r.t, .int .i64 n, .bool c] 116)) (.fn a r b) w.heap.size := by
  subst hn hc
  have hbl : Below w.heap.size w (w.alloc (.cells #[.int .i64 3, .int .i64 0, ptrS ga, ptrS gb, .int .i64 r.a, .int .i64 r.b, .int .i64 r.c, .int .i64 r.d, .int .i64 r.t, .int .i64 ((a.sz + b.sz + 1 : Nat) : Int), .bool (a.cnt && b.cnt && r.cnt)] 116)) := (Below.refl _ _).alloc (Nat.le_refl _) _
  exact ⟨ga, gb, alloc_last _ _, ha.keep hbl, hb.keep hbl⟩
def MkPost (T : TT) (w : World) (e : Ending) (w' : World) : Prop := ∃ g, e = .returned (ptrS g) ∧ Shp w' T g ∧ Below w.heap.size w w'

theorem shInt_any (w : World) : Calls Tryd.prog 85 #[] w (MkPost (.base 0) w) := by
  go_enter Tryd.func85, Tryd.ntmps85
  go_wp2_with fail
  go_ret
  exact ⟨w.heap.size, rfl, ⟨.inl rfl, alloc_last _ _⟩, by (repeat' (first | with_reducible exact Below.refl _ _ | with_reducible assumption | with_reducible apply Below.setCell | with_reducible apply Below.alloc | with_reducible apply Below.drew | with_reducible apply below_drewN | with_reducible exact Nat.le_refl _ | (simp; done) | (simp; omega) | omega | exact Nat.le_refl _))⟩
theorem shBool_any (w : World) : Calls Tryd.prog 84 #[] w (MkPost (.base 1) w) := by
  go_enter Tryd.func84, Tryd.ntmps84
  go_wp2_with fail
  go_ret
  exact ⟨w.heap.size, rfl, ⟨.inr rfl, alloc_last _ _⟩, by (repeat' (first | with_reducible exact Below.refl _ _ | with_reducible assumption | with_reducible apply Below.setCell | with_reducible apply Below.alloc | with_reducible apply Below.drew | with_reducible apply below_drewN | with_reducible exact Nat.le_refl _ | (simp; done) | (simp; omega) | omega | exact Nat.le_refl _))⟩
theorem shVar_any (v : Int) (w : World) : Calls Tryd.prog 56 #[.int .i64 v] w (MkPost (.var v) w) := by
  go_enter Tryd.func56, Tryd.ntmps56
  go_wp2_with fail
  go_ret
  exact ⟨w.heap.size, rfl, alloc_last _ _, by (repeat' (first | with_reducible exact Below.refl _ _ | with_reducible assumption | with_reducible apply Below.setCell | with_reducible apply Below.alloc | with_reducible apply Below.drew | with_reducible apply below_drewN | with_reducible exact Nat.le_refl _ | (simp; done) | (simp; omega) | omega | exact Nat.le_refl _))⟩
theorem shBase_any (k : Int) (w : World) (hk : k = 0 ∨ k = 1) : Calls Tryd.prog 57 #[.int .i64 k] w (MkPost (.base k) w) := by
  rcases hk with rfl | rfl
  · go_enter Tryd.func57, Tryd.ntmps57
    go_wp2_with fail
    refine (shInt_any _).mono ?_
    rintro e w1 ⟨g, rfl, hs, hb⟩
    go_wp2_with fail
    go_ret
    exact ⟨g, rfl, hs, hb⟩
  · go_enter Tryd.func57, Tryd.ntmps57
    go_wp2_with fail
    refine (shBool_any _).mono ?_
    rintro e w1 ⟨g, rfl, hs, hb⟩
    go_wp2_with fail
    go_ret
    exact ⟨g, rfl, hs, hb⟩
end Go.Proofs.YtfkdcconmecaoaaDoor
