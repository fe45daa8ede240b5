/- Two arrays of four numbers: whether they are the same. -/
import Derived.Test.YtfkdcconmecaoaaDoorHlp
import Derived.Test.YtfkdcconmecaoaaDoorRwB
import Derived.Deep.RegionHeld3
import Derived.Deep.DeepCutAuto
import Derived.Lib.SmallJoins
/- Two arrays of four numbers: whether they are the same. -/
namespace Go.Proofs.YtfkdcconmecaoaaDoor
open Go.RowKit
set_option linter.unusedVariables false
set_option linter.unusedSimpArgs false

theorem arr_in (d : Nat) (T : TypeId) (hT : Tryd.prog.underlying T = some (.array 4 3)) (w : World) (x0 x1 x2 x3 y0 y1 y2 y3 : Int) :
    (Op.equalIn (d + 2) T (.agg #[.int .i64 x0, .int .i64 x1, .int .i64 x2, .int .i64 x3]) (.agg #[.int .i64 y0, .int .i64 y1, .int .i64 y2, .int .i64 y3])).run Tryd.prog w = .ok (x0 == y0 && (x1 == y1 && (x2 == y2 && x3 == y3))) w := by
  have hs : ∀ W : World, (sizeOf 3).run Tryd.prog W = .ok 1 W := fun _ => by kernel_rfl
  have p0 : ∀ (a b c e : Int) (W : World), (part 3 #[.int .i64 a, .int .i64 b, .int .i64 c, .int .i64 e] 0).run Tryd.prog W = .ok (.int .i64 a) W := fun _ _ _ _ _ => by kernel_rfl
  have p1 : ∀ (a b c e : Int) (W : World), (part 3 #[.int .i64 a, .int .i64 b, .int .i64 c, .int .i64 e] 1).run Tryd.prog W = .ok (.int .i64 b) W := fun _ _ _ _ _ => by kernel_rfl
  have p2 : ∀ (a b c e : Int) (W : World), (part 3 #[.int .i64 a, .int .i64 b, .int .i64 c, .int .i64 e] 2).run Tryd.prog W = .ok (.int .i64 c) W := fun _ _ _ _ _ => by kernel_rfl
  have p3 : ∀ (a b c e : Int) (W : World), (part 3 #[.int .i64 a, .int .i64 b, .int .i64 c, .int .i64 e] 3).run Tryd.prog W = .ok (.int .i64 e) W := fun _ _ _ _ _ => by kernel_rfl
  have he : ∀ (a b : Int) (W : World), (Op.equalIn (d + 1) 3 (.int .i64 a) (.int .i64 b)).run Tryd.prog W = .ok (a == b) W := fun a b W => run_equalIn_int W d 3 .i64 .i64 a b Tryd.underlying3
  rw [show d + 2 = (d + 1) + 1 from rfl]
  unfold Op.equalIn
  cases h0 : (x0 == y0) <;> cases h1 : (x1 == y1) <;> cases h2 : (x2 == y2) <;> cases h3 : (x3 == y3) <;>
  simp [run_underlying hT, Sem.run_bind, hs, p0, p1, p2, p3, he, h0, h1, h2, h3, Std.Legacy.Range.forIn_eq_forIn_range', List.range', Result.andThen]
end Go.Proofs.YtfkdcconmecaoaaDoor

/- Rows of effects: Unify. -/
namespace Go.Proofs.YtfkdcconmecaoaaDoor
open Go.RowKit
set_option linter.unusedVariables false
set_option linter.unusedSimpArgs false

structure Bd where
  v : Int
  a : Int
  b : Int
  c : Int
  d : Int
  t : Int
  deriving DecidableEq

/-- what the tails are, that two rows be one; P: what the first has more, Q: the second. -/
def uniT (p1 p2 p3 p4 q1 q2 q3 q4 ta tb fresh : Int) : Option (List Bd) :=
  if ta = tb then (if p1 = 0 ∧ p2 = 0 ∧ p3 = 0 ∧ p4 = 0 ∧ q1 = 0 ∧ q2 = 0 ∧ q3 = 0 ∧ q4 = 0 then some [] else none)
  else if (tb < 0 ∧ ¬ (p1 = 0 ∧ p2 = 0 ∧ p3 = 0 ∧ p4 = 0)) ∨ (ta < 0 ∧ ¬ (q1 = 0 ∧ q2 = 0 ∧ q3 = 0 ∧ q4 = 0)) then none
  else if tb < 0 ∨ (0 ≤ ta ∧ (p1 = 0 ∧ p2 = 0 ∧ p3 = 0 ∧ p4 = 0)) then some [⟨ta, q1, q2, q3, q4, tb⟩]
  else if ta < 0 ∨ (q1 = 0 ∧ q2 = 0 ∧ q3 = 0 ∧ q4 = 0) then some [⟨tb, p1, p2, p3, p4, ta⟩]
  else some [⟨ta, q1, q2, q3, q4, fresh⟩, ⟨tb, p1, p2, p3, p4, fresh⟩]

def BdAt (w : World) (g i : Nat) (x : Bd) : Prop :=
  w.cell? ⟨g, i * 8, none⟩ = some (.int .i64 x.v) ∧ w.cell? ⟨g, i * 8 + 1, none⟩ = some (.bool true) ∧ w.cell? ⟨g, i * 8 + 2, none⟩ = some (.slice none 0 0) ∧
  w.cell? ⟨g, i * 8 + 3, none⟩ = some (.int .i64 x.a) ∧ w.cell? ⟨g, i * 8 + 4, none⟩ = some (.int .i64 x.b) ∧ w.cell? ⟨g, i * 8 + 5, none⟩ = some (.int .i64 x.c) ∧
  w.cell? ⟨g, i * 8 + 6, none⟩ = some (.int .i64 x.d) ∧ w.cell? ⟨g, i * 8 + 7, none⟩ = some (.int .i64 x.t)
/-- a slice of row binds in new memory: none, one or two of them. -/
def BdsIs (B : Nat) (w : World) (v : Value) (l : List Bd) : Prop :=
  (v = .slice none 0 0 ∧ l = []) ∨ ∃ g, B ≤ g ∧ g < w.heap.size ∧ v = .slice (some ⟨g, 0, none⟩) l.length l.length ∧ ∀ i, i < l.length → BdAt w g i (l.getD i ⟨0, 0, 0, 0, 0, 0⟩)
def UniPost (o : Option (List Bd)) (w : World) (e : Ending) (w' : World) : Prop :=
  ∃ v, e = .returned (.tuple #[v, .bool o.isSome]) ∧ BdsIs w.heap.size w' v (o.getD []) ∧ Below w.heap.size w w'


theorem uniS_of {a b c d t a' b' c' d' t' : Int} {w W : World} (hb : Below (w.heap.size + 2) ((w.alloc (.cells #[.int .i64 a, .int .i64 b, .int .i64 c, .int .i64 d, .int .i64 t] 36)).alloc (.cells #[.int .i64 a', .int .i64 b', .int .i64 c', .int .i64 d', .int .i64 t'] 36)) W) : W.cell? ⟨w.heap.size, 0, none⟩ = some (.int .i64 a) ∧ W.cell? ⟨w.heap.size, 1, none⟩ = some (.int .i64 b) ∧ W.cell? ⟨w.heap.size, 2, none⟩ = some (.int .i64 c) ∧ W.cell? ⟨w.heap.size, 3, none⟩ = some (.int .i64 d) ∧ W.cell? ⟨w.heap.size, 4, none⟩ = some (.int .i64 t) ∧ W.cell? ⟨w.heap.size + 1, 0, none⟩ = some (.int .i64 a') ∧ W.cell? ⟨w.heap.size + 1, 1, none⟩ = some (.int .i64 b') ∧ W.cell? ⟨w.heap.size + 1, 2, none⟩ = some (.int .i64 c') ∧ W.cell? ⟨w.heap.size + 1, 3, none⟩ = some (.int .i64 d') ∧ W.cell? ⟨w.heap.size + 1, 4, none⟩ = some (.int .i64 t') := by
  have k0 : ∀ o, W.cell? ⟨w.heap.size, o, none⟩ = ((w.alloc (.cells #[.int .i64 a, .int .i64 b, .int .i64 c, .int .i64 d, .int .i64 t] 36)).alloc (.cells #[.int .i64 a', .int .i64 b', .int .i64 c', .int .i64 d', .int .i64 t'] 36)).cell? ⟨w.heap.size, o, none⟩ := fun o => hb.cell (p := ⟨w.heap.size, o, none⟩) (by show _ < w.heap.size + 2; simp)
  have k1 : ∀ o, W.cell? ⟨w.heap.size + 1, o, none⟩ = ((w.alloc (.cells #[.int .i64 a, .int .i64 b, .int .i64 c, .int .i64 d, .int .i64 t] 36)).alloc (.cells #[.int .i64 a', .int .i64 b', .int .i64 c', .int .i64 d', .int .i64 t'] 36)).cell? ⟨w.heap.size + 1, o, none⟩ := fun o => hb.cell (p := ⟨w.heap.size + 1, o, none⟩) (by show _ < w.heap.size + 2; simp)
  refine ⟨?_, ?_, ?_, ?_, ?_, ?_, ?_, ?_, ?_, ?_⟩
  all_goals first | (rw [k0]; simp; done) | (rw [k1]; simp; done)
def CellsAt (W : World) (g : Nat) (l : List Value) : Prop := ∀ i v, l[i]? = some v → W.cell? ⟨g, i, none⟩ = some v
/-- what the first statement of Unify leaves. -/
def TwoPost (w : World) (ra rb P Q : List Value) (s8 s9 : Value) (W : World) : Prop :=
  ∃ g h, s8 = .pointer (some ⟨g, 0, none⟩) ∧ s9 = .pointer (some ⟨h, 0, none⟩) ∧ w.heap.size ≤ g ∧ g < W.heap.size ∧ w.heap.size ≤ h ∧ h < W.heap.size ∧ Below w.heap.size w W ∧ w.heap.size + 1 < W.heap.size ∧
    CellsAt W w.heap.size ra ∧ CellsAt W (w.heap.size + 1) rb ∧ CellsAt W g P ∧ CellsAt W h Q

theorem cell_drewN (W : World) (n : Nat) (a : Addr) : (W.drewN n).cell? a = W.cell? a := rfl
theorem size_drewN (W : World) (n : Nat) : (W.drewN n).heap.size = W.heap.size := rfl
theorem setCell_drewN' (X : World) (n : Nat) (p : Addr) (v : Value) : (X.drewN n).setCell p v = (X.setCell p v).drewN n := rfl
theorem alloc_drewN' (X : World) (n : Nat) (o : Obj) : (X.drewN n).alloc o = (X.alloc o).drewN n := rfl
theorem cellsAt5 {W : World} {g : Nat} {x0 x1 x2 x3 x4 : Value} (h0 : W.cell? ⟨g, 0, none⟩ = some x0) (h1 : W.cell? ⟨g, 1, none⟩ = some x1) (h2 : W.cell? ⟨g, 2, none⟩ = some x2) (h3 : W.cell? ⟨g, 3, none⟩ = some x3) (h4 : W.cell? ⟨g, 4, none⟩ = some x4) : CellsAt W g [x0, x1, x2, x3, x4] := by
  intro i v hi
  match i, hi with
  | 0, hi => simp at hi; subst hi; exact h0
  | 1, hi => simp at hi; subst hi; exact h1
  | 2, hi => simp at hi; subst hi; exact h2
  | 3, hi => simp at hi; subst hi; exact h3
  | 4, hi => simp at hi; subst hi; exact h4
theorem cellsAt4 {W : World} {g : Nat} {x0 x1 x2 x3 : Value} (h0 : W.cell? ⟨g, 0, none⟩ = some x0) (h1 : W.cell? ⟨g, 1, none⟩ = some x1) (h2 : W.cell? ⟨g, 2, none⟩ = some x2) (h3 : W.cell? ⟨g, 3, none⟩ = some x3) : CellsAt W g [x0, x1, x2, x3] := by
  intro i v hi
  match i, hi with
  | 0, hi => simp at hi; subst hi; exact h0
  | 1, hi => simp at hi; subst hi; exact h1
  | 2, hi => simp at hi; subst hi; exact h2
  | 3, hi => simp at hi; subst hi; exact h3
theorem two_fin {a b c d t a' b' c' d' t' : Int} {w W : World} {g h : Nat} {p1 p2 p3 p4 q1 q2 q3 q4 : Value} (hb : Below (w.heap.size + 2) ((w.alloc (.cells #[.int .i64 a, .int .i64 b, .int .i64 c, .int .i64 d, .int .i64 t] 36)).alloc (.cells #[.int .i64 a', .int .i64 b', .int .i64 c', .int .i64 d', .int .i64 t'] 36)) W) (hg : w.heap.size ≤ g) (hh : w.heap.size ≤ h) (hgl : g < W.heap.size) (hhl : h < W.heap.size)
    (e0 : W.cell? ⟨g, 0, none⟩ = some p1 ∧ W.cell? ⟨g, 1, none⟩ = some p2 ∧ W.cell? ⟨g, 2, none⟩ = some p3 ∧ W.cell? ⟨g, 3, none⟩ = some p4)
    (f0 : W.cell? ⟨h, 0, none⟩ = some q1 ∧ W.cell? ⟨h, 1, none⟩ = some q2 ∧ W.cell? ⟨h, 2, none⟩ = some q3 ∧ W.cell? ⟨h, 3, none⟩ = some q4) :
    TwoPost w [.int .i64 a, .int .i64 b, .int .i64 c, .int .i64 d, .int .i64 t] [.int .i64 a', .int .i64 b', .int .i64 c', .int .i64 d', .int .i64 t'] [p1, p2, p3, p4] [q1, q2, q3, q4] (.pointer (some ⟨g, 0, none⟩)) (.pointer (some ⟨h, 0, none⟩)) W := by
  have hS := uniS_of hb
  have hb0 : Below w.heap.size w W := (Joins.below_alloc2 w _ _).trans (hb.mono (by omega))
  have hs := hb.size
  simp at hs
  exact ⟨g, h, rfl, rfl, hg, hgl, hh, hhl, hb0, by omega, cellsAt5 hS.1 hS.2.1 hS.2.2.1 hS.2.2.2.1 hS.2.2.2.2.1, cellsAt5 hS.2.2.2.2.2.1 hS.2.2.2.2.2.2.1 hS.2.2.2.2.2.2.2.1 hS.2.2.2.2.2.2.2.2.1 hS.2.2.2.2.2.2.2.2.2,
    cellsAt4 e0.1 e0.2.1 e0.2.2.1 e0.2.2.2, cellsAt4 f0.1 f0.2.1 f0.2.2.1 f0.2.2.2⟩

def zro (p1 p2 p3 p4 : Int) : Bool := p1 == 0 && (p2 == 0 && (p3 == 0 && p4 == 0))
theorem zro_iff {p1 p2 p3 p4 : Int} : zro p1 p2 p3 p4 = true ↔ (p1 = 0 ∧ p2 = 0 ∧ p3 = 0 ∧ p4 = 0) := by unfold zro; simp
theorem zro_no {p1 p2 p3 p4 : Int} (h : zro p1 p2 p3 p4 = false) : ¬ (p1 = 0 ∧ p2 = 0 ∧ p3 = 0 ∧ p4 = 0) := fun e => by rw [zro_iff.2 e] at h; cases h
def KeepG (w : World) (g h : Nat) (W : World) : Prop := Below w.heap.size w W ∧ w.heap.size + 1 < W.heap.size ∧ g < W.heap.size ∧ h < W.heap.size
theorem uniG_step {w W w1 : World} {g h : Nat} {t t' p1 p2 p3 p4 q1 q2 q3 q4 : Int} (hS : W.cell? ⟨w.heap.size, 4, none⟩ = some (.int .i64 t) ∧ W.cell? ⟨w.heap.size + 1, 4, none⟩ = some (.int .i64 t') ∧ W.cell? ⟨g, 0, none⟩ = some (.int .i64 p1) ∧ W.cell? ⟨g, 1, none⟩ = some (.int .i64 p2) ∧ W.cell? ⟨g, 2, none⟩ = some (.int .i64 p3) ∧ W.cell? ⟨g, 3, none⟩ = some (.int .i64 p4) ∧ W.cell? ⟨h, 0, none⟩ = some (.int .i64 q1) ∧ W.cell? ⟨h, 1, none⟩ = some (.int .i64 q2) ∧ W.cell? ⟨h, 2, none⟩ = some (.int .i64 q3) ∧ W.cell? ⟨h, 3, none⟩ = some (.int .i64 q4) ∧ KeepG w g h W) (hb : Below W.heap.size W w1) : w1.cell? ⟨w.heap.size, 4, none⟩ = some (.int .i64 t) ∧ w1.cell? ⟨w.heap.size + 1, 4, none⟩ = some (.int .i64 t') ∧ w1.cell? ⟨g, 0, none⟩ = some (.int .i64 p1) ∧ w1.cell? ⟨g, 1, none⟩ = some (.int .i64 p2) ∧ w1.cell? ⟨g, 2, none⟩ = some (.int .i64 p3) ∧ w1.cell? ⟨g, 3, none⟩ = some (.int .i64 p4) ∧ w1.cell? ⟨h, 0, none⟩ = some (.int .i64 q1) ∧ w1.cell? ⟨h, 1, none⟩ = some (.int .i64 q2) ∧ w1.cell? ⟨h, 2, none⟩ = some (.int .i64 q3) ∧ w1.cell? ⟨h, 3, none⟩ = some (.int .i64 q4) ∧ KeepG w g h w1 := by
  obtain ⟨e0, e1, e2, e3, e4, e5, e6, e7, e8, e9, hk, hs, hg, hh⟩ := hS
  have c0 : ∀ o, w1.cell? ⟨w.heap.size, o, none⟩ = W.cell? ⟨w.heap.size, o, none⟩ := fun o => hb.cell (p := ⟨w.heap.size, o, none⟩) (by show w.heap.size < _; omega)
  have c1 : ∀ o, w1.cell? ⟨w.heap.size + 1, o, none⟩ = W.cell? ⟨w.heap.size + 1, o, none⟩ := fun o => hb.cell (p := ⟨w.heap.size + 1, o, none⟩) hs
  have c2 : ∀ o, w1.cell? ⟨g, o, none⟩ = W.cell? ⟨g, o, none⟩ := fun o => hb.cell (p := ⟨g, o, none⟩) hg
  have c3 : ∀ o, w1.cell? ⟨h, o, none⟩ = W.cell? ⟨h, o, none⟩ := fun o => hb.cell (p := ⟨h, o, none⟩) hh
  have := hb.size
  exact ⟨by rw [c0]; exact e0, by rw [c1]; exact e1, by rw [c2]; exact e2, by rw [c2]; exact e3, by rw [c2]; exact e4, by rw [c2]; exact e5, by rw [c3]; exact e6, by rw [c3]; exact e7, by rw [c3]; exact e8, by rw [c3]; exact e9, belT hk hb, by omega, by omega, by omega⟩
theorem uniG_keep {w W : World} {g h : Nat} {t t' p1 p2 p3 p4 q1 q2 q3 q4 : Int} (hS : W.cell? ⟨w.heap.size, 4, none⟩ = some (.int .i64 t) ∧ W.cell? ⟨w.heap.size + 1, 4, none⟩ = some (.int .i64 t') ∧ W.cell? ⟨g, 0, none⟩ = some (.int .i64 p1) ∧ W.cell? ⟨g, 1, none⟩ = some (.int .i64 p2) ∧ W.cell? ⟨g, 2, none⟩ = some (.int .i64 p3) ∧ W.cell? ⟨g, 3, none⟩ = some (.int .i64 p4) ∧ W.cell? ⟨h, 0, none⟩ = some (.int .i64 q1) ∧ W.cell? ⟨h, 1, none⟩ = some (.int .i64 q2) ∧ W.cell? ⟨h, 2, none⟩ = some (.int .i64 q3) ∧ W.cell? ⟨h, 3, none⟩ = some (.int .i64 q4) ∧ KeepG w g h W) : KeepG w g h W := hS.2.2.2.2.2.2.2.2.2.2
/-- one bind in new memory. -/
theorem uni_one {w W : World} {v a b c d t : Int} (hb : Below w.heap.size w W) (T : TypeId) :
    UniPost (some [⟨v, a, b, c, d, t⟩]) w (.returned (.tuple #[.slice (some ⟨W.heap.size, 0, none⟩) 1 1, .bool true])) (W.alloc (.cells #[.int .i64 v, .bool true, .slice none 0 0, .int .i64 a, .int .i64 b, .int .i64 c, .int .i64 d, .int .i64 t] T)) := by
  refine ⟨_, rfl, .inr ⟨W.heap.size, hb.size, by simp, rfl, ?_⟩, hb.alloc hb.size _⟩
  intro i hi
  have : i = 0 := by simp at hi; omega
  subst this
  unfold BdAt
  simp
theorem uni_two {w W : World} {v a b c d t v' a' b' c' d' t' : Int} (hb : Below w.heap.size w W) (T : TypeId) :
    UniPost (some [⟨v, a, b, c, d, t⟩, ⟨v', a', b', c', d', t'⟩]) w (.returned (.tuple #[.slice (some ⟨W.heap.size, 0, none⟩) 2 2, .bool true])) (W.alloc (.cells #[.int .i64 v, .bool true, .slice none 0 0, .int .i64 a, .int .i64 b, .int .i64 c, .int .i64 d, .int .i64 t, .int .i64 v', .bool true, .slice none 0 0, .int .i64 a', .int .i64 b', .int .i64 c', .int .i64 d', .int .i64 t'] T)) := by
  refine ⟨_, rfl, .inr ⟨W.heap.size, hb.size, by simp, rfl, ?_⟩, hb.alloc hb.size _⟩
  intro i hi
  have : i = 0 ∨ i = 1 := by simp at hi; omega
  rcases this with rfl | rfl
  · unfold BdAt; simp
  · unfold BdAt; simp
theorem uni_none {w W : World} {o : Option (List Bd)} {b : Bool} (ho : o = if b then some [] else none) (hb : Below w.heap.size w W) : UniPost o w (.returned (.tuple #[.slice none 0 0, .bool b])) W := by
  subst ho
  cases b
  · exact ⟨_, rfl, .inl ⟨rfl, rfl⟩, hb⟩
  · exact ⟨_, rfl, .inl ⟨rfl, rfl⟩, hb⟩

set_option maxHeartbeats 4000000 in
set_option maxRecDepth 100000 in
theorem unify_try (a b c d t a' b' c' d' t' fresh : Int) (u : Option (List Bd)) (w : World) (h : mayR a b c d t = true) (h' : mayR a' b' c' d' t' = true) (p1 p2 p3 p4 q1 q2 q3 q4 : Int)
    (hPQ : Hid (mxz (a - a') = p1 ∧ mxz (b - b') = p2 ∧ mxz (c - c') = p3 ∧ mxz (d - d') = p4 ∧ mxz (a' - a) = q1 ∧ mxz (b' - b) = q2 ∧ mxz (c' - c) = q3 ∧ mxz (d' - d) = q4)) (hu' : Hid (uniT p1 p2 p3 p4 q1 q2 q3 q4 t t' fresh = u)) :
    Calls Tryd.prog 110 #[.agg #[.int .i64 a, .int .i64 b, .int .i64 c, .int .i64 d, .int .i64 t], .agg #[.int .i64 a', .int .i64 b', .int .i64 c', .int .i64 d', .int .i64 t'], .int .i64 fresh] w
      (UniPost u w) := by
  have hh := Lib.hid h
  have hh' := Lib.hid h'
  clear h h'
  have hP := Lib.hid (show mxz (a - a') = p1 ∧ mxz (b - b') = p2 ∧ mxz (c - c') = p3 ∧ mxz (d - d') = p4 from ⟨hPQ.out.1, hPQ.out.2.1, hPQ.out.2.2.1, hPQ.out.2.2.2.1⟩)
  have hQ := Lib.hid (show mxz (a' - a) = q1 ∧ mxz (b' - b) = q2 ∧ mxz (c' - c) = q3 ∧ mxz (d' - d) = q4 from hPQ.out.2.2.2.2)
  go_enter Tryd.func110, Tryd.ntmps110
  go_upto_region 1 with fail
  go_cut [8, 9] (fun s8 s9 wx => TwoPost w [.int .i64 a, .int .i64 b, .int .i64 c, .int .i64 d, .int .i64 t] [.int .i64 a', .int .i64 b', .int .i64 c', .int .i64 d', .int .i64 t'] [.int .i64 p1, .int .i64 p2, .int .i64 p3, .int .i64 p4] [.int .i64 q1, .int .i64 q2, .int .i64 q3, .int .i64 q4] s8 s9 wx)
  case first =>
    go_region_held3 (fun w' => w'.cell? ⟨w.heap.size, 0, none⟩ = some (.int .i64 a) ∧ w'.cell? ⟨w.heap.size, 1, none⟩ = some (.int .i64 b) ∧ w'.cell? ⟨w.heap.size, 2, none⟩ = some (.int .i64 c) ∧ w'.cell? ⟨w.heap.size, 3, none⟩ = some (.int .i64 d) ∧ w'.cell? ⟨w.heap.size, 4, none⟩ = some (.int .i64 t) ∧ w'.cell? ⟨w.heap.size + 1, 0, none⟩ = some (.int .i64 a') ∧ w'.cell? ⟨w.heap.size + 1, 1, none⟩ = some (.int .i64 b') ∧ w'.cell? ⟨w.heap.size + 1, 2, none⟩ = some (.int .i64 c') ∧ w'.cell? ⟨w.heap.size + 1, 3, none⟩ = some (.int .i64 d') ∧ w'.cell? ⟨w.heap.size + 1, 4, none⟩ = some (.int .i64 t'))
      (exact uniS_of (by (repeat' (first | with_reducible exact Below.refl _ _ | with_reducible assumption | with_reducible apply Below.setCell | with_reducible apply Below.alloc | with_reducible apply Below.drew | with_reducible apply below_drewN | with_reducible exact Nat.le_refl _ | (simp; done) | (simp; omega) | omega | exact Nat.le_refl _))))
      ((go_at_call 115; (first | (with_reducible refine (more_ag a b c d t a' b' c' d' t' p1 p2 p3 p4 _ hh.out hh'.out hP.out).mono ?_) | (with_reducible refine (more_ag a' b' c' d' t' a b c d t q1 q2 q3 q4 _ hh'.out hh.out hQ.out).mono ?_)); rintro e w1 ⟨rfl, nq, rfl⟩))
    all_goals (go_wp2_with fail; go_meet; (try simp only [setCell_drewN', alloc_drewN']); (try simp [World.setCell_alloc_past, World.setCell_alloc_at]); with_reducible refine two_fin (by (repeat' (first | with_reducible exact Below.refl _ _ | with_reducible assumption | with_reducible apply Below.setCell | with_reducible apply Below.alloc | with_reducible apply Below.drew | with_reducible apply below_drewN | with_reducible exact Nat.le_refl _ | (simp; done) | (simp; omega) | omega | exact Nat.le_refl _))) (by omega) (by omega) (by first | omega | (simp [size_drewN]; done) | (simp [size_drewN]; omega)) (by first | omega | (simp [size_drewN]; done) | (simp [size_drewN]; omega)) (by simp [cell_drewN, World.cell?_alloc_past, World.cell?_alloc_at]) (by simp [cell_drewN, World.cell?_alloc_past, World.cell?_alloc_at]))
  case rest =>
    obtain ⟨g, h, rfl, rfl, hg0, hg1, hh0, hh1, hbel, hsz, hA, hB, hPc, hQc⟩ := hcut
    have a4 := hA 4 _ rfl
    have b4 := hB 4 _ rfl
    have pp0 := hPc 0 _ rfl
    have pp1 := hPc 1 _ rfl
    have pp2 := hPc 2 _ rfl
    have pp3 := hPc 3 _ rfl
    have qq0 := hQc 0 _ rfl
    have qq1 := hQc 1 _ rfl
    have qq2 := hQc 2 _ rfl
    have qq3 := hQc 3 _ rfl
    clear hA hB hPc hQc
    have hsz' : w.heap.size < wc.heap.size := by omega
    have hm := of_decide_eq_true hh.out
    have hm' := of_decide_eq_true hh'.out
    have ht1 : -1 ≤ t ∧ -1 ≤ t' := by omega
    clear hm hm'
    have hz : ∀ (x0 x1 x2 x3 : Int) (W : World), (Op.equalIn 10000 193 (.agg #[.int .i64 x0, .int .i64 x1, .int .i64 x2, .int .i64 x3]) (.agg #[.int .i64 0, .int .i64 0, .int .i64 0, .int .i64 0])).run Tryd.prog W = .ok (zro x0 x1 x2 x3) W := fun x0 x1 x2 x3 W => arr_in 9998 193 Tryd.underlying193 W x0 x1 x2 x3 0 0 0 0
    cases hzp : zro p1 p2 p3 p4 <;> cases hzq : zro q1 q2 q3 q4
    · have hp := Lib.hid hzp
      have hq := Lib.hid hzq
      by_cases hte : t = t'
      · have hut : Hid (u = if zro p1 p2 p3 p4 && zro q1 q2 q3 q4 then some [] else none) := Lib.hid (by
          rw [← hu'.out]; unfold uniT; rw [if_pos hte, hp.out, hq.out]
          first
            | (rw [if_pos (by have := zro_iff.1 hp.out; have := zro_iff.1 hq.out; omega)]; rfl)
            | (rw [if_neg (by first | (have := zro_no hp.out; omega) | (have := zro_no hq.out; omega))]; rfl))
        have htb : (t == t') = true := by simpa using hte
        subst hte
        go_wp2_with fail
        go_quiet (fail)
        go_wp2_with fail
        go_ret2
        refine uni_none (by rw [hut.out, hp.out, hq.out]; rfl) (by (repeat' (first | with_reducible exact Below.refl _ _ | with_reducible assumption | with_reducible apply Below.setCell | with_reducible apply Below.alloc | with_reducible apply Below.drew | with_reducible apply below_drewN | with_reducible exact Nat.le_refl _ | (simp; done) | (simp; omega) | omega | exact Nat.le_refl _)))
      have htb : (t == t') = false := by simpa using hte
      by_cases h0 : t' < 0
      · have hut : Hid (u = none) := Lib.hid (by
          rw [← hu'.out]; unfold uniT
          rw [if_neg hte, if_pos (by have := zro_no hp.out; omega)])
        go_wp2_with fail
        go_ret2
        exact uni_none (b := false) (by rw [hut.out]; rfl) (by (repeat' (first | with_reducible exact Below.refl _ _ | with_reducible assumption | with_reducible apply Below.setCell | with_reducible apply Below.alloc | with_reducible apply Below.drew | with_reducible apply below_drewN | with_reducible exact Nat.le_refl _ | (simp; done) | (simp; omega) | omega | exact Nat.le_refl _)))
      by_cases h1 : t < 0
      · have hut : Hid (u = none) := Lib.hid (by
          rw [← hu'.out]; unfold uniT
          rw [if_neg hte, if_pos (by have := zro_no hq.out; omega)])
        go_wp2_with fail
        go_ret2
        exact uni_none (b := false) (by rw [hut.out]; rfl) (by (repeat' (first | with_reducible exact Below.refl _ _ | with_reducible assumption | with_reducible apply Below.setCell | with_reducible apply Below.alloc | with_reducible apply Below.drew | with_reducible apply below_drewN | with_reducible exact Nat.le_refl _ | (simp; done) | (simp; omega) | omega | exact Nat.le_refl _)))
      · have hut : Hid (u = some [⟨t, q1, q2, q3, q4, fresh⟩, ⟨t', p1, p2, p3, p4, fresh⟩]) := Lib.hid (by
          rw [← hu'.out]; unfold uniT
          rw [if_neg hte, if_neg (by omega), if_neg (by have := zro_no hp.out; omega), if_neg (by have := zro_no hq.out; omega)])
        go_wp2_with fail
        go_region_held3 (fun W => W.cell? ⟨w.heap.size, 4, none⟩ = some (.int .i64 t) ∧ W.cell? ⟨w.heap.size + 1, 4, none⟩ = some (.int .i64 t') ∧ W.cell? ⟨g, 0, none⟩ = some (.int .i64 p1) ∧ W.cell? ⟨g, 1, none⟩ = some (.int .i64 p2) ∧ W.cell? ⟨g, 2, none⟩ = some (.int .i64 p3) ∧ W.cell? ⟨g, 3, none⟩ = some (.int .i64 p4) ∧ W.cell? ⟨h, 0, none⟩ = some (.int .i64 q1) ∧ W.cell? ⟨h, 1, none⟩ = some (.int .i64 q2) ∧ W.cell? ⟨h, 2, none⟩ = some (.int .i64 q3) ∧ W.cell? ⟨h, 3, none⟩ = some (.int .i64 q4) ∧ KeepG w g h W)
          (first | exact uniG_step (by assumption) hb9 | exact uniG_step (by assumption) (Joins.below_alloc1 _ _) | exact uniG_step ⟨a4, b4, pp0, pp1, pp2, pp3, qq0, qq1, qq2, qq3, hbel, hsz, hg1, hh1⟩ ((Below.refl _ _).alloc (Nat.le_refl _) _).drew)
          ((go_at_call 116; refine (bind_any _ _ _ _ _ _ _).mono ?_; rintro e w9 ⟨rfl, hb9⟩))
        go_wp2_with fail
        go_ret2
        refine (show UniPost u w _ _ from ?_)
        rw [hut.out]
        refine uni_two (belT (belT ?_ (by assumption)) hb9) _
        (repeat' (first | with_reducible exact Below.refl _ _ | with_reducible assumption | with_reducible apply Below.setCell | with_reducible apply Below.alloc | with_reducible apply Below.drew | with_reducible apply below_drewN | with_reducible exact Nat.le_refl _ | (simp; done) | (simp; omega) | omega | exact Nat.le_refl _))
    · have hp := Lib.hid hzp
      have hq := Lib.hid hzq
      by_cases hte : t = t'
      · have hut : Hid (u = if zro p1 p2 p3 p4 && zro q1 q2 q3 q4 then some [] else none) := Lib.hid (by
          rw [← hu'.out]; unfold uniT; rw [if_pos hte, hp.out, hq.out]
          first
            | (rw [if_pos (by have := zro_iff.1 hp.out; have := zro_iff.1 hq.out; omega)]; rfl)
            | (rw [if_neg (by first | (have := zro_no hp.out; omega) | (have := zro_no hq.out; omega))]; rfl))
        have htb : (t == t') = true := by simpa using hte
        subst hte
        go_wp2_with fail
        go_quiet (fail)
        go_wp2_with fail
        go_ret2
        refine uni_none (by rw [hut.out, hp.out, hq.out]; rfl) (by (repeat' (first | with_reducible exact Below.refl _ _ | with_reducible assumption | with_reducible apply Below.setCell | with_reducible apply Below.alloc | with_reducible apply Below.drew | with_reducible apply below_drewN | with_reducible exact Nat.le_refl _ | (simp; done) | (simp; omega) | omega | exact Nat.le_refl _)))
      have htb : (t == t') = false := by simpa using hte
      by_cases h0 : t' < 0
      · have hut : Hid (u = none) := Lib.hid (by
          rw [← hu'.out]; unfold uniT
          rw [if_neg hte, if_pos (by have := zro_no hp.out; omega)])
        go_wp2_with fail
        go_ret2
        exact uni_none (b := false) (by rw [hut.out]; rfl) (by (repeat' (first | with_reducible exact Below.refl _ _ | with_reducible assumption | with_reducible apply Below.setCell | with_reducible apply Below.alloc | with_reducible apply Below.drew | with_reducible apply below_drewN | with_reducible exact Nat.le_refl _ | (simp; done) | (simp; omega) | omega | exact Nat.le_refl _)))
      by_cases h1 : t < 0
      · have hut : Hid (u = some [⟨t', p1, p2, p3, p4, t⟩]) := Lib.hid (by
          rw [← hu'.out]; unfold uniT
          rw [if_neg hte, if_neg (by have := zro_iff.1 hq.out; omega), if_neg (by omega), if_pos (.inl h1)])
        go_wp2_with fail
        refine (bind_any _ _ _ _ _ _ _).mono ?_
        rintro e w2 ⟨rfl, hb2⟩
        have hb2' : Below w.heap.size w w2 := belT (by (repeat' (first | with_reducible exact Below.refl _ _ | with_reducible assumption | with_reducible apply Below.setCell | with_reducible apply Below.alloc | with_reducible apply Below.drew | with_reducible apply below_drewN | with_reducible exact Nat.le_refl _ | (simp; done) | (simp; omega) | omega | exact Nat.le_refl _))) hb2
        clear hb2
        go_wp2_with fail
        go_ret2
        exact (show UniPost u w _ _ by rw [hut.out]; exact uni_one hb2' _)
      · have hut : Hid (u = some [⟨t', p1, p2, p3, p4, t⟩]) := Lib.hid (by
          rw [← hu'.out]; unfold uniT
          rw [if_neg hte, if_neg (by omega), if_neg (by have := zro_no hp.out; omega), if_pos (.inr (zro_iff.1 hq.out))])
        go_wp2_with fail
        refine (bind_any _ _ _ _ _ _ _).mono ?_
        rintro e w2 ⟨rfl, hb2⟩
        have hb2' : Below w.heap.size w w2 := belT (by (repeat' (first | with_reducible exact Below.refl _ _ | with_reducible assumption | with_reducible apply Below.setCell | with_reducible apply Below.alloc | with_reducible apply Below.drew | with_reducible apply below_drewN | with_reducible exact Nat.le_refl _ | (simp; done) | (simp; omega) | omega | exact Nat.le_refl _))) hb2
        clear hb2
        go_wp2_with fail
        go_ret2
        exact (show UniPost u w _ _ by rw [hut.out]; exact uni_one hb2' _)
    · have hp := Lib.hid hzp
      have hq := Lib.hid hzq
      by_cases hte : t = t'
      · have hut : Hid (u = if zro p1 p2 p3 p4 && zro q1 q2 q3 q4 then some [] else none) := Lib.hid (by
          rw [← hu'.out]; unfold uniT; rw [if_pos hte, hp.out, hq.out]
          first
            | (rw [if_pos (by have := zro_iff.1 hp.out; have := zro_iff.1 hq.out; omega)]; rfl)
            | (rw [if_neg (by first | (have := zro_no hp.out; omega) | (have := zro_no hq.out; omega))]; rfl))
        have htb : (t == t') = true := by simpa using hte
        subst hte
        go_wp2_with fail
        go_quiet (fail)
        go_wp2_with fail
        go_ret2
        refine uni_none (by rw [hut.out, hp.out, hq.out]; rfl) (by (repeat' (first | with_reducible exact Below.refl _ _ | with_reducible assumption | with_reducible apply Below.setCell | with_reducible apply Below.alloc | with_reducible apply Below.drew | with_reducible apply below_drewN | with_reducible exact Nat.le_refl _ | (simp; done) | (simp; omega) | omega | exact Nat.le_refl _)))
      have htb : (t == t') = false := by simpa using hte
      by_cases h0 : t' < 0
      · have hut : Hid (u = some [⟨t, q1, q2, q3, q4, t'⟩]) := Lib.hid (by
          rw [← hu'.out]; unfold uniT
          rw [if_neg hte, if_neg (by have := zro_iff.1 hp.out; omega), if_pos (.inl h0)])
        go_wp2_with fail
        refine (bind_any _ _ _ _ _ _ _).mono ?_
        rintro e w2 ⟨rfl, hb2⟩
        have hb2' : Below w.heap.size w w2 := belT (by (repeat' (first | with_reducible exact Below.refl _ _ | with_reducible assumption | with_reducible apply Below.setCell | with_reducible apply Below.alloc | with_reducible apply Below.drew | with_reducible apply below_drewN | with_reducible exact Nat.le_refl _ | (simp; done) | (simp; omega) | omega | exact Nat.le_refl _))) hb2
        clear hb2
        go_wp2_with fail
        go_ret2
        exact (show UniPost u w _ _ by rw [hut.out]; exact uni_one hb2' _)
      by_cases h1 : t < 0
      · have hut : Hid (u = none) := Lib.hid (by
          rw [← hu'.out]; unfold uniT
          rw [if_neg hte, if_pos (by have := zro_no hq.out; omega)])
        go_wp2_with fail
        go_ret2
        exact uni_none (b := false) (by rw [hut.out]; rfl) (by (repeat' (first | with_reducible exact Below.refl _ _ | with_reducible assumption | with_reducible apply Below.setCell | with_reducible apply Below.alloc | with_reducible apply Below.drew | with_reducible apply below_drewN | with_reducible exact Nat.le_refl _ | (simp; done) | (simp; omega) | omega | exact Nat.le_refl _)))
      · have hut : Hid (u = some [⟨t, q1, q2, q3, q4, t'⟩]) := Lib.hid (by
          rw [← hu'.out]; unfold uniT
          rw [if_neg hte, if_neg (by omega), if_pos (.inr ⟨by omega, zro_iff.1 hp.out⟩)])
        go_wp2_with fail
        refine (bind_any _ _ _ _ _ _ _).mono ?_
        rintro e w2 ⟨rfl, hb2⟩
        have hb2' : Below w.heap.size w w2 := belT (by (repeat' (first | with_reducible exact Below.refl _ _ | with_reducible assumption | with_reducible apply Below.setCell | with_reducible apply Below.alloc | with_reducible apply Below.drew | with_reducible apply below_drewN | with_reducible exact Nat.le_refl _ | (simp; done) | (simp; omega) | omega | exact Nat.le_refl _))) hb2
        clear hb2
        go_wp2_with fail
        go_ret2
        exact (show UniPost u w _ _ by rw [hut.out]; exact uni_one hb2' _)
    · have hp := Lib.hid hzp
      have hq := Lib.hid hzq
      by_cases hte : t = t'
      · have hut : Hid (u = if zro p1 p2 p3 p4 && zro q1 q2 q3 q4 then some [] else none) := Lib.hid (by
          rw [← hu'.out]; unfold uniT; rw [if_pos hte, hp.out, hq.out]
          first
            | (rw [if_pos (by have := zro_iff.1 hp.out; have := zro_iff.1 hq.out; omega)]; rfl)
            | (rw [if_neg (by first | (have := zro_no hp.out; omega) | (have := zro_no hq.out; omega))]; rfl))
        have htb : (t == t') = true := by simpa using hte
        subst hte
        go_wp2_with fail
        go_quiet (fail)
        go_wp2_with fail
        go_ret2
        refine uni_none (by rw [hut.out, hp.out, hq.out]; rfl) (by (repeat' (first | with_reducible exact Below.refl _ _ | with_reducible assumption | with_reducible apply Below.setCell | with_reducible apply Below.alloc | with_reducible apply Below.drew | with_reducible apply below_drewN | with_reducible exact Nat.le_refl _ | (simp; done) | (simp; omega) | omega | exact Nat.le_refl _)))
      have htb : (t == t') = false := by simpa using hte
      by_cases h0 : t' < 0
      · have hut : Hid (u = some [⟨t, q1, q2, q3, q4, t'⟩]) := Lib.hid (by
          rw [← hu'.out]; unfold uniT
          rw [if_neg hte, if_neg (by have := zro_iff.1 hp.out; omega), if_pos (.inl h0)])
        go_wp2_with fail
        refine (bind_any _ _ _ _ _ _ _).mono ?_
        rintro e w2 ⟨rfl, hb2⟩
        have hb2' : Below w.heap.size w w2 := belT (by (repeat' (first | with_reducible exact Below.refl _ _ | with_reducible assumption | with_reducible apply Below.setCell | with_reducible apply Below.alloc | with_reducible apply Below.drew | with_reducible apply below_drewN | with_reducible exact Nat.le_refl _ | (simp; done) | (simp; omega) | omega | exact Nat.le_refl _))) hb2
        clear hb2
        go_wp2_with fail
        go_ret2
        exact (show UniPost u w _ _ by rw [hut.out]; exact uni_one hb2' _)
      by_cases h1 : t < 0
      · have hut : Hid (u = some [⟨t', p1, p2, p3, p4, t⟩]) := Lib.hid (by
          rw [← hu'.out]; unfold uniT
          rw [if_neg hte, if_neg (by have := zro_iff.1 hq.out; omega), if_neg (by omega), if_pos (.inl h1)])
        go_wp2_with fail
        refine (bind_any _ _ _ _ _ _ _).mono ?_
        rintro e w2 ⟨rfl, hb2⟩
        have hb2' : Below w.heap.size w w2 := belT (by (repeat' (first | with_reducible exact Below.refl _ _ | with_reducible assumption | with_reducible apply Below.setCell | with_reducible apply Below.alloc | with_reducible apply Below.drew | with_reducible apply below_drewN | with_reducible exact Nat.le_refl _ | (simp; done) | (simp; omega) | omega | exact Nat.le_refl _))) hb2
        clear hb2
        go_wp2_with fail
        go_ret2
        exact (show UniPost u w _ _ by rw [hut.out]; exact uni_one hb2' _)
      · have hut : Hid (u = some [⟨t, q1, q2, q3, q4, t'⟩]) := Lib.hid (by
          rw [← hu'.out]; unfold uniT
          rw [if_neg hte, if_neg (by omega), if_pos (.inr ⟨by omega, zro_iff.1 hp.out⟩)])
        go_wp2_with fail
        refine (bind_any _ _ _ _ _ _ _).mono ?_
        rintro e w2 ⟨rfl, hb2⟩
        have hb2' : Below w.heap.size w w2 := belT (by (repeat' (first | with_reducible exact Below.refl _ _ | with_reducible assumption | with_reducible apply Below.setCell | with_reducible apply Below.alloc | with_reducible apply Below.drew | with_reducible apply below_drewN | with_reducible exact Nat.le_refl _ | (simp; done) | (simp; omega) | omega | exact Nat.le_refl _))) hb2
        clear hb2
        go_wp2_with fail
        go_ret2
        exact (show UniPost u w _ _ by rw [hut.out]; exact uni_one hb2' _)
theorem unify_any (a b c d t a' b' c' d' t' fresh : Int) (w : World) (h : mayR a b c d t = true) (h' : mayR a' b' c' d' t' = true) :
    Calls Tryd.prog 110 #[.agg #[.int .i64 a, .int .i64 b, .int .i64 c, .int .i64 d, .int .i64 t], .agg #[.int .i64 a', .int .i64 b', .int .i64 c', .int .i64 d', .int .i64 t'], .int .i64 fresh] w
      (UniPost (uniT (mxz (a - a')) (mxz (b - b')) (mxz (c - c')) (mxz (d - d')) (mxz (a' - a)) (mxz (b' - b)) (mxz (c' - c)) (mxz (d' - d)) t t' fresh) w) :=
  unify_try a b c d t a' b' c' d' t' fresh _ w h h' _ _ _ _ _ _ _ _ (Lib.hid ⟨rfl, rfl, rfl, rfl, rfl, rfl, rfl, rfl⟩) (Lib.hid rfl)
end Go.Proofs.YtfkdcconmecaoaaDoor
