/- Shapes in memory: what is known of them; package shape's makers. -/
import Derived.Test.YtfkdcconmecaoaaDoorSbP
import Derived.LaidEqlPtr
import Derived.Lib.Builder
namespace Go.Proofs.YtfkdcconmecaoaaDoor
open Go.RowKit
set_option linter.unusedVariables false
set_option linter.unusedSimpArgs false

theorem below_alc (w : World) (o : Obj) : Below w.heap.size w (w.alloc o) := (Below.refl _ _).alloc (Nat.le_refl _) _
abbrev ptrS (g : Nat) : Value := .pointer (some ⟨g, 0, none⟩)
/-- a shape's block. -/
def shB (k v : Int) (pa pb : Value) (r : Rw) (n : Nat) (c : Bool) : Obj :=
  .cells #[.int .i64 k, .int .i64 v, pa, pb, .int .i64 r.a, .int .i64 r.b, .int .i64 r.c, .int .i64 r.d, .int .i64 r.t, .int .i64 n, .bool c] 116
def Shp (w : World) : TT → Nat → Prop
  | .base k, g => (k = 0 ∨ k = 1) ∧ w.heap[g]? = some (shB k 0 (.pointer none) (.pointer none) ⟨0, 0, 0, 0, 0⟩ 1 true)
  | .var v, g => w.heap[g]? = some (shB 2 v (.pointer none) (.pointer none) ⟨0, 0, 0, 0, 0⟩ 1 true)
  | .fn a r b, g => ∃ ga gb, w.heap[g]? = some (shB 3 0 (ptrS ga) (ptrS gb) r (a.sz + b.sz + 1) (a.cnt && b.cnt && r.cnt)) ∧ Shp w a ga ∧ Shp w b gb
def kdS : TT → Int
  | .base k => k
  | .var _ => 2
  | .fn _ _ _ => 3
def vrS : TT → Int
  | .var v => v
  | _ => 0
def rwS : TT → Rw
  | .fn _ r _ => r
  | _ => ⟨0, 0, 0, 0, 0⟩
/-- the block of a shape, whatever its kind. -/
theorem Shp.blk {w : World} {T : TT} {g : Nat} (h : Shp w T g) : ∃ pa pb, w.heap[g]? = some (shB (kdS T) (vrS T) pa pb (rwS T) T.sz T.cnt) := by
  cases T with
  | base k => exact ⟨_, _, h.2⟩
  | var v => exact ⟨_, _, h⟩
  | fn a r b => obtain ⟨ga, gb, h, _, _⟩ := h; exact ⟨_, _, h⟩
theorem Shp.lt {w : World} {T : TT} {g : Nat} (h : Shp w T g) : g < w.heap.size := by
  obtain ⟨_, _, h⟩ := h.blk
  exact (Array.getElem?_eq_some_iff.1 h).1
theorem Shp.below {w w' : World} {B : Nat} : ∀ {T : TT} {g : Nat}, Shp w T g → w.heap.size ≤ B → Below B w w' → Shp w' T g
  | .base k, g, h, hB, hb => ⟨h.1, by rw [hb.block g (Nat.lt_of_lt_of_le (Shp.lt (T := .base k) h) hB)]; exact h.2⟩
  | .var v, g, h, hB, hb => by
    have hl := Shp.lt (T := .var v) h
    show w'.heap[g]? = _
    rw [hb.block g (Nat.lt_of_lt_of_le hl hB)]; exact h
  | .fn a r b, g, h, hB, hb => by
    have hl := Shp.lt (T := .fn a r b) h
    obtain ⟨ga, gb, h1, h2, h3⟩ := h
    exact ⟨ga, gb, by rw [hb.block g (Nat.lt_of_lt_of_le hl hB)]; exact h1, h2.below hB hb, h3.below hB hb⟩
theorem Shp.keep {w w' : World} {T : TT} {g : Nat} (h : Shp w T g) (hb : Below w.heap.size w w') : Shp w' T g := h.below (Nat.le_refl _) hb
theorem shB_inj {k v k' v' : Int} {pa pb pa' pb' : Value} {r r' : Rw} {n n' : Nat} {c c' : Bool} (h : some (shB k v pa pb r n c) = some (shB k' v' pa' pb' r' n' c')) : k = k' ∧ v = v' ∧ pa = pa' ∧ pb = pb' ∧ r = r' := by
  unfold shB at h
  simp only [Option.some.injEq, Obj.cells.injEq, Array.mk.injEq, List.cons.injEq, Value.int.injEq, and_true, true_and] at h
  obtain ⟨ra, rb, rc, rd, rt⟩ := r
  obtain ⟨ra', rb', rc', rd', rt'⟩ := r'
  simp only [] at h
  obtain ⟨h1, h2, h3, h4, h5, h6, h7, h8, h9, _⟩ := h
  exact ⟨h1, h2, h3, h4, by rw [h5, h6, h7, h8, h9]⟩
/-- one block bears one tree. -/
theorem Shp.one {w : World} : ∀ {T U : TT} {g : Nat}, Shp w T g → Shp w U g → T = U
  | .base k, .base k', g, h, h' => by have := shB_inj (h.2.symm.trans h'.2); rw [this.1]
  | .base k, .var v, g, h, h' => by
    have := shB_inj (h.2.symm.trans (show w.heap[g]? = _ from h'))
    have := h.1; omega
  | .base k, .fn a r b, g, h, h' => by
    obtain ⟨ga, gb, h1, _, _⟩ := h'
    have := shB_inj (h.2.symm.trans h1)
    have := h.1; omega
  | .var v, .base k, g, h, h' => by
    have := shB_inj ((show w.heap[g]? = _ from h).symm.trans h'.2)
    have := h'.1; omega
  | .var v, .var v', g, h, h' => by have := shB_inj ((show w.heap[g]? = _ from h).symm.trans (show w.heap[g]? = _ from h')); rw [this.2.1]
  | .var v, .fn a r b, g, h, h' => by
    obtain ⟨ga, gb, h1, _, _⟩ := h'
    have := shB_inj ((show w.heap[g]? = _ from h).symm.trans h1)
    omega
  | .fn a r b, .base k, g, h, h' => by
    obtain ⟨ga, gb, h1, _, _⟩ := h
    have := shB_inj (h1.symm.trans h'.2)
    have := h'.1; omega
  | .fn a r b, .var v, g, h, h' => by
    obtain ⟨ga, gb, h1, _, _⟩ := h
    have := shB_inj (h1.symm.trans (show w.heap[g]? = _ from h'))
    omega
  | .fn a r b, .fn a' r' b', g, h, h' => by
    obtain ⟨ga, gb, h1, h2, h3⟩ := h
    obtain ⟨ga', gb', h1', h2', h3'⟩ := h'
    obtain ⟨_, _, e1, e2, e3⟩ := shB_inj (h1.symm.trans h1')
    simp only [ptrS, Value.pointer.injEq, Option.some.injEq, Addr.mk.injEq, and_true] at e1 e2
    subst e1 e2 e3
    rw [Shp.one h2 h2', Shp.one h3 h3']
/-- the cells of a shape's block. -/
structure ShC (w : World) (g : Nat) (k v : Int) (pa pb : Value) (r : Rw) (n : Nat) (c : Bool) : Prop where
  c0 : w.cell? ⟨g, 0, none⟩ = some (.int .i64 k)
  c1 : w.cell? ⟨g, 1, none⟩ = some (.int .i64 v)
  c2 : w.cell? ⟨g, 2, none⟩ = some pa
  c3 : w.cell? ⟨g, 3, none⟩ = some pb
  c4 : w.cell? ⟨g, 4, none⟩ = some (.int .i64 r.a)
  c5 : w.cell? ⟨g, 5, none⟩ = some (.int .i64 r.b)
  c6 : w.cell? ⟨g, 6, none⟩ = some (.int .i64 r.c)
  c7 : w.cell? ⟨g, 7, none⟩ = some (.int .i64 r.d)
  c8 : w.cell? ⟨g, 8, none⟩ = some (.int .i64 r.t)
  c9 : w.cell? ⟨g, 9, none⟩ = some (.int .i64 n)
  c10 : w.cell? ⟨g, 10, none⟩ = some (.bool c)
theorem shC_of {w : World} {g : Nat} {k v : Int} {pa pb : Value} {r : Rw} {n : Nat} {c : Bool} (h : w.heap[g]? = some (shB k v pa pb r n c)) : ShC w g k v pa pb r n c := by
  unfold shB at h
  have e := fun j => Lib.cell_of_heap h j
  exact ⟨(e 0).trans rfl, (e 1).trans rfl, (e 2).trans rfl, (e 3).trans rfl, (e 4).trans rfl, (e 5).trans rfl, (e 6).trans rfl, (e 7).trans rfl, (e 8).trans rfl, (e 9).trans rfl, (e 10).trans rfl⟩
theorem alloc_last (w : World) (o : Obj) : (w.alloc o).heap[w.heap.size]? = some o := by show (w.heap.push o)[w.heap.size]? = _; simp
theorem shp_new {w : World} {a b : TT} {r : Rw} {ga gb : Nat} {n : Int} {c : Bool} (ha : Shp w a ga) (hb : Shp w b gb) (hn : n = ((a.sz + b.sz + 1 : Nat) : Int)) (hc : c = (a.cnt && b.cnt && r.cnt)) :
    Shp (w.alloc (.cells #[.int .i64 3, .int .i64 0, ptrS ga, ptrS gb, .int .i64 r.a, .int .i64 r.b, .int .i64 r.c, .int .i64 r.d, .int .i64 r.t, .int .i64 n, .bool c] 116)) (.fn a r b) w.heap.size := by
  subst hn hc
  have hbl : Below w.heap.size w (w.alloc (.cells #[.int .i64 3, .int .i64 0, ptrS ga, ptrS gb, .int .i64 r.a, .int .i64 r.b, .int .i64 r.c, .int .i64 r.d, .int .i64 r.t, .int .i64 ((a.sz + b.sz + 1 : Nat) : Int), .bool (a.cnt && b.cnt && r.cnt)] 116)) := (Below.refl _ _).alloc (Nat.le_refl _) _
  exact ⟨ga, gb, alloc_last _ _, ha.keep hbl, hb.keep hbl⟩
def MkPost (T : TT) (w : World) (e : Ending) (w' : World) : Prop := ∃ g, e = .returned (ptrS g) ∧ Shp w' T g ∧ Below w.heap.size w w'

theorem shInt_any (w : World) : Calls Tryd.prog 85 #[] w (MkPost (.base 0) w) := by
  go_enter Tryd.func85, Tryd.ntmps85
  go_wp2_with fail
  go_ret
  exact ⟨w.heap.size, rfl, ⟨.inl rfl, alloc_last _ _⟩, by (repeat' (first | with_reducible exact Below.refl _ _ | with_reducible assumption | with_reducible apply Below.setCell | with_reducible apply Below.alloc | with_reducible apply Below.drew | with_reducible apply below_drewN | with_reducible exact Nat.le_refl _ | (simp; done) | (simp; omega) | omega | exact Nat.le_refl _))⟩
theorem shBool_any (w : World) : Calls Tryd.prog 84 #[] w (MkPost (.base 1) w) := by
  go_enter Tryd.func84, Tryd.ntmps84
  go_wp2_with fail
  go_ret
  exact ⟨w.heap.size, rfl, ⟨.inr rfl, alloc_last _ _⟩, by (repeat' (first | with_reducible exact Below.refl _ _ | with_reducible assumption | with_reducible apply Below.setCell | with_reducible apply Below.alloc | with_reducible apply Below.drew | with_reducible apply below_drewN | with_reducible exact Nat.le_refl _ | (simp; done) | (simp; omega) | omega | exact Nat.le_refl _))⟩
theorem shVar_any (v : Int) (w : World) : Calls Tryd.prog 56 #[.int .i64 v] w (MkPost (.var v) w) := by
  go_enter Tryd.func56, Tryd.ntmps56
  go_wp2_with fail
  go_ret
  exact ⟨w.heap.size, rfl, alloc_last _ _, by (repeat' (first | with_reducible exact Below.refl _ _ | with_reducible assumption | with_reducible apply Below.setCell | with_reducible apply Below.alloc | with_reducible apply Below.drew | with_reducible apply below_drewN | with_reducible exact Nat.le_refl _ | (simp; done) | (simp; omega) | omega | exact Nat.le_refl _))⟩
theorem shBase_any (k : Int) (w : World) (hk : k = 0 ∨ k = 1) : Calls Tryd.prog 57 #[.int .i64 k] w (MkPost (.base k) w) := by
  rcases hk with rfl | rfl
  · go_enter Tryd.func57, Tryd.ntmps57
    go_wp2_with fail
    refine (shInt_any _).mono ?_
    rintro e w1 ⟨g, rfl, hs, hb⟩
    go_wp2_with fail
    go_ret
    exact ⟨g, rfl, hs, hb⟩
  · go_enter Tryd.func57, Tryd.ntmps57
    go_wp2_with fail
    refine (shBool_any _).mono ?_
    rintro e w1 ⟨g, rfl, hs, hb⟩
    go_wp2_with fail
    go_ret
    exact ⟨g, rfl, hs, hb⟩
end Go.Proofs.YtfkdcconmecaoaaDoor
