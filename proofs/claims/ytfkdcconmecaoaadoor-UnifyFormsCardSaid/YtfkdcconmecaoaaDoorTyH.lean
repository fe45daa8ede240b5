/- Helpers of the layers of types; parts.Of. -/
import Derived.Test.YtfkdcconmecaoaaDoorRwA
import Derived.Test.YtfkdcconmecaoaaDoorHlp
import Derived.Laws.CopyRow
import Derived.Laws.AppendOwn
import Derived.Deep.WholeRow
import Derived.Deep.OwnRows
import Derived.Deep.DeepCutAuto
namespace Go.Proofs.YtfkdcconmecaoaaDoor
open Go.RowKit
set_option linter.unusedVariables false
set_option linter.unusedSimpArgs false

theorem carry {W W1 : World} {g o : Nat} {v : Value} (hb : Below W.heap.size W W1) (hg : g < W.heap.size) (h : W.cell? ⟨g, o, none⟩ = some v) : W1.cell? ⟨g, o, none⟩ = some v := by
  rw [hb.cell (p := ⟨g, o, none⟩) hg]; exact h
theorem ret_bb {a b : Bool} (h : a = b) : Ending.returned (.bool a) = .returned (.bool b) := by rw [h]
theorem owns_below {w w1 : World} {base : Nat} {e : TypeId} {size : Nat} {v : Value} {n : Nat} {xs : List Value} (h : w.ownsRow base e size v n xs) (hb : Below w.heap.size w w1) : w1.ownsRow base e size v n xs := by
  refine ⟨h.1, ?_⟩
  rcases h.2 with h | ⟨g, cap, cur, h1, h2, h3, h4⟩
  · exact .inl h
  · refine .inr ⟨g, cap, cur, h1, h2, ?_, h4⟩
    have hg : g < w.heap.size := by
      rcases Nat.lt_or_ge g w.heap.size with h | h
      · exact h
      · rw [Array.getElem?_eq_none h] at h3; cases h3
    rw [hb.block g hg]; exact h3
/-- a type's node. -/
structure Ty where
  (k v a b c0 c1 c2 c3 t : Int)
  deriving DecidableEq
def ty0 : Ty := ⟨0, 0, 0, 0, 0, 0, 0, 0, 0⟩
/-- node i of a row of a type's nodes, in memory. -/
def TyAt (w : World) (b off : Nat) (t : Ty) (i : Nat) : Prop :=
  w.cell? ⟨b, off + i * 9, none⟩ = some (.int .i64 t.k) ∧ w.cell? ⟨b, off + i * 9 + 1, none⟩ = some (.int .i64 t.v) ∧ w.cell? ⟨b, off + i * 9 + 2, none⟩ = some (.int .i64 t.a) ∧
  w.cell? ⟨b, off + i * 9 + 3, none⟩ = some (.int .i64 t.b) ∧ w.cell? ⟨b, off + i * 9 + 4, none⟩ = some (.int .i64 t.c0) ∧ w.cell? ⟨b, off + i * 9 + 5, none⟩ = some (.int .i64 t.c1) ∧
  w.cell? ⟨b, off + i * 9 + 6, none⟩ = some (.int .i64 t.c2) ∧ w.cell? ⟨b, off + i * 9 + 7, none⟩ = some (.int .i64 t.c3) ∧ w.cell? ⟨b, off + i * 9 + 8, none⟩ = some (.int .i64 t.t)
theorem TyAt.below {B : Nat} {w w' : World} {b off i : Nat} {t : Ty} (h : TyAt w b off t i) (hb : Below B w w') (hB : b < B) : TyAt w' b off t i := by
  unfold TyAt at *
  have e : ∀ o, w'.cell? ⟨b, o, none⟩ = w.cell? ⟨b, o, none⟩ := fun o => hb.cell (p := ⟨b, o, none⟩) hB
  simp only [e]; exact h
def TySl (w : World) (b off : Nat) (ts : List Ty) : Prop := ∀ i, i < ts.length → TyAt w b off (ts.getD i ty0) i
theorem TySl.below {B : Nat} {w w' : World} {b off : Nat} {ts : List Ty} (h : TySl w b off ts) (hb : Below B w w') (hB : b < B) : TySl w' b off ts :=
  fun i hi => (h i hi).below hb hB
/-- a slice of a type's nodes that may be read. -/
def TyArg (w : World) (a : Option Addr) (n : Nat) (ts : List Ty) : Prop := n = ts.length ∧ (ts = [] ∨ ∃ b off, a = some ⟨b, off, none⟩ ∧ TySl w b off ts ∧ b < w.heap.size)
theorem TyArg.below {w w' : World} {a : Option Addr} {n : Nat} {ts : List Ty} (h : TyArg w a n ts) (hb : Below w.heap.size w w') : TyArg w' a n ts := by
  obtain ⟨h1, h | ⟨b, off, h2, h3, h4⟩⟩ := h
  · exact ⟨h1, .inl h⟩
  · exact ⟨h1, .inr ⟨b, off, h2, h3.below hb h4, by have := hb.size; omega⟩⟩
theorem getT_mem {ts : List Ty} {j : Nat} (hj : j < ts.length) : ts.getD j ty0 ∈ ts := by
  rw [List.getD_eq_getElem?_getD, List.getElem?_eq_getElem hj]; exact List.getElem_mem hj
theorem allT_take {α : Type} (l : List α) (d : α) (p : α → Bool) (j : Nat) (h : j < l.length) : (l.take (j + 1)).all p = ((l.take j).all p && p (l.getD j d)) := by
  rw [List.take_succ_eq_append_getElem h, List.all_append]
  simp [h]

/- Two nodes of types: whether they are the same. -/
theorem arr4_in (d : Nat) (T : TypeId) (hT : Tryd.prog.underlying T = some (.array 4 3)) (w : World) (x0 x1 x2 x3 y0 y1 y2 y3 : Int) :
    (Op.equalIn (d + 2) T (.agg #[.int .i64 x0, .int .i64 x1, .int .i64 x2, .int .i64 x3]) (.agg #[.int .i64 y0, .int .i64 y1, .int .i64 y2, .int .i64 y3])).run Tryd.prog w = .ok (x0 == y0 && (x1 == y1 && (x2 == y2 && x3 == y3))) w := by
  have hs : ∀ W : World, (sizeOf 3).run Tryd.prog W = .ok 1 W := fun _ => by kernel_rfl
  have p0 : ∀ (a b c e : Int) (W : World), (part 3 #[.int .i64 a, .int .i64 b, .int .i64 c, .int .i64 e] 0).run Tryd.prog W = .ok (.int .i64 a) W := fun _ _ _ _ _ => by kernel_rfl
  have p1 : ∀ (a b c e : Int) (W : World), (part 3 #[.int .i64 a, .int .i64 b, .int .i64 c, .int .i64 e] 1).run Tryd.prog W = .ok (.int .i64 b) W := fun _ _ _ _ _ => by kernel_rfl
  have p2 : ∀ (a b c e : Int) (W : World), (part 3 #[.int .i64 a, .int .i64 b, .int .i64 c, .int .i64 e] 2).run Tryd.prog W = .ok (.int .i64 c) W := fun _ _ _ _ _ => by kernel_rfl
  have p3 : ∀ (a b c e : Int) (W : World), (part 3 #[.int .i64 a, .int .i64 b, .int .i64 c, .int .i64 e] 3).run Tryd.prog W = .ok (.int .i64 e) W := fun _ _ _ _ _ => by kernel_rfl
  have he : ∀ (a b : Int) (W : World), (Op.equalIn (d + 1) 3 (.int .i64 a) (.int .i64 b)).run Tryd.prog W = .ok (a == b) W := fun a b W => run_equalIn_int W d 3 .i64 .i64 a b Tryd.underlying3
  rw [show d + 2 = (d + 1) + 1 from rfl]
  unfold Op.equalIn
  cases h0 : (x0 == y0) <;> cases h1 : (x1 == y1) <;> cases h2 : (x2 == y2) <;> cases h3 : (x3 == y3) <;>
  simp [run_underlying hT, Sem.run_bind, hs, p0, p1, p2, p3, he, h0, h1, h2, h3, Std.Legacy.Range.forIn_eq_forIn_range', List.range', Result.andThen]
def rwQ (x0 x1 x2 x3 x4 y0 y1 y2 y3 y4 : Int) : Bool := (x0 == y0 && (x1 == y1 && (x2 == y2 && x3 == y3))) && x4 == y4
set_option maxHeartbeats 1000000 in
theorem row_in (d : Nat) (x0 x1 x2 x3 x4 y0 y1 y2 y3 y4 : Int) (w : World) :
    (Op.equalIn (d + 3) 36 (.agg #[.int .i64 x0, .int .i64 x1, .int .i64 x2, .int .i64 x3, .int .i64 x4]) (.agg #[.int .i64 y0, .int .i64 y1, .int .i64 y2, .int .i64 y3, .int .i64 y4])).run Tryd.prog w = .ok (rwQ x0 x1 x2 x3 x4 y0 y1 y2 y3 y4) w := by
  have he : ∀ (a b : Int) (W : World), (Op.equalIn (d + 2) 3 (.int .i64 a) (.int .i64 b)).run Tryd.prog W = .ok (a == b) W := fun a b W => run_equalIn_int W (d + 1) 3 .i64 .i64 a b Tryd.underlying3
  have ha := fun (x0 x1 x2 x3 y0 y1 y2 y3 : Int) (W : World) => arr4_in d 34 Tryd.underlying34 W x0 x1 x2 x3 y0 y1 y2 y3
  have hst : Tryd.prog.stoodInHeld 36 = false := by kernel_rfl
  have p0 : ∀ (z0 z1 z2 z3 z4 : Int) (W : World), (part 34 #[.int .i64 z0, .int .i64 z1, .int .i64 z2, .int .i64 z3, .int .i64 z4] 0).run Tryd.prog W = .ok (.agg #[.int .i64 z0, .int .i64 z1, .int .i64 z2, .int .i64 z3]) W := fun _ _ _ _ _ _ => by kernel_rfl
  have p1 : ∀ (z0 z1 z2 z3 z4 : Int) (W : World), (part 3 #[.int .i64 z0, .int .i64 z1, .int .i64 z2, .int .i64 z3, .int .i64 z4] 4).run Tryd.prog W = .ok (.int .i64 z4) W := fun _ _ _ _ _ _ => by kernel_rfl
  rw [show d + 3 = (d + 2) + 1 from rfl]
  unfold Op.equalIn rwQ
  have hpr : ∀ W : World, (program).run Tryd.prog W = .ok Tryd.prog W := fun _ => by kernel_rfl
  cases h0 : (x0 == y0 && (x1 == y1 && (x2 == y2 && x3 == y3)))
  · simp [run_underlying Tryd.underlying36, Sem.run_bind, hpr, hst, Result.andThen, he, ha, p0, p1, h0]
  cases h1 : (x4 == y4)
  · simp [run_underlying Tryd.underlying36, Sem.run_bind, hpr, hst, Result.andThen, he, ha, p0, p1, h0, h1]
  · simp [run_underlying Tryd.underlying36, Sem.run_bind, hpr, hst, Result.andThen, he, ha, p0, p1, h0, h1]
def tyQ (x0 x1 x2 x3 x4 x5 x6 x7 x8 y0 y1 y2 y3 y4 y5 y6 y7 y8 : Int) : Bool :=
  x0 == y0 && (x1 == y1 && (x2 == y2 && (x3 == y3 && rwQ x4 x5 x6 x7 x8 y4 y5 y6 y7 y8)))
set_option maxHeartbeats 2000000 in
theorem ty_in (x0 x1 x2 x3 x4 x5 x6 x7 x8 y0 y1 y2 y3 y4 y5 y6 y7 y8 : Int) (w : World) :
    (Op.equalIn 10000 38 (.agg #[.int .i64 x0, .int .i64 x1, .int .i64 x2, .int .i64 x3, .int .i64 x4, .int .i64 x5, .int .i64 x6, .int .i64 x7, .int .i64 x8]) (.agg #[.int .i64 y0, .int .i64 y1, .int .i64 y2, .int .i64 y3, .int .i64 y4, .int .i64 y5, .int .i64 y6, .int .i64 y7, .int .i64 y8])).run Tryd.prog w = .ok (tyQ x0 x1 x2 x3 x4 x5 x6 x7 x8 y0 y1 y2 y3 y4 y5 y6 y7 y8) w := by
  have he : ∀ (a b : Int) (W : World), (Op.equalIn 9999 3 (.int .i64 a) (.int .i64 b)).run Tryd.prog W = .ok (a == b) W := fun a b W => run_equalIn_int W 9998 3 .i64 .i64 a b Tryd.underlying3
  have hr := fun (x0 x1 x2 x3 x4 y0 y1 y2 y3 y4 : Int) (W : World) => row_in 9996 x0 x1 x2 x3 x4 y0 y1 y2 y3 y4 W
  simp only [Nat.reduceAdd] at hr
  have hst : Tryd.prog.stoodInHeld 38 = false := by kernel_rfl
  have p0 : ∀ (z0 z1 z2 z3 z4 z5 z6 z7 z8 : Int) (W : World), (part 3 #[.int .i64 z0, .int .i64 z1, .int .i64 z2, .int .i64 z3, .int .i64 z4, .int .i64 z5, .int .i64 z6, .int .i64 z7, .int .i64 z8] 0).run Tryd.prog W = .ok (.int .i64 z0) W := fun _ _ _ _ _ _ _ _ _ _ => by kernel_rfl
  have p1 : ∀ (z0 z1 z2 z3 z4 z5 z6 z7 z8 : Int) (W : World), (part 3 #[.int .i64 z0, .int .i64 z1, .int .i64 z2, .int .i64 z3, .int .i64 z4, .int .i64 z5, .int .i64 z6, .int .i64 z7, .int .i64 z8] 1).run Tryd.prog W = .ok (.int .i64 z1) W := fun _ _ _ _ _ _ _ _ _ _ => by kernel_rfl
  have p2 : ∀ (z0 z1 z2 z3 z4 z5 z6 z7 z8 : Int) (W : World), (part 3 #[.int .i64 z0, .int .i64 z1, .int .i64 z2, .int .i64 z3, .int .i64 z4, .int .i64 z5, .int .i64 z6, .int .i64 z7, .int .i64 z8] 2).run Tryd.prog W = .ok (.int .i64 z2) W := fun _ _ _ _ _ _ _ _ _ _ => by kernel_rfl
  have p3 : ∀ (z0 z1 z2 z3 z4 z5 z6 z7 z8 : Int) (W : World), (part 3 #[.int .i64 z0, .int .i64 z1, .int .i64 z2, .int .i64 z3, .int .i64 z4, .int .i64 z5, .int .i64 z6, .int .i64 z7, .int .i64 z8] 3).run Tryd.prog W = .ok (.int .i64 z3) W := fun _ _ _ _ _ _ _ _ _ _ => by kernel_rfl
  have p4 : ∀ (z0 z1 z2 z3 z4 z5 z6 z7 z8 : Int) (W : World), (part 36 #[.int .i64 z0, .int .i64 z1, .int .i64 z2, .int .i64 z3, .int .i64 z4, .int .i64 z5, .int .i64 z6, .int .i64 z7, .int .i64 z8] 4).run Tryd.prog W = .ok (.agg #[.int .i64 z4, .int .i64 z5, .int .i64 z6, .int .i64 z7, .int .i64 z8]) W := fun _ _ _ _ _ _ _ _ _ _ => by kernel_rfl
  rw [show (10000 : Nat) = 9999 + 1 from rfl]
  unfold Op.equalIn tyQ
  have hpr : ∀ W : World, (program).run Tryd.prog W = .ok Tryd.prog W := fun _ => by kernel_rfl
  cases h0 : (x0 == y0)
  · simp [run_underlying Tryd.underlying38, Sem.run_bind, hpr, hst, Result.andThen, he, hr, p0, p1, p2, p3, p4, h0]
  cases h1 : (x1 == y1)
  · simp [run_underlying Tryd.underlying38, Sem.run_bind, hpr, hst, Result.andThen, he, hr, p0, p1, p2, p3, p4, h0, h1]
  cases h2 : (x2 == y2)
  · simp [run_underlying Tryd.underlying38, Sem.run_bind, hpr, hst, Result.andThen, he, hr, p0, p1, p2, p3, p4, h0, h1, h2]
  cases h3 : (x3 == y3)
  · simp [run_underlying Tryd.underlying38, Sem.run_bind, hpr, hst, Result.andThen, he, hr, p0, p1, p2, p3, p4, h0, h1, h2, h3]
  cases h4 : rwQ x4 x5 x6 x7 x8 y4 y5 y6 y7 y8
  · simp [run_underlying Tryd.underlying38, Sem.run_bind, hpr, hst, Result.andThen, he, hr, p0, p1, p2, p3, p4, h0, h1, h2, h3, h4]
  · simp [run_underlying Tryd.underlying38, Sem.run_bind, hpr, hst, Result.andThen, he, hr, p0, p1, p2, p3, p4, h0, h1, h2, h3, h4]
def tyE (t u : Ty) : Bool := tyQ t.k t.v t.a t.b t.c0 t.c1 t.c2 t.c3 t.t u.k u.v u.a u.b u.c0 u.c1 u.c2 u.c3 u.t
theorem tyE_iff (t u : Ty) : tyE t u = decide (t = u) := by
  obtain ⟨_, _, _, _, _, _, _, _, _⟩ := t
  obtain ⟨_, _, _, _, _, _, _, _, _⟩ := u
  unfold tyE tyQ rwQ
  rw [Bool.eq_iff_iff]
  simp [Ty.mk.injEq, and_assoc]
end Go.Proofs.YtfkdcconmecaoaaDoor

/- Children of a node: parts.Of. -/
namespace Go.Proofs.YtfkdcconmecaoaaDoor
open Go.RowKit
set_option linter.unusedVariables false
set_option linter.unusedSimpArgs false

theorem lit_cells (W : World) (g : Nat) (l : List Int) (T : TypeId) (hg : g = W.heap.size) {arr : Array Value} (ha : arr = (l.map (Value.int .i64)).toArray) : ∀ i, i < l.length → (W.alloc (.cells arr T)).cell? ⟨g, i, none⟩ = some (.int .i64 (l.getD i 0)) := by
  intro i hi
  subst hg ha
  rw [World.cell?_alloc_new]
  simp [hi]
theorem copy_of (W : World) (g : Nat) (l : List Int) (n : Nat) (hn : l.length = n) (h3 : n ≤ 3) (hg : g < W.heap.size) (hc : ∀ i, i < l.length → W.cell? ⟨g, i, none⟩ = some (.int .i64 (l.getD i 0))) (T : TypeId) (G : Nat) (hG : G = W.heap.size) :
    (Builtin.copy_ #[52, 52] 3 #[.slice (some ⟨G, 1, none⟩) 3 3, .slice (some ⟨g, 0, none⟩) n n]).run Tryd.prog (W.alloc (.cells #[.int .i64 0, .int .i64 0, .int .i64 0, .int .i64 0] T)) =
      .ok (goInt n) (W.alloc (.cells ([Value.int .i64 0] ++ l.map (Value.int .i64) ++ [Value.int .i64 0, .int .i64 0, .int .i64 0, .int .i64 0].drop (1 + n)).toArray T)) := by
  subst hG
  have h := run_copy_row (P := Tryd.prog) (W.alloc (.cells #[.int .i64 0, .int .i64 0, .int .i64 0, .int .i64 0] T)) 52 52 3 3 W.heap.size 1 3 3 ⟨g, 0, none⟩ n n #[.int .i64 0, .int .i64 0, .int .i64 0, .int .i64 0] T (l.map (Value.int .i64)) Tryd.underlying52 (by kernel_rfl) (MapKept.heap_alloc W _).1 (by rw [List.length_map, hn]; show n = min n 3; omega) ?_ (by simp; omega) (by simp [Value.oneCell'])
  · rw [h, World.setRow_alloc_new]
    simp [hn]
  · intro j v hj
    have hj' : j < l.length := by
      have := List.getElem?_eq_some_iff.1 hj
      simpa using this.1
    have e : (⟨g, 0, none⟩ : Addr).add j = ⟨g, j, none⟩ := by simp [Addr.add]; try omega
    rw [e, World.cell?_alloc_past _ _ _ hg, hc j hj']
    rw [List.getElem?_map, List.getElem?_eq_getElem hj'] at hj
    simp at hj
    rw [← hj]; simp [hj']
def kidV (l : List Int) : Value := .agg #[.int .i64 l.length, .int .i64 (l.getD 0 0), .int .i64 (l.getD 1 0), .int .i64 (l.getD 2 0)]

set_option maxHeartbeats 400000 in
theorem of1 (g : Nat) (p : Int) (w : World) (hg : g < w.heap.size) (hc : ∀ i, i < [p].length → w.cell? ⟨g, i, none⟩ = some (.int .i64 ([p].getD i 0))) :
    Calls Tryd.prog 82 #[.slice (some ⟨g, 0, none⟩) 1 1] w fun e w' => e = .returned (kidV [p]) ∧ Below w.heap.size w w' := by
  have hcp := copy_of (w.alloc (.cells #[.int .i64 0, .int .i64 0, .int .i64 0, .int .i64 0] 109)) g [p] 1 rfl (by omega) (by simp; omega) (fun i hi => by rw [World.cell?_alloc_past _ _ _ hg]; exact hc i hi) 109 (w.heap.size + 1) (by simp)
  simp only [List.map_cons, List.map_nil, List.cons_append, List.nil_append, List.drop_succ_cons, List.drop_zero, Nat.reduceAdd, List.append_nil, List.drop_nil] at hcp
  clear hc
  go_enter Tryd.func82, Tryd.ntmps82
  go_wp2_with fail
  exact bodyPost_ret (v := kidV [p]) (by simp [results, Tryd.results82, go_sem, kidV]) rfl ⟨rfl, by (repeat' (first | with_reducible exact Below.refl _ _ | with_reducible assumption | with_reducible apply Below.setCell | with_reducible apply Below.alloc | with_reducible apply Below.drew | with_reducible apply below_drewN | with_reducible exact Nat.le_refl _ | (simp; done) | (simp; omega) | omega | exact Nat.le_refl _))⟩
set_option maxHeartbeats 400000 in
theorem of2 (g : Nat) (p q : Int) (w : World) (hg : g < w.heap.size) (hc : ∀ i, i < [p, q].length → w.cell? ⟨g, i, none⟩ = some (.int .i64 ([p, q].getD i 0))) :
    Calls Tryd.prog 82 #[.slice (some ⟨g, 0, none⟩) 2 2] w fun e w' => e = .returned (kidV [p, q]) ∧ Below w.heap.size w w' := by
  have hcp := copy_of (w.alloc (.cells #[.int .i64 0, .int .i64 0, .int .i64 0, .int .i64 0] 109)) g [p, q] 2 rfl (by omega) (by simp; omega) (fun i hi => by rw [World.cell?_alloc_past _ _ _ hg]; exact hc i hi) 109 (w.heap.size + 1) (by simp)
  simp only [List.map_cons, List.map_nil, List.cons_append, List.nil_append, List.drop_succ_cons, List.drop_zero, Nat.reduceAdd, List.append_nil, List.drop_nil] at hcp
  clear hc
  go_enter Tryd.func82, Tryd.ntmps82
  go_wp2_with fail
  exact bodyPost_ret (v := kidV [p, q]) (by simp [results, Tryd.results82, go_sem, kidV]) rfl ⟨rfl, by (repeat' (first | with_reducible exact Below.refl _ _ | with_reducible assumption | with_reducible apply Below.setCell | with_reducible apply Below.alloc | with_reducible apply Below.drew | with_reducible apply below_drewN | with_reducible exact Nat.le_refl _ | (simp; done) | (simp; omega) | omega | exact Nat.le_refl _))⟩
set_option maxHeartbeats 400000 in
theorem of3 (g : Nat) (p q r : Int) (w : World) (hg : g < w.heap.size) (hc : ∀ i, i < [p, q, r].length → w.cell? ⟨g, i, none⟩ = some (.int .i64 ([p, q, r].getD i 0))) :
    Calls Tryd.prog 82 #[.slice (some ⟨g, 0, none⟩) 3 3] w fun e w' => e = .returned (kidV [p, q, r]) ∧ Below w.heap.size w w' := by
  have hcp := copy_of (w.alloc (.cells #[.int .i64 0, .int .i64 0, .int .i64 0, .int .i64 0] 109)) g [p, q, r] 3 rfl (by omega) (by simp; omega) (fun i hi => by rw [World.cell?_alloc_past _ _ _ hg]; exact hc i hi) 109 (w.heap.size + 1) (by simp)
  simp only [List.map_cons, List.map_nil, List.cons_append, List.nil_append, List.drop_succ_cons, List.drop_zero, Nat.reduceAdd, List.append_nil, List.drop_nil] at hcp
  clear hc
  go_enter Tryd.func82, Tryd.ntmps82
  go_wp2_with fail
  exact bodyPost_ret (v := kidV [p, q, r]) (by simp [results, Tryd.results82, go_sem, kidV]) rfl ⟨rfl, by (repeat' (first | with_reducible exact Below.refl _ _ | with_reducible assumption | with_reducible apply Below.setCell | with_reducible apply Below.alloc | with_reducible apply Below.drew | with_reducible apply below_drewN | with_reducible exact Nat.le_refl _ | (simp; done) | (simp; omega) | omega | exact Nat.le_refl _))⟩
set_option maxHeartbeats 400000 in
theorem of0 (w : World) :
    Calls Tryd.prog 82 #[.slice none 0 0] w fun e w' => e = .returned (kidV []) ∧ Below w.heap.size w w' := by
  have hcp := fun (W : World) (a : Addr) => run_copy_nil (P := Tryd.prog) W 52 52 3 3 a 3 3 Tryd.underlying52 (by kernel_rfl)
  go_enter Tryd.func82, Tryd.ntmps82
  go_wp2_with fail
  exact bodyPost_ret (v := kidV []) (by simp [results, Tryd.results82, go_sem, kidV]) rfl ⟨rfl, by (repeat' (first | with_reducible exact Below.refl _ _ | with_reducible assumption | with_reducible apply Below.setCell | with_reducible apply Below.alloc | with_reducible apply Below.drew | with_reducible apply below_drewN | with_reducible exact Nat.le_refl _ | (simp; done) | (simp; omega) | omega | exact Nat.le_refl _))⟩

theorem kidV_eq (l : List Int) : kidV l = .agg #[.int .i64 l.length, .int .i64 (l.getD 0 0), .int .i64 (l.getD 1 0), .int .i64 (l.getD 2 0)] := rfl

end Go.Proofs.YtfkdcconmecaoaaDoor
