/- Short names. -/
import Derived.Test.YtnjalpcmjkahkaaChecked
import Derived.Below
import Derived.WalkSmall
namespace Go.Proofs.Ytnjalpcmjkahkaa
open Go.RowKit
set_option linter.unusedVariables false
universe u
theorem bH {P : Prop} (h : P) : Hid P := h
theorem bR (B : Nat) (w : World) : Below B w w := Below.refl B w
theorem bS {B : Nat} {a w : World} (h : Below B a w) {p : Addr} (k : B ≤ p.block) (u : Value) : Below B a (w.setCell p u) := Below.setCell h k u
theorem bA {B : Nat} {a w : World} (h : Below B a w) (k : B ≤ w.heap.size) (o : Obj) : Below B a (w.alloc o) := Below.alloc h k o
theorem bD {B : Nat} {a w : World} (h : Below B a w) : Below B a w.drew := Below.drew h
theorem bN {B : Nat} {a w : World} (h : Below B a w) (n : Nat) : Below B a (w.drewN n) := below_drewN h n
theorem bL (n : Nat) : n ≤ n := Nat.le_refl n
theorem bZ {P : Prop} (h : P := by (repeat' (first | (with_reducible first | exact bR _ _ | assumption | apply bS | apply bA | apply bD | apply bN | exact bL _) | (simp; done) | (simp; omega) | omega | exact bL _))) : P := h
theorem bP {α : Type u} (l : List α) (i : Nat) (a : α) : l.toArray.setIfInBounds i a = (l.set i a).toArray := List.setIfInBounds_toArray l i a
theorem bQ {α : Type u} {x : α} {xs : List α} {a : α} : (x :: xs).set 0 a = a :: xs := List.set_cons_zero
theorem bT {α : Type u} {x : α} {xs : List α} {i : Nat} {a : α} : (x :: xs).set (i + 1) a = x :: xs.set i a := List.set_cons_succ
end Go.Proofs.Ytnjalpcmjkahkaa
