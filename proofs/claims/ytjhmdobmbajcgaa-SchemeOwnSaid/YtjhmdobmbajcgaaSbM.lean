/- Memory aids: a cell that may be written, over a drawn region; numbers of errors. -/
import Derived.Test.YtjhmdobmbajcgaaSbK
import Derived.Test.YtjhmdobmbajcgaaSbI
namespace Go.Proofs.Ytjhmdobmbajcgaa
open Go.RowKit
set_option linter.unusedVariables false
set_option linter.unusedSimpArgs false

def BoxFr (w : World) (g : Nat) (v : Value) : Prop := BoxAt w g v ∧ w.frozen? ⟨g, 0, none⟩ = false
theorem BoxFr.below {w w' : World} {g : Nat} {v : Value} (h : BoxFr w g v) (hb : Below w.heap.size w w') : BoxFr w' g v := ⟨h.1.below hb, (hb.frozen (p := ⟨g, 0, none⟩) h.1.1).trans h.2⟩
theorem BoxFr.alloc {w : World} {g : Nat} {v : Value} (o : Obj) (h : BoxFr w g v) : BoxFr (w.alloc o) g v := h.below (below_alc w o)
theorem BoxFr.drew {w : World} {g : Nat} {v : Value} (h : BoxFr w g v) : BoxFr w.drew g v := h.below ((Below.refl _ _).drew)
theorem boxfr_lit (w : World) (T : TypeId) (g : Nat) (v : Value) (hg : g = w.heap.size) : BoxFr (w.alloc (.cells #[v] T)) g v := by
  subst hg
  exact ⟨⟨by simp, by simp⟩, by simp [go_sem]⟩
theorem st_go {w4 W W' : World} {B1 : Nat} {v : Value} (h1 : B1 < w4.heap.size) (h : W.cell? ⟨B1, 0, none⟩ = some v ∧ Below w4.heap.size w4 W) (hb : Below W.heap.size W W') : W'.cell? ⟨B1, 0, none⟩ = some v ∧ Below w4.heap.size w4 W' :=
  ⟨carry hb (by have := h.2.size; omega) h.1, belT h.2 hb⟩
theorem st_alloc {w4 W : World} {B1 : Nat} {v : Value} (h1 : B1 < w4.heap.size) (o : Obj) (h : W.cell? ⟨B1, 0, none⟩ = some v ∧ Below w4.heap.size w4 W) : (W.alloc o).cell? ⟨B1, 0, none⟩ = some v ∧ Below w4.heap.size w4 (W.alloc o) := st_go h1 h (below_alc W o)
theorem st_drew {w4 W : World} {B1 : Nat} {v : Value} (h1 : B1 < w4.heap.size) (h : W.cell? ⟨B1, 0, none⟩ = some v ∧ Below w4.heap.size w4 W) : W.drew.cell? ⟨B1, 0, none⟩ = some v ∧ Below w4.heap.size w4 W.drew := st_go h1 h ((Below.refl _ _).drew)
theorem st_set {w4 W : World} {B1 k : Nat} {v x : Value} (h1 : B1 < w4.heap.size) (hk : w4.heap.size ≤ k) (h : W.cell? ⟨B1, 0, none⟩ = some v ∧ Below w4.heap.size w4 W) : (W.setCell ⟨k, 0, none⟩ x).cell? ⟨B1, 0, none⟩ = some v ∧ Below w4.heap.size w4 (W.setCell ⟨k, 0, none⟩ x) :=
  ⟨(World.cell?_setCell_other _ _ _ _ (by intro e; injection e; omega)).trans h.1, h.2.setCell hk _⟩
theorem sz1 (w : World) (o : Obj) : w.heap.size + 1 = (w.alloc o).heap.size := by simp
theorem sz2 (w : World) (o o' : Obj) : w.heap.size + 1 + 1 = ((w.alloc o).alloc o').heap.size := by simp
theorem subRE_bd (xs : List Bn) (r : Rw) : 0 ≤ subRE xs r ∧ subRE xs r ≤ 900 := by unfold subRE; split <;> omega
end Go.Proofs.Ytjhmdobmbajcgaa
