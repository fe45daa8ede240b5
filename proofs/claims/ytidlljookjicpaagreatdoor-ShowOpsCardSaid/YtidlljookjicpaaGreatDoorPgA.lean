/- A program in a block. -/
import Derived.Test.YtidlljookjicpaaGreatDoorBarA
namespace Go.Proofs.YtidlljookjicpaaGreatDoor
open Go.RowKit
set_option linter.unusedVariables false
set_option linter.unusedSimpArgs false

def Pg (W : World) (g : Nat) (a : Option Addr) (n c : Nat) (a2 : Option Addr) (n2 c2 : Nat) : Prop := g < W.heap.size ∧ W.cell? ⟨g, 0, none⟩ = some (.slice a n c) ∧ W.cell? ⟨g, 1, none⟩ = some (.slice a2 n2 c2)
theorem Pg.below {W W' : World} {g : Nat} {a a2 : Option Addr} {n c n2 c2 : Nat} (h : Pg W g a n c a2 n2 c2) (hb : Below W.heap.size W W') : Pg W' g a n c a2 n2 c2 := ⟨by have := hb.size; have := h.1; omega, carry hb h.1 h.2.1, carry hb h.1 h.2.2⟩
theorem pg_lit (W : World) (T : TypeId) (g : Nat) (hg : g = W.heap.size) (a a2 : Option Addr) (n c n2 c2 : Nat) : Pg (W.alloc (.cells #[.slice a n c, .slice a2 n2 c2] T)) g a n c a2 n2 c2 := by
  subst hg
  refine ⟨by simp, ?_, ?_⟩ <;> (rw [World.cell?_alloc_at _ _ _ _ rfl]; rfl)
end Go.Proofs.YtidlljookjicpaaGreatDoor
