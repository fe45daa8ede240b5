/- Slices of numbers that came in. -/
import Derived.Test.YtfajbkpeioejoaaDoorLxH
import Derived.Test.YtfajbkpeioejoaaDoorRows
import Derived.Deep.Slices
import Derived.ChangeOld
import Derived.Carry
namespace Go.Proofs.YtfajbkpeioejoaaDoor
open Go.RowKit
set_option linter.unusedVariables false
set_option linter.unusedSimpArgs false

theorem addr_plus (b off k : Nat) : (⟨b, off, none⟩ : Addr).add k = ⟨b, off + k, none⟩ := by
  unfold Addr.add
  by_cases h : k = 0 <;> simp [h]

/-- a slice of numbers, in memory. -/
def IArg (w : World) (p : Option Addr) (n : Nat) (l : List Int) : Prop :=
  l.length = n ∧ (n = 0 ∨ ∃ b off, p = some ⟨b, off, none⟩ ∧ (∀ i, i < l.length → w.cell? ⟨b, off + i, none⟩ = some (.int .i64 (l.getD i 0))) ∧ b < w.heap.size)
theorem IArg.below {B : Nat} {w w' : World} {p : Option Addr} {n : Nat} {l : List Int} (h : IArg w p n l) (hb : Below B w w') (hB : w.heap.size ≤ B) : IArg w' p n l := by
  obtain ⟨hn, h0 | ⟨b, off, rfl, hs, hbl⟩⟩ := h
  · exact ⟨hn, .inl h0⟩
  · exact ⟨hn, .inr ⟨b, off, rfl, fun i hi => by rw [hb.cell (p := ⟨b, off + i, none⟩) (show b < B by omega)]; exact hs i hi, by have := hb.size; omega⟩⟩
theorem ints_of_cells (W : World) (b off : Nat) : ∀ (n : Nat), (∀ i, i < n → ∃ x : Int, W.cell? ⟨b, off + i, none⟩ = some (.int .i64 x)) → ∃ l : List Int, l.length = n ∧ ∀ i, i < l.length → W.cell? ⟨b, off + i, none⟩ = some (.int .i64 (l.getD i 0)) := by
  intro n
  induction n with
  | zero => intro _; exact ⟨[], rfl, fun i hi => by simp at hi⟩
  | succ n ih =>
    intro h
    obtain ⟨l, hl, hs⟩ := ih (fun i hi => h i (by omega))
    obtain ⟨x, hx⟩ := h n (by omega)
    refine ⟨l ++ [x], by simp [hl], ?_⟩
    intro i hi
    by_cases hin : i < n
    · have := hs i (by omega)
      rwa [List.getD_eq_getElem?_getD, List.getElem?_append_left (by omega), ← List.getD_eq_getElem?_getD]
    · obtain rfl : i = n := by simp [hl] at hi; omega
      rw [List.getD_eq_getElem?_getD, List.getElem?_append_right (by omega), hl, Nat.sub_self]
      exact hx
section
open Go.ChangeShapes Go.WideShapes Go.Deep
variable {H : Type} {enc : TypeId × Value → H} {P : Program} {w : World} {base : Nat} {spare : Nat → Bool} {held : Bool}
theorem ints_arg {t e fuel : Nat} {p : Option Addr} {len cap : Nat} {x : DataW H × List MemPlace} (ht : P.underlying t = some (.slice e)) (he : P.underlying e = some (.int .i64)) (hC : P.cellsOf e = 1)
    (h : DataW.trod enc P w base spare held fuel t [.slice p len cap] = some x) :
    len = 0 ∨ ∃ b off, p = some ⟨b, off, none⟩ ∧ ∀ i, i < len → ∃ n : Int, w.cell? ⟨b, off + i, none⟩ = some (.int .i64 n) := by
  rcases open_slice ht h with ⟨hcs, _⟩ | ⟨a, len', cap', m, fu, D, Pl, hcs, _, hlc, _, hm, _, hi⟩
  · simp at hcs
    exact .inl hcs.2.1
  · simp only [List.cons.injEq, Value.slice.injEq, and_true] at hcs
    obtain ⟨rfl, rfl, rfl⟩ := hcs
    by_cases h0 : len = 0
    · exact .inl h0
    have hml : len ≤ m := by rw [hm]; split <;> omega
    have key : ∀ i, i < len → ∃ n : Int, w.cell? (a.add i) = some (.int .i64 n) := by
      intro i hil
      obtain ⟨cs', hc, hd⟩ := hi i (by omega)
      rw [hC] at hc
      obtain ⟨_, _, hat⟩ := World.cells?_some hc
      obtain ⟨n, hn, _, _⟩ := DataW.trod_int he hd
      refine ⟨n, ?_⟩
      have hcell := hat 0 (by omega)
      rw [add_add, Nat.mul_one, Nat.add_zero] at hcell
      rw [hcell, hn]
      rfl
    obtain ⟨n0, hn0⟩ := key 0 (by omega)
    obtain ⟨b, off, sp⟩ := a
    have hsp : sp = none := by
      have := World.cell?_spot hn0
      simpa [Addr.add] using this
    subst hsp
    refine .inr ⟨b, off, rfl, ?_⟩
    intro i hil
    obtain ⟨n, hn⟩ := key i hil
    rw [addr_plus] at hn
    exact ⟨n, hn⟩
end
section
open Go.ChangeShapes Go.WideShapes Go.Deep
variable {H : Type} {enc : TypeId × Value → H} {P : Program} {w : World} {base : Nat} {spare : Nat → Bool} {held : Bool}
theorem ints_len {t e fuel : Nat} {p : Option Addr} {len cap : Nat} {x : DataW H × List MemPlace} (ht : P.underlying t = some (.slice e))
    (h : DataW.trod enc P w base spare held fuel t [.slice p len cap] = some x) : len ≤ 9223372036854775807 := by
  rcases open_slice ht h with ⟨hcs, _⟩ | ⟨a, len', cap', m, fu, D, Pl, hcs, _, hlc, hcm, hm, _, hi⟩
  · simp at hcs; omega
  · simp only [List.cons.injEq, Value.slice.injEq, and_true] at hcs
    obtain ⟨rfl, rfl, rfl⟩ := hcs
    unfold maxLen at hcm
    omega
/-- a slice of numbers: its numbers. -/
theorem ints_open {t e fuel : Nat} {p : Option Addr} {len cap : Nat} {x : DataW H × List MemPlace} (ht : P.underlying t = some (.slice e)) (he : P.underlying e = some (.int .i64)) (hC : P.cellsOf e = 1)
    (h : DataW.trod enc P w base spare held fuel t [.slice p len cap] = some x) : len ≤ 9223372036854775807 ∧ ∃ l : List Int, IArg w p len l := by
  refine ⟨ints_len ht h, ?_⟩
  rcases ints_arg ht he hC h with h0 | ⟨b, off, rfl, hc⟩
  · exact ⟨[], by rw [h0]; rfl, .inl h0⟩
  · by_cases h0 : len = 0
    · exact ⟨[], by rw [h0]; rfl, .inl h0⟩
    obtain ⟨l, hl, hs⟩ := ints_of_cells w b off len hc
    exact ⟨l, hl, .inr ⟨b, off, rfl, hs, World.block_lt_of_cell? _ _ (hs 0 (by omega))⟩⟩
end
end Go.Proofs.YtfajbkpeioejoaaDoor
