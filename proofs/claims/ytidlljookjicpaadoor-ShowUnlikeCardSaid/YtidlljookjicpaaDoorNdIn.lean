/- Programs that came in: their operations and nodes. -/
import Derived.Test.YtidlljookjicpaaDoorNaE
import Derived.Test.YtidlljookjicpaaDoorNaH
import Derived.Test.YtidlljookjicpaaDoorOpn
import Derived.Deep.Slices
import Derived.Test.YtidlljookjicpaaDoorPrg
import Derived.Test.YtidlljookjicpaaDoorNaF
import Derived.OneCell
/- Programs that came in: their operations and nodes. -/
namespace Go.Proofs.YtidlljookjicpaaDoor
open Go.RowKit
set_option linter.unusedVariables false
set_option linter.unusedSimpArgs false

theorem addr_plus (b off k : Nat) : (⟨b, off, none⟩ : Addr).add k = ⟨b, off + k, none⟩ := by
  unfold Addr.add
  by_cases h : k = 0 <;> simp [h]
theorem list_of {α : Type} (d : α) (n : Nat) (R : Nat → α → Prop) (h : ∀ i, i < n → ∃ x, R i x) : ∃ l : List α, l.length = n ∧ ∀ i, i < n → R i (l.getD i d) := by
  induction n with
  | zero => exact ⟨[], rfl, fun i hi => by omega⟩
  | succ n ih =>
    obtain ⟨l, hl, hs⟩ := ih fun i hi => h i (by omega)
    obtain ⟨x, hx⟩ := h n (by omega)
    refine ⟨l ++ [x], by simp [hl], fun i hi => ?_⟩
    by_cases hin : i < n
    · have := hs i hin
      rwa [List.getD_eq_getElem?_getD, List.getElem?_append_left (by omega), ← List.getD_eq_getElem?_getD]
    · obtain rfl : i = n := by omega
      rw [List.getD_eq_getElem?_getD, List.getElem?_append_right (by omega), hl, Nat.sub_self]
      exact hx
section
open Go.ChangeShapes Go.WideShapes Go.Deep
variable {H : Type} {enc : TypeId × Value → H} {P : Program} {w : World} {base : Nat} {spare : Nat → Bool} {held : Bool}
theorem slice_open {t e fuel f : Nat} {ks : List Sc} {p : Option Addr} {len cap : Nat} {x : DataW H × List MemPlace} (ht : P.underlying t = some (.slice e)) (hk : flat P f e = some ks) (hks : ks.length = P.cellsOf e) (hK0 : 0 < P.cellsOf e)
    (h : DataW.trod enc P w base spare held fuel t [.slice p len cap] = some x) (hw : ∀ y ∈ DataW.weights P t x.1, y ≤ reachBytes) :
    len ≤ cap ∧ len * P.bytesOf e ≤ reachBytes ∧ (len = 0 ∨ ∃ b off, p = some ⟨b, off, none⟩ ∧ ∀ i, i < len → ∃ cs : List Value, Fit (ScOk enc P w base spare held) ks cs ∧ ∀ j, j < P.cellsOf e → w.cell? ⟨b, off + (i * P.cellsOf e + j), none⟩ = cs[j]?) := by
  rcases open_slice ht h with ⟨hcs, _⟩ | ⟨a, len', cap', m, fu, D, Pl, hcs, _, hlc, _, hm, hx, hi⟩
  · simp at hcs
    obtain ⟨_, rfl, rfl⟩ := hcs
    exact ⟨Nat.le_refl _, by simp, .inl rfl⟩
  · simp only [List.cons.injEq, Value.slice.injEq, and_true] at hcs
    obtain ⟨rfl, rfl, rfl⟩ := hcs
    have hml : len ≤ m := by rw [hm]; split <;> omega
    rw [hx] at hw
    simp only [DataW.weights, ht] at hw
    have hwb : len * P.bytesOf e ≤ reachBytes := by
      have := hw _ (List.mem_cons_self ..)
      simp only [List.length_map, List.length_range] at this
      exact Nat.le_trans (Nat.mul_le_mul_right _ (by omega)) this
    refine ⟨hlc, hwb, ?_⟩
    by_cases h0 : len = 0
    · exact .inl h0
    have key : ∀ i, i < len → ∃ cs : List Value, Fit (ScOk enc P w base spare held) ks cs ∧ ∀ j, j < P.cellsOf e → w.cell? (a.add (i * P.cellsOf e + j)) = cs[j]? := by
      intro i hil
      obtain ⟨cs', hc, hd⟩ := hi i (by omega)
      have hfit := flat_fit f fu e cs' _ ks hk hd (fun y hy => hw y (by
        refine List.mem_cons_of_mem _ (List.mem_append_left _ ?_)
        exact weightsAll_mem _ i (D i) (by rw [List.getElem?_map, List.getElem?_range hil]; rfl) y hy))
      refine ⟨cs', hfit, fun j hj => ?_⟩
      obtain ⟨hl, _, hat⟩ := World.cells?_some hc
      have := hat j hj
      rwa [add_add] at this
    obtain ⟨cs0, hf0, hc0⟩ := key 0 (by omega)
    have hl0 := hf0.length
    have h00 := hc0 0 hK0
    obtain ⟨b, off, sp⟩ := a
    have hsp : sp = none := by
      rw [List.getElem?_eq_getElem (by omega)] at h00
      have := World.cell?_spot h00
      simpa [Addr.add] using this
    subst hsp
    refine .inr ⟨b, off, rfl, fun i hil => ?_⟩
    obtain ⟨cs, h1, h2⟩ := key i hil
    refine ⟨cs, h1, fun j hj => ?_⟩
    have := h2 j hj
    rwa [addr_plus] at this
end
/-- the nodes of a slice that came in. -/
theorem nodes_open {H : Type} {enc : TypeId × Value → H} {w : World} {fuel : Nat} {y : DataW H × List MemPlace} {a : Option Addr} {n c : Nat} (h : DataW.trod enc Tryd.prog w 0 (fun _ => true) true fuel 23 [.slice a n c] = some y) (hw : ∀ x ∈ DataW.weights Tryd.prog 23 y.1, x ≤ reachBytes) :
    n ≤ c ∧ n * 112 ≤ 140737488351232 ∧ ∃ ts : List Nd, NArg w a n ts ∧ ∀ t ∈ ts, NdSz t := by
  obtain ⟨h1, h2, h3⟩ := slice_open (f := 4) (ks := [.i .i64, .i .i64, .i .i64, .i .i64, .i .i64, .s, .s, .s, .s, .i .i64]) Tryd.underlying23 (by kernel_rfl) (by kernel_rfl) (of_decide_eq_true (by kernel_rfl)) h hw
  have hc : Tryd.prog.cellsOf 35 = 10 := by kernel_rfl
  have hb : Tryd.prog.bytesOf 35 = 112 := by kernel_rfl
  rw [hb] at h2
  rw [hc] at h3
  refine ⟨h1, h2, ?_⟩
  rcases h3 with rfl | ⟨b, off, rfl, hi⟩
  · exact ⟨[], ⟨rfl, .inl rfl⟩, by intro t ht; cases ht⟩
  by_cases h0 : n = 0
  · subst h0; exact ⟨[], ⟨rfl, .inl rfl⟩, by intro t ht; cases ht⟩
  have key : ∀ i, i < n → ∃ t : Nd, NdAt w b off t i ∧ NdSz t := by
    intro i hin
    obtain ⟨cs, hf, hcl⟩ := hi i hin
    obtain ⟨v0, r0, rfl, ⟨x0, rfl, _⟩, hf0⟩ := fit_i hf
    obtain ⟨v1, r1, rfl, ⟨x1, rfl, _⟩, hf1⟩ := fit_i hf0
    obtain ⟨v2, r2, rfl, ⟨x2, rfl, _⟩, hf2⟩ := fit_i hf1
    obtain ⟨v3, r3, rfl, ⟨x3, rfl, _⟩, hf3⟩ := fit_i hf2
    obtain ⟨v4, r4, rfl, ⟨x4, rfl, _⟩, hf4⟩ := fit_i hf3
    obtain ⟨v5, r5, rfl, ⟨x5, rfl, z5⟩, hf5⟩ := fit_i hf4
    obtain ⟨v6, r6, rfl, ⟨x6, rfl, z6⟩, hf6⟩ := fit_i hf5
    obtain ⟨v7, r7, rfl, ⟨x7, rfl, z7⟩, hf7⟩ := fit_i hf6
    obtain ⟨v8, r8, rfl, ⟨x8, rfl, z8⟩, hf8⟩ := fit_i hf7
    obtain ⟨v9, r9, rfl, ⟨x9, rfl, _⟩, hf9⟩ := fit_i hf8
    have z5 := reach_le z5; have z6 := reach_le z6; have z7 := reach_le z7; have z8 := reach_le z8
    refine ⟨⟨x0, x1, x2, x3, x4, x5, x6, x7, x8, x9⟩, ⟨?_, ?_, ?_, ?_, ?_, ?_, ?_, ?_, ?_, ?_⟩, ⟨?_, ?_, ?_, ?_⟩⟩
    · exact hcl 0 (by omega)
    · exact hcl 1 (by omega)
    · exact hcl 2 (by omega)
    · exact hcl 3 (by omega)
    · exact hcl 4 (by omega)
    · exact hcl 5 (by omega)
    · exact hcl 6 (by omega)
    · exact hcl 7 (by omega)
    · exact hcl 8 (by omega)
    · exact hcl 9 (by omega)
    · show x5.size ≤ _; omega
    · show x6.size ≤ _; omega
    · show x7.size ≤ _; omega
    · show x8.size ≤ _; omega
  obtain ⟨ts, hl, hs⟩ := list_of nd0 n (fun i t => NdAt w b off t i ∧ NdSz t) key
  refine ⟨ts, ⟨hl.symm, .inr ⟨b, off, rfl, fun i hi => (hs i (by omega)).1, World.block_lt_of_cell? _ _ (hs 0 (by omega)).1.1⟩⟩, fun t ht => ?_⟩
  obtain ⟨i, hi, rfl⟩ := List.getElem_of_mem ht
  have := (hs i (by omega)).2
  rwa [List.getD_eq_getElem?_getD, List.getElem?_eq_getElem hi, Option.getD_some] at this
theorem ops_open {H : Type} {enc : TypeId × Value → H} {w : World} {fuel : Nat} {y : DataW H × List MemPlace} {a : Option Addr} {n c : Nat} (h : DataW.trod enc Tryd.prog w 0 (fun _ => true) true fuel 22 [.slice a n c] = some y) (hw : ∀ x ∈ DataW.weights Tryd.prog 22 y.1, x ≤ reachBytes) :
    n ≤ c ∧ n * 32 ≤ 140737488351232 ∧ ∃ ts : List Or, OArg w a n ts ∧ ∀ t ∈ ts, OrSz t := by
  obtain ⟨h1, h2, h3⟩ := slice_open (f := 4) (ks := [.s, .i .i64, .i .i64]) Tryd.underlying22 (by kernel_rfl) (by kernel_rfl) (of_decide_eq_true (by kernel_rfl)) h hw
  have hc : Tryd.prog.cellsOf 38 = 3 := by kernel_rfl
  have hb : Tryd.prog.bytesOf 38 = 32 := by kernel_rfl
  rw [hb] at h2
  rw [hc] at h3
  refine ⟨h1, h2, ?_⟩
  rcases h3 with rfl | ⟨b, off, rfl, hi⟩
  · exact ⟨[], ⟨rfl, .inl rfl⟩, by intro t ht; cases ht⟩
  by_cases h0 : n = 0
  · subst h0; exact ⟨[], ⟨rfl, .inl rfl⟩, by intro t ht; cases ht⟩
  have key : ∀ i, i < n → ∃ t : Or, OrAt w b off t i ∧ OrSz t := by
    intro i hin
    obtain ⟨cs, hf, hcl⟩ := hi i hin
    obtain ⟨v0, r0, rfl, ⟨x0, rfl, z0⟩, hf0⟩ := fit_i hf
    obtain ⟨v1, r1, rfl, ⟨x1, rfl, _⟩, hf1⟩ := fit_i hf0
    obtain ⟨v2, r2, rfl, ⟨x2, rfl, _⟩, hf2⟩ := fit_i hf1
    have z0 := reach_le z0
    refine ⟨⟨x0, x1, x2⟩, ⟨?_, ?_, ?_⟩, ?_⟩
    · exact hcl 0 (by omega)
    · exact hcl 1 (by omega)
    · exact hcl 2 (by omega)
    · show x0.size ≤ _; omega
  obtain ⟨ts, hl, hs⟩ := list_of or0 n (fun i t => OrAt w b off t i ∧ OrSz t) key
  refine ⟨ts, ⟨hl.symm, .inr ⟨b, off, rfl, fun i hi => (hs i (by omega)).1, World.block_lt_of_cell? _ _ (hs 0 (by omega)).1.1⟩⟩, fun t ht => ?_⟩
  obtain ⟨i, hi, rfl⟩ := List.getElem_of_mem ht
  have := (hs i (by omega)).2
  rwa [List.getD_eq_getElem?_getD, List.getElem?_eq_getElem hi, Option.getD_some] at this
end Go.Proofs.YtidlljookjicpaaDoor

