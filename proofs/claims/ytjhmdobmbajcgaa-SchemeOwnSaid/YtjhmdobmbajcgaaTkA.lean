/- Rows of types, rows of rows; what a scheme takes: plain facts. -/
import Derived.Test.YtjhmdobmbajcgaaDsA
import Derived.Test.YtjhmdobmbajcgaaSbK
import Derived.Test.YtjhmdobmbajcgaaSbE
namespace Go.Proofs.Ytjhmdobmbajcgaa
open Go.RowKit
set_option linter.unusedVariables false
set_option linter.unusedSimpArgs false

/-- a type where it lies. -/
structure Tp where
  (ad : Option Addr) (n c : Nat) (ns : List Ty)
def tp0 : Tp := ⟨none, 0, 0, []⟩
def TpOk (w : World) (x : Tp) : Prop := TyArg w x.ad x.n x.ns ∧ x.n ≤ 140737488351232
theorem TpOk.below {w w' : World} {x : Tp} (h : TpOk w x) (hb : Below w.heap.size w w') : TpOk w' x := ⟨h.1.below hb, h.2⟩
def TpSl (w : World) (b off : Nat) (l : List Tp) : Prop := ∀ i, i < l.length → w.cell? ⟨b, off + i, none⟩ = some (.slice (l.getD i tp0).ad (l.getD i tp0).n (l.getD i tp0).c) ∧ TpOk w (l.getD i tp0)
def TpArg (w : World) (a : Option Addr) (n : Nat) (l : List Tp) : Prop := n = l.length ∧ (l = [] ∨ ∃ b off, a = some ⟨b, off, none⟩ ∧ TpSl w b off l ∧ b < w.heap.size)
theorem TpArg.below {w w' : World} {a : Option Addr} {n : Nat} {l : List Tp} (h : TpArg w a n l) (hb : Below w.heap.size w w') : TpArg w' a n l := by
  obtain ⟨h1, h | ⟨b, off, h2, h3, h4⟩⟩ := h
  · exact ⟨h1, .inl h⟩
  · exact ⟨h1, .inr ⟨b, off, h2, fun i hi => ⟨carry hb h4 (h3 i hi).1, (h3 i hi).2.below hb⟩, by have := hb.size; omega⟩⟩
theorem tpArg_at {w : World} {a : Option Addr} {n : Nat} {l : List Tp} (h : TpArg w a n l) {j : Nat} (hj : j < l.length) : ∃ b off, a = some ⟨b, off, none⟩ ∧ TpSl w b off l ∧ b < w.heap.size := by
  rcases h.2 with h0 | h0
  · rw [h0] at hj; simp at hj
  · exact h0
theorem tpArg_nil (w : World) (a : Option Addr) : TpArg w a 0 [] := ⟨rfl, .inl rfl⟩
/-- rows of effects in a row. -/
def RwSl (w : World) (b off : Nat) (l : List Rw) : Prop := ∀ i, i < l.length → w.cell? ⟨b, off + i * 5, none⟩ = some (.int .i64 (l.getD i rw0).a) ∧ w.cell? ⟨b, off + i * 5 + 1, none⟩ = some (.int .i64 (l.getD i rw0).b) ∧ w.cell? ⟨b, off + i * 5 + 2, none⟩ = some (.int .i64 (l.getD i rw0).c) ∧ w.cell? ⟨b, off + i * 5 + 3, none⟩ = some (.int .i64 (l.getD i rw0).d) ∧ w.cell? ⟨b, off + i * 5 + 4, none⟩ = some (.int .i64 (l.getD i rw0).t)
def RwArg (w : World) (a : Option Addr) (n : Nat) (l : List Rw) : Prop := n = l.length ∧ (l = [] ∨ ∃ b off, a = some ⟨b, off, none⟩ ∧ RwSl w b off l ∧ b < w.heap.size)
theorem RwArg.below {w w' : World} {a : Option Addr} {n : Nat} {l : List Rw} (h : RwArg w a n l) (hb : Below w.heap.size w w') : RwArg w' a n l := by
  obtain ⟨h1, h | ⟨b, off, h2, h3, h4⟩⟩ := h
  · exact ⟨h1, .inl h⟩
  · exact ⟨h1, .inr ⟨b, off, h2, fun i hi => ⟨carry hb h4 (h3 i hi).1, carry hb h4 (h3 i hi).2.1, carry hb h4 (h3 i hi).2.2.1, carry hb h4 (h3 i hi).2.2.2.1, carry hb h4 (h3 i hi).2.2.2.2⟩, by have := hb.size; omega⟩⟩
theorem rwArg_at {w : World} {a : Option Addr} {n : Nat} {l : List Rw} (h : RwArg w a n l) {j : Nat} (hj : j < l.length) : ∃ b off, a = some ⟨b, off, none⟩ ∧ RwSl w b off l ∧ b < w.heap.size := by
  rcases h.2 with h0 | h0
  · rw [h0] at hj; simp at hj
  · exact h0
theorem rwArg_nil (w : World) (a : Option Addr) : RwArg w a 0 [] := ⟨rfl, .inl rfl⟩
/-- the binds that Take makes. -/
def tb1 (k : Int) (x : Tp) : Bn := ⟨k, false, x.ad, x.n, x.c, x.ns, rw0⟩
def tb2 (k : Int) (r : Rw) : Bn := ⟨k, true, none, 0, 0, [], r⟩
def tbA (ks : List Int) (xs : List Tp) (j : Nat) : List Bn := (List.range j).map fun i => tb1 (ks.getD i 0) (xs.getD i tp0)
def tbB (ms : List Int) (rs : List Rw) (j : Nat) : List Bn := (List.range j).map fun i => tb2 (ms.getD i 0) (rs.getD i rw0)
theorem tbA_succ (ks : List Int) (xs : List Tp) (j : Nat) : tbA ks xs (j + 1) = tbA ks xs j ++ [tb1 (ks.getD j 0) (xs.getD j tp0)] := by
  unfold tbA; rw [List.range_succ, List.map_append]; rfl
theorem tbB_succ (ms : List Int) (rs : List Rw) (j : Nat) : tbB ms rs (j + 1) = tbB ms rs j ++ [tb2 (ms.getD j 0) (rs.getD j rw0)] := by
  unfold tbB; rw [List.range_succ, List.map_append]; rfl
theorem tbA_len (ks : List Int) (xs : List Tp) (j : Nat) : (tbA ks xs j).length = j := by unfold tbA; rw [List.length_map, List.length_range]
theorem tbB_len (ms : List Int) (rs : List Rw) (j : Nat) : (tbB ms rs j).length = j := by unfold tbB; rw [List.length_map, List.length_range]
def tkB (ks : List Int) (xs : List Tp) (ms : List Int) (rs : List Rw) : List Bn := tbA ks xs ks.length ++ tbB ms rs ms.length
theorem tk_ok {w : World} {a a2 : Option Addr} {n n2 : Nat} {ks ms : List Int} {xs : List Tp} {rs : List Rw} (h : TpArg w a n xs) (hk : ks.length = xs.length) : ∀ y ∈ tkB ks xs ms rs, TyArg w y.ad y.n y.ns ∧ y.n ≤ 140737488351232 := by
  intro y hy
  rcases List.mem_append.1 hy with hy | hy
  · obtain ⟨i, hi, rfl⟩ := List.mem_map.1 hy
    rw [List.mem_range] at hi
    obtain ⟨b, off, _, hs, _⟩ := tpArg_at h (show i < xs.length by omega)
    exact (hs i (by omega)).2
  · obtain ⟨i, hi, rfl⟩ := List.mem_map.1 hy
    exact ⟨⟨rfl, .inl rfl⟩, by show (0 : Nat) ≤ 140737488351232; omega⟩
def tkOk (ks : List Int) (xs : List Tp) (ms : List Int) (rs : List Rw) : Bool := (dsI ks && dsI ms) && (decide (xs.length = ks.length) && decide (rs.length = ms.length))
/-- what Take tells: a type, an error. -/
def tkT (ks : List Int) (xs : List Tp) (ms : List Int) (rs : List Rw) (ts : List Ty) : List Ty := if tkOk ks xs ms rs then subT (tkB ks xs ms rs) ts else []
def tkE (ks : List Int) (xs : List Tp) (ms : List Int) (rs : List Rw) (ts : List Ty) : Int := if tkOk ks xs ms rs && decide (subE (tkB ks xs ms rs) ts = 0) then 0 else 1200
theorem subE_nil {xs : List Bn} {ts : List Ty} (h : subE xs ts ≠ 0) : subT xs ts = [] ∧ subE xs ts = 900 := by
  unfold subE at h
  split at h
  · exact absurd rfl h
  · rename_i hn
    constructor
    · unfold subT
      cases h1 : (bsV xs && tyV ts)
      · rfl
      · rw [h1, Bool.true_and] at hn
        rw [if_pos rfl, if_neg hn]
    · unfold subE; rw [if_neg hn]
theorem dsI_len {l : List Int} (h : dsI l = true) : l.length ≤ 4096 := by
  unfold dsI at h
  simp only [Bool.and_eq_true, decide_eq_true_eq] at h
  exact h.1
end Go.Proofs.Ytjhmdobmbajcgaa
