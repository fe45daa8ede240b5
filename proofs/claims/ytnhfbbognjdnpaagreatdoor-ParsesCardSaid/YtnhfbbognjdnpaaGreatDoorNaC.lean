/- Rows of nodes in memory; the closure of tree.isTree. -/
import Derived.Test.YtnhfbbognjdnpaaGreatDoorNaB
import Derived.Test.YtnhfbbognjdnpaaGreatDoorBg
import Derived.Deep.OwnRows
import Derived.WalkSmall
/- Rows of nodes in memory; the closure of tree.isTree. -/
namespace Go.Proofs.YtnhfbbognjdnpaaGreatDoor
open Go.RowKit
set_option linter.unusedVariables false
set_option linter.unusedSimpArgs false

structure Nd where
  (k a b c n : Int) (nm x y z : ByteArray) (p : Int)
def nd0 : Nd := ⟨0, 0, 0, 0, 0, ⟨#[]⟩, ⟨#[]⟩, ⟨#[]⟩, ⟨#[]⟩, 0⟩
/-- node i of a row of nodes, in memory. -/
def NdAt (w : World) (b off : Nat) (t : Nd) (i : Nat) : Prop :=
  w.cell? ⟨b, off + i * 10, none⟩ = some (.int .i64 t.k) ∧ w.cell? ⟨b, off + i * 10 + 1, none⟩ = some (.int .i64 t.a) ∧ w.cell? ⟨b, off + i * 10 + 2, none⟩ = some (.int .i64 t.b) ∧
  w.cell? ⟨b, off + i * 10 + 3, none⟩ = some (.int .i64 t.c) ∧ w.cell? ⟨b, off + i * 10 + 4, none⟩ = some (.int .i64 t.n) ∧ w.cell? ⟨b, off + i * 10 + 5, none⟩ = some (.string t.nm) ∧
  w.cell? ⟨b, off + i * 10 + 6, none⟩ = some (.string t.x) ∧ w.cell? ⟨b, off + i * 10 + 7, none⟩ = some (.string t.y) ∧ w.cell? ⟨b, off + i * 10 + 8, none⟩ = some (.string t.z) ∧ w.cell? ⟨b, off + i * 10 + 9, none⟩ = some (.int .i64 t.p)
theorem NdAt.below {B : Nat} {w w' : World} {b off i : Nat} {t : Nd} (h : NdAt w b off t i) (hb : Below B w w') (hB : b < B) : NdAt w' b off t i := by
  unfold NdAt at *
  have e : ∀ o, w'.cell? ⟨b, o, none⟩ = w.cell? ⟨b, o, none⟩ := fun o => hb.cell (p := ⟨b, o, none⟩) hB
  simp only [e]; exact h
/-- a slice of nodes that lies below block B. -/
def NdSl (w : World) (b off : Nat) (ts : List Nd) : Prop := ∀ i, i < ts.length → NdAt w b off (ts.getD i nd0) i
theorem NdSl.below {B : Nat} {w w' : World} {b off : Nat} {ts : List Nd} (h : NdSl w b off ts) (hb : Below B w w') (hB : b < B) : NdSl w' b off ts :=
  fun i hi => (h i hi).below hb hB
/-- the texts of a node are no longer than a text may be. -/
def NdSz (t : Nd) : Prop := t.nm.size ≤ 1125899906842624 ∧ t.x.size ≤ 1125899906842624 ∧ t.y.size ≤ 1125899906842624 ∧ t.z.size ≤ 1125899906842624

def ksN (ts : List Nd) (i : Nat) : List Int := kidsL (ts.getD i nd0).k (ts.getD i nd0).a (ts.getD i nd0).b (ts.getD i nd0).c
theorem kidsL_len (k a b c : Int) : (kidsL k a b c).length ≤ 3 := by unfold kidsL; (repeat' split) <;> simp

theorem allT_take {α : Type} (l : List α) (d : α) (p : α → Bool) (j : Nat) (h : j < l.length) : (l.take (j + 1)).all p = ((l.take j).all p && p (l.getD j d)) := by
  rw [List.take_succ_eq_append_getElem h, List.all_append]
  simp [h]
end Go.Proofs.YtnhfbbognjdnpaaGreatDoor

/- parts.Begins at tree.isTree's function. -/
namespace Go.Proofs.YtnhfbbognjdnpaaGreatDoor
open Go.RowKit
set_option linter.unusedVariables false
set_option linter.unusedSimpArgs false


theorem take_rev (l : List Int) (m : Nat) (h1 : 1 ≤ m) (h : m ≤ l.length) : (l.take m).reverse = l.getD (m - 1) 0 :: (l.take (m - 1)).reverse := by
  obtain ⟨k, rfl⟩ : ∃ k, m = k + 1 := ⟨m - 1, by omega⟩
  have hk : k < l.length := by omega
  rw [List.take_succ_eq_append_getElem hk, List.reverse_append]
  simp [hk]

def BegPost (ks : Nat → List Int) (n : Nat) (w : World) (e : Ending) (w' : World) : Prop := ∃ v, e = .returned (.tuple #[v, .bool (decide (0 < n) && decide (bg ks (n - 1) = 0))]) ∧ Below w.heap.size w w'

end Go.Proofs.YtnhfbbognjdnpaaGreatDoor

/- tree.isTree. -/
namespace Go.Proofs.YtnhfbbognjdnpaaGreatDoor
open Go.RowKit
set_option linter.unusedVariables false
set_option linter.unusedSimpArgs false

/-- may a node stand in a tree, if its names are such? -/
def okNd (ok : Nd → Bool) (t : Nd) : Bool := plainB t.k t.a t.b t.c t.n t.nm t.x t.y t.z && decide (0 ≤ t.p) && decide (t.p ≤ 4096) && numB t.k t.n && ok t
def treeV (ok : Nd → Bool) (ts : List Nd) : Bool := decide (1 ≤ ts.length ∧ ts.length ≤ 512) && ts.all (okNd ok) && decide (bg (ksN ts) (ts.length - 1) = 0)
theorem treeV_node (ok : Nd → Bool) (ts : List Nd) (j : Nat) (h : j < ts.length) (hn : okNd ok (ts.getD j nd0) = false) : treeV ok ts = false := by
  have : ts.all (okNd ok) = false := by
    cases hc : ts.all (okNd ok)
    · rfl
    · rw [List.all_eq_true] at hc
      have := hc (ts.getD j nd0) (by simp [h])
      rw [this] at hn; cases hn
  unfold treeV; rw [this]; simp
theorem treeV_len (ok : Nd → Bool) (ts : List Nd) (h : ts.length = 0 ∨ 512 < ts.length) : treeV ok ts = false := by
  unfold treeV; rw [decide_eq_false (by omega)]; simp
theorem treeV_ok (ok : Nd → Bool) (ts : List Nd) (h0 : 0 < ts.length) (h1 : ts.length ≤ 512) (h : ts.all (okNd ok) = true) : treeV ok ts = (decide (0 < ts.length) && decide (bg (ksN ts) (ts.length - 1) = 0)) := by
  unfold treeV; rw [h, decide_eq_true (by omega), decide_eq_true h0]; simp

theorem getN_mem {ts : List Nd} {j : Nat} (hj : j < ts.length) : ts.getD j nd0 ∈ ts := by
  rw [List.getD_eq_getElem?_getD, List.getElem?_eq_getElem hj]; exact List.getElem_mem hj

end Go.Proofs.YtnhfbbognjdnpaaGreatDoor
