/- What is bound, in memory: env.List of things of five cells. -/
import Derived.Test.YtnjalpcmjkahkaaBarB
namespace Go.Proofs.Ytnjalpcmjkahkaa
open Go.RowKit
set_option linter.unusedVariables false
set_option linter.unusedSimpArgs false

/-- a thing's cells. -/
structure Th where
  a : Int
  b : Int
  c : Option Addr
  d : Option Addr
  e : Option Addr
def Th.val (t : Th) : Value := .agg #[.int .i64 t.a, .int .i64 t.b, .pointer t.c, .pointer t.d, .pointer t.e]
/-- a thing's cells in a block. -/
def ThC (W : World) (g : Nat) (t : Th) : Prop := W.cell? ⟨g, 0, none⟩ = some (.int .i64 t.a) ∧ W.cell? ⟨g, 1, none⟩ = some (.int .i64 t.b) ∧ W.cell? ⟨g, 2, none⟩ = some (.pointer t.c) ∧ W.cell? ⟨g, 3, none⟩ = some (.pointer t.d) ∧ W.cell? ⟨g, 4, none⟩ = some (.pointer t.e)
theorem ThC.bar {S : Nat → Prop} {W W' : World} {g : Nat} {t : Th} (h : ThC W g t) (hb : Bar S W W') (hn : ¬ S g) : ThC W' g t :=
  ⟨hb.cell h.1 hn, hb.cell h.2.1 hn, hb.cell h.2.2.1 hn, hb.cell h.2.2.2.1 hn, hb.cell h.2.2.2.2 hn⟩
/-- a full tree of depth k. -/
def TrR (W : World) : Nat → Value → List Th → Prop
  | 0, p, l => p = .pointer none ∧ l = []
  | k + 1, p, l => ∃ (g : Nat) (t : Th) (i o : Value) (l1 l2 : List Th), p = .pointer (some ⟨g, 0, none⟩) ∧ g < W.heap.size ∧ TyAt W g 145 ∧
      (ThC W g t ∧ W.cell? ⟨g, 5, none⟩ = some i ∧ W.cell? ⟨g, 6, none⟩ = some o) ∧
      TrR W k i l1 ∧ TrR W k o l2 ∧ l = t :: (l1 ++ l2)
/-- trees, one behind the other. -/
def PtR (W : World) : List Nat → Value → List Th → Prop
  | [], p, l => p = .pointer none ∧ l = []
  | k :: ks, p, l => ∃ (g : Nat) (i o : Value) (l1 l2 : List Th), p = .pointer (some ⟨g, 0, none⟩) ∧ g < W.heap.size ∧ TyAt W g 142 ∧
      (W.cell? ⟨g, 0, none⟩ = some (.int .i64 l1.length) ∧ W.cell? ⟨g, 1, none⟩ = some i ∧ W.cell? ⟨g, 2, none⟩ = some o) ∧
      TrR W (k + 1) i l1 ∧ PtR W ks o l2 ∧ l = l1 ++ l2
def EnR (W : World) (p : Value) (l : List Th) : Prop := ∃ ks, PtR W ks p l
theorem TrR.len {W : World} : ∀ {k : Nat} {p : Value} {l : List Th}, TrR W k p l → l.length + 1 = 2 ^ k
  | 0, _, _, h => by obtain ⟨_, rfl⟩ := h; rfl
  | k + 1, _, _, h => by
    obtain ⟨g, t, i, o, l1, l2, _, _, _, _, h1, h2, rfl⟩ := h
    have e1 := h1.len; have e2 := h2.len
    rw [List.length_cons, List.length_append, Nat.pow_succ]; omega
/-- no block that may turn is a tree or a part. -/
def EnF (S : Nat → Prop) (W : World) : Prop := ∀ g, S g → ¬ TyAt W g 145 ∧ ¬ TyAt W g 142
theorem TrR.bar {S : Nat → Prop} {W W' : World} (hb : Bar S W W') (hS : EnF S W) : ∀ {k : Nat} {p : Value} {l : List Th}, TrR W k p l → TrR W' k p l
  | 0, _, _, h => h
  | k + 1, _, _, h => by
    obtain ⟨g, t, i, o, l1, l2, rfl, hg, hT, ⟨c0, c5, c6⟩, h1, h2, rfl⟩ := h
    have hn : ¬ S g := fun hs => (hS g hs).1 hT
    exact ⟨g, t, i, o, l1, l2, rfl, by have := hb.size; omega, hT.bar hb hn, ⟨c0.bar hb hn, hb.cell c5 hn, hb.cell c6 hn⟩, h1.bar hb hS, h2.bar hb hS, rfl⟩
theorem PtR.bar {S : Nat → Prop} {W W' : World} (hb : Bar S W W') (hS : EnF S W) : ∀ {ks : List Nat} {p : Value} {l : List Th}, PtR W ks p l → PtR W' ks p l
  | [], _, _, h => h
  | k :: ks, _, _, h => by
    obtain ⟨g, i, o, l1, l2, rfl, hg, hT, ⟨c0, c1, c2⟩, h1, h2, rfl⟩ := h
    have hn : ¬ S g := fun hs => (hS g hs).2 hT
    exact ⟨g, i, o, l1, l2, rfl, by have := hb.size; omega, hT.bar hb hn, ⟨hb.cell c0 hn, hb.cell c1 hn, hb.cell c2 hn⟩, TrR.bar hb hS h1, h2.bar hb hS, rfl⟩
theorem EnR.bar {S : Nat → Prop} {W W' : World} {p : Value} {l : List Th} (h : EnR W p l) (hb : Bar S W W') (hS : EnF S W) : EnR W' p l := by
  obtain ⟨ks, h⟩ := h; exact ⟨ks, h.bar hb hS⟩
theorem enF_no (W : World) : EnF (fun _ => False) W := fun _ h => h.elim
theorem EnR.below {W W' : World} {p : Value} {l : List Th} (h : EnR W p l) (hb : Below W.heap.size W W') : EnR W' p l := h.bar (Bar.of_below (S := fun _ => False) hb) (enF_no W)
theorem TrR.below {W W' : World} {k : Nat} {p : Value} {l : List Th} (h : TrR W k p l) (hb : Below W.heap.size W W') : TrR W' k p l := h.bar (Bar.of_below (S := fun _ => False) hb) (enF_no W)
theorem EnR.nil (W : World) : EnR W (.pointer none) [] := ⟨[], rfl, rfl⟩
end Go.Proofs.Ytnjalpcmjkahkaa
