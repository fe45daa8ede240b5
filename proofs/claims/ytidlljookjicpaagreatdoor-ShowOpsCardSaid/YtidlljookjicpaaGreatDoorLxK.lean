/- Slices of tokens: reading; SameTokens, SpoilTokens. -/
import Derived.Test.YtidlljookjicpaaGreatDoorLxG
namespace Go.Proofs.YtidlljookjicpaaGreatDoor
open Go.RowKit
set_option linter.unusedVariables false
set_option linter.unusedSimpArgs false

def tk0 : Tk := ⟨0, [], 0, 0⟩
def TkAt (w : World) (b off : Nat) (t : Tk) (i : Nat) : Prop :=
  w.cell? ⟨b, off + i * 4, none⟩ = some (.int .i64 t.kind) ∧ w.cell? ⟨b, off + i * 4 + 1, none⟩ = some (.string (bs t.text)) ∧ w.cell? ⟨b, off + i * 4 + 2, none⟩ = some (.int .i64 t.num) ∧ w.cell? ⟨b, off + i * 4 + 3, none⟩ = some (.int .i64 t.at_)
def TkSl (w : World) (b off : Nat) (l : List Tk) : Prop := ∀ i, i < l.length → TkAt w b off (l.getD i tk0) i
theorem TkAt.below {B : Nat} {w w' : World} {b off i : Nat} {t : Tk} (h : TkAt w b off t i) (hb : Below B w w') (hB : b < B) : TkAt w' b off t i := by
  unfold TkAt at *
  have e : ∀ o, w'.cell? ⟨b, o, none⟩ = w.cell? ⟨b, o, none⟩ := fun o => hb.cell (p := ⟨b, o, none⟩) hB
  simp only [e]; exact h
theorem TkSl.below {B : Nat} {w w' : World} {b off : Nat} {l : List Tk} (h : TkSl w b off l) (hb : Below B w w') (hB : b < B) : TkSl w' b off l := fun i hi => (h i hi).below hb hB
/-- a value that reads as a slice of tokens. -/
def RdK (w : World) (v : Value) (l : List Tk) : Prop := (l = [] ∧ ∃ ad c, v = .slice ad 0 c) ∨ ∃ g c, v = .slice (some ⟨g, 0, none⟩) l.length c ∧ g < w.heap.size ∧ TkSl w g 0 l
theorem RdK.below {w w' : World} {v : Value} {l : List Tk} (h : RdK w v l) (hb : Below w.heap.size w w') : RdK w' v l := by
  rcases h with h | ⟨g, c, h1, h2, h3⟩
  · exact .inl h
  · exact .inr ⟨g, c, h1, by have := hb.size; omega, h3.below hb h2⟩
theorem tkL_get : ∀ (l : List Tk) (i k : Nat), k < 4 → (tkL l)[i * 4 + k]? = (l[i]?).bind fun t => (tk4 t)[k]?
  | [], i, k, _ => by simp [tkL]
  | t :: l, 0, k, hk => by
    simp only [tkL, List.flatMap_cons, Nat.zero_mul, Nat.zero_add]
    rw [List.getElem?_append_left (by simp [tk4]; omega)]; rfl
  | t :: l, i + 1, k, hk => by
    have h := tkL_get l i k hk
    simp only [tkL, List.flatMap_cons] at *
    rw [List.getElem?_append_right (by simp [tk4]; omega), show (i + 1) * 4 + k - (tk4 t).length = i * 4 + k by simp [tk4]; omega, h]
    simp
theorem tkSl_of {w : World} {g off : Nat} {l : List Tk} (h : ∀ j u, (tkL l)[j]? = some u → w.cell? ⟨g, off + j, none⟩ = some u) : TkSl w g off l := by
  intro i hi
  have hg : l[i]? = some (l.getD i tk0) := by rw [List.getD_eq_getElem?_getD, List.getElem?_eq_getElem hi]; rfl
  have k0 := h (i * 4 + 0) (.int .i64 (l.getD i tk0).kind) (by rw [tkL_get l i 0 (by omega), hg]; rfl)
  have k1 := h (i * 4 + 1) (.string (bs (l.getD i tk0).text)) (by rw [tkL_get l i 1 (by omega), hg]; rfl)
  have k2 := h (i * 4 + 2) (.int .i64 (l.getD i tk0).num) (by rw [tkL_get l i 2 (by omega), hg]; rfl)
  have k3 := h (i * 4 + 3) (.int .i64 (l.getD i tk0).at_) (by rw [tkL_get l i 3 (by omega), hg]; rfl)
  exact ⟨k0, k1, k2, k3⟩
theorem OwnK.rd {B : Nat} {w : World} {v : Value} {l : List Tk} (h : OwnK B w v l) : RdK w v l := by
  rcases h.2 with ⟨rfl, h0⟩ | ⟨g, cap, cur, rfl, hb, hg, hc, hm, hsz, htk⟩
  · exact .inl ⟨List.eq_nil_of_length_eq_zero h0, _, _, rfl⟩
  · refine .inr ⟨g, cap, rfl, (Array.getElem?_eq_some_iff.1 hg).1, tkSl_of fun j u hj => ?_⟩
    have := World.ownsRow.cells (show w.ownsRow B 125 4 (.slice (some ⟨g, 0, none⟩) l.length cap) l.length (tkL l) from h) rfl j u hj
    by_cases hj0 : j = 0
    · subst hj0; simpa [Addr.add] using this
    · simpa [Addr.add, hj0] using this

/-- nothing but block g has changed. -/
def Only (g : Nat) (w w' : World) : Prop := w.heap.size ≤ w'.heap.size ∧ (∀ p : Addr, p.block ≠ g → w'.cell? p = w.cell? p) ∧ (∀ p : Addr, w'.frozen? p = w.frozen? p)
theorem Only.refl (g : Nat) (w : World) : Only g w w := ⟨Nat.le_refl _, fun _ _ => rfl, fun _ => rfl⟩
theorem Only.set {g o : Nat} {w w' : World} (h : Only g w w') (v : Value) : Only g w (w'.setCell ⟨g, o, none⟩ v) :=
  ⟨by have := h.1; simpa using this, fun p hp => by rw [World.cell?_setCell_other _ _ _ _ (by intro e; apply hp; rw [← e])]; exact h.2.1 p hp, fun p => by rw [show (w'.setCell ⟨g, o, none⟩ v).frozen? p = w'.frozen? p from by simp [go_sem]]; exact h.2.2 p⟩
theorem RdK.only {g : Nat} {w w' : World} {v : Value} {l : List Tk} (h : RdK w v l) (ho : Only g w w') (hne : ∀ k, v.ownBlock = some k → k ≠ g) : RdK w' v l := by
  rcases h with h | ⟨b, c, rfl, h2, h3⟩
  · exact .inl h
  · have hb : b ≠ g := hne b rfl
    refine .inr ⟨b, c, rfl, by have := ho.1; omega, fun i hi => ?_⟩
    have hT := h3 i hi
    unfold TkAt at *
    have e : ∀ o, w'.cell? ⟨b, o, none⟩ = w.cell? ⟨b, o, none⟩ := fun o => ho.2.1 ⟨b, o, none⟩ hb
    simp only [e]; exact hT
theorem only_errTy {g : Nat} {w w' : World} (h : errTy w) (ho : Only g w w') (hg : 0 < g) : errTy w' := by
  unfold errTy at *
  rw [ho.2.1 ⟨0, 0, none⟩ (by show 0 ≠ g; omega)]; exact h

end Go.Proofs.YtidlljookjicpaaGreatDoor
