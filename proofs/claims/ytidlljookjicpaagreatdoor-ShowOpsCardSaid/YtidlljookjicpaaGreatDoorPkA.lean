/- The reference's parser in memory; its small functions. -/
import Derived.Test.YtidlljookjicpaaGreatDoorPaP
import Derived.Test.YtidlljookjicpaaGreatDoorNdO
import Derived.Test.YtidlljookjicpaaGreatDoorLxK
import Derived.BigQuiet
namespace Go.Proofs.YtidlljookjicpaaGreatDoor
open Go.RowKit
set_option linter.unusedVariables false
set_option linter.unusedSimpArgs false

/-- tokens that may be read, in a block below B that is not G. -/
def TkIn (B G : Nat) (w : World) (tv : Value) (ts : List Tk) : Prop := (ts = [] ∧ ∃ ad c, tv = .slice ad 0 c) ∨ ∃ T c, tv = .slice (some ⟨T, 0, none⟩) ts.length c ∧ T < B ∧ T ≠ G ∧ T < w.heap.size ∧ TkSl w T 0 ts
theorem TkSl.bar {S : Nat → Prop} {w w' : World} {b off : Nat} {l : List Tk} (h : TkSl w b off l) (hb : Bar S w w') (hn : ¬ S b) : TkSl w' b off l := by
  intro i hi
  obtain ⟨h0, h1, h2, h3⟩ := h i hi
  exact ⟨hb.cell h0 hn, hb.cell h1 hn, hb.cell h2 hn, hb.cell h3 hn⟩
theorem TkIn.bar {S : Nat → Prop} {B G : Nat} {w w' : World} {tv : Value} {ts : List Tk} (h : TkIn B G w tv ts) (hb : Bar S w w') (hn : ∀ k, k < B → k ≠ G → ¬ S k) : TkIn B G w' tv ts := by
  rcases h with h | ⟨T, c, h1, h2, h3, h4, h5⟩
  · exact .inl h
  · exact .inr ⟨T, c, h1, h2, h3, by have := hb.size; omega, h5.bar hb (hn T h2 h3)⟩
/-- the object: its tokens, its end, the state, an error's number (0: none) and place. -/
structure PkW (B G : Nat) (tv : Value) (ts : List Tk) (en : Int) (w : World) (nv : Value) (st : PS) (er : PE) : Prop where
  t : w.cell? ⟨G, 0, none⟩ = some tv
  e : w.cell? ⟨G, 1, none⟩ = some (.int .i64 en)
  i : w.cell? ⟨G, 2, none⟩ = some (.int .i64 st.i)
  n : w.cell? ⟨G, 3, none⟩ = some nv
  c : w.cell? ⟨G, 4, none⟩ = some (.int .i64 er.1)
  p : w.cell? ⟨G, 5, none⟩ = some (.int .i64 er.2)
  gB : G < B
  bl : B ≤ w.heap.size
  fg : ∀ o, w.frozen? ⟨G, o, none⟩ = false
  tk : TkIn B G w tv ts
  own : OwnN B w nv st.ns
  il : st.i ≤ ts.length
  nl : st.ns.length ≤ 512
/-- what a call may turn: the object, and the row of nodes that there was. -/
def PFr (G : Nat) (nv : Value) (k : Nat) : Prop := k = G ∨ nv.ownBlock = some k
/-- where the row lies behind a call. -/
def PHop (nv nv' : Value) (w : World) : Prop := ∀ g, nv'.ownBlock = some g → nv.ownBlock = some g ∨ w.heap.size ≤ g
theorem PkW.bar {S : Nat → Prop} {B G : Nat} {tv : Value} {ts : List Tk} {en : Int} {w w' : World} {nv : Value} {st : PS} {er : PE} (h : PkW B G tv ts en w nv st er) (hb : Bar S w w') (hG : ¬ S G) (hB : ∀ k, k < B → k ≠ G → ¬ S k) (hn : ∀ k, nv.ownBlock = some k → ¬ S k) : PkW B G tv ts en w' nv st er :=
  ⟨hb.cell h.t hG, hb.cell h.e hG, hb.cell h.i hG, hb.cell h.n hG, hb.cell h.c hG, hb.cell h.p hG, h.gB, by have := hb.size; have := h.bl; omega, fun o => by rw [hb.frozen (a := ⟨G, o, none⟩) (by have := h.gB; have := h.bl; show G < _; omega) hG]; exact h.fg o, h.tk.bar hb hB, Bar.own hb h.own hn, h.il, h.nl⟩
theorem PkW.below {B G : Nat} {tv : Value} {ts : List Tk} {en : Int} {w w' : World} {nv : Value} {st : PS} {er : PE} (h : PkW B G tv ts en w nv st er) (hb : Below w.heap.size w w') : PkW B G tv ts en w' nv st er :=
  h.bar (Bar.of_below (S := fun _ => False) hb) id (fun _ _ _ => id) (fun _ _ => id)
/-- a state, or the first error. -/
def PkX (B G : Nat) (tv : Value) (ts : List Tk) (en : Int) (w : World) (nv : Value) (R : Except PE PS) : Prop := match R with
  | .ok st => ∃ p, PkW B G tv ts en w nv st (0, p)
  | .error e => e.1 ≠ 0 ∧ ∃ st, PkW B G tv ts en w nv st e
theorem PkX.below {B G : Nat} {tv : Value} {ts : List Tk} {en : Int} {w w' : World} {nv : Value} {R : Except PE PS} (h : PkX B G tv ts en w nv R) (hb : Below w.heap.size w w') : PkX B G tv ts en w' nv R := by
  cases R with
  | ok st => obtain ⟨p, h⟩ := h; exact ⟨p, h.below hb⟩
  | error e => obtain ⟨h0, st, h⟩ := h; exact ⟨h0, st, h.below hb⟩
/-- some state and error that the object tells. -/
theorem PkX.any {B G : Nat} {tv : Value} {ts : List Tk} {en : Int} {w : World} {nv : Value} {R : Except PE PS} (h : PkX B G tv ts en w nv R) : ∃ st er, PkW B G tv ts en w nv st er ∧ (er.1 = 0 → R = .ok st) ∧ (er.1 ≠ 0 → R = .error er) := by
  cases R with
  | ok st => obtain ⟨p, h⟩ := h; exact ⟨st, (0, p), h, fun _ => rfl, fun h => absurd rfl h⟩
  | error e => obtain ⟨h0, st, h⟩ := h; exact ⟨st, e, h, fun e0 => absurd e0 h0, fun _ => rfl⟩
/-- is the next token this word or sign? -/
def isX (ts : List Tk) (R : Except PE PS) (u : List UInt8) : Bool := match R with
  | .ok st => isP ts st.i u
  | .error _ => false
def failX (ts : List Tk) (en : Int) (R : Except PE PS) (c : Int) : Except PE PS := match R with
  | .ok st => .error (c, hereP ts en st.i)
  | .error e => .error e
/-- the state alone. -/
def stX {α : Type} (R : Except PE (α × PS)) : Except PE PS := match R with
  | .ok a => .ok a.2
  | .error e => .error e
/-- the value, where there is one. -/
def valX {α : Type} (R : Except PE (α × PS)) (P : α → Prop) : Prop := match R with
  | .ok a => P a.1
  | .error _ => True
theorem stX_bind {α β : Type} (R : Except PE (α × PS)) (f : α × PS → Except PE (β × PS)) : stX (R >>= f) = match R with | .ok a => stX (f a) | .error e => .error e := by
  cases R <;> rfl
theorem tk_get {B G : Nat} {w : World} {tv : Value} {ts : List Tk} (h : TkIn B G w tv ts) {i : Nat} (hi : i < ts.length) : ∃ T c, tv = .slice (some ⟨T, 0, none⟩) ts.length c ∧ T < w.heap.size ∧ TkAt w T 0 (ts.getD i tk0) i ∧ ts[i]? = some (ts.getD i tk0) := by
  rcases h with ⟨h, _⟩ | ⟨T, c, h1, _, _, h4, h5⟩
  · rw [h] at hi; simp at hi
  · exact ⟨T, c, h1, h4, h5 i hi, by rw [List.getD_eq_getElem?_getD, List.getElem?_eq_getElem hi]; rfl⟩
theorem tk_len {B G : Nat} {w : World} {tv : Value} {ts : List Tk} (h : TkIn B G w tv ts) : ∃ a c, tv = .slice a ts.length c := by
  rcases h with ⟨h, a, c, h2⟩ | ⟨T, c, h1, _⟩
  · exact ⟨a, c, by rw [h2, h]; rfl⟩
  · exact ⟨_, c, h1⟩
end Go.Proofs.YtidlljookjicpaaGreatDoor
