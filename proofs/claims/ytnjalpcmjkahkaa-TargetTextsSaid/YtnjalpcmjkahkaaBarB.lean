/- Blocks that stay as they were; boxes; types of blocks. -/
import Derived.Test.YtnjalpcmjkahkaaTgA
import Derived.Laws.AppendOwn
namespace Go.Proofs.Ytnjalpcmjkahkaa
open Go.RowKit
set_option linter.unusedVariables false
set_option linter.unusedSimpArgs false

theorem carry {W W1 : World} {g o : Nat} {v : Value} (hb : Below W.heap.size W W1) (hg : g < W.heap.size) (h : W.cell? ⟨g, o, none⟩ = some v) : W1.cell? ⟨g, o, none⟩ = some v := by
  rw [hb.cell (p := ⟨g, o, none⟩) hg]; exact h
theorem below_alc (w : World) (o : Obj) : Below w.heap.size w (w.alloc o) := (Below.refl _ _).alloc (Nat.le_refl _) _
theorem belA {w W : World} (o : Obj) (h : Below w.heap.size w W) : Below w.heap.size w (W.alloc o) := h.alloc h.size _
theorem setS {W : World} {p : Addr} {v u : Value} (h : W.cell? p = some u) : (W.setCell p v).cell? p = some v := by
  rw [World.cell?_setCell_same _ _ _ h]
theorem setO {W : World} {p q : Addr} {v u : Value} (h : W.cell? p = some u) (hne : q ≠ p) : (W.setCell q v).cell? p = some u := (World.cell?_setCell_other _ _ _ _ hne).trans h
/-- a cell of its own. -/
def BoxAt (w : World) (g : Nat) (v : Value) : Prop := g < w.heap.size ∧ w.cell? ⟨g, 0, none⟩ = some v
theorem BoxAt.below {w w' : World} {g : Nat} {v : Value} (h : BoxAt w g v) (hb : Below w.heap.size w w') : BoxAt w' g v := ⟨by have := hb.size; have := h.1; omega, carry hb h.1 h.2⟩
theorem BoxAt.alloc {w : World} {g : Nat} {v : Value} (o : Obj) (h : BoxAt w g v) : BoxAt (w.alloc o) g v := h.below (below_alc w o)
theorem box_lit (w : World) (T : TypeId) (g : Nat) (v : Value) (hg : g = w.heap.size) : BoxAt (w.alloc (.cells #[v] T)) g v := by
  subst hg
  exact ⟨by simp, by rw [World.cell?_alloc_at _ _ _ _ rfl]; rfl⟩
/-- all blocks but those of S are as they were. -/
structure Bar (S : Nat → Prop) (w w' : World) : Prop where
  os : w'.os = w.os
  tape : w'.tape = w.tape
  output : w'.output = w.output
  size : w.heap.size ≤ w'.heap.size
  block : ∀ k, k < w.heap.size → ¬ S k → w'.heap[k]? = w.heap[k]?
theorem Bar.refl (S : Nat → Prop) (w : World) : Bar S w w := ⟨rfl, rfl, rfl, Nat.le_refl _, fun _ _ _ => rfl⟩
theorem Bar.trans {S S' : Nat → Prop} {w w1 w2 : World} (h : Bar S w w1) (h' : Bar S' w1 w2) (hs : ∀ k, k < w.heap.size → S' k → S k) : Bar S w w2 :=
  ⟨h'.os.trans h.os, h'.tape.trans h.tape, h'.output.trans h.output, Nat.le_trans h.size h'.size, fun k hk hn => (h'.block k (Nat.lt_of_lt_of_le hk h.size) (fun hc => hn (hs k hk hc))).trans (h.block k hk hn)⟩
theorem Bar.of_below {S : Nat → Prop} {w w' : World} (h : Below w.heap.size w w') : Bar S w w' := ⟨h.os, h.tape, h.output, h.size, fun k hk _ => h.block k hk⟩
theorem Bar.next {S : Nat → Prop} {w w1 w2 : World} (h : Bar S w w1) (h' : Below w1.heap.size w1 w2) : Bar S w w2 := h.trans (Bar.of_below (S := S) h') fun _ _ hs => hs
theorem Bar.below {S : Nat → Prop} {B : Nat} {w w' : World} (h : Bar S w w') (hB : B ≤ w.heap.size) (hS : ∀ k, S k → B ≤ k) : Below B w w' :=
  ⟨h.os, h.tape, h.output, h.size, fun k hk => h.block k (by omega) (fun hs => by have := hS k hs; omega)⟩
theorem Bar.of_grown {w w' : World} {row : Option Nat} (h : w.grownBy w' row) : Bar (fun k => row = some k) w w' :=
  ⟨h.os, h.tape, h.output, h.size, fun k hk hn => h.block k hk (fun e => hn e.symm)⟩
theorem Bar.set {S : Nat → Prop} {w : World} (p : Addr) (v : Value) (hp : S p.block) : Bar S w (w.setCell p v) :=
  ⟨rfl, rfl, rfl, by simp [World.setCell], fun k _ hn => Below.heap_setCell w p v k (fun e => hn (e ▸ hp))⟩
theorem Bar.cell {S : Nat → Prop} {w w' : World} {a : Addr} {v : Value} (h : Bar S w w') (hc : w.cell? a = some v) (hn : ¬ S a.block) : w'.cell? a = some v :=
  (World.cell?_of_block (h.block a.block (World.block_lt_of_cell? w a hc) hn)).trans hc
theorem Bar.frozen {S : Nat → Prop} {w w' : World} {a : Addr} (h : Bar S w w') (hl : a.block < w.heap.size) (hn : ¬ S a.block) : w'.frozen? a = w.frozen? a :=
  World.frozen?_of_block (h.block a.block hl hn)
theorem Bar.own {S : Nat → Prop} {w w' : World} {base : Nat} {e : TypeId} {size : Nat} {v : Value} {n : Nat} {xs : List Value} (h : Bar S w w') (ho : w.ownsRow base e size v n xs) (hn : ∀ k, v.ownBlock = some k → ¬ S k) : w'.ownsRow base e size v n xs := by
  refine ⟨ho.1, ?_⟩
  rcases ho.2 with h0 | ⟨g, cap, cur, rfl, hb, hgg, rest⟩
  · exact .inl h0
  · exact .inr ⟨g, cap, cur, rfl, hb, (h.block g (Array.getElem?_eq_some_iff.1 hgg).1 (hn g rfl)).trans hgg, rest⟩
theorem BoxAt.bar {S : Nat → Prop} {w w' : World} {g : Nat} {v : Value} (h : BoxAt w g v) (hb : Bar S w w') (hn : ¬ S g) : BoxAt w' g v :=
  ⟨by have := hb.size; have := h.1; omega, hb.cell h.2 hn⟩
/-- rows of unlike things lie in unlike blocks. -/
theorem own_ne {w : World} {B B' : Nat} {e e' : TypeId} {s s' : Nat} {v v' : Value} {n n' : Nat} {xs xs' : List Value} (h : w.ownsRow B e s v n xs) (h' : w.ownsRow B' e' s' v' n' xs') (he : e ≠ e') : ∀ k, v.ownBlock = some k → ¬ v'.ownBlock = some k := by
  intro k hk hk'
  rcases h.2 with ⟨rfl, _⟩ | ⟨g, cap, cur, rfl, _, hg, _⟩
  · simp [Value.ownBlock] at hk
  rcases h'.2 with ⟨rfl, _⟩ | ⟨g', cap', cur', rfl, _, hg', _⟩
  · simp [Value.ownBlock] at hk'
  simp [Value.ownBlock] at hk hk'
  subst hk hk'
  rw [hg] at hg'
  injection hg' with h1
  injection h1 with _ h2 _
  exact he h2
theorem own_lt {w : World} {B : Nat} {e : TypeId} {s : Nat} {v : Value} {n : Nat} {xs : List Value} (h : w.ownsRow B e s v n xs) : ∀ k, v.ownBlock = some k → B ≤ k ∧ k < w.heap.size := h.lt
def TyAt (w : World) (b : Nat) (T : TypeId) : Prop := ∃ arr fz, w.heap[b]? = some (.cells arr T fz)
theorem TyAt.bar {S : Nat → Prop} {w w' : World} {b : Nat} {T : TypeId} (h : TyAt w b T) (hb : Bar S w w') (hn : ¬ S b) : TyAt w' b T := by
  obtain ⟨arr, fz, h⟩ := h
  exact ⟨arr, fz, (hb.block b (Array.getElem?_eq_some_iff.1 h).1 hn).trans h⟩
theorem TyAt.set {w : World} {b : Nat} {T : TypeId} (h : TyAt w b T) (a : Addr) (v : Value) : TyAt (w.setCell a v) b T := by
  obtain ⟨arr, fz, h⟩ := h
  by_cases e : a.block = b
  · subst e
    refine ⟨if a.spot.isSome then arr else arr.setIfInBounds a.off v, fz, ?_⟩
    show (w.heap.modify a.block _)[a.block]? = _
    rw [Array.getElem?_modify, if_pos rfl, h]
    rfl
  · exact ⟨arr, fz, by
      show (w.heap.modify a.block _)[b]? = _
      rw [Array.getElem?_modify, if_neg e, h]⟩
theorem TyAt.ne {w : World} {b b' : Nat} {T T' : TypeId} (h : TyAt w b T) (h' : TyAt w b' T') (hT : T ≠ T') : b ≠ b' := by
  rintro rfl
  obtain ⟨_, _, h⟩ := h
  obtain ⟨_, _, h'⟩ := h'
  rw [h] at h'
  injection h' with h'
  injection h' with _ h' _
  exact hT h'
theorem TyAt.new (w : World) (arr : Array Value) (T : TypeId) : TyAt (w.alloc (.cells arr T)) w.heap.size T := ⟨arr, (0, 0), by show (w.heap.push _)[w.heap.size]? = _; simp⟩
end Go.Proofs.Ytnjalpcmjkahkaa
