/- What a call leaves alone: all blocks but some. -/
import Derived.Test.YtjhmdobmbajcgaaInO
import Derived.Test.YtjhmdobmbajcgaaSbH
namespace Go.Proofs.Ytjhmdobmbajcgaa
open Go.RowKit
set_option linter.unusedVariables false
set_option linter.unusedSimpArgs false

/-- a node of a type in a block of its own. -/
def TnAt (w : World) (g : Nat) (t : Ty) : Prop := g < w.heap.size ∧ w.cell? ⟨g, 0, none⟩ = some (.int .i64 t.k) ∧ w.cell? ⟨g, 1, none⟩ = some (.int .i64 t.v) ∧ w.cell? ⟨g, 2, none⟩ = some (.int .i64 t.a) ∧ w.cell? ⟨g, 3, none⟩ = some (.int .i64 t.b) ∧ w.cell? ⟨g, 4, none⟩ = some (.int .i64 t.c0) ∧ w.cell? ⟨g, 5, none⟩ = some (.int .i64 t.c1) ∧ w.cell? ⟨g, 6, none⟩ = some (.int .i64 t.c2) ∧ w.cell? ⟨g, 7, none⟩ = some (.int .i64 t.c3) ∧ w.cell? ⟨g, 8, none⟩ = some (.int .i64 t.t)
theorem TnAt.below {w w' : World} {g : Nat} {t : Ty} (h : TnAt w g t) (hb : Below w.heap.size w w') : TnAt w' g t := by
  obtain ⟨h0, h1, h2, h3, h4, h5, h6, h7, h8, h9⟩ := h
  exact ⟨by have := hb.size; omega, carry hb h0 h1, carry hb h0 h2, carry hb h0 h3, carry hb h0 h4, carry hb h0 h5, carry hb h0 h6, carry hb h0 h7, carry hb h0 h8, carry hb h0 h9⟩
/-- all blocks but those of S are as they were. -/
structure Bar (S : Nat → Prop) (w w' : World) : Prop where
  os : w'.os = w.os
  tape : w'.tape = w.tape
  output : w'.output = w.output
  size : w.heap.size ≤ w'.heap.size
  block : ∀ k, k < w.heap.size → ¬ S k → w'.heap[k]? = w.heap[k]?
theorem Bar.refl (S : Nat → Prop) (w : World) : Bar S w w := ⟨rfl, rfl, rfl, Nat.le_refl _, fun _ _ _ => rfl⟩
theorem Bar.trans {S S' : Nat → Prop} {w w1 w2 : World} (h : Bar S w w1) (h' : Bar S' w1 w2) (hs : ∀ k, k < w.heap.size → S' k → S k) : Bar S w w2 :=
  ⟨h'.os.trans h.os, h'.tape.trans h.tape, h'.output.trans h.output, Nat.le_trans h.size h'.size, fun k hk hn => (h'.block k (Nat.lt_of_lt_of_le hk h.size) (fun hc => hn (hs k hk hc))).trans (h.block k hk hn)⟩
theorem Bar.of_below {S : Nat → Prop} {w w' : World} (h : Below w.heap.size w w') : Bar S w w' := ⟨h.os, h.tape, h.output, h.size, fun k hk _ => h.block k hk⟩
theorem Bar.next {S : Nat → Prop} {w w1 w2 : World} (h : Bar S w w1) (h' : Below w1.heap.size w1 w2) : Bar S w w2 := h.trans (Bar.of_below (S := S) h') fun _ _ hs => hs
theorem Bar.below {S : Nat → Prop} {B : Nat} {w w' : World} (h : Bar S w w') (hB : B ≤ w.heap.size) (hS : ∀ k, S k → B ≤ k) : Below B w w' :=
  ⟨h.os, h.tape, h.output, h.size, fun k hk => h.block k (by omega) (fun hs => by have := hS k hs; omega)⟩
theorem Bar.of_grown {w w' : World} {row : Option Nat} (h : w.grownBy w' row) : Bar (fun k => row = some k) w w' :=
  ⟨h.os, h.tape, h.output, h.size, fun k hk hn => h.block k hk (fun e => hn e.symm)⟩
theorem Bar.set {S : Nat → Prop} {w : World} (p : Addr) (v : Value) (hp : S p.block) : Bar S w (w.setCell p v) :=
  ⟨rfl, rfl, rfl, by simp [World.setCell], fun k _ hn => Below.heap_setCell w p v k (fun e => hn (e ▸ hp))⟩
theorem Bar.cell {S : Nat → Prop} {w w' : World} {a : Addr} {v : Value} (h : Bar S w w') (hc : w.cell? a = some v) (hn : ¬ S a.block) : w'.cell? a = some v :=
  (World.cell?_of_block (h.block a.block (World.block_lt_of_cell? w a hc) hn)).trans hc
theorem Bar.frozen {S : Nat → Prop} {w w' : World} {a : Addr} (h : Bar S w w') (hl : a.block < w.heap.size) (hn : ¬ S a.block) : w'.frozen? a = w.frozen? a :=
  World.frozen?_of_block (h.block a.block hl hn)
theorem Bar.own {S : Nat → Prop} {w w' : World} {base : Nat} {e : TypeId} {size : Nat} {v : Value} {n : Nat} {xs : List Value} (h : Bar S w w') (ho : w.ownsRow base e size v n xs) (hn : ∀ k, v.ownBlock = some k → ¬ S k) : w'.ownsRow base e size v n xs := by
  refine ⟨ho.1, ?_⟩
  rcases ho.2 with h0 | ⟨g, cap, cur, rfl, hb, hgg, rest⟩
  · exact .inl h0
  · exact .inr ⟨g, cap, cur, rfl, hb, (h.block g (Array.getElem?_eq_some_iff.1 hgg).1 (hn g rfl)).trans hgg, rest⟩
theorem BoxAt.bar {S : Nat → Prop} {w w' : World} {g : Nat} {v : Value} (h : BoxAt w g v) (hb : Bar S w w') (hn : ¬ S g) : BoxAt w' g v :=
  ⟨by have := hb.size; have := h.1; omega, hb.cell h.2 hn⟩
theorem TySl.bar {S : Nat → Prop} {w w' : World} {b off : Nat} {ts : List Ty} (h : TySl w b off ts) (hb : Bar S w w') (hn : ¬ S b) : TySl w' b off ts := by
  intro i hi
  obtain ⟨h0, h1, h2, h3, h4, h5, h6, h7, h8⟩ := h i hi
  exact ⟨hb.cell h0 hn, hb.cell h1 hn, hb.cell h2 hn, hb.cell h3 hn, hb.cell h4 hn, hb.cell h5 hn, hb.cell h6 hn, hb.cell h7 hn, hb.cell h8 hn⟩
theorem TyArg.bar {S : Nat → Prop} {w w' : World} {a : Option Addr} {n : Nat} {ts : List Ty} (h : TyArg w a n ts) (hb : Bar S w w') (hn : ∀ b off, a = some ⟨b, off, none⟩ → ¬ S b) : TyArg w' a n ts := by
  obtain ⟨h1, h | ⟨b, off, h2, h3, h4⟩⟩ := h
  · exact ⟨h1, .inl h⟩
  · exact ⟨h1, .inr ⟨b, off, h2, h3.bar hb (hn b off h2), by have := hb.size; omega⟩⟩
theorem IsArg.bar {S : Nat → Prop} {w w' : World} {a : Option Addr} {n : Nat} {l : List Int} (h : IsArg w a n l) (hb : Bar S w w') (hn : ∀ b off, a = some ⟨b, off, none⟩ → ¬ S b) : IsArg w' a n l := by
  obtain ⟨h1, h | ⟨b, off, h2, h3, h4⟩⟩ := h
  · exact ⟨h1, .inl h⟩
  · exact ⟨h1, .inr ⟨b, off, h2, fun i hi => hb.cell (h3 i hi) (hn b off h2), by have := hb.size; omega⟩⟩
/-- rows of unlike things lie in unlike blocks. -/
theorem own_ne {w : World} {B B' : Nat} {e e' : TypeId} {s s' : Nat} {v v' : Value} {n n' : Nat} {xs xs' : List Value} (h : w.ownsRow B e s v n xs) (h' : w.ownsRow B' e' s' v' n' xs') (he : e ≠ e') : ∀ k, v.ownBlock = some k → ¬ v'.ownBlock = some k := by
  intro k hk hk'
  rcases h.2 with ⟨rfl, _⟩ | ⟨g, cap, cur, rfl, _, hg, _⟩
  · simp [Value.ownBlock] at hk
  rcases h'.2 with ⟨rfl, _⟩ | ⟨g', cap', cur', rfl, _, hg', _⟩
  · simp [Value.ownBlock] at hk'
  simp [Value.ownBlock] at hk hk'
  subst hk hk'
  rw [hg] at hg'
  injection hg' with h1
  injection h1 with _ h2 _
  exact he h2
theorem own_lt {w : World} {B : Nat} {e : TypeId} {s : Nat} {v : Value} {n : Nat} {xs : List Value} (h : w.ownsRow B e s v n xs) : ∀ k, v.ownBlock = some k → B ≤ k ∧ k < w.heap.size := h.lt
/-- a type's node more, behind those that there are: it lies in the block that was made last. -/
theorem op_tyg {ops : Array Oper} {rest : List Oper} {o : Oper} {a : Act} {Q : Exit → Act → World → Prop} (hgd : o.guard = none) (s x : Operand) (W : World) (B : Nat) (hB : B ≤ W.heap.size) (ov : Value) (l : List Ty) (y : Ty) (arr : Array Value)
    (ho : o.op = .call { callee := .builtin .append, args := #[s, x], argTypes := #[23, 23] })
    (hs : a.eval s = ov) (hx : a.eval x = .slice (some ⟨W.heap.size, 0, none⟩) 1 1) (harr : arr.toList = tyL1 y) (hown : OwnT B W ov l) (hlen : l.length ≤ 1099511627776)
    (h : ∀ g c w', OwnT B w' (.slice (some ⟨g, 0, none⟩) (l.length + 1) c) (l ++ [y]) → Bar (fun k => ov.ownBlock = some k) W w' → Moved W ov (.slice (some ⟨g, 0, none⟩) (l.length + 1) c) → wpList Try.prog ops Q rest (a.put o.dst (.slice (some ⟨g, 0, none⟩) (l.length + 1) c)) w') :
    wpList Try.prog ops Q (o :: rest) a (W.alloc (.cells arr 47)) := by
  obtain ⟨i0, hi, hz0, hz1, hz2⟩ := info_parts infoTy
  have hy : tyL [y] = tyL1 y := by simp [tyL]
  refine wpList_append_moved _ hgd s x 23 ho B 47 i0 (.agg #[.int .i64 0, .int .i64 0, .int .i64 0, .int .i64 0, .int .i64 0, .int .i64 0, .int .i64 0, .int .i64 0, .int .i64 0]) 9 72 Try.underlying23 hi hz0 hz1 hz2 rfl (by decide) ov l.length (tyL l) hs (World.ownsRow.alloc hown _) ⟨W.heap.size, 0, none⟩ 1 1 (tyL [y]) hx (tyL_len [y]) ?_ (tyL_one [y]) (by unfold maxLen; omega) (by omega) (by simp; omega) ?_
  · intro j u hj
    have e : (⟨W.heap.size, 0, none⟩ : Addr).add j = ⟨W.heap.size, j, none⟩ := by simp [Addr.add]; try omega
    rw [e, World.cell?_alloc_at _ _ _ _ rfl, ← hj, hy, ← harr, Array.getElem?_toList]
  · intro v' w' hown' hgr hnil hmv
    have hown2 : OwnT B w' v' (l ++ [y]) := by unfold OwnT; rw [tyL_app, List.length_append]; exact hown'
    rcases hown2.cases with ⟨_, h0⟩ | ⟨g, c, rfl, _⟩
    · simp at h0
    · rw [List.length_append, List.length_singleton] at hown2 hmv ⊢
      refine h g c w' hown2 ?_ ?_
      · exact (Bar.of_below (below_alc W _)).trans (Bar.of_grown hgr) fun _ _ hs => hs
      · rcases hmv with h | ⟨k, h, h'⟩
        · exact .inl h
        · exact .inr ⟨k, h, by simp at h'; omega⟩
/-- .. a number. -/
theorem op_ing {ops : Array Oper} {rest : List Oper} {o : Oper} {a : Act} {Q : Exit → Act → World → Prop} (hgd : o.guard = none) (s x : Operand) (W : World) (B : Nat) (hB : B ≤ W.heap.size) (ov : Value) (l : List Int) (y : Int)
    (ho : o.op = .call { callee := .builtin .append, args := #[s, x], argTypes := #[54, 54] })
    (hs : a.eval s = ov) (hx : a.eval x = .slice (some ⟨W.heap.size, 0, none⟩) 1 1) (hown : OwnI B W ov l) (hlen : l.length ≤ 1099511627776)
    (h : ∀ g c w', OwnI B w' (.slice (some ⟨g, 0, none⟩) (l.length + 1) c) (l ++ [y]) → Bar (fun k => ov.ownBlock = some k) W w' → Moved W ov (.slice (some ⟨g, 0, none⟩) (l.length + 1) c) → wpList Try.prog ops Q rest (a.put o.dst (.slice (some ⟨g, 0, none⟩) (l.length + 1) c)) w') :
    wpList Try.prog ops Q (o :: rest) a (W.alloc (.cells #[.int .i64 y] 3)) :=
  op_in hgd s x W B hB ov l y ho hs hx hown hlen fun g c w' h1 h2 h3 => h g c w' h1 (Bar.of_grown h2) h3
/-- the same behind new blocks: told of the world ahead of them. -/
theorem op_tyh {ops : Array Oper} {rest : List Oper} {o : Oper} {a : Act} {Q : Exit → Act → World → Prop} (hgd : o.guard = none) (s x : Operand) (W Z : World) (B : Nat) (hB : B ≤ Z.heap.size) (hZ : Below Z.heap.size Z W) (ov : Value) (l : List Ty) (y : Ty) (arr : Array Value)
    (ho : o.op = .call { callee := .builtin .append, args := #[s, x], argTypes := #[23, 23] })
    (hs : a.eval s = ov) (g0 : Nat) (hg0 : g0 = W.heap.size) (hx : a.eval x = .slice (some ⟨g0, 0, none⟩) 1 1) (harr : arr.toList = tyL1 y) (hown : OwnT B Z ov l) (hlen : l.length ≤ 1099511627776)
    (h : ∀ g c w', OwnT B w' (.slice (some ⟨g, 0, none⟩) (l.length + 1) c) (l ++ [y]) → Bar (fun k => ov.ownBlock = some k) Z w' → Moved Z ov (.slice (some ⟨g, 0, none⟩) (l.length + 1) c) → wpList Try.prog ops Q rest (a.put o.dst (.slice (some ⟨g, 0, none⟩) (l.length + 1) c)) w') :
    wpList Try.prog ops Q (o :: rest) a (W.alloc (.cells arr 47)) :=
  op_tyg hgd s x W B (by have := hZ.size; omega) ov l y arr ho hs (by rw [hx, hg0]) harr (hown.below hZ) hlen fun g c w' h1 h2 h3 =>
    h g c w' h1 ((Bar.of_below (S := fun k => ov.ownBlock = some k) hZ).trans h2 fun _ _ hk => hk) (by
      rcases h3 with h | ⟨k, h, h'⟩
      · exact .inl h
      · exact .inr ⟨k, h, by have := hZ.size; omega⟩)
theorem op_inh {ops : Array Oper} {rest : List Oper} {o : Oper} {a : Act} {Q : Exit → Act → World → Prop} (hgd : o.guard = none) (s x : Operand) (W Z : World) (B : Nat) (hB : B ≤ Z.heap.size) (hZ : Below Z.heap.size Z W) (ov : Value) (l : List Int) (y : Int)
    (ho : o.op = .call { callee := .builtin .append, args := #[s, x], argTypes := #[54, 54] })
    (hs : a.eval s = ov) (g0 : Nat) (hg0 : g0 = W.heap.size) (hx : a.eval x = .slice (some ⟨g0, 0, none⟩) 1 1) (hown : OwnI B Z ov l) (hlen : l.length ≤ 1099511627776)
    (h : ∀ g c w', OwnI B w' (.slice (some ⟨g, 0, none⟩) (l.length + 1) c) (l ++ [y]) → Bar (fun k => ov.ownBlock = some k) Z w' → Moved Z ov (.slice (some ⟨g, 0, none⟩) (l.length + 1) c) → wpList Try.prog ops Q rest (a.put o.dst (.slice (some ⟨g, 0, none⟩) (l.length + 1) c)) w') :
    wpList Try.prog ops Q (o :: rest) a (W.alloc (.cells #[.int .i64 y] 3)) :=
  op_ing hgd s x W B (by have := hZ.size; omega) ov l y ho hs (by rw [hx, hg0]) (hown.below hZ) hlen fun g c w' h1 h2 h3 =>
    h g c w' h1 ((Bar.of_below (S := fun k => ov.ownBlock = some k) hZ).trans h2 fun _ _ hk => hk) (by
      rcases h3 with h | ⟨k, h, h'⟩
      · exact .inl h
      · exact .inr ⟨k, h, by have := hZ.size; omega⟩)
theorem own_int_ty : (47 : TypeId) ≠ 3 := by decide
theorem bar_belO {B : Nat} {w w' : World} {v : Value} {l : List Ty} (h : Bar (fun k => v.ownBlock = some k) w w') (ho : OwnT B w v l) (hB : B ≤ w.heap.size) : Below B w w' := h.below hB fun k hk => (own_lt ho k hk).1
theorem bar_belI {B : Nat} {w w' : World} {v : Value} {l : List Int} (h : Bar (fun k => v.ownBlock = some k) w w') (ho : OwnI B w v l) (hB : B ≤ w.heap.size) : Below B w w' := h.below hB fun k hk => (own_lt ho k hk).1
theorem ownI_barT {B B' : Nat} {w w' : World} {v u : Value} {l : List Ty} {m : List Int} (h : Bar (fun k => v.ownBlock = some k) w w') (ho : OwnT B w v l) (hi : OwnI B' w u m) : OwnI B' w' u m := h.own hi fun k hk hk' => own_ne ho hi own_int_ty k hk' hk
theorem ownT_barI {B B' : Nat} {w w' : World} {v u : Value} {l : List Int} {m : List Ty} (h : Bar (fun k => v.ownBlock = some k) w w') (ho : OwnI B w v l) (hi : OwnT B' w u m) : OwnT B' w' u m := h.own hi fun k hk hk' => own_ne hi ho own_int_ty k hk hk'
theorem TnAt.alc {W : World} {g : Nat} {arr : Array Value} {T : TypeId} {t : Ty} (hg : g = W.heap.size) (h : arr.toList = tyL1 t) : TnAt (W.alloc (.cells arr T)) g t := by
  subst hg
  have e : ∀ j u, (tyL1 t)[j]? = some u → (W.alloc (.cells arr T)).cell? ⟨W.heap.size, j, none⟩ = some u := fun j u hj => by
    rw [World.cell?_alloc_at _ _ _ _ rfl, ← hj, ← h, Array.getElem?_toList]
  exact ⟨by simp, e 0 _ rfl, e 1 _ rfl, e 2 _ rfl, e 3 _ rfl, e 4 _ rfl, e 5 _ rfl, e 6 _ rfl, e 7 _ rfl, e 8 _ rfl⟩
end Go.Proofs.Ytjhmdobmbajcgaa
