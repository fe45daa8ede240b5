/- Rows of a call's own, of whatever elements: one more behind those that there are; rows of types, of rows. -/
import Derived.Test.YtjhmdobmbajcgaaBar
import Derived.Test.YtjhmdobmbajcgaaTkA
namespace Go.Proofs.Ytjhmdobmbajcgaa
open Go.RowKit
set_option linter.unusedVariables false
set_option linter.unusedSimpArgs false

/-- one element more; told of a world ahead of the new blocks. -/
theorem op_one {ops : Array Oper} {rest : List Oper} {o : Oper} {a : Act} {Q : Exit → Act → World → Prop} (hgd : o.guard = none) (T e : TypeId) (z : Value) (size bytes : Nat) (hT : Try.prog.underlying T = some (.slice e)) (hinfo : (Try.prog.info? e).map (fun i => (i.zero, i.size, i.bytes)) = some (some z, size, bytes)) (hzs : z.cells.size = size) (hs0 : 0 < size)
    (s x : Operand) (W Z : World) (B : Nat) (hB : B ≤ Z.heap.size) (hZ : Below Z.heap.size Z W) (ov : Value) (n : Nat) (xs ys : List Value) (arr : Array Value)
    (ho : o.op = .call { callee := .builtin .append, args := #[s, x], argTypes := #[T, T] })
    (hs : a.eval s = ov) (g0 : Nat) (hg0 : g0 = W.heap.size) (hx : a.eval x = .slice (some ⟨g0, 0, none⟩) 1 1) (harr : arr.toList = ys) (hys : ys.length = size) (hone : ∀ u ∈ ys, u.oneCell' = true) (hown : Z.ownsRow B e size ov n xs) (hlen : (n + 1) * bytes ≤ 140737488355328) (hmax : n + 1 ≤ maxLen)
    (h : ∀ v' w', w'.ownsRow B e size v' (n + 1) (xs ++ ys) → Bar (fun k => ov.ownBlock = some k) Z w' → wpList Try.prog ops Q rest (a.put o.dst v') w') :
    wpList Try.prog ops Q (o :: rest) a (W.alloc (.cells arr e)) := by
  obtain ⟨i0, hi, hz0, hz1, hz2⟩ := info_parts hinfo
  subst hg0
  have hsz := hZ.size
  refine wpList_append_own _ hgd s x T ho B e i0 z size bytes hT hi hz0 hz1 hz2 hzs hs0 ov n xs hs (World.ownsRow.alloc (owns_below hown hZ) _) ⟨W.heap.size, 0, none⟩ 1 1 ys hx (by omega) ?_ hone (by omega) (by omega) (by simp; omega) ?_
  · intro j u hj
    have e : (⟨W.heap.size, 0, none⟩ : Addr).add j = ⟨W.heap.size, j, none⟩ := by simp [Addr.add]; try omega
    rw [e, World.cell?_alloc_at _ _ _ _ rfl, ← hj, ← harr, Array.getElem?_toList]
  · intro v' w' hown' hgr _
    refine h v' w' hown' ?_
    exact ((Bar.of_below (S := fun k => ov.ownBlock = some k) hZ).trans (Bar.of_below (below_alc W _)) fun _ _ hs => hs).trans (Bar.of_grown hgr) fun _ _ hs => hs
theorem infoTp : (Try.prog.info? 25).map (fun i => (i.zero, i.size, i.bytes)) = some (some (.agg #[.slice none 0 0]), 1, 24) := by kernel_rfl
theorem infoRw : (Try.prog.info? 28).map (fun i => (i.zero, i.size, i.bytes)) = some (some (.agg #[.int .i64 0, .int .i64 0, .int .i64 0, .int .i64 0, .int .i64 0]), 5, 40) := by kernel_rfl
def tpL (l : List Tp) : List Value := l.map fun x => .slice x.ad x.n x.c
def rwL1 (r : Rw) : List Value := [.int .i64 r.a, .int .i64 r.b, .int .i64 r.c, .int .i64 r.d, .int .i64 r.t]
def rwL (l : List Rw) : List Value := l.flatMap rwL1
theorem tpL_app (l m : List Tp) : tpL (l ++ m) = tpL l ++ tpL m := by simp [tpL]
theorem rwL_app (l m : List Rw) : rwL (l ++ m) = rwL l ++ rwL m := by simp [rwL]
def OwnP (B : Nat) (w : World) (v : Value) (l : List Tp) : Prop := w.ownsRow B 25 1 v l.length (tpL l)
def OwnR (B : Nat) (w : World) (v : Value) (l : List Rw) : Prop := w.ownsRow B 28 5 v l.length (rwL l)
theorem rwL_get : ∀ (l : List Rw) (i k : Nat), k < 5 → (rwL l)[i * 5 + k]? = (l[i]?).bind fun t => (rwL1 t)[k]?
  | [], i, k, _ => by simp [rwL]
  | t :: l, 0, k, hk => by
    simp only [rwL, List.flatMap_cons, Nat.zero_mul, Nat.zero_add]
    rw [List.getElem?_append_left (by simp [rwL1]; omega)]; rfl
  | t :: l, i + 1, k, hk => by
    have h := rwL_get l i k hk
    simp only [rwL, List.flatMap_cons] at *
    rw [List.getElem?_append_right (by simp [rwL1]; omega), show (i + 1) * 5 + k - (rwL1 t).length = i * 5 + k by simp [rwL1]; omega, h]
    simp
theorem OwnP.arg {B : Nat} {w : World} {a : Option Addr} {n c : Nat} {l : List Tp} (h : OwnP B w (.slice a n c) l) (ht : ∀ i, i < l.length → TpOk w (l.getD i tp0)) : TpArg w a n l := by
  have hh := h
  rcases h.2 with ⟨h1, h0⟩ | ⟨g, cap, cur, h1, hb, hg, hc, hm, hsz, htk⟩
  · injection h1 with h2 h3 h4; subst h3
    exact ⟨h0.symm, .inl (List.eq_nil_of_length_eq_zero h0)⟩
  · injection h1 with h2 h3 h4; subst h2 h3 h4
    refine ⟨rfl, .inr ⟨g, 0, rfl, fun i hi => ⟨?_, ht i hi⟩, (Array.getElem?_eq_some_iff.1 hg).1⟩⟩
    have := World.ownsRow.cells (show w.ownsRow B 25 1 (.slice (some ⟨g, 0, none⟩) l.length c) l.length (tpL l) from hh) rfl i (.slice (l.getD i tp0).ad (l.getD i tp0).n (l.getD i tp0).c) (by unfold tpL; rw [List.getElem?_map, List.getD_eq_getElem?_getD, List.getElem?_eq_getElem hi]; rfl)
    rw [Nat.zero_add]
    by_cases hj0 : i = 0
    · subst hj0; simpa [Addr.add] using this
    · simpa [Addr.add, hj0] using this
theorem OwnR.arg {B : Nat} {w : World} {a : Option Addr} {n c : Nat} {l : List Rw} (h : OwnR B w (.slice a n c) l) : RwArg w a n l := by
  have hh := h
  rcases h.2 with ⟨h1, h0⟩ | ⟨g, cap, cur, h1, hb, hg, hc, hm, hsz, htk⟩
  · injection h1 with h2 h3 h4; subst h3
    exact ⟨h0.symm, .inl (List.eq_nil_of_length_eq_zero h0)⟩
  · injection h1 with h2 h3 h4; subst h2 h3 h4
    have key : ∀ j u, (rwL l)[j]? = some u → w.cell? ⟨g, j, none⟩ = some u := fun j u hj => by
      have := World.ownsRow.cells (show w.ownsRow B 28 5 (.slice (some ⟨g, 0, none⟩) l.length c) l.length (rwL l) from hh) rfl j u hj
      by_cases hj0 : j = 0
      · subst hj0; simpa [Addr.add] using this
      · simpa [Addr.add, hj0] using this
    refine ⟨rfl, .inr ⟨g, 0, rfl, fun i hi => ?_, (Array.getElem?_eq_some_iff.1 hg).1⟩⟩
    have e : l[i]? = some (l.getD i rw0) := by rw [List.getD_eq_getElem?_getD, List.getElem?_eq_getElem hi]; rfl
    rw [Nat.zero_add]
    exact ⟨key (i * 5 + 0) _ (by rw [rwL_get l i 0 (by omega), e]; rfl), key (i * 5 + 1) _ (by rw [rwL_get l i 1 (by omega), e]; rfl), key (i * 5 + 2) _ (by rw [rwL_get l i 2 (by omega), e]; rfl), key (i * 5 + 3) _ (by rw [rwL_get l i 3 (by omega), e]; rfl), key (i * 5 + 4) _ (by rw [rwL_get l i 4 (by omega), e]; rfl)⟩
theorem own_sl {w : World} {B : Nat} {e : TypeId} {s n : Nat} {v : Value} {xs : List Value} (h : w.ownsRow B e s v n xs) : ∃ a c, v = .slice a n c := by
  rcases h.2 with ⟨rfl, h0⟩ | ⟨g, cap, cur, rfl, _⟩
  · exact ⟨none, 0, by rw [h0]⟩
  · exact ⟨_, _, rfl⟩
theorem own_none (B : Nat) (w : World) (e : TypeId) (s : Nat) : w.ownsRow B e s (.slice none 0 0) 0 [] := ⟨by simp, .inl ⟨rfl, rfl⟩⟩
/-- the type of a variable, in a block of its own. -/
def VrAt (w : World) (g : Nat) (v : Int) : Prop := w.heap[g]? = some (.cells (tyL1 (vrT v)).toArray 47 (0, 0))
theorem VrAt.arg {w : World} {g : Nat} {v : Int} (h : VrAt w g v) : TyArg w (some ⟨g, 0, none⟩) 1 [vrT v] := by
  refine ⟨rfl, .inr ⟨g, 0, rfl, tySl_of fun j u hj => ?_, (Array.getElem?_eq_some_iff.1 h).1⟩⟩
  rw [Nat.zero_add, Lib.cell_of_heap h]
  have : tyL [vrT v] = tyL1 (vrT v) := by simp [tyL]
  rw [this] at hj
  rw [← hj]; simp
theorem VrAt.bar {S : Nat → Prop} {w w' : World} {g : Nat} {v : Int} (h : VrAt w g v) (hb : Bar S w w') (hn : ¬ S g) : VrAt w' g v :=
  (hb.block g (Array.getElem?_eq_some_iff.1 h).1 hn).trans h
/-- it lies in another block than a row of other things. -/
theorem VrAt.ne {w : World} {g : Nat} {v : Int} (h : VrAt w g v) {B : Nat} {e : TypeId} {s n : Nat} {u : Value} {xs : List Value} (ho : w.ownsRow B e s u n xs) (he : e ≠ 47) : ¬ u.ownBlock = some g := by
  intro hk
  rcases ho.2 with ⟨rfl, _⟩ | ⟨k, cap, cur, rfl, _, hg, _⟩
  · simp [Value.ownBlock] at hk
  · simp [Value.ownBlock] at hk; subst hk
    rw [show w.heap[k]? = _ from h] at hg
    injection hg with hg
    injection hg with _ hg _
    exact he hg.symm
/-- types of variables, in a row. -/
def VrsAt (w : World) (l : List Tp) (L : List Int) : Prop := ∀ i, i < l.length → ∃ g, l.getD i tp0 = ⟨some ⟨g, 0, none⟩, 1, 1, [vrT (L.getD i 0)]⟩ ∧ VrAt w g (L.getD i 0)
theorem VrsAt.bar {S : Nat → Prop} {w w' : World} {l : List Tp} {L : List Int} (h : VrsAt w l L) (hb : Bar S w w') (hn : ∀ g v, VrAt w g v → ¬ S g) : VrsAt w' l L := fun i hi => by
  obtain ⟨g, h1, h2⟩ := h i hi
  exact ⟨g, h1, h2.bar hb (hn g _ h2)⟩
theorem VrsAt.below {w w' : World} {l : List Tp} {L : List Int} (h : VrsAt w l L) (hb : Below w.heap.size w w') : VrsAt w' l L := h.bar (Bar.of_below (S := fun _ => False) hb) fun _ _ _ => id
theorem VrsAt.snoc {w : World} {l : List Tp} {L : List Int} {g : Nat} (h : VrsAt w l L) (hg : VrAt w g (L.getD l.length 0)) : VrsAt w (l ++ [⟨some ⟨g, 0, none⟩, 1, 1, [vrT (L.getD l.length 0)]⟩]) L := by
  intro i hi
  rw [List.length_append, List.length_singleton] at hi
  by_cases hlt : i < l.length
  · obtain ⟨g', h1, h2⟩ := h i hlt
    refine ⟨g', ?_, h2⟩
    rw [List.getD_eq_getElem?_getD, List.getElem?_append_left hlt, ← List.getD_eq_getElem?_getD]; exact h1
  · have e : i = l.length := by omega
    subst e
    refine ⟨g, ?_, hg⟩
    rw [List.getD_eq_getElem?_getD, List.getElem?_append_right (Nat.le_refl _)]; simp
theorem VrsAt.ok {w : World} {l : List Tp} {L : List Int} (h : VrsAt w l L) : ∀ i, i < l.length → TpOk w (l.getD i tp0) := fun i hi => by
  obtain ⟨g, h1, h2⟩ := h i hi
  rw [h1]
  exact ⟨h2.arg, by show (1 : Nat) ≤ _; omega⟩
end Go.Proofs.Ytjhmdobmbajcgaa
