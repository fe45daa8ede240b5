/- Shapes: shape.Of, Put, PutRow, flat. -/
import Derived.Test.YtfkdcconmecaoaaDoorShF
import Derived.Deep.RegionHeld3
import Derived.Test.YtfkdcconmecaoaaDoorTyO
namespace Go.Proofs.YtfkdcconmecaoaaDoor
open Go.RowKit
set_option linter.unusedVariables false
set_option linter.unusedSimpArgs false

/- shape.Of -/
theorem infoP : (Tryd.prog.info? 65).map (fun i => (i.zero, i.size, i.bytes)) = some (some (.pointer none), 1, 8) := by kernel_rfl
theorem pt_app (W : World) (G i n y : Nat) (f : Nat → Value) (hrow : W.rowIs G 65 n f) (hi : i < n) (ty : TypeId) :
    (Builtin.append_ #[112, 112] ty #[.slice (some ⟨G, 0, none⟩) i n, .slice (some ⟨W.heap.size, 0, none⟩) 1 1]).run Tryd.prog (W.alloc (.cells #[.pointer (some ⟨y, 0, none⟩)] 65)) = .ok (.slice (some ⟨G, 0, none⟩) (i + 1) n) ((W.alloc (.cells #[.pointer (some ⟨y, 0, none⟩)] 65)).setCell ⟨G, i, none⟩ (ptrS y)) := by
  obtain ⟨i0, hi0, hz0, hz1, hz2⟩ := info_parts infoP
  have hl := hrow.lt
  have h := run_append_room_cells (P := Tryd.prog) (W.alloc (.cells #[.pointer (some ⟨y, 0, none⟩)] 65)) 112 ty 65 i0 Tryd.underlying112 hi0 G 0 i n ⟨W.heap.size, 0, none⟩ 1 1 [ptrS y] (by rw [hz1]; rfl) ?_ (by intro u hu; simp at hu; subst hu; rfl) (by omega) ?_ ?_
  · rw [hz1] at h
    rw [h]
    have e : 0 + i * 1 = i := by omega
    rw [e]
    rfl
  · intro j u hj
    match j, hj with
    | 0, hj =>
      simp at hj; subst hj
      show (W.alloc _).cell? ⟨W.heap.size, 0, none⟩ = _
      simp
  · intro j hj
    have hj0 : j = 0 := by simpa using hj
    subst hj0
    rw [hz1, World.cell?_alloc_past _ _ _ hl, show 0 + i * 1 + 0 = i by omega, hrow.cell hi]; rfl
  · intro j hj
    rw [(hrow.alloc _).frozen]
/-- 'made = append(made, p)', at the operation. -/
theorem wl_pt {ops : Array Oper} {rest : List Oper} {o : Oper} {a : Act} {Q : Exit → Act → World → Prop} (hgd : o.guard = none) (s x : Operand) (W : World) (G i n y : Nat) (f : Nat → Value) (hrow : W.rowIs G 65 n f) (hi : i < n)
    (ho : o.op = .call { callee := .builtin .append, args := #[s, x], argTypes := #[112, 112] })
    (hs : a.eval s = .slice (some ⟨G, 0, none⟩) i n) (hx : a.eval x = .slice (some ⟨W.heap.size, 0, none⟩) 1 1)
    (h : wpList Tryd.prog ops Q rest (a.put o.dst (.slice (some ⟨G, 0, none⟩) (i + 1) n)) ((W.alloc (.cells #[.pointer (some ⟨y, 0, none⟩)] 65)).setCell ⟨G, i, none⟩ (ptrS y))) :
    wpList Tryd.prog ops Q (o :: rest) a (W.alloc (.cells #[.pointer (some ⟨y, 0, none⟩)] 65)) := by
  have hrun := pt_app W G i n y f hrow hi o.type
  refine wpList_plain hgd fun K' hK' => ?_
  unfold Oper.wp
  simp [execOp, ho, resolve, invoke, builtin, hs, hx, hrun, Result.andThen]
  exact hK' _ _ h
theorem step_pt {ops : Array Oper} {o : Oper} {a : Act} {K : Act → World → Prop} {Q : Exit → Act → World → Prop} {E : Prop} (hgd : o.guard = none) (s x : Operand) (W : World) (G i n y : Nat) (f : Nat → Value) (hrow : W.rowIs G 65 n f) (hi : i < n)
    (ho : o.op = .call { callee := .builtin .append, args := #[s, x], argTypes := #[112, 112] })
    (hs : a.eval s = .slice (some ⟨G, 0, none⟩) i n) (hx : a.eval x = .slice (some ⟨W.heap.size, 0, none⟩) 1 1)
    (h : K (a.put o.dst (.slice (some ⟨G, 0, none⟩) (i + 1) n)) ((W.alloc (.cells #[.pointer (some ⟨y, 0, none⟩)] 65)).setCell ⟨G, i, none⟩ (ptrS y))) :
    if Region.wanted o (yielded ops a.tmps) = true then Oper.wp Tryd.prog o a (W.alloc (.cells #[.pointer (some ⟨y, 0, none⟩)] 65)) K Q else E := by
  have hrun := pt_app W G i n y f hrow hi o.type
  have hw : Region.wanted o (yielded ops a.tmps) = true := by simp [Region.wanted, hgd]
  rw [if_pos hw]
  unfold Oper.wp
  simp [execOp, ho, resolve, invoke, builtin, hs, hx, hrun, Result.andThen]
  exact h
theorem ShpRow_ne {w : World} {T : TT} {g : Nat} (h : Shp w T g) {G n : Nat} {f : Nat → Value} (ho : w.rowIs G 65 n f) : g ≠ G := by
  intro e
  subst e
  obtain ⟨pa, pb, hb⟩ := h.blk
  obtain ⟨c, hc, _⟩ := ho
  rw [hb] at hc
  unfold shB at hc
  simp only [Option.some.injEq, Obj.cells.injEq] at hc
  exact absurd hc.2.1 (by decide)
theorem Shp.store {w : World} {G n i : Nat} {v : Value} {f : Nat → Value} (ho : w.rowIs G 65 n f) : ∀ {T : TT} {g : Nat}, Shp w T g → Shp (w.setCell ⟨G, i, none⟩ v) T g
  | .base k, g, h => ⟨h.1, by rw [Deep.blk_setCell_other _ _ _ _ (ShpRow_ne (T := .base k) h ho)]; exact h.2⟩
  | .var v, g, h => by
    have hn := ShpRow_ne (T := .var v) h ho
    show (w.setCell _ _).heap[g]? = _
    rw [Deep.blk_setCell_other _ _ _ _ hn]; exact h
  | .fn a r b, g, h => by
    have hn := ShpRow_ne (T := .fn a r b) h ho
    obtain ⟨ga, gb, h1, h2, h3⟩ := h
    exact ⟨ga, gb, by rw [Deep.blk_setCell_other _ _ _ _ hn]; exact h1, Shp.store ho h2, Shp.store ho h3⟩
theorem pt_make (c : Nat) (hc : c ≤ 512) (W : World) : (Instr.makeSlice 112 (.int .i64 0) (.int .i64 c)).run Tryd.prog W = .ok (.slice (some ⟨W.heap.size, 0, none⟩) 0 c) (W.alloc (.cells (madeCells (Value.pointer none).cells (c * 1)) 65)) := by
  obtain ⟨i0, hi, hz0, hz1, hz2⟩ := info_parts infoP
  have h := run_make (P := Tryd.prog) W 112 65 i0 _ Tryd.underlying112 hi hz0 .i64 .i64 0 (c : Int) (by omega) (by omega) (by rw [hz2]; omega) (by omega)
  rw [h, hz1]; simp
/-- the shapes of the first nodes. -/
def OfInv (w : World) (ts : List Ty) (i : Nat) (gs : List Nat) (wr : World) : Prop :=
  gs.length = i ∧ Below w.heap.size w wr ∧ w.heap.size + 1 < wr.heap.size ∧ (∃ f, wr.rowIs (w.heap.size + 1) 65 ts.length f ∧ ∀ j, j < i → f j = ptrS (gs.getD j 0)) ∧ ∀ j, j < i → ∃ U : TT, U.ok = true ∧ SubAt ts U j ∧ Shp wr U (gs.getD j 0)
theorem SubAt.uniq {ts : List Ty} : ∀ {T U : TT} {i : Nat}, T.ok = true → U.ok = true → SubAt ts T i → SubAt ts U i → T = U
  | .base k, .base k', i, h, h', s, s' => by
    have := s.2.symm.trans s'.2
    unfold bsT at this
    simp only [Ty.mk.injEq] at this
    rw [this.1]
  | .base k, .var v, i, h, h', s, s' => by
    have := s.2.symm.trans s'.2
    unfold bsT vrT at this
    simp only [Ty.mk.injEq] at this
    have hk : k = 0 ∨ k = 1 := by simpa [TT.ok] using h
    omega
  | .base k, .fn a r b, i, h, h', s, s' => by
    obtain ⟨_, j, m, e, _⟩ := s'
    have := s.2.symm.trans e
    unfold bsT fnT at this
    simp only [Ty.mk.injEq] at this
    have hk : k = 0 ∨ k = 1 := by simpa [TT.ok] using h
    omega
  | .var v, .base k, i, h, h', s, s' => by
    have := s.2.symm.trans s'.2
    unfold bsT vrT at this
    simp only [Ty.mk.injEq] at this
    have hk : k = 0 ∨ k = 1 := by simpa [TT.ok] using h'
    omega
  | .var v, .var v', i, h, h', s, s' => by
    have := s.2.symm.trans s'.2
    unfold vrT at this
    simp only [Ty.mk.injEq] at this
    rw [this.2.1]
  | .var v, .fn a r b, i, h, h', s, s' => by
    obtain ⟨_, j, m, e, _⟩ := s'
    have := s.2.symm.trans e
    unfold vrT fnT at this
    simp only [Ty.mk.injEq] at this
    omega
  | .fn a r b, .base k, i, h, h', s, s' => by
    obtain ⟨_, j, m, e, _⟩ := s
    have := e.symm.trans s'.2
    unfold bsT fnT at this
    simp only [Ty.mk.injEq] at this
    have hk : k = 0 ∨ k = 1 := by simpa [TT.ok] using h'
    omega
  | .fn a r b, .var v, i, h, h', s, s' => by
    obtain ⟨_, j, m, e, _⟩ := s
    have := e.symm.trans s'.2
    unfold vrT fnT at this
    simp only [Ty.mk.injEq] at this
    omega
  | .fn a r b, .fn a' r' b', i, h, h', s, s' => by
    obtain ⟨_, j, m, e, _, _, s1, s2⟩ := s
    obtain ⟨_, j', m', e', _, _, s1', s2'⟩ := s'
    have := e.symm.trans e'
    unfold fnT at this
    simp only [Ty.mk.injEq] at this
    obtain ⟨ra, rb, rc, rd, rt⟩ := r
    obtain ⟨ra', rb', rc', rd', rt'⟩ := r'
    simp only [] at this
    unfold TT.ok at h h'
    simp only [Bool.and_eq_true] at h h'
    obtain rfl : j = j' := by omega
    obtain rfl : m = m' := by omega
    rw [SubAt.uniq h.1.1 h'.1.1 s1 s1', SubAt.uniq h.2 h'.2 s2 s2', this.2.2.2.2.1, this.2.2.2.2.2.1, this.2.2.2.2.2.2.1, this.2.2.2.2.2.2.2.1, this.2.2.2.2.2.2.2.2]
theorem SubAt.size {ts : List Ty} (hok : ∀ j, j < ts.length → tyOk (ts.getD j ty0) = true) {T : TT} {i s : Nat} (h : SubAt ts T i) (hT : T.ok = true) (hg : bg (ksT ts) i = s) : T.sz ≤ i + 1 := by
  obtain ⟨_, U, hU, hs, hz, _⟩ := tree_at ts hok (i + 1) i (by omega) h.lt s hg
  rw [SubAt.uniq hT hU h hs, hz]; omega
theorem OfInv.go {w : World} {ts : List Ty} {i : Nat} {gs : List Nat} {W W' : World} (h : OfInv w ts i gs W) (hb : Below W.heap.size W W') : OfInv w ts i gs W' := by
  obtain ⟨h1, h2, h3, ⟨f, h4, h5⟩, h6⟩ := h
  exact ⟨h1, belT h2 hb, by have := hb.size; omega, ⟨f, h4.of_block (hb.block _ h3), h5⟩, fun j hj => by
    obtain ⟨U, u1, u2, u3⟩ := h6 j hj
    exact ⟨U, u1, u2, u3.keep hb⟩⟩
theorem OfInv.put {w : World} {ts : List Ty} {i : Nat} {gs : List Nat} {W : World} {U : TT} {g : Nat} (h : OfInv w ts i gs W) (hi : i < ts.length) (hU : U.ok = true) (hs : SubAt ts U i) (hp : Shp W U g) {o : Obj} : OfInv w ts (i + 1) (gs ++ [g]) ((W.alloc o).setCell ⟨w.heap.size + 1, i, none⟩ (ptrS g)) := by
  have ha : OfInv w ts i gs (W.alloc o) := h.go (below_alc W _)
  have hp' := hp.keep (below_alc W o)
  obtain ⟨h1, h2, h3, ⟨f, h4, h5⟩, h6⟩ := ha
  refine ⟨by rw [List.length_append, h1]; rfl, h2.setCell (show w.heap.size ≤ w.heap.size + 1 by omega) _, by simpa using h3, ⟨_, h4.set i (ptrS g), fun j hj => ?_⟩, fun j hj => ?_⟩
  · by_cases hji : j = i
    · subst hji
      rw [if_pos rfl, List.getD_eq_getElem?_getD, List.getElem?_append_right (by omega), h1]; simp
    · rw [if_neg hji, h5 j (by omega), List.getD_eq_getElem?_getD, List.getD_eq_getElem?_getD, List.getElem?_append_left (by omega)]
  · by_cases hji : j = i
    · subst hji
      refine ⟨U, hU, hs, ?_⟩
      have e : (gs ++ [g]).getD j 0 = g := by rw [List.getD_eq_getElem?_getD, List.getElem?_append_right (by omega), h1]; simp
      rw [e]; exact Shp.store h4 hp'
    · obtain ⟨V, v1, v2, v3⟩ := h6 j (by omega)
      refine ⟨V, v1, v2, ?_⟩
      have e : (gs ++ [g]).getD j 0 = gs.getD j 0 := by rw [List.getD_eq_getElem?_getD, List.getElem?_append_left (by omega), ← List.getD_eq_getElem?_getD]
      rw [e]; exact Shp.store h4 v3
theorem OfInv.put' {w : World} {ts : List Ty} {i : Nat} {gs : List Nat} {W : World} {U : TT} {g : Nat} (h : OfInv w ts i gs W) (hi : i < ts.length) (hU : U.ok = true) (hs : SubAt ts U i) (hp : Shp W U g) {o : Obj} : OfInv w ts (i + 1) (gs ++ [g]) ((W.setCell ⟨w.heap.size + 1, i, none⟩ (ptrS g)).alloc o) := by
  have := h.put hi hU hs hp (o := o)
  rwa [World.setCell_alloc_past _ _ _ _ h.2.2.1] at this
theorem OfInv.other {w : World} {ts : List Ty} {i : Nat} {gs : List Nat} {W : World} (h : OfInv w ts i gs W) (v : Value) : OfInv w ts i gs (W.setCell ⟨w.heap.size + 1, i, none⟩ v) := by
  obtain ⟨h1, h2, h3, ⟨f, h4, h5⟩, h6⟩ := h
  refine ⟨h1, h2.setCell (show w.heap.size ≤ w.heap.size + 1 by omega) _, by simpa using h3, ⟨_, h4.set i v, fun j hj => by rw [if_neg (by omega)]; exact h5 j hj⟩, fun j hj => ?_⟩
  obtain ⟨U, u1, u2, u3⟩ := h6 j hj
  exact ⟨U, u1, u2, Shp.store h4 u3⟩
theorem SubAt.fn_inv {ts : List Ty} {U : TT} {i : Nat} {A B : Int} {r : Rw} (hU : U.ok = true) (hs : SubAt ts U i) (ht : ts.getD i ty0 = fnT A B r) : ∃ a b, ∃ j m : Nat, U = .fn a r b ∧ A = j ∧ B = m ∧ j < i ∧ m < i ∧ SubAt ts a j ∧ SubAt ts b m ∧ a.ok = true ∧ b.ok = true := by
  cases U with
  | base k =>
    have := hs.2.symm.trans ht
    unfold bsT fnT at this
    simp only [Ty.mk.injEq] at this
    have hk : k = 0 ∨ k = 1 := by simpa [TT.ok] using hU
    omega
  | var v =>
    have := hs.2.symm.trans ht
    unfold vrT fnT at this
    simp only [Ty.mk.injEq] at this
    omega
  | fn a r' b =>
    obtain ⟨_, j, m, e, hj, hm, s1, s2⟩ := hs
    have := e.symm.trans ht
    unfold fnT at this
    obtain ⟨ra, rb, rc, rd, rt⟩ := r
    obtain ⟨ra', rb', rc', rd', rt'⟩ := r'
    simp only [Ty.mk.injEq, true_and] at this
    obtain ⟨e1, e2, rfl, rfl, rfl, rfl, rfl⟩ := this
    unfold TT.ok at hU
    simp only [Bool.and_eq_true] at hU
    exact ⟨a, b, j, m, rfl, e1.symm, e2.symm, hj, hm, s1, s2, hU.1.1, hU.2⟩
/-- what the region of a function's node leans on. -/
def KeepO (w : World) (ts : List Ty) (i : Nat) (gs : List Nat) (B0 : Nat) (W : World) : Prop := OfInv w ts i gs W ∧ B0 < W.heap.size ∧ w.heap.size + 1 < B0
theorem keepO_go {w : World} {ts : List Ty} {i : Nat} {gs : List Nat} {B0 : Nat} {W W' : World} {x2 x3 x4 x5 x6 x7 x8 y z : Value} {j m : Nat}
    (h : W.cell? ⟨B0, 2, none⟩ = some x2 ∧ W.cell? ⟨B0, 3, none⟩ = some x3 ∧ W.cell? ⟨B0, 4, none⟩ = some x4 ∧ W.cell? ⟨B0, 5, none⟩ = some x5 ∧ W.cell? ⟨B0, 6, none⟩ = some x6 ∧ W.cell? ⟨B0, 7, none⟩ = some x7 ∧ W.cell? ⟨B0, 8, none⟩ = some x8 ∧ W.cell? ⟨w.heap.size + 1, j, none⟩ = some y ∧ W.cell? ⟨w.heap.size + 1, m, none⟩ = some z ∧ KeepO w ts i gs B0 W) (hb : Below W.heap.size W W') :
    W'.cell? ⟨B0, 2, none⟩ = some x2 ∧ W'.cell? ⟨B0, 3, none⟩ = some x3 ∧ W'.cell? ⟨B0, 4, none⟩ = some x4 ∧ W'.cell? ⟨B0, 5, none⟩ = some x5 ∧ W'.cell? ⟨B0, 6, none⟩ = some x6 ∧ W'.cell? ⟨B0, 7, none⟩ = some x7 ∧ W'.cell? ⟨B0, 8, none⟩ = some x8 ∧ W'.cell? ⟨w.heap.size + 1, j, none⟩ = some y ∧ W'.cell? ⟨w.heap.size + 1, m, none⟩ = some z ∧ KeepO w ts i gs B0 W' := by
  obtain ⟨h2, h3, h4, h5, h6, h7, h8, hy, hz, k1, k2, k3⟩ := h
  have hs := hb.size
  exact ⟨carry hb k2 h2, carry hb k2 h3, carry hb k2 h4, carry hb k2 h5, carry hb k2 h6, carry hb k2 h7, carry hb k2 h8, carry hb (by omega) hy, carry hb (by omega) hz, k1.go hb, by omega, k3⟩
theorem keepO_put {w : World} {ts : List Ty} {i : Nat} {gs : List Nat} {B0 : Nat} {W : World} {x2 x3 x4 x5 x6 x7 x8 y z : Value} {j m : Nat} (hj : j < i) (hm : m < i) (v : Value)
    (h : W.cell? ⟨B0, 2, none⟩ = some x2 ∧ W.cell? ⟨B0, 3, none⟩ = some x3 ∧ W.cell? ⟨B0, 4, none⟩ = some x4 ∧ W.cell? ⟨B0, 5, none⟩ = some x5 ∧ W.cell? ⟨B0, 6, none⟩ = some x6 ∧ W.cell? ⟨B0, 7, none⟩ = some x7 ∧ W.cell? ⟨B0, 8, none⟩ = some x8 ∧ W.cell? ⟨w.heap.size + 1, j, none⟩ = some y ∧ W.cell? ⟨w.heap.size + 1, m, none⟩ = some z ∧ KeepO w ts i gs B0 W) :
    (W.setCell ⟨w.heap.size + 1, i, none⟩ v).cell? ⟨B0, 2, none⟩ = some x2 ∧ (W.setCell ⟨w.heap.size + 1, i, none⟩ v).cell? ⟨B0, 3, none⟩ = some x3 ∧ (W.setCell ⟨w.heap.size + 1, i, none⟩ v).cell? ⟨B0, 4, none⟩ = some x4 ∧ (W.setCell ⟨w.heap.size + 1, i, none⟩ v).cell? ⟨B0, 5, none⟩ = some x5 ∧ (W.setCell ⟨w.heap.size + 1, i, none⟩ v).cell? ⟨B0, 6, none⟩ = some x6 ∧ (W.setCell ⟨w.heap.size + 1, i, none⟩ v).cell? ⟨B0, 7, none⟩ = some x7 ∧ (W.setCell ⟨w.heap.size + 1, i, none⟩ v).cell? ⟨B0, 8, none⟩ = some x8 ∧ (W.setCell ⟨w.heap.size + 1, i, none⟩ v).cell? ⟨w.heap.size + 1, j, none⟩ = some y ∧ (W.setCell ⟨w.heap.size + 1, i, none⟩ v).cell? ⟨w.heap.size + 1, m, none⟩ = some z ∧ KeepO w ts i gs B0 (W.setCell ⟨w.heap.size + 1, i, none⟩ v) := by
  obtain ⟨h2, h3, h4, h5, h6, h7, h8, hy, hz, k1, k2, k3⟩ := h
  have e : ∀ o, (W.setCell ⟨w.heap.size + 1, i, none⟩ v).cell? ⟨B0, o, none⟩ = W.cell? ⟨B0, o, none⟩ := fun o => World.cell?_setCell_other _ _ _ _ (by intro e; injection e; omega)
  have e2 : ∀ o, o < i → (W.setCell ⟨w.heap.size + 1, i, none⟩ v).cell? ⟨w.heap.size + 1, o, none⟩ = W.cell? ⟨w.heap.size + 1, o, none⟩ := fun o ho => World.cell?_setCell_other _ _ _ _ (by intro e; injection e; omega)
  simp only [e, e2 j hj, e2 m hm]
  exact ⟨h2, h3, h4, h5, h6, h7, h8, hy, hz, k1.other v, by simpa using k2, k3⟩
theorem keepO_inv {w : World} {ts : List Ty} {i : Nat} {gs : List Nat} {B0 : Nat} {W : World} {x2 x3 x4 x5 x6 x7 x8 y z : Value} {j m : Nat}
    (h : W.cell? ⟨B0, 2, none⟩ = some x2 ∧ W.cell? ⟨B0, 3, none⟩ = some x3 ∧ W.cell? ⟨B0, 4, none⟩ = some x4 ∧ W.cell? ⟨B0, 5, none⟩ = some x5 ∧ W.cell? ⟨B0, 6, none⟩ = some x6 ∧ W.cell? ⟨B0, 7, none⟩ = some x7 ∧ W.cell? ⟨B0, 8, none⟩ = some x8 ∧ W.cell? ⟨w.heap.size + 1, j, none⟩ = some y ∧ W.cell? ⟨w.heap.size + 1, m, none⟩ = some z ∧ KeepO w ts i gs B0 W) : OfInv w ts i gs W := h.2.2.2.2.2.2.2.2.2.1
theorem pt_row (n : Nat) (w : World) (o : Obj) : ((w.alloc o).alloc (.cells (madeCells #[.pointer none] n) 65)).rowIs (w.heap.size + 1) 65 n (fun _ => .pointer none) := by
  have h := World.rowIs_made (w.alloc o) (.pointer none) n 65
  rw [show (w.alloc o).heap.size = w.heap.size + 1 by simp] at h
  exact h
set_option maxRecDepth 100000 in
set_option maxHeartbeats 4000000 in
theorem shOf_any (b off cp : Nat) (ts : List Ty) (w : World) (h : Hid (TySl w b off ts)) (hbs : b < w.heap.size) (hv : tyV ts = true) :
    Calls Tryd.prog 28 #[.agg #[.slice (some ⟨b, off, none⟩) ts.length cp]] w fun e w' => ∃ U, U.ok = true ∧ SubAt ts U (ts.length - 1) ∧ MkPost U w e w' := by
  have hv' := hv
  unfold tyV at hv'
  simp only [Bool.and_eq_true, decide_eq_true_eq, List.all_eq_true] at hv'
  obtain ⟨⟨⟨h1, h2⟩, h3⟩, h4⟩ := hv'
  have hok := Lib.hid fun (j : Nat) (hj : j < ts.length) => h3 _ (getT_mem hj)
  have hsub := Lib.hid fun (j : Nat) (hj : j < ts.length) => (show ∃ U : TT, U.ok = true ∧ SubAt ts U j ∧ U.sz ≤ 256 from by
    obtain ⟨s, hs⟩ := Int.eq_ofNat_of_zero_le (bg_all h4 j (by omega))
    obtain ⟨_, U, u1, u2, u3, _⟩ := tree_at ts hok.out (j + 1) j (by omega) hj s hs
    exact ⟨U, u1, u2, by omega⟩)
  have hmk := fun (W : World) => pt_make ts.length (by omega) W
  have hrow0 := Lib.hid (pt_row ts.length w)
  clear h3 h4 hv
  go_enter Tryd.func28, Tryd.ntmps28
  go_wp2_with fail
  go_loopw [3, 13] (fun v iv wr => ∃ (i : Nat) (gs : List Nat), i ≤ ts.length ∧ iv = .int .i64 i ∧ v = .slice (some ⟨w.heap.size + 1, 0, none⟩) i ts.length ∧ Hid (OfInv w ts i gs wr)) (fun _ iv _ => ts.length - (intOf iv).toNat)
  case atStart => exact ⟨0, [], by omega, rfl, rfl, Lib.hid ⟨rfl, by (repeat' (first | with_reducible exact Below.refl _ _ | with_reducible assumption | with_reducible apply Below.setCell | with_reducible apply Below.alloc | with_reducible apply Below.drew | with_reducible apply below_drewN | with_reducible exact Nat.le_refl _ | (simp; done) | (simp; omega) | omega | exact Nat.le_refl _)), by simp, ⟨_, hrow0.out _, fun j hj => by omega⟩, fun j hj => by omega⟩⟩
  case round =>
    obtain ⟨i, gs, hi, rfl, rfl, hinv⟩ := hrel
    have hbw := Lib.hid hinv.out.2.1
    have hws := hinv.out.2.2.1
    have hbr : b < wr.heap.size := by omega
    by_cases hlt : i < ts.length
    · have hlt' : (i : Int) < (ts.length : Int) := by omega
      have hi0 : (0 : Int) ≤ (i : Int) := by omega
      have hT := (h.out i hlt).below hbw.out hbs
      rcases tyOk_cases (hok.out i hlt) with ⟨k, hk, ht⟩ | ⟨v, hv0, hv1, ht⟩ | ⟨A, B, r, hr, ht⟩
      · rw [ht] at hT
        rcases hk with rfl | rfl
        all_goals
          obtain ⟨e0, e1, e2, e3, e4, e5, e6, e7, e8⟩ := hT
          simp only [bsT] at e0 e1 e2 e3 e4 e5 e6 e7 e8
          have ht' := Lib.hid ht
          clear ht
          go_wp2_with fail
          refine (shBase_any _ _ (by first | exact .inl rfl | exact .inr rfl)).mono ?_
          rintro e w1 ⟨g, rfl, hs1, hb1⟩
          have hI1 := Lib.hid ((hinv.out.go (below_alc wr _)).go hb1)
          have hws1 := hI1.out.2.2.1
          obtain ⟨f, hrow, _⟩ := hI1.out.2.2.2.1
          have hn1 := Lib.hid fun (o : Obj) => OfInv.put' (o := o) hI1.out hlt (show (TT.base _).ok = true from rfl) ⟨hlt, ht'.out⟩ hs1
          clear hb1 e0 e1 e2 e3 e4 e5 e6 e7 e8 hs1
          go_wp2_with (at_builtin; refine wl_pt rfl (.tmp 19) (.tmp 23) w1 (w.heap.size + 1) i ts.length g f hrow hlt rfl rfl rfl ?_)
          clear hrow
          go_roundw
          case rel => exact ⟨i + 1, gs ++ [g], by omega, by go_num, rfl, Lib.hid (hn1.out _)⟩
          case measure => simp [intOf]; omega
      · rw [ht] at hT
        obtain ⟨e0, e1, e2, e3, e4, e5, e6, e7, e8⟩ := hT
        simp only [vrT] at e0 e1 e2 e3 e4 e5 e6 e7 e8
        have ht' := Lib.hid ht
        clear ht
        go_wp2_with fail
        refine (shVar_any _ _).mono ?_
        rintro e w1 ⟨g, rfl, hs1, hb1⟩
        have hI1 := Lib.hid ((hinv.out.go (below_alc wr _)).go hb1)
        have hws1 := hI1.out.2.2.1
        obtain ⟨f, hrow, _⟩ := hI1.out.2.2.2.1
        have hn1 := Lib.hid fun (o : Obj) => OfInv.put' (o := o) hI1.out hlt (show (TT.var v).ok = true by unfold TT.ok; rw [decide_eq_true hv0, decide_eq_true hv1]; rfl) ⟨hlt, ht'.out⟩ hs1
        clear hb1 e0 e1 e2 e3 e4 e5 e6 e7 e8 hs1
        go_wp2_with (at_builtin; refine wl_pt rfl (.tmp 45) (.tmp 49) w1 (w.heap.size + 1) i ts.length g f hrow hlt rfl rfl rfl ?_)
        clear hrow
        go_roundw
        case rel => exact ⟨i + 1, gs ++ [g], by omega, by go_num, rfl, Lib.hid (hn1.out _)⟩
        case measure => simp [intOf]; omega
      · obtain ⟨U, hU, hsU, hzU⟩ := hsub.out i hlt
        obtain ⟨ta, tb, j, m, rfl, rfl, rfl, hj, hm, sa, sb, oa, ob⟩ := SubAt.fn_inv hU hsU ht
        rw [ht] at hT
        obtain ⟨e0, e1, e2, e3, e4, e5, e6, e7, e8⟩ := hT
        simp only [fnT] at e0 e1 e2 e3 e4 e5 e6 e7 e8
        have hz : ta.sz + tb.sz ≤ 1000000 := by simp only [TT.sz] at hzU; omega
        have hfc : Hid (∀ W, OfInv w ts i gs W → Shp W ta (gs.getD j 0) ∧ Shp W tb (gs.getD m 0)) := Lib.hid fun W hW => by
          obtain ⟨Ua, u1, u2, u3⟩ := hW.2.2.2.2 j hj
          obtain ⟨Ub, v1, v2, v3⟩ := hW.2.2.2.2 m hm
          rw [SubAt.uniq oa u1 sa u2, SubAt.uniq ob v1 sb v2]
          exact ⟨u3, v3⟩
        have hst : Hid (∀ o, (wr.alloc o).cell? ⟨w.heap.size + 1, j, none⟩ = some (.pointer (some ⟨gs.getD j 0, 0, none⟩)) ∧ (wr.alloc o).cell? ⟨w.heap.size + 1, m, none⟩ = some (.pointer (some ⟨gs.getD m 0, 0, none⟩))) := Lib.hid fun o => by
          obtain ⟨f, hrow, hf⟩ := hinv.out.2.2.2.1
          exact ⟨by rw [World.cell?_alloc_past _ _ _ hws, hrow.cell (by omega), hf j hj], by rw [World.cell?_alloc_past _ _ _ hws, hrow.cell (by omega), hf m hm]⟩
        have hU' := Lib.hid (And.intro hU hsU)
        have hj0 : (j : Int) < (i : Int) := by omega
        have hm0 : (m : Int) < (i : Int) := by omega
        have hj1 : (0 : Int) ≤ (j : Int) := by omega
        have hm1 : (0 : Int) ≤ (m : Int) := by omega
        have hkO := Lib.hid fun (o : Obj) => (show KeepO w ts i gs wr.heap.size (wr.alloc o).drew from ⟨hinv.out.go (below_alc wr o).drew, by show _ < (wr.alloc o).heap.size; simp, hws⟩)
        generalize gs.getD j 0 = ga at hfc hst
        generalize gs.getD m 0 = gb at hfc hst
        have kF := Lib.hid fun (W : World) (hW : OfInv w ts i gs W) => shFun_any ta tb r ga gb W (Lib.hid (hfc.out W hW).1) (Lib.hid (hfc.out W hW).2) hz
        clear sa sb hU hsU ht hzU hfc
        go_wp2_with fail
        go_region_held3 (fun W => W.cell? ⟨wr.heap.size, 2, none⟩ = some (.int .i64 j) ∧ W.cell? ⟨wr.heap.size, 3, none⟩ = some (.int .i64 m) ∧ W.cell? ⟨wr.heap.size, 4, none⟩ = some (.int .i64 r.a) ∧ W.cell? ⟨wr.heap.size, 5, none⟩ = some (.int .i64 r.b) ∧ W.cell? ⟨wr.heap.size, 6, none⟩ = some (.int .i64 r.c) ∧ W.cell? ⟨wr.heap.size, 7, none⟩ = some (.int .i64 r.d) ∧ W.cell? ⟨wr.heap.size, 8, none⟩ = some (.int .i64 r.t) ∧ W.cell? ⟨w.heap.size + 1, j, none⟩ = some (.pointer (some ⟨ga, 0, none⟩)) ∧ W.cell? ⟨w.heap.size + 1, m, none⟩ = some (.pointer (some ⟨gb, 0, none⟩)) ∧ KeepO w ts i gs wr.heap.size W)
          (first | exact keepO_put hj hm _ (keepO_go hS1.out (below_alc w1 _)) | exact keepO_go (keepO_put hj hm _ hS1.out) (below_alc _ _) | exact keepO_go hS1.out (below_alc w1 _) | exact hS1.out | exact ⟨by show (wr.alloc _).cell? _ = _; simp, by show (wr.alloc _).cell? _ = _; simp, by show (wr.alloc _).cell? _ = _; simp, by show (wr.alloc _).cell? _ = _; simp, by show (wr.alloc _).cell? _ = _; simp, by show (wr.alloc _).cell? _ = _; simp, by show (wr.alloc _).cell? _ = _; simp, (hst.out _).1, (hst.out _).2, hkO.out _⟩)
          (first | (go_at_call 55; refine (kF.out _ (keepO_inv (by assumption))).mono ?_; rintro e w1 ⟨g, rfl, hs1, hb1⟩; have hS1 := Lib.hid (keepO_go (by assumption) hb1); have hI1 := Lib.hid (keepO_inv hS1.out); have hws1 := hI1.out.2.2.1; obtain ⟨f, hrow, _⟩ := hI1.out.2.2.2.1) | (refine step_pt rfl (.tmp 27) (.tmp 41) w1 (w.heap.size + 1) i ts.length g f hrow hlt rfl rfl rfl ?_))
        have hn1 := Lib.hid fun (o : Obj) => OfInv.put' (o := o) hI1.out hlt hU'.out.1 hU'.out.2 hs1
        go_wp2_with fail
        go_roundw
        case rel => exact ⟨i + 1, gs ++ [g], by omega, by go_num, rfl, Lib.hid (hn1.out _)⟩
        case measure => simp [intOf]; omega
    · obtain rfl : i = ts.length := by omega
      obtain ⟨f, hrow, hf⟩ := hinv.out.2.2.2.1
      obtain ⟨U, u1, u2, u3⟩ := hinv.out.2.2.2.2 (ts.length - 1) (by omega)
      have hcl := hrow.cell (i := ts.length - 1) (by omega)
      rw [hf _ (by omega)] at hcl
      generalize gs.getD (ts.length - 1) 0 = g at hcl u3
      unfold ptrS at hcl
      have hfin := Lib.hid (show ∃ U, U.ok = true ∧ SubAt ts U (ts.length - 1) ∧ MkPost U w (.returned (ptrS g)) wr from ⟨U, u1, u2, g, rfl, u3, hinv.out.2.1⟩)
      have h1' : (0 : Int) < (ts.length : Int) := by omega
      clear hrow hf u1 u2 u3
      go_wp2_with fail
      go_ret
      exact hfin.out
theorem shOf_tree (b off cp : Nat) (ts : List Ty) (T : TT) (w : World) (h : Hid (TySl w b off ts)) (hbs : b < w.heap.size) (hv : tyV ts = true) (hT : T.ok = true) (hs : SubAt ts T (ts.length - 1)) :
    Calls Tryd.prog 28 #[.agg #[.slice (some ⟨b, off, none⟩) ts.length cp]] w (MkPost T w) :=
  (shOf_any b off cp ts w h hbs hv).mono fun e w' ⟨U, h1, h2, h3⟩ => by rw [SubAt.uniq hT h1 hs h2]; exact h3
end Go.Proofs.YtfkdcconmecaoaaDoor
