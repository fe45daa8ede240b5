/- Binds copied, side by side; a type written over. -/
import Derived.Test.YtfkdcconmecaoaaDoorSbO
import Derived.Test.YtfkdcconmecaoaaDoorSbH
import Derived.Test.YtfkdcconmecaoaaDoorInO
/- Binds copied, side by side; a type written over. -/
namespace Go.Proofs.YtfkdcconmecaoaaDoor
open Go.RowKit Go.Maps
set_option linter.unusedVariables false
set_option linter.unusedSimpArgs false

/-- a bind but for where its type lies. -/
def Bn.core (x : Bn) : Bn := { x with ad := none, c := 0 }
def coreL (xs : List Bn) : List Bn := xs.map Bn.core
theorem core_ok (x : Bn) : x.core.ok = x.ok := rfl
theorem bsV_core (xs : List Bn) : bsV (coreL xs) = bsV xs := by
  unfold bsV coreL
  rw [List.length_map, List.all_map]
  rfl
theorem fst_core (xs : List Bn) (ir : Bool) (v : Int) : fst (coreL xs) ir v = fst xs ir v := by
  unfold fst coreL
  rw [List.findIdx?_map]
  rfl
theorem getD_core (xs : List Bn) (i : Nat) : ((coreL xs).getD i bn0).ns = (xs.getD i bn0).ns ∧ ((coreL xs).getD i bn0).r = (xs.getD i bn0).r := by
  unfold coreL
  rw [List.getD_eq_getElem?_getD, List.getD_eq_getElem?_getD, List.getElem?_map]
  cases xs[i]? <;> exact ⟨rfl, rfl⟩
theorem sgB_core (xs : List Bn) : sgB (coreL xs) = sgB xs := by
  funext v
  unfold sgB
  rw [fst_core]
  cases fst xs false v with
  | none => rfl
  | some i => simp only [Option.map_some, (getD_core xs i).1]
theorem rhB_core (xs : List Bn) : rhB (coreL xs) = rhB xs := by
  funext v
  unfold rhB
  rw [fst_core]
  cases fst xs true v with
  | none => rfl
  | some i => simp only [Option.map_some, (getD_core xs i).2]
theorem subT_core {xs ys : List Bn} (h : coreL xs = coreL ys) (ts : List Ty) : subT xs ts = subT ys ts ∧ subE xs ts = subE ys ts := by
  have e1 : bsV xs = bsV ys := by rw [← bsV_core xs, h, bsV_core]
  have e2 : sgB xs = sgB ys := by rw [← sgB_core xs, h, sgB_core]
  have e3 : rhB xs = rhB ys := by rw [← rhB_core xs, h, rhB_core]
  unfold subT subE
  rw [e1, e2, e3]
  exact ⟨rfl, rfl⟩
theorem subR_core {xs ys : List Bn} (h : coreL xs = coreL ys) (r : Rw) : subR xs r = subR ys r ∧ subRE xs r = subRE ys r := by
  have e1 : bsV xs = bsV ys := by rw [← bsV_core xs, h, bsV_core]
  have e3 : rhB xs = rhB ys := by rw [← rhB_core xs, h, rhB_core]
  unfold subR subRE
  rw [e1, e3]
  exact ⟨rfl, rfl⟩
theorem own_bt : (40 : TypeId) ≠ 38 := by decide
/-- a bind more, behind those that there are: it lies in the block that was made last. -/
theorem op_bnh {ops : Array Oper} {rest : List Oper} {o : Oper} {a : Act} {Q : Exit → Act → World → Prop} (hgd : o.guard = none) (s x : Operand) (W Z : World) (B : Nat) (hB : B ≤ Z.heap.size) (hZ : Below Z.heap.size Z W) (ov : Value) (l : List Bn) (y : Bn) (arr : Array Value)
    (ho : o.op = .call { callee := .builtin .append, args := #[s, x], argTypes := #[26, 26] })
    (hs : a.eval s = ov) (g0 : Nat) (hg0 : g0 = W.heap.size) (hx : a.eval x = .slice (some ⟨g0, 0, none⟩) 1 1) (harr : arr.toList = bnL1 y) (hown : OwnB B Z ov l) (hlen : l.length ≤ 1759218604400)
    (h : ∀ g c w', OwnB B w' (.slice (some ⟨g, 0, none⟩) (l.length + 1) c) (l ++ [y]) → Bar (fun k => ov.ownBlock = some k) Z w' → wpList Tryd.prog ops Q rest (a.put o.dst (.slice (some ⟨g, 0, none⟩) (l.length + 1) c)) w') :
    wpList Tryd.prog ops Q (o :: rest) a (W.alloc (.cells arr 40)) := by
  obtain ⟨i0, hi, hz0, hz1, hz2⟩ := info_parts infoB
  have hy : bnL [y] = bnL1 y := by simp [bnL]
  have hsz := hZ.size
  refine wpList_append_own _ hgd s x 26 ho B 40 i0 (.agg #[.int .i64 0, .bool false, .slice none 0 0, .int .i64 0, .int .i64 0, .int .i64 0, .int .i64 0, .int .i64 0]) 8 80 Tryd.underlying26 hi hz0 hz1 hz2 rfl (by decide) ov l.length (bnL l) hs (World.ownsRow.alloc (hown.below hZ) _) ⟨W.heap.size, 0, none⟩ 1 1 (bnL [y]) (by rw [hx, hg0]) (bnL_len [y]) ?_ (bnL_one [y]) (by unfold maxLen; omega) (by omega) (by simp; omega) ?_
  · intro j u hj
    have e : (⟨W.heap.size, 0, none⟩ : Addr).add j = ⟨W.heap.size, j, none⟩ := by simp [Addr.add]; try omega
    rw [e, World.cell?_alloc_at _ _ _ _ rfl, ← hj, hy, ← harr, Array.getElem?_toList]
  · intro v' w' hown' hgr hnil
    have hown2 : OwnB B w' v' (l ++ [y]) := by unfold OwnB; rw [bnL_app, List.length_append]; exact hown'
    rcases hown2.cases with ⟨_, h0⟩ | ⟨g, c, rfl, _⟩
    · simp at h0
    · rw [List.length_append, List.length_singleton] at hown2 ⊢
      exact h g c w' hown2 (((Bar.of_below (S := fun k => ov.ownBlock = some k) hZ).trans (Bar.of_below (S := fun k => ov.ownBlock = some k) (below_alc W _)) fun _ _ hs => hs).trans (Bar.of_grown hgr) fun _ _ hs => hs)
end Go.Proofs.YtfkdcconmecaoaaDoor

/- Memory aids: a cell that may be written, over a drawn region; numbers of errors. -/
namespace Go.Proofs.YtfkdcconmecaoaaDoor
open Go.RowKit
set_option linter.unusedVariables false
set_option linter.unusedSimpArgs false

def BoxFr (w : World) (g : Nat) (v : Value) : Prop := BoxAt w g v ∧ w.frozen? ⟨g, 0, none⟩ = false
theorem BoxFr.below {w w' : World} {g : Nat} {v : Value} (h : BoxFr w g v) (hb : Below w.heap.size w w') : BoxFr w' g v := ⟨h.1.below hb, (hb.frozen (p := ⟨g, 0, none⟩) h.1.1).trans h.2⟩
theorem BoxFr.alloc {w : World} {g : Nat} {v : Value} (o : Obj) (h : BoxFr w g v) : BoxFr (w.alloc o) g v := h.below (below_alc w o)
theorem BoxFr.drew {w : World} {g : Nat} {v : Value} (h : BoxFr w g v) : BoxFr w.drew g v := h.below ((Below.refl _ _).drew)
theorem boxfr_lit (w : World) (T : TypeId) (g : Nat) (v : Value) (hg : g = w.heap.size) : BoxFr (w.alloc (.cells #[v] T)) g v := by
  subst hg
  exact ⟨⟨by simp, by simp⟩, by simp [go_sem]⟩
theorem st_go {w4 W W' : World} {B1 : Nat} {v : Value} (h1 : B1 < w4.heap.size) (h : W.cell? ⟨B1, 0, none⟩ = some v ∧ Below w4.heap.size w4 W) (hb : Below W.heap.size W W') : W'.cell? ⟨B1, 0, none⟩ = some v ∧ Below w4.heap.size w4 W' :=
  ⟨carry hb (by have := h.2.size; omega) h.1, belT h.2 hb⟩
theorem st_alloc {w4 W : World} {B1 : Nat} {v : Value} (h1 : B1 < w4.heap.size) (o : Obj) (h : W.cell? ⟨B1, 0, none⟩ = some v ∧ Below w4.heap.size w4 W) : (W.alloc o).cell? ⟨B1, 0, none⟩ = some v ∧ Below w4.heap.size w4 (W.alloc o) := st_go h1 h (below_alc W o)
theorem st_drew {w4 W : World} {B1 : Nat} {v : Value} (h1 : B1 < w4.heap.size) (h : W.cell? ⟨B1, 0, none⟩ = some v ∧ Below w4.heap.size w4 W) : W.drew.cell? ⟨B1, 0, none⟩ = some v ∧ Below w4.heap.size w4 W.drew := st_go h1 h ((Below.refl _ _).drew)
theorem st_set {w4 W : World} {B1 k : Nat} {v x : Value} (h1 : B1 < w4.heap.size) (hk : w4.heap.size ≤ k) (h : W.cell? ⟨B1, 0, none⟩ = some v ∧ Below w4.heap.size w4 W) : (W.setCell ⟨k, 0, none⟩ x).cell? ⟨B1, 0, none⟩ = some v ∧ Below w4.heap.size w4 (W.setCell ⟨k, 0, none⟩ x) :=
  ⟨(World.cell?_setCell_other _ _ _ _ (by intro e; injection e; omega)).trans h.1, h.2.setCell hk _⟩
theorem sz1 (w : World) (o : Obj) : w.heap.size + 1 = (w.alloc o).heap.size := by simp
theorem sz2 (w : World) (o o' : Obj) : w.heap.size + 1 + 1 = ((w.alloc o).alloc o').heap.size := by simp
theorem subRE_bd (xs : List Bn) (r : Rw) : 0 ≤ subRE xs r ∧ subRE xs r ≤ 900 := by unfold subRE; split <;> omega
end Go.Proofs.YtfkdcconmecaoaaDoor
