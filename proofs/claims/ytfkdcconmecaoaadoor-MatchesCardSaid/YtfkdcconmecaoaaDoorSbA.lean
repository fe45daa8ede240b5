/- Binds in memory; subst.holds, may, firsts. -/
import Derived.Test.YtfkdcconmecaoaaDoorShA
import Derived.Maps.OwnSet
import Derived.Maps.OwnOps
namespace Go.Proofs.YtfkdcconmecaoaaDoor
open Go.RowKit Go.Maps
set_option linter.unusedVariables false
set_option linter.unusedSimpArgs false

/-- a row of a type's nodes read as a tree. -/
def pz : List Ty → List TT → List TT
  | [], st => st
  | x :: xs, st => pz xs (if x.k = 3 then (match st with
      | b :: a :: r => .fn a ⟨x.c0, x.c1, x.c2, x.c3, x.t⟩ b :: r
      | _ => st) else if x.k = 2 then .var x.v :: st else .base x.k :: st)
theorem pz_fl : ∀ (T : TT) (o : Nat) (rest : List Ty) (st : List TT), T.ok = true → pz (fl o T ++ rest) st = pz rest (T :: st)
  | .base k, o, rest, st, h => by
    have hk : k = 0 ∨ k = 1 := by simpa [TT.ok] using h
    show pz rest (if k = 3 then _ else if k = 2 then _ else .base k :: st) = _
    rw [if_neg (by omega), if_neg (by omega)]
  | .var v, o, rest, st, h => rfl
  | .fn a r b, o, rest, st, h => by
    unfold TT.ok at h
    simp only [Bool.and_eq_true] at h
    rw [fl_fn, List.append_assoc, List.append_assoc, pz_fl a o _ _ h.1.1, pz_fl b _ _ _ h.2]
    rfl
def treeOf (ts : List Ty) : TT := (pz ts []).headD (.base 0)
theorem treeOf_fl {T : TT} (h : T.ok = true) : treeOf (fl 0 T) = T := by
  unfold treeOf
  have := pz_fl T 0 [] [] h
  rw [List.append_nil] at this
  rw [this]; rfl
theorem tyV_of {ts : List Ty} (h : tyV ts = true) : (treeOf ts).ok = true ∧ ts = fl 0 (treeOf ts) ∧ (treeOf ts).sz = ts.length ∧ (treeOf ts).sz ≤ 256 ∧ SubAt ts (treeOf ts) (ts.length - 1) := by
  obtain ⟨T, h1, h2, h3, h4, h5⟩ := tyV_tree h
  have e : treeOf ts = T := by rw [h2, treeOf_fl h1]
  rw [e]
  exact ⟨h1, h2, h3, h4, h5⟩

/-- a bind. -/
structure Bn where
  (v : Int) (ir : Bool) (ad : Option Addr) (n c : Nat) (ns : List Ty) (r : Rw)
def rw0 : Rw := ⟨0, 0, 0, 0, 0⟩
def bn0 : Bn := ⟨0, false, none, 0, 0, [], rw0⟩
/-- bind i of a row of binds, in memory. -/
def BnAt (w : World) (b off : Nat) (t : Bn) (i : Nat) : Prop :=
  w.cell? ⟨b, off + i * 8, none⟩ = some (.int .i64 t.v) ∧ w.cell? ⟨b, off + i * 8 + 1, none⟩ = some (.bool t.ir) ∧ w.cell? ⟨b, off + i * 8 + 2, none⟩ = some (.slice t.ad t.n t.c) ∧
  w.cell? ⟨b, off + i * 8 + 3, none⟩ = some (.int .i64 t.r.a) ∧ w.cell? ⟨b, off + i * 8 + 4, none⟩ = some (.int .i64 t.r.b) ∧ w.cell? ⟨b, off + i * 8 + 5, none⟩ = some (.int .i64 t.r.c) ∧
  w.cell? ⟨b, off + i * 8 + 6, none⟩ = some (.int .i64 t.r.d) ∧ w.cell? ⟨b, off + i * 8 + 7, none⟩ = some (.int .i64 t.r.t)
theorem BnAt.below {B : Nat} {w w' : World} {b off i : Nat} {t : Bn} (h : BnAt w b off t i) (hb : Below B w w') (hB : b < B) : BnAt w' b off t i := by
  unfold BnAt at *
  have e : ∀ o, w'.cell? ⟨b, o, none⟩ = w.cell? ⟨b, o, none⟩ := fun o => hb.cell (p := ⟨b, o, none⟩) hB
  simp only [e]; exact h
/-- a slice of binds that may be read. -/
def BnSl (w : World) (b off : Nat) (xs : List Bn) : Prop := ∀ i, i < xs.length → BnAt w b off (xs.getD i bn0) i ∧ TyArg w (xs.getD i bn0).ad (xs.getD i bn0).n (xs.getD i bn0).ns ∧ (xs.getD i bn0).n ≤ 140737488351232
def BnArg (w : World) (a : Option Addr) (n : Nat) (xs : List Bn) : Prop := n = xs.length ∧ (xs = [] ∨ ∃ b off, a = some ⟨b, off, none⟩ ∧ BnSl w b off xs ∧ b < w.heap.size)
theorem BnSl.below {w w' : World} {b off : Nat} {xs : List Bn} (h : BnSl w b off xs) (hb : Below w.heap.size w w') (hB : b < w.heap.size) : BnSl w' b off xs :=
  fun i hi => ⟨(h i hi).1.below hb hB, (h i hi).2.1.below hb, (h i hi).2.2⟩
theorem BnArg.below {w w' : World} {a : Option Addr} {n : Nat} {xs : List Bn} (h : BnArg w a n xs) (hb : Below w.heap.size w w') : BnArg w' a n xs := by
  obtain ⟨h1, h | ⟨b, off, h2, h3, h4⟩⟩ := h
  · exact ⟨h1, .inl h⟩
  · exact ⟨h1, .inr ⟨b, off, h2, h3.below hb h4, by have := hb.size; omega⟩⟩
def Bn.ok (x : Bn) : Bool := decide (0 ≤ x.v ∧ x.v < 4096) && (if x.ir then decide (x.n = 0) && x.r.may else rwQ x.r.a x.r.b x.r.c x.r.d x.r.t 0 0 0 0 0 && tyV x.ns)
def bsV (xs : List Bn) : Bool := decide (xs.length ≤ 4096) && xs.all Bn.ok
/-- where the first bind of a variable of one sort is. -/
def fst (xs : List Bn) (ir : Bool) (v : Int) : Option Nat := xs.findIdx? fun x => x.ir == ir && x.v == v
def sgB (xs : List Bn) (v : Int) : Option TT := (fst xs false v).map fun i => treeOf (xs.getD i bn0).ns
def rhB (xs : List Bn) (v : Int) : Option Rw := (fst xs true v).map fun i => (xs.getD i bn0).r
theorem getB_mem {xs : List Bn} {j : Nat} (hj : j < xs.length) : xs.getD j bn0 ∈ xs := by
  rw [List.getD_eq_getElem?_getD, List.getElem?_eq_getElem hj]; exact List.getElem_mem hj
theorem bsV_at {xs : List Bn} (h : bsV xs = true) {j : Nat} (hj : j < xs.length) : (xs.getD j bn0).ok = true := by
  unfold bsV at h
  simp only [Bool.and_eq_true, List.all_eq_true] at h
  exact h.2 _ (getB_mem hj)
theorem fst_some {xs : List Bn} {ir : Bool} {v : Int} {i : Nat} (h : fst xs ir v = some i) : i < xs.length ∧ (xs.getD i bn0).ir = ir ∧ (xs.getD i bn0).v = v := by
  unfold fst at h
  obtain ⟨hi, hp, _⟩ := List.findIdx?_eq_some_iff_getElem.1 h
  have e : xs.getD i bn0 = xs[i] := by rw [List.getD_eq_getElem?_getD, List.getElem?_eq_getElem hi]; rfl
  rw [e]
  simp only [Bool.and_eq_true, beq_iff_eq] at hp
  exact ⟨hi, hp.1, hp.2⟩
theorem sgB_ok {xs : List Bn} (h : bsV xs = true) : ∀ v U, sgB xs v = some U → U.ok = true ∧ U.sz ≤ 256 := by
  intro v U hU
  unfold sgB at hU
  cases hf : fst xs false v with
  | none => rw [hf] at hU; cases hU
  | some i =>
    rw [hf] at hU
    simp only [Option.map_some, Option.some.injEq] at hU
    subst hU
    obtain ⟨hi, hir, hv⟩ := fst_some hf
    have hok := bsV_at h hi
    unfold Bn.ok at hok
    rw [hir] at hok
    simp only [Bool.and_eq_true, Bool.false_eq_true, if_false] at hok
    have := tyV_of hok.2.2
    exact ⟨this.1, this.2.2.2.1⟩
theorem rhB_ok {xs : List Bn} (h : bsV xs = true) : ∀ v q, rhB xs v = some q → q.may = true := by
  intro v q hq
  unfold rhB at hq
  cases hf : fst xs true v with
  | none => rw [hf] at hq; cases hq
  | some i =>
    rw [hf] at hq
    simp only [Option.map_some, Option.some.injEq] at hq
    subst hq
    obtain ⟨hi, hir, hv⟩ := fst_some hf
    have hok := bsV_at h hi
    unfold Bn.ok at hok
    rw [hir] at hok
    simp only [Bool.and_eq_true, if_true] at hok
    exact hok.2.2
theorem bs_node (xs : List Bn) (j : Nat) (h : j < xs.length) (hn : (xs.getD j bn0).ok = false) : bsV xs = false := by
  cases hc : bsV xs
  · rfl
  · rw [bsV_at hc h] at hn; cases hn
theorem bs_len (xs : List Bn) (h : 4096 < xs.length) : bsV xs = false := by unfold bsV; rw [decide_eq_false (by omega)]; rfl
theorem bs_all (xs : List Bn) (h : xs.length ≤ 4096) (ha : xs.all Bn.ok = true) : bsV xs = true := by unfold bsV; rw [decide_eq_true h, ha]; rfl

/- A map of numbers: what it says. -/
def MapIs (D : DataW Unit) (f : Int → Option Nat) : Prop := IsMap D ∧ ∀ v : Int, Maps.has D (.int .i64 v) = (f v).isSome ∧ ∀ i, f v = some i → D.atKey (.int .i64 v) (.lit (.int .i64 0)) = .lit (.int .i64 i)
theorem mapIs_none : MapIs (.map []) (fun _ => none) := ⟨isMap_empty, fun v => ⟨rfl, fun i h => by cases h⟩⟩
theorem mapIs_put {D : DataW Unit} {f g : Int → Option Nat} {x : Int} {k : Nat} (h : MapIs D f) (hx : g x = some k) (ho : ∀ v, v ≠ x → g v = f v) : MapIs (D.put (.int .i64 x) (.lit (.int .i64 k))) g := by
  refine ⟨h.1.put _ _, fun v => ?_⟩
  by_cases hv : v = x
  · subst hv
    rw [hx]
    refine ⟨has_put_same h.1 (by trivial) _, fun i hi => ?_⟩
    cases hi
    exact atKey_put_same h.1 (by trivial) _ _
  · have hne : (Lit.int .i64 v) ≠ (Lit.int .i64 x) := fun e => hv (by injection e)
    rw [ho v hv]
    obtain ⟨h1, h2⟩ := h.2 v
    refine ⟨(has_put_other hne _).trans h1, fun i hi => ?_⟩
    rw [atKey_put_other hne]
    exact h2 i hi
theorem mapIs_congr {D : DataW Unit} {f g : Int → Option Nat} (h : MapIs D f) (e : ∀ v, g v = f v) : MapIs D g := ⟨h.1, fun v => by rw [e v]; exact h.2 v⟩
theorem ownsMap_below {P : Program} {k : TypeId} {R : Value → Option (DataW Unit × List MemPlace)} {w w' : World} {b n B : Nat} {D : DataW Unit} (h : w.ownsMap P k R b n D) (hb : Below B w w') (hB : b < B) : w'.ownsMap P k R b n D := by
  obtain ⟨es, clock, h1, h2⟩ := h
  exact ⟨es, clock, (hb.block b hB).trans h1, h2⟩
theorem fst_take {xs : List Bn} {ir : Bool} {k : Nat} (hk : k < xs.length) (v : Int) : fst (xs.take (k + 1)) ir v = (fst (xs.take k) ir v).or (if (xs.getD k bn0).ir = ir ∧ (xs.getD k bn0).v = v then some k else none) := by
  unfold fst
  rw [List.take_succ_eq_append_getElem hk, List.findIdx?_append]
  have e : xs.getD k bn0 = xs[k] := by rw [List.getD_eq_getElem?_getD, List.getElem?_eq_getElem hk]; rfl
  have hl : (xs.take k).length = k := by rw [List.length_take]; omega
  rw [e, hl]
  congr 1
  by_cases h : xs[k].ir = ir ∧ xs[k].v = v
  · rw [if_pos h]; simp [h.1, h.2]
  · rw [if_neg h]
    simp only [List.findIdx?_cons, List.findIdx?_nil]
    have : (xs[k].ir == ir && xs[k].v == v) = false := by
      cases hq : (xs[k].ir == ir && xs[k].v == v)
      · rfl
      · simp only [Bool.and_eq_true, beq_iff_eq] at hq; exact absurd hq h
    rw [this]; rfl
end Go.Proofs.YtfkdcconmecaoaaDoor
