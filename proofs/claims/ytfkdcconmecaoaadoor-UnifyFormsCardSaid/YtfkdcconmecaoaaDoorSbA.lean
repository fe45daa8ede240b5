/- Binds in memory; subst.holds, may, firsts. -/
import Derived.Test.YtfkdcconmecaoaaDoorSbP
import Derived.Maps.OwnSet
import Derived.Maps.OwnOps
import Derived.Test.YtfkdcconmecaoaaDoorTyM
/- Binds in memory; subst.holds, may, firsts. -/
namespace Go.Proofs.YtfkdcconmecaoaaDoor
open Go.RowKit Go.Maps
set_option linter.unusedVariables false
set_option linter.unusedSimpArgs false

/-- a row of a type's nodes read as a tree. -/
def pz : List Ty → List TT → List TT
  | [], st => st
  | x :: xs, st => pz xs (if x.k = 3 then (match st with
      | b :: a :: r => .fn a ⟨x.c0, x.c1, x.c2, x.c3, x.t⟩ b :: r
      | _ => st) else if x.k = 2 then .var x.v :: st else .base x.k :: st)
theorem pz_fl : ∀ (T : TT) (o : Nat) (rest : List Ty) (st : List TT), T.ok = true → pz (fl o T ++ rest) st = pz rest (T :: st)
  | .base k, o, rest, st, h => by
    have hk : k = 0 ∨ k = 1 := by simpa [TT.ok] using h
    show pz rest (if k = 3 then _ else if k = 2 then _ else .base k :: st) = _
    rw [if_neg (by omega), if_neg (by omega)]
  | .var v, o, rest, st, h => rfl
  | .fn a r b, o, rest, st, h => by
    unfold TT.ok at h
    simp only [Bool.and_eq_true] at h
    rw [fl_fn, List.append_assoc, List.append_assoc, pz_fl a o _ _ h.1.1, pz_fl b _ _ _ h.2]
    rfl
def treeOf (ts : List Ty) : TT := (pz ts []).headD (.base 0)
theorem treeOf_fl {T : TT} (h : T.ok = true) : treeOf (fl 0 T) = T := by
  unfold treeOf
  have := pz_fl T 0 [] [] h
  rw [List.append_nil] at this
  rw [this]; rfl
theorem tyV_of {ts : List Ty} (h : tyV ts = true) : (treeOf ts).ok = true ∧ ts = fl 0 (treeOf ts) ∧ (treeOf ts).sz = ts.length ∧ (treeOf ts).sz ≤ 256 ∧ SubAt ts (treeOf ts) (ts.length - 1) := by
  obtain ⟨T, h1, h2, h3, h4, h5⟩ := tyV_tree h
  have e : treeOf ts = T := by rw [h2, treeOf_fl h1]
  rw [e]
  exact ⟨h1, h2, h3, h4, h5⟩

/-- a bind. -/
structure Bn where
  (v : Int) (ir : Bool) (ad : Option Addr) (n c : Nat) (ns : List Ty) (r : Rw)
def rw0 : Rw := ⟨0, 0, 0, 0, 0⟩
def bn0 : Bn := ⟨0, false, none, 0, 0, [], rw0⟩
/-- bind i of a row of binds, in memory. -/
def BnAt (w : World) (b off : Nat) (t : Bn) (i : Nat) : Prop :=
  w.cell? ⟨b, off + i * 8, none⟩ = some (.int .i64 t.v) ∧ w.cell? ⟨b, off + i * 8 + 1, none⟩ = some (.bool t.ir) ∧ w.cell? ⟨b, off + i * 8 + 2, none⟩ = some (.slice t.ad t.n t.c) ∧
  w.cell? ⟨b, off + i * 8 + 3, none⟩ = some (.int .i64 t.r.a) ∧ w.cell? ⟨b, off + i * 8 + 4, none⟩ = some (.int .i64 t.r.b) ∧ w.cell? ⟨b, off + i * 8 + 5, none⟩ = some (.int .i64 t.r.c) ∧
  w.cell? ⟨b, off + i * 8 + 6, none⟩ = some (.int .i64 t.r.d) ∧ w.cell? ⟨b, off + i * 8 + 7, none⟩ = some (.int .i64 t.r.t)
theorem BnAt.below {B : Nat} {w w' : World} {b off i : Nat} {t : Bn} (h : BnAt w b off t i) (hb : Below B w w') (hB : b < B) : BnAt w' b off t i := by
  unfold BnAt at *
  have e : ∀ o, w'.cell? ⟨b, o, none⟩ = w.cell? ⟨b, o, none⟩ := fun o => hb.cell (p := ⟨b, o, none⟩) hB
  simp only [e]; exact h
/-- a slice of binds that may be read. -/
def BnSl (w : World) (b off : Nat) (xs : List Bn) : Prop := ∀ i, i < xs.length → BnAt w b off (xs.getD i bn0) i ∧ TyArg w (xs.getD i bn0).ad (xs.getD i bn0).n (xs.getD i bn0).ns ∧ (xs.getD i bn0).n ≤ 140737488351232
def BnArg (w : World) (a : Option Addr) (n : Nat) (xs : List Bn) : Prop := n = xs.length ∧ (xs = [] ∨ ∃ b off, a = some ⟨b, off, none⟩ ∧ BnSl w b off xs ∧ b < w.heap.size)
theorem BnSl.below {w w' : World} {b off : Nat} {xs : List Bn} (h : BnSl w b off xs) (hb : Below w.heap.size w w') (hB : b < w.heap.size) : BnSl w' b off xs :=
  fun i hi => ⟨(h i hi).1.below hb hB, (h i hi).2.1.below hb, (h i hi).2.2⟩
theorem BnArg.below {w w' : World} {a : Option Addr} {n : Nat} {xs : List Bn} (h : BnArg w a n xs) (hb : Below w.heap.size w w') : BnArg w' a n xs := by
  obtain ⟨h1, h | ⟨b, off, h2, h3, h4⟩⟩ := h
  · exact ⟨h1, .inl h⟩
  · exact ⟨h1, .inr ⟨b, off, h2, h3.below hb h4, by have := hb.size; omega⟩⟩
def Bn.ok (x : Bn) : Bool := decide (0 ≤ x.v ∧ x.v < 4096) && (if x.ir then decide (x.n = 0) && x.r.may else rwQ x.r.a x.r.b x.r.c x.r.d x.r.t 0 0 0 0 0 && tyV x.ns)
def bsV (xs : List Bn) : Bool := decide (xs.length ≤ 4096) && xs.all Bn.ok
/-- where the first bind of a variable of one sort is. -/
def fst (xs : List Bn) (ir : Bool) (v : Int) : Option Nat := xs.findIdx? fun x => x.ir == ir && x.v == v
def sgB (xs : List Bn) (v : Int) : Option TT := (fst xs false v).map fun i => treeOf (xs.getD i bn0).ns
def rhB (xs : List Bn) (v : Int) : Option Rw := (fst xs true v).map fun i => (xs.getD i bn0).r
theorem getB_mem {xs : List Bn} {j : Nat} (hj : j < xs.length) : xs.getD j bn0 ∈ xs := by
  rw [List.getD_eq_getElem?_getD, List.getElem?_eq_getElem hj]; exact List.getElem_mem hj
theorem bsV_at {xs : List Bn} (h : bsV xs = true) {j : Nat} (hj : j < xs.length) : (xs.getD j bn0).ok = true := by
  unfold bsV at h
  simp only [Bool.and_eq_true, List.all_eq_true] at h
  exact h.2 _ (getB_mem hj)
theorem fst_some {xs : List Bn} {ir : Bool} {v : Int} {i : Nat} (h : fst xs ir v = some i) : i < xs.length ∧ (xs.getD i bn0).ir = ir ∧ (xs.getD i bn0).v = v := by
  unfold fst at h
  obtain ⟨hi, hp, _⟩ := List.findIdx?_eq_some_iff_getElem.1 h
  have e : xs.getD i bn0 = xs[i] := by rw [List.getD_eq_getElem?_getD, List.getElem?_eq_getElem hi]; rfl
  rw [e]
  simp only [Bool.and_eq_true, beq_iff_eq] at hp
  exact ⟨hi, hp.1, hp.2⟩
theorem sgB_ok {xs : List Bn} (h : bsV xs = true) : ∀ v U, sgB xs v = some U → U.ok = true ∧ U.sz ≤ 256 := by
  intro v U hU
  unfold sgB at hU
  cases hf : fst xs false v with
  | none => rw [hf] at hU; cases hU
  | some i =>
    rw [hf] at hU
    simp only [Option.map_some, Option.some.injEq] at hU
    subst hU
    obtain ⟨hi, hir, hv⟩ := fst_some hf
    have hok := bsV_at h hi
    unfold Bn.ok at hok
    rw [hir] at hok
    simp only [Bool.and_eq_true, Bool.false_eq_true, if_false] at hok
    have := tyV_of hok.2.2
    exact ⟨this.1, this.2.2.2.1⟩
theorem rhB_ok {xs : List Bn} (h : bsV xs = true) : ∀ v q, rhB xs v = some q → q.may = true := by
  intro v q hq
  unfold rhB at hq
  cases hf : fst xs true v with
  | none => rw [hf] at hq; cases hq
  | some i =>
    rw [hf] at hq
    simp only [Option.map_some, Option.some.injEq] at hq
    subst hq
    obtain ⟨hi, hir, hv⟩ := fst_some hf
    have hok := bsV_at h hi
    unfold Bn.ok at hok
    rw [hir] at hok
    simp only [Bool.and_eq_true, if_true] at hok
    exact hok.2.2
theorem bs_node (xs : List Bn) (j : Nat) (h : j < xs.length) (hn : (xs.getD j bn0).ok = false) : bsV xs = false := by
  cases hc : bsV xs
  · rfl
  · rw [bsV_at hc h] at hn; cases hn
theorem bs_len (xs : List Bn) (h : 4096 < xs.length) : bsV xs = false := by unfold bsV; rw [decide_eq_false (by omega)]; rfl
theorem bs_all (xs : List Bn) (h : xs.length ≤ 4096) (ha : xs.all Bn.ok = true) : bsV xs = true := by unfold bsV; rw [decide_eq_true h, ha]; rfl

/- A map of numbers: what it says. -/
def MapIs (D : DataW Unit) (f : Int → Option Nat) : Prop := IsMap D ∧ ∀ v : Int, Maps.has D (.int .i64 v) = (f v).isSome ∧ ∀ i, f v = some i → D.atKey (.int .i64 v) (.lit (.int .i64 0)) = .lit (.int .i64 i)
theorem mapIs_none : MapIs (.map []) (fun _ => none) := ⟨isMap_empty, fun v => ⟨rfl, fun i h => by cases h⟩⟩
theorem mapIs_put {D : DataW Unit} {f g : Int → Option Nat} {x : Int} {k : Nat} (h : MapIs D f) (hx : g x = some k) (ho : ∀ v, v ≠ x → g v = f v) : MapIs (D.put (.int .i64 x) (.lit (.int .i64 k))) g := by
  refine ⟨h.1.put _ _, fun v => ?_⟩
  by_cases hv : v = x
  · subst hv
    rw [hx]
    refine ⟨has_put_same h.1 (by trivial) _, fun i hi => ?_⟩
    cases hi
    exact atKey_put_same h.1 (by trivial) _ _
  · have hne : (Lit.int .i64 v) ≠ (Lit.int .i64 x) := fun e => hv (by injection e)
    rw [ho v hv]
    obtain ⟨h1, h2⟩ := h.2 v
    refine ⟨(has_put_other hne _).trans h1, fun i hi => ?_⟩
    rw [atKey_put_other hne]
    exact h2 i hi
theorem mapIs_congr {D : DataW Unit} {f g : Int → Option Nat} (h : MapIs D f) (e : ∀ v, g v = f v) : MapIs D g := ⟨h.1, fun v => by rw [e v]; exact h.2 v⟩
theorem ownsMap_below {P : Program} {k : TypeId} {R : Value → Option (DataW Unit × List MemPlace)} {w w' : World} {b n B : Nat} {D : DataW Unit} (h : w.ownsMap P k R b n D) (hb : Below B w w') (hB : b < B) : w'.ownsMap P k R b n D := by
  obtain ⟨es, clock, h1, h2⟩ := h
  exact ⟨es, clock, (hb.block b hB).trans h1, h2⟩
theorem fst_take {xs : List Bn} {ir : Bool} {k : Nat} (hk : k < xs.length) (v : Int) : fst (xs.take (k + 1)) ir v = (fst (xs.take k) ir v).or (if (xs.getD k bn0).ir = ir ∧ (xs.getD k bn0).v = v then some k else none) := by
  unfold fst
  rw [List.take_succ_eq_append_getElem hk, List.findIdx?_append]
  have e : xs.getD k bn0 = xs[k] := by rw [List.getD_eq_getElem?_getD, List.getElem?_eq_getElem hk]; rfl
  have hl : (xs.take k).length = k := by rw [List.length_take]; omega
  rw [e, hl]
  congr 1
  by_cases h : xs[k].ir = ir ∧ xs[k].v = v
  · rw [if_pos h]; simp [h.1, h.2]
  · rw [if_neg h]
    simp only [List.findIdx?_cons, List.findIdx?_nil]
    have : (xs[k].ir == ir && xs[k].v == v) = false := by
      cases hq : (xs[k].ir == ir && xs[k].v == v)
      · rfl
      · simp only [Bool.and_eq_true, beq_iff_eq] at hq; exact absurd hq h
    rw [this]; rfl
end Go.Proofs.YtfkdcconmecaoaaDoor

/- subst.holds, may. -/
namespace Go.Proofs.YtfkdcconmecaoaaDoor
open Go.RowKit Go.Maps
set_option linter.unusedVariables false
set_option linter.unusedSimpArgs false

abbrev bnV (x : Bn) : Value := .agg #[.int .i64 x.v, .bool x.ir, .slice x.ad x.n x.c, .int .i64 x.r.a, .int .i64 x.r.b, .int .i64 x.r.c, .int .i64 x.r.d, .int .i64 x.r.t]
def holdsB (x : Bn) : Bool := if x.ir then decide (x.n = 0) && x.r.may else rwQ x.r.a x.r.b x.r.c x.r.d x.r.t 0 0 0 0 0 && tyV x.ns
set_option maxHeartbeats 2000000 in
theorem holds_any (x : Bn) (w : World) (h : Hid (TyArg w x.ad x.n x.ns)) (hl : x.n ≤ 140737488351232) :
    Calls Tryd.prog 50 #[bnV x] w fun e w' => e = .returned (.bool (holdsB x)) ∧ Below w.heap.size w w' := by
  unfold bnV
  have hin := fun (x0 x1 x2 x3 x4 y0 y1 y2 y3 y4 : Int) (W : World) => row_in 9997 x0 x1 x2 x3 x4 y0 y1 y2 y3 y4 W
  simp only [Nat.reduceAdd] at hin
  have kM := Lib.hid fun (W : World) => rowsMay_any x.r.a x.r.b x.r.c x.r.d x.r.t W
  have kT := Lib.hid fun (W : World) (hb : Below w.heap.size w W) => tyMay_any x.ad x.n x.c x.ns W (Lib.hid (h.out.below hb)) hl
  obtain ⟨m, hm⟩ : ∃ m, mayR x.r.a x.r.b x.r.c x.r.d x.r.t = m := ⟨_, rfl⟩
  obtain ⟨q, hq⟩ : ∃ q, rwQ x.r.a x.r.b x.r.c x.r.d x.r.t 0 0 0 0 0 = q := ⟨_, rfl⟩
  obtain ⟨tv, htv⟩ : ∃ q, tyV x.ns = q := ⟨_, rfl⟩
  have hv : Hid (holdsB x = if x.ir then decide (x.n = 0) && m else q && tv) := Lib.hid (by unfold holdsB Rw.may; rw [hm, hq, htv])
  generalize holdsB x = H at hv
  rw [hm] at kM
  rw [htv] at kT
  clear hm htv h
  obtain ⟨v, ir, ad, n, c, ns, ⟨ra, rb, rc, rd, rt⟩⟩ := x
  simp only [] at *
  cases ir
  · cases q
    · have hf : Hid (H = false) := Lib.hid (by rw [hv.out]; rfl)
      go_enter Tryd.func50, Tryd.ntmps50
      go_wp2_with fail
      go_ret
      exact ⟨ret_bb hf.out.symm, by (repeat' (first | with_reducible exact Below.refl _ _ | with_reducible assumption | with_reducible apply Below.setCell | with_reducible apply Below.alloc | with_reducible apply Below.drew | with_reducible apply below_drewN | with_reducible exact Nat.le_refl _ | (simp; done) | (simp; omega) | omega | exact Nat.le_refl _))⟩
    · have hf : Hid (H = tv) := Lib.hid (by rw [hv.out]; rfl)
      go_enter Tryd.func50, Tryd.ntmps50
      go_wp2_with fail
      refine (kT.out _ (below_alc w _)).mono ?_
      rintro e w1 ⟨rfl, hb1⟩
      go_wp2_with fail
      go_ret
      exact ⟨ret_bb hf.out.symm, belT (below_alc w _) hb1⟩
  · by_cases hn : n = 0
    · subst hn
      have hf : Hid (H = m) := Lib.hid (by rw [hv.out]; rfl)
      go_enter Tryd.func50, Tryd.ntmps50
      go_wp2_with fail
      refine (kM.out _).mono ?_
      rintro e w1 ⟨rfl, hb1⟩
      go_wp2_with fail
      go_ret
      exact ⟨ret_bb hf.out.symm, belT (below_alc w _) hb1⟩
    · have hf : Hid (H = false) := Lib.hid (by rw [hv.out, decide_eq_false hn]; rfl)
      have hn2 : ((n : Int) == 0) = false := beq_eq_false_iff_ne.2 (by omega)
      have hn3 : (n == 0) = false := beq_eq_false_iff_ne.2 hn
      go_enter Tryd.func50, Tryd.ntmps50
      go_wp2_with fail
      go_ret
      exact ⟨ret_bb hf.out.symm, by (repeat' (first | with_reducible exact Below.refl _ _ | with_reducible assumption | with_reducible apply Below.setCell | with_reducible apply Below.alloc | with_reducible apply Below.drew | with_reducible apply below_drewN | with_reducible exact Nat.le_refl _ | (simp; done) | (simp; omega) | omega | exact Nat.le_refl _))⟩
end Go.Proofs.YtfkdcconmecaoaaDoor

/- subst.may, firsts. -/
namespace Go.Proofs.YtfkdcconmecaoaaDoor
open Go.RowKit Go.Maps
set_option linter.unusedVariables false
set_option linter.unusedSimpArgs false

theorem ok_holds (x : Bn) : x.ok = (decide (0 ≤ x.v ∧ x.v < 4096) && holdsB x) := rfl
theorem smay_nil (a : Option Addr) (c : Nat) (w : World) : Calls Tryd.prog 26 #[.slice a 0 c] w fun e w' => e = .returned (.bool true) ∧ Below w.heap.size w w' := by
  go_enter Tryd.func26, Tryd.ntmps26
  go_wp2_with fail
  go_loopw [10] (fun i wr => i = .int .i64 0 ∧ wr = w) (fun _ _ => 0)
  case atStart => exact ⟨rfl, rfl⟩
  case round =>
    obtain ⟨rfl, rfl⟩ := hrel
    go_wp2_with fail
    go_ret
    exact ⟨rfl, Below.refl _ _⟩
set_option maxRecDepth 100000 in
set_option maxHeartbeats 4000000 in
theorem smay_sl (b off cp : Nat) (xs : List Bn) (w : World) (h : Hid (BnSl w b off xs)) (hbs : b < w.heap.size) (hl : xs.length ≤ 140737488351232) :
    Calls Tryd.prog 26 #[.slice (some ⟨b, off, none⟩) xs.length cp] w fun e w' => e = .returned (.bool (bsV xs)) ∧ Below w.heap.size w w' := by
  by_cases h1 : 4096 < xs.length
  · have hv := Lib.hid (bs_len xs h1)
    go_enter Tryd.func26, Tryd.ntmps26
    go_wp2_with fail
    go_ret
    exact ⟨ret_b hv.out.symm, by (repeat' (first | with_reducible exact Below.refl _ _ | with_reducible assumption | with_reducible apply Below.setCell | with_reducible apply Below.alloc | with_reducible apply Below.drew | with_reducible apply below_drewN | with_reducible exact Nat.le_refl _ | (simp; done) | (simp; omega) | omega | exact Nat.le_refl _))⟩
  have hfin : Hid (∀ j, j < xs.length → (xs.getD j bn0).ok = false → bsV xs = false) := Lib.hid (bs_node xs)
  have hokv : Hid (xs.all Bn.ok = true → bsV xs = true) := Lib.hid (bs_all xs (by omega))
  go_enter Tryd.func26, Tryd.ntmps26
  go_wp2_with fail
  go_loopw [10] (fun i wr => ∃ j : Nat, j ≤ xs.length ∧ i = .int .i64 j ∧ Below w.heap.size w wr ∧ Hid ((xs.take j).all Bn.ok = true)) (fun i _ => xs.length - (intOf i).toNat)
  case atStart => exact ⟨0, by omega, rfl, by (repeat' (first | with_reducible exact Below.refl _ _ | with_reducible assumption | with_reducible apply Below.setCell | with_reducible apply Below.alloc | with_reducible apply Below.drew | with_reducible apply below_drewN | with_reducible exact Nat.le_refl _ | (simp; done) | (simp; omega) | omega | exact Nat.le_refl _)), Lib.hid rfl⟩
  case round =>
    obtain ⟨j, hj, rfl, hbw, hall⟩ := hrel
    by_cases hlt : j < xs.length
    · have hT := h.out.below hbw hbs j hlt
      have htk : Hid ((xs.take (j + 1)).all Bn.ok = ((xs.take j).all Bn.ok && (xs.getD j bn0).ok)) := Lib.hid (allT_take xs bn0 Bn.ok j hlt)
      have hfj : Hid ((xs.getD j bn0).ok = false → bsV xs = false) := Lib.hid (hfin.out j hlt)
      generalize xs.getD j bn0 = x at hT htk hfj
      rw [ok_holds] at htk hfj
      obtain ⟨⟨e0, e1, e2, e3, e4, e5, e6, e7⟩, hA, hn⟩ := hT
      have hbr : b < wr.heap.size := by have := hbw.size; omega
      have hlt' : (j : Int) < (xs.length : Int) := by omega
      have hj0 : (0 : Int) ≤ (j : Int) := by omega
      have kH := Lib.hid fun (W : World) (hb : Below wr.heap.size wr W) => holds_any x W (Lib.hid (hA.below hb)) hn
      obtain ⟨m, hm⟩ : ∃ m, holdsB x = m := ⟨_, rfl⟩
      rw [hm] at kH htk hfj
      unfold bnV at kH
      have hbw' := Lib.hid hbw
      clear hm hA hbw
      by_cases hv0 : x.v < 0
      · have hf := Lib.hid (hfj.out (by rw [decide_eq_false (by omega)]; rfl))
        go_wp2_with fail
        go_ret
        exact ⟨ret_b hf.out.symm, hbw'.out.alloc hbw'.out.size _⟩
      by_cases hv1 : 4096 ≤ x.v
      · have hf := Lib.hid (hfj.out (by rw [decide_eq_false (by omega)]; rfl))
        go_wp2_with fail
        go_ret
        exact ⟨ret_b hf.out.symm, hbw'.out.alloc hbw'.out.size _⟩
      have htk2 : Hid ((xs.take (j + 1)).all Bn.ok = ((xs.take j).all Bn.ok && m)) := Lib.hid (by rw [htk.out, decide_eq_true (by omega)]; rfl)
      have hfj2 : Hid (m = false → bsV xs = false) := Lib.hid fun h => hfj.out (by rw [h]; simp)
      go_wp2_with fail
      refine (kH.out _ (below_alc wr _)).mono ?_
      rintro e w1 ⟨rfl, hb1⟩
      have hbw1 := Lib.hid (belT (hbw'.out.alloc hbw'.out.size _) hb1)
      clear hb1 e0 e1 e2 e3 e4 e5 e6 e7
      cases m
      · have hf := Lib.hid (hfj2.out rfl)
        go_wp2_with fail
        go_ret
        exact ⟨ret_b hf.out.symm, hbw1.out⟩
      go_wp2_with fail
      go_roundw
      case rel => exact ⟨j + 1, by omega, by go_num, hbw1.out, Lib.hid (by rw [htk2.out, hall.out]; rfl)⟩
      case measure => simp [intOf]; omega
    · have hval : Hid (bsV xs = true) := Lib.hid (hokv.out (by have := hall.out; rwa [List.take_of_length_le (by omega)] at this))
      go_wp2_with fail
      go_ret
      exact ⟨ret_b hval.out.symm, hbw⟩
theorem smay_any (a : Option Addr) (n c : Nat) (xs : List Bn) (w : World) (h : Hid (BnArg w a n xs)) (hl : n ≤ 140737488351232) :
    Calls Tryd.prog 26 #[.slice a n c] w fun e w' => e = .returned (.bool (bsV xs)) ∧ Below w.heap.size w w' := by
  obtain ⟨rfl, rfl | ⟨b, off, rfl, h1, h2⟩⟩ := h.out
  · exact smay_nil _ _ _
  · exact smay_sl b off c xs w (Lib.hid h1) h2 hl

theorem lawI : Keyed Tryd.prog 3 := int_keyed Tryd.underlying3
theorem zeroI (w : World) : (zeroValue 3).run Tryd.prog w = .ok (.int .i64 0) w := by kernel_rfl
/-- a map of places. -/
def FsMap (w : World) (bm n : Nat) (f : Int → Option Nat) : Prop := ∃ D : DataW Unit, w.ownsMap Tryd.prog 3 (plainElem Tryd.prog 3) bm n D ∧ MapIs D f
theorem FsMap.below {w w' : World} {bm n B : Nat} {f : Int → Option Nat} (h : FsMap w bm n f) (hb : Below B w w') (hB : bm < B) : FsMap w' bm n f := by
  obtain ⟨D, h1, h2⟩ := h
  exact ⟨D, ownsMap_below h1 hb hB, h2⟩
def FsPost (w : World) (n : Nat) (f : Int → Option Nat) (e : Ending) (w' : World) : Prop := ∃ bm, e = .returned (.map (some bm)) ∧ w.heap.size ≤ bm ∧ bm < w'.heap.size ∧ FsMap w' bm n f ∧ Below w.heap.size w w'
theorem fst_nil (ir : Bool) (v : Int) : fst [] ir v = none := rfl
theorem firsts_nil (a : Option Addr) (c : Nat) (ir : Bool) (w : World) : Calls Tryd.prog 59 #[.slice a 0 c, .bool ir] w (FsPost w 0 (fst [] ir)) := by
  have hmm := @run_makeMap Tryd.prog
  go_enter Tryd.func59, Tryd.ntmps59
  go_wp2_with fail
  go_loopw [13] (fun i wr => i = .int .i64 0 ∧ wr = w.alloc (.map #[] 0)) (fun _ _ => 0)
  case atStart => exact ⟨rfl, rfl⟩
  case round =>
    obtain ⟨rfl, rfl⟩ := hrel
    go_wp2_with fail
    go_ret
    exact ⟨w.heap.size, rfl, Nat.le_refl _, by simp, ⟨_, World.ownsMap_made _ _ _ _, mapIs_none⟩, below_alc w _⟩
set_option maxRecDepth 100000 in
set_option maxHeartbeats 4000000 in
theorem firsts_sl (b off cp : Nat) (xs : List Bn) (ir : Bool) (w : World) (h : Hid (BnSl w b off xs)) (hbs : b < w.heap.size) (hl : xs.length ≤ 4096) (hv : Hid (∀ j, j < xs.length → 0 ≤ (xs.getD j bn0).v ∧ (xs.getD j bn0).v < 4096)) :
    Calls Tryd.prog 59 #[.slice (some ⟨b, off, none⟩) xs.length cp, .bool ir] w (FsPost w xs.length (fst xs ir)) := by
  have hmm := @run_makeMap Tryd.prog
  go_enter Tryd.func59, Tryd.ntmps59
  go_wp2_with fail
  go_loopw [13] (fun i wr => ∃ j : Nat, j ≤ xs.length ∧ i = .int .i64 j ∧ Below w.heap.size w wr ∧ w.heap.size < wr.heap.size ∧ Hid (FsMap wr w.heap.size j (fst (xs.take j) ir))) (fun i _ => xs.length - (intOf i).toNat)
  case atStart => exact ⟨0, by omega, rfl, by (repeat' (first | with_reducible exact Below.refl _ _ | with_reducible assumption | with_reducible apply Below.setCell | with_reducible apply Below.alloc | with_reducible apply Below.drew | with_reducible apply below_drewN | with_reducible exact Nat.le_refl _ | (simp; done) | (simp; omega) | omega | exact Nat.le_refl _)), by simp, Lib.hid ⟨_, World.ownsMap_made _ _ _ _, mapIs_none⟩⟩
  case round =>
    obtain ⟨j, hj, rfl, hbw, hws, hm⟩ := hrel
    by_cases hlt : j < xs.length
    · have hT := (h.out.below hbw hbs j hlt).1
      have htk := Lib.hid fun (v : Int) => fst_take (ir := ir) hlt v
      have hvj := hv.out j hlt
      generalize xs.getD j bn0 = x at hT htk hvj
      obtain ⟨D, hown, hmi⟩ := hm.out
      obtain ⟨e0, e1, e2, e3, e4, e5, e6, e7⟩ := hT
      have hbr : b < wr.heap.size := by have := hbw.size; omega
      have hlt' : (j : Int) < (xs.length : Int) := by omega
      have hj0 : (0 : Int) ≤ (j : Int) := by omega
      have hkey : keyOf Tryd.prog 3 (.int .i64 x.v) = some (.int .i64 x.v) := keyOf_int_mk Tryd.underlying3 (by simp [Lit.wf, IntKind.min, IntKind.max, IntKind.signed, IntKind.bits]; omega)
      obtain ⟨hh, hi⟩ := hmi.2 x.v
      have hmi' := Lib.hid hmi
      have hbw' := Lib.hid hbw
      have hd : (∃ f, fst (xs.take j) ir x.v = some f) ∨ fst (xs.take j) ir x.v = none := by
        cases fst (xs.take j) ir x.v with
        | none => exact .inr rfl
        | some f => exact .inl ⟨f, rfl⟩
      rcases hd with ⟨f, hf⟩ | hf
      · have hhas : Maps.has D (.int .i64 x.v) = true := by rw [hh, hf]; rfl
        have hsame : Hid (MapIs D (fst (xs.take (j + 1)) ir)) := Lib.hid (mapIs_congr hmi'.out fun v => by
          rw [htk.out v]
          cases hq : fst (xs.take j) ir v with
          | some y => rfl
          | none =>
            rw [if_neg]; · rfl
            rintro ⟨_, rfl⟩
            rw [hf] at hq; cases hq)
        clear hh hi hmi
        go_wp2_with (at_lookup; refine wpList_lookup_own_ok_int _ rfl _ _ 119 rfl 3 3 .i64 lawI Tryd.underlying119 Tryd.underlying3 (zeroI _) w.heap.size j D rfl (hown.alloc _) _ _ rfl hkey ?_; intro c hat hwc)
        go_roundw
        case rel => exact ⟨j + 1, by omega, by go_num, hbw'.out.alloc hbw'.out.size _, by simp; omega, Lib.hid ⟨D, (hown.alloc _).mono (Nat.le_succ _), hsame.out⟩⟩
        case measure => simp [intOf]; omega
      · have hhas : Maps.has D (.int .i64 x.v) = false := by rw [hh, hf]; rfl
        clear hh hi hmi
        by_cases hir : x.ir = ir
        · have hput : Hid (MapIs (D.put (.int .i64 x.v) (.lit (.int .i64 j))) (fst (xs.take (j + 1)) ir)) := Lib.hid (mapIs_put hmi'.out (by rw [htk.out x.v, hf, if_pos ⟨hir, rfl⟩]; rfl) fun v hne => by
            rw [htk.out v, if_neg (fun h => hne h.2.symm)]
            cases fst (xs.take j) ir v <;> rfl)
          have hir1 : (x.ir == ir) = true := by simpa using hir
          have hwj : (Lit.int .i64 (j : Int)).wf = true := by simp [Lit.wf, IntKind.min, IntKind.max, IntKind.signed, IntKind.bits]; omega
          subst hir
          go_wp2_with (first
            | (at_lookup; refine wpList_lookup_own_ok_int _ rfl _ _ 119 rfl 3 3 .i64 lawI Tryd.underlying119 Tryd.underlying3 (zeroI _) w.heap.size j D rfl (hown.alloc _) _ _ rfl hkey ?_; intro c hat hwc)
            | (at_mapUpdate; refine wpList_mapUpdate_own _ rfl _ _ _ 119 rfl 3 3 lawI Tryd.underlying119 _ w.heap.size j D rfl (hown.alloc _) (by unfold maxLen; omega) _ _ _ rfl rfl hkey _ [] (plainElem_int Tryd.underlying3 hwj) ?_; intro w1 hown1 hgrow1)
            | go_in)
          go_roundw
          case rel => exact ⟨j + 1, by omega, by go_num, (hbw'.out.alloc hbw'.out.size _).grown hgrow1 (by simp; omega) (fun k hk => by cases hk; exact Nat.le_refl _), by have := hgrow1.size; simp at this; omega, Lib.hid ⟨_, hown1, hput.out⟩⟩
          case measure => simp [intOf]; omega
        · have hsame : Hid (MapIs D (fst (xs.take (j + 1)) ir)) := Lib.hid (mapIs_congr hmi'.out fun v => by
            rw [htk.out v, if_neg (fun h => hir h.1)]
            cases fst (xs.take j) ir v <;> rfl)
          have hir1 : (x.ir == ir) = false := by simpa using hir
          clear hir
          go_wp2_with (at_lookup; refine wpList_lookup_own_ok_int _ rfl _ _ 119 rfl 3 3 .i64 lawI Tryd.underlying119 Tryd.underlying3 (zeroI _) w.heap.size j D rfl (hown.alloc _) _ _ rfl hkey ?_; intro c hat hwc)
          go_roundw
          case rel => exact ⟨j + 1, by omega, by go_num, hbw'.out.alloc hbw'.out.size _, by simp; omega, Lib.hid ⟨D, (hown.alloc _).mono (Nat.le_succ _), hsame.out⟩⟩
          case measure => simp [intOf]; omega
    · obtain rfl : j = xs.length := by omega
      have hm' := hm.out
      rw [List.take_length] at hm'
      have hfin := Lib.hid hm'
      clear hm hm'
      go_wp2_with fail
      go_ret
      exact ⟨w.heap.size, rfl, Nat.le_refl _, hws, hfin.out, hbw⟩
theorem firsts_any (a : Option Addr) (n c : Nat) (xs : List Bn) (ir : Bool) (w : World) (h : Hid (BnArg w a n xs)) (hv : bsV xs = true) :
    Calls Tryd.prog 59 #[.slice a n c, .bool ir] w (FsPost w xs.length (fst xs ir)) := by
  obtain ⟨rfl, rfl | ⟨b, off, rfl, h1, h2⟩⟩ := h.out
  · exact firsts_nil _ _ _ _
  · refine firsts_sl b off c xs ir w (Lib.hid h1) h2 ?_ (Lib.hid fun j hj => ?_)
    · unfold bsV at hv; simp only [Bool.and_eq_true, decide_eq_true_eq] at hv; exact hv.1
    · have := bsV_at hv hj
      rw [ok_holds, Bool.and_eq_true, decide_eq_true_eq] at this
      exact this.1
end Go.Proofs.YtfkdcconmecaoaaDoor
