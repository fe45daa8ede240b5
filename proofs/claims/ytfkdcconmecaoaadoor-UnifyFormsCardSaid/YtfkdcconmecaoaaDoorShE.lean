/- Shapes: Put. -/
import Derived.Test.YtfkdcconmecaoaaDoorShC
import Derived.Deep.RegionHeld3
import Derived.Deep.DeepCutAuto
namespace Go.Proofs.YtfkdcconmecaoaaDoor
open Go.RowKit
set_option linter.unusedVariables false
set_option linter.unusedSimpArgs false

theorem neq_same (a : Addr) (w : World) : (binOp .neq 65 (.pointer (some a)) (.pointer (some a))).run Tryd.prog w = .ok (.bool false) w := by
  obtain ⟨i0, hi, _⟩ := info_parts (show (Tryd.prog.info? 116).map (fun i => (i.zero, i.size, i.bytes)) = some (some (.agg #[.int .i64 0, .int .i64 0, .pointer none, .pointer none, .int .i64 0, .int .i64 0, .int .i64 0, .int .i64 0, .int .i64 0, .int .i64 0, .bool false]), 11, 88) by kernel_rfl)
  exact Lib.run_neq_ptr_same w a Tryd.underlying65 hi
theorem neq_other {a b : Nat} {w : World} {ca cb : Array Value} {ta tb : TypeId} (hne : a ≠ b) (ha : w.heap[a]? = some (.cells ca ta (0, 0))) (hb : w.heap[b]? = some (.cells cb tb (0, 0))) :
    (binOp .neq 65 (.pointer (some ⟨a, 0, none⟩)) (.pointer (some ⟨b, 0, none⟩))).run Tryd.prog w = .ok (.bool true) w := by
  obtain ⟨i0, hi, _, hz, _⟩ := info_parts (show (Tryd.prog.info? 116).map (fun i => (i.zero, i.size, i.bytes)) = some (some (.agg #[.int .i64 0, .int .i64 0, .pointer none, .pointer none, .int .i64 0, .int .i64 0, .int .i64 0, .int .i64 0, .int .i64 0, .int .i64 0, .bool false]), 11, 88) by kernel_rfl)
  have hne' : (⟨a, 0, none⟩ : Addr) ≠ ⟨b, 0, none⟩ := by intro e; injection e; contradiction
  have h : ∀ d : Nat, (Op.equalIn (d + 1) 65 (.pointer (some ⟨a, 0, none⟩)) (.pointer (some ⟨b, 0, none⟩))).run Tryd.prog w = .ok false w := fun d => by
    simp [Op.equalIn, run_underlying Tryd.underlying65, sizeOf, typeInfo, hi, hz, run_sameAddr_other w hne' ha hb]
  simp only [binOp]
  simp [Op.equal, Op.maxDepth, h 9999]
theorem neq_shp {w : World} {T U : TT} {a b : Nat} (ha : Shp w T a) (hb : Shp w U b) :
    (binOp .neq 65 (.pointer (some ⟨a, 0, none⟩)) (.pointer (some ⟨b, 0, none⟩))).run Tryd.prog w = .ok (.bool (decide (a ≠ b))) w := by
  by_cases h : a = b
  · subst h
    rw [neq_same]; simp
  · obtain ⟨_, _, h1⟩ := ha.blk
    obtain ⟨_, _, h2⟩ := hb.blk
    unfold shB at h1 h2
    rw [neq_other h h1 h2]; simp [h]
def KeepP (w : World) (g : Nat) (W : World) : Prop := Below w.heap.size w W ∧ g < w.heap.size
theorem putS_go {w W W' : World} {g : Nat} {x2 x3 x4 x5 x6 x7 x8 : Value}
    (h : W.cell? ⟨g, 2, none⟩ = some x2 ∧ W.cell? ⟨g, 3, none⟩ = some x3 ∧ W.cell? ⟨g, 4, none⟩ = some x4 ∧ W.cell? ⟨g, 5, none⟩ = some x5 ∧ W.cell? ⟨g, 6, none⟩ = some x6 ∧ W.cell? ⟨g, 7, none⟩ = some x7 ∧ W.cell? ⟨g, 8, none⟩ = some x8 ∧ KeepP w g W) (hb : Below W.heap.size W W') :
    W'.cell? ⟨g, 2, none⟩ = some x2 ∧ W'.cell? ⟨g, 3, none⟩ = some x3 ∧ W'.cell? ⟨g, 4, none⟩ = some x4 ∧ W'.cell? ⟨g, 5, none⟩ = some x5 ∧ W'.cell? ⟨g, 6, none⟩ = some x6 ∧ W'.cell? ⟨g, 7, none⟩ = some x7 ∧ W'.cell? ⟨g, 8, none⟩ = some x8 ∧ KeepP w g W' := by
  obtain ⟨h2, h3, h4, h5, h6, h7, h8, k1, k2⟩ := h
  have := k1.size
  exact ⟨carry hb (by omega) h2, carry hb (by omega) h3, carry hb (by omega) h4, carry hb (by omega) h5, carry hb (by omega) h6, carry hb (by omega) h7, carry hb (by omega) h8, belT k1 hb, k2⟩
theorem putS_bel {w W : World} {g : Nat} {x2 x3 x4 x5 x6 x7 x8 : Value}
    (h : W.cell? ⟨g, 2, none⟩ = some x2 ∧ W.cell? ⟨g, 3, none⟩ = some x3 ∧ W.cell? ⟨g, 4, none⟩ = some x4 ∧ W.cell? ⟨g, 5, none⟩ = some x5 ∧ W.cell? ⟨g, 6, none⟩ = some x6 ∧ W.cell? ⟨g, 7, none⟩ = some x7 ∧ W.cell? ⟨g, 8, none⟩ = some x8 ∧ KeepP w g W) : Below w.heap.size w W := h.2.2.2.2.2.2.2.1
def rowO (x0 x1 x2 x3 x4 : Int) : Obj := .cells #[.int .i64 x0, .int .i64 x1, .int .i64 x2, .int .i64 x3, .int .i64 x4] 36
/-- a shape stays while a row's cell is written. -/
theorem Shp.setRow {w : World} {k o : Nat} {v : Value} {cs : Array Value} {fr : Nat × Nat} (hk : w.heap[k]? = some (.cells cs 36 fr)) : ∀ {T : TT} {g : Nat}, Shp w T g → Shp (w.setCell ⟨k, o, none⟩ v) T g := by
  have ne : ∀ {T : TT} {g : Nat}, Shp w T g → g ≠ k := by
    intro T g h e
    subst e
    obtain ⟨pa, pb, hb⟩ := h.blk
    rw [hk] at hb
    unfold shB at hb
    simp only [Option.some.injEq, Obj.cells.injEq] at hb
    exact absurd hb.2.1 (by decide)
  intro T
  induction T with
  | base k' => intro g h; exact ⟨h.1, by rw [Deep.blk_setCell_other _ _ _ _ (ne h)]; exact h.2⟩
  | var v' =>
    intro g h
    have hn := ne h
    show (w.setCell _ _).heap[g]? = _
    rw [Deep.blk_setCell_other _ _ _ _ hn]; exact h
  | fn a r b iha ihb =>
    intro g h
    have hn := ne h
    obtain ⟨ga, gb, h1, h2, h3⟩ := h
    exact ⟨ga, gb, by rw [Deep.blk_setCell_other _ _ _ _ hn]; exact h1, iha h2, ihb h3⟩
theorem row_set {w : World} {k o : Nat} {v : Value} {cs : Array Value} {fr : Nat × Nat} (hk : w.heap[k]? = some (.cells cs 36 fr)) : ∃ cs' fr', (w.setCell ⟨k, o, none⟩ v).heap[k]? = some (.cells cs' 36 fr') := by
  refine ⟨cs.setIfInBounds o v, fr, ?_⟩
  simp [World.setCell, Array.getElem?_modify, hk]
theorem row_cells {w : World} {k : Nat} (hk : w.heap[k]? = some (rowO 0 0 0 0 0)) : w.cell? ⟨k, 0, none⟩ = some (.int .i64 0) ∧ w.cell? ⟨k, 1, none⟩ = some (.int .i64 0) ∧ w.cell? ⟨k, 2, none⟩ = some (.int .i64 0) ∧ w.cell? ⟨k, 3, none⟩ = some (.int .i64 0) ∧ w.cell? ⟨k, 4, none⟩ = some (.int .i64 0) ∧ w.frozen? ⟨k, 0, none⟩ = false ∧ w.frozen? ⟨k, 1, none⟩ = false ∧ w.frozen? ⟨k, 2, none⟩ = false ∧ w.frozen? ⟨k, 3, none⟩ = false ∧ w.frozen? ⟨k, 4, none⟩ = false := by
  have hk' := (show w.heap[k]? = some (.cells #[.int .i64 0, .int .i64 0, .int .i64 0, .int .i64 0, .int .i64 0] 36 (0, 0)) from hk)
  have e := fun j => Lib.cell_of_heap hk' j
  have f := fun j => Lib.frozen_of_heap hk' j
  exact ⟨(e 0).trans rfl, (e 1).trans rfl, (e 2).trans rfl, (e 3).trans rfl, (e 4).trans rfl, f 0, f 1, f 2, f 3, f 4⟩
theorem row_on {W W' : World} {k : Nat} {o : Obj} (hb : Below W.heap.size W W') (hk : W.heap[k]? = some o) : W'.heap[k]? = some o := (hb.block k (Array.getElem?_eq_some_iff.1 hk).1).trans hk
theorem alc_d (w : World) (o : Obj) : (w.alloc o).drew.heap[w.heap.size]? = some o := alloc_last w o
theorem putS_set {w W : World} {g k o : Nat} {v : Value} {x2 x3 x4 x5 x6 x7 x8 : Value} (hk : w.heap.size ≤ k)
    (h : W.cell? ⟨g, 2, none⟩ = some x2 ∧ W.cell? ⟨g, 3, none⟩ = some x3 ∧ W.cell? ⟨g, 4, none⟩ = some x4 ∧ W.cell? ⟨g, 5, none⟩ = some x5 ∧ W.cell? ⟨g, 6, none⟩ = some x6 ∧ W.cell? ⟨g, 7, none⟩ = some x7 ∧ W.cell? ⟨g, 8, none⟩ = some x8 ∧ KeepP w g W) :
    (W.setCell ⟨k, o, none⟩ v).cell? ⟨g, 2, none⟩ = some x2 ∧ (W.setCell ⟨k, o, none⟩ v).cell? ⟨g, 3, none⟩ = some x3 ∧ (W.setCell ⟨k, o, none⟩ v).cell? ⟨g, 4, none⟩ = some x4 ∧ (W.setCell ⟨k, o, none⟩ v).cell? ⟨g, 5, none⟩ = some x5 ∧ (W.setCell ⟨k, o, none⟩ v).cell? ⟨g, 6, none⟩ = some x6 ∧ (W.setCell ⟨k, o, none⟩ v).cell? ⟨g, 7, none⟩ = some x7 ∧ (W.setCell ⟨k, o, none⟩ v).cell? ⟨g, 8, none⟩ = some x8 ∧ KeepP w g (W.setCell ⟨k, o, none⟩ v) := by
  obtain ⟨h2, h3, h4, h5, h6, h7, h8, k1, k2⟩ := h
  have e : ∀ q, (W.setCell ⟨k, o, none⟩ v).cell? ⟨g, q, none⟩ = W.cell? ⟨g, q, none⟩ := fun q => World.cell?_setCell_other _ _ _ _ (by intro e; injection e; omega)
  simp only [e]
  exact ⟨h2, h3, h4, h5, h6, h7, h8, k1.setCell hk _, k2⟩
def PutMid (w : World) (A' : TT) (r' : Rw) (B' : TT) (s9 s10 s11 : Value) (W : World) : Prop :=
  ∃ g1 k g3, s9 = .pointer (some ⟨g1, 0, none⟩) ∧ s10 = .pointer (some ⟨k, 0, none⟩) ∧ s11 = .pointer (some ⟨g3, 0, none⟩) ∧ Shp W A' g1 ∧ Shp W B' g3 ∧ Below w.heap.size w W ∧ k < W.heap.size ∧
    W.cell? ⟨k, 0, none⟩ = some (.int .i64 r'.a) ∧ W.cell? ⟨k, 1, none⟩ = some (.int .i64 r'.b) ∧ W.cell? ⟨k, 2, none⟩ = some (.int .i64 r'.c) ∧ W.cell? ⟨k, 3, none⟩ = some (.int .i64 r'.d) ∧ W.cell? ⟨k, 4, none⟩ = some (.int .i64 r'.t)
theorem pm_set {w w3 : World} {A' B' : TT} {r' : Rw} {g1 k g3 : Nat} (hk : w3.heap[k]? = some (rowO 0 0 0 0 0)) (hw : w.heap.size ≤ k) (h1 : Shp w3 A' g1) (h3 : Shp w3 B' g3) (hb : Below w.heap.size w w3) :
    PutMid w A' r' B' (.pointer (some ⟨g1, 0, none⟩)) (.pointer (some ⟨k, 0, none⟩)) (.pointer (some ⟨g3, 0, none⟩)) (((((w3.setCell ⟨k, 0, none⟩ (.int .i64 r'.a)).setCell ⟨k, 1, none⟩ (.int .i64 r'.b)).setCell ⟨k, 2, none⟩ (.int .i64 r'.c)).setCell ⟨k, 3, none⟩ (.int .i64 r'.d)).setCell ⟨k, 4, none⟩ (.int .i64 r'.t)) := by
  have e := fun j => Lib.cell_of_heap (show w3.heap[k]? = some (.cells #[.int .i64 0, .int .i64 0, .int .i64 0, .int .i64 0, .int .i64 0] 36 (0, 0)) from hk) j
  have q0 : w3.cell? ⟨k, 0, none⟩ = some (.int .i64 0) := (e 0).trans rfl
  have q1 : w3.cell? ⟨k, 1, none⟩ = some (.int .i64 0) := (e 1).trans rfl
  have q2 : w3.cell? ⟨k, 2, none⟩ = some (.int .i64 0) := (e 2).trans rfl
  have q3 : w3.cell? ⟨k, 3, none⟩ = some (.int .i64 0) := (e 3).trans rfl
  have q4 : w3.cell? ⟨k, 4, none⟩ = some (.int .i64 0) := (e 4).trans rfl
  have hkl := (Array.getElem?_eq_some_iff.1 hk).1
  obtain ⟨c1, f1, e1⟩ := row_set (o := 0) (v := .int .i64 r'.a) hk
  obtain ⟨c2, f2, e2⟩ := row_set (o := 1) (v := .int .i64 r'.b) e1
  obtain ⟨c3, f3, e3⟩ := row_set (o := 2) (v := .int .i64 r'.c) e2
  obtain ⟨c4, f4, e4⟩ := row_set (o := 3) (v := .int .i64 r'.d) e3
  refine ⟨g1, k, g3, rfl, rfl, rfl, Shp.setRow e4 (Shp.setRow e3 (Shp.setRow e2 (Shp.setRow e1 (Shp.setRow hk h1)))), Shp.setRow e4 (Shp.setRow e3 (Shp.setRow e2 (Shp.setRow e1 (Shp.setRow hk h3)))), ((((hb.setCell hw _).setCell hw _).setCell hw _).setCell hw _).setCell hw _, by simpa using hkl, ?_, ?_, ?_, ?_, ?_⟩
  · exact setO (setO (setO (setO (setS q0) (by simp)) (by simp)) (by simp)) (by simp)
  · exact setO (setO (setO (setS (setO q1 (by simp))) (by simp)) (by simp)) (by simp)
  · exact setO (setO (setS (setO (setO q2 (by simp)) (by simp))) (by simp)) (by simp)
  · exact setO (setS (setO (setO (setO q3 (by simp)) (by simp)) (by simp))) (by simp)
  · exact setS (setO (setO (setO (setO q4 (by simp)) (by simp)) (by simp)) (by simp))
theorem pm_new {w w3 : World} {A' B' : TT} {r' : Rw} {g1 g3 : Nat} (h1 : Shp w3 A' g1) (h3 : Shp w3 B' g3) (hb : Below w.heap.size w w3) :
    PutMid w A' r' B' (.pointer (some ⟨g1, 0, none⟩)) (.pointer (some ⟨w3.heap.size, 0, none⟩)) (.pointer (some ⟨g3, 0, none⟩)) (w3.alloc (.cells #[.int .i64 r'.a, .int .i64 r'.b, .int .i64 r'.c, .int .i64 r'.d, .int .i64 r'.t] 36)) :=
  ⟨g1, w3.heap.size, g3, rfl, rfl, rfl, h1.keep (below_alc _ _), h3.keep (below_alc _ _), hb.alloc hb.size _, by simp, by simp, by simp, by simp, by simp, by simp⟩
set_option maxRecDepth 100000 in
set_option maxHeartbeats 8000000 in
theorem put_any (F1 p1 p2 F2 q1 q2 : Nat) (σ : Int → Option TT) (ρ : Int → Option Rw) (w0 : World) (kF1 : Hid (∀ (xs : Array Value) (W : World), (callFunc F1 xs).run Tryd.prog W = .ok (.enter F1 xs) W)) (kF2 : Hid (∀ (xs : Array Value) (W : World), (callFunc F2 xs).run Tryd.prog W = .ok (.enter F2 xs) W))
    (h1 : Hid (FnT F1 p1 p2 σ w0)) (h2 : Hid (FnR F2 q1 q2 ρ w0)) (hρ : ∀ v q, ρ v = some q → q.may = true) :
    ∀ (T : TT) (g : Nat) (w : World), Hid (Shp w T g) → Hid (Below w0.heap.size w0 w) → T.ok = true → (putT σ ρ T).sz ≤ 1000000 →
    Calls Tryd.prog 29 #[ptrS g, fnV F1 p1 p2, fnV F2 q1 q2] w (MkPost (putT σ ρ T) w) := by
  intro T
  induction T with
  | base k =>
    intro g w hS hb hT hz
    have c0 := (shC_of hS.out.2).c0
    have hgl := hS.out.lt
    have hk := hS.out.1
    have hfin : Hid (MkPost (putT σ ρ (.base k)) w (.returned (ptrS g)) w) := Lib.hid ⟨g, rfl, hS.out, Below.refl _ _⟩
    generalize putT σ ρ (.base k) = P at hfin
    unfold ptrS fnV at *
    rcases hk with rfl | rfl
    all_goals
      go_enter Tryd.func29, Tryd.ntmps29
      go_wp2_with fail
      go_ret
      exact hfin.out
  | var v =>
    intro g w hS hb hT hz
    have c0 := (shC_of (show w.heap[g]? = _ from hS.out)).c0
    have c1 := (shC_of (show w.heap[g]? = _ from hS.out)).c1
    have hgl := hS.out.lt
    have hr : 0 ≤ v ∧ v < 4096 := by unfold TT.ok at hT; simp only [Bool.and_eq_true, decide_eq_true_eq] at hT; exact hT
    have k1 := Lib.hid (h1.out v w hr hb.out)
    cases hq : σ v with
    | none =>
      simp only [hq] at k1
      have hfin : Hid (∀ W, Below w.heap.size w W → MkPost (putT σ ρ (.var v)) w (.returned (ptrS g)) W) := Lib.hid fun W hW => ⟨g, rfl, by unfold putT; rw [hq]; exact hS.out.keep hW, hW⟩
      generalize putT σ ρ (.var v) = P at hfin
      have kF' := kF1.out
      clear hq hT hz hr
      unfold ptrS fnV at *
      go_enter Tryd.func29, Tryd.ntmps29
      go_wp2_with fail
      refine k1.out.mono ?_
      rintro e w1 ⟨rfl, hb1⟩
      go_wp2_with fail
      go_ret
      exact hfin.out _ hb1
    | some U =>
      simp only [hq] at k1
      have hfin : Hid (∀ W g', Shp W U g' → Below w.heap.size w W → MkPost (putT σ ρ (.var v)) w (.returned (ptrS g')) W) := Lib.hid fun W g' hg hW => ⟨g', rfl, by unfold putT; rw [hq]; exact hg, hW⟩
      generalize putT σ ρ (.var v) = P at hfin
      have kF' := kF1.out
      clear hq hT hz hr
      unfold ptrS fnV at *
      go_enter Tryd.func29, Tryd.ntmps29
      go_wp2_with fail
      refine k1.out.mono ?_
      rintro e w1 ⟨⟨g', rfl, hg'⟩, hb1⟩
      go_wp2_with fail
      go_ret
      exact hfin.out _ _ hg' hb1
  | fn a r b iha ihb =>
    intro g w hS hb hT hz
    obtain ⟨ga, gb, hB, hA, hBb⟩ := hS.out
    have hC := shC_of hB
    have hgl := hS.out.lt
    have c0 := hC.c0; have c2 := hC.c2; have c3 := hC.c3; have c4 := hC.c4; have c5 := hC.c5; have c6 := hC.c6; have c7 := hC.c7; have c8 := hC.c8
    unfold TT.ok at hT
    simp only [Bool.and_eq_true] at hT
    have hzz : (putT σ ρ a).sz + (putT σ ρ b).sz + 1 ≤ 1000000 := hz
    have kA := Lib.hid fun (W : World) (h : Below w.heap.size w W) => iha ga W (Lib.hid (hA.keep h)) (Lib.hid (hb.out.trans (h.mono hb.out.size))) hT.1.1 (by omega)
    have kB := Lib.hid fun (W : World) (h : Below w.heap.size w W) => ihb gb W (Lib.hid (hBb.keep h)) (Lib.hid (hb.out.trans (h.mono hb.out.size))) hT.2 (by omega)
    have kR := Lib.hid fun (W : World) (h : Below w.heap.size w W) => putRow_any F2 q1 q2 ρ w0 kF2 h2 hρ r hT.1.2 W (Lib.hid (hb.out.trans (h.mono hb.out.size)))
    have hAB := Lib.hid (And.intro hA hBb)
    have hpt : Hid (putT σ ρ (.fn a r b) = .fn (putT σ ρ a) (putR ρ r) (putT σ ρ b)) := Lib.hid rfl
    generalize putT σ ρ (.fn a r b) = P at hpt
    generalize putT σ ρ a = A' at kA hpt hzz
    generalize putT σ ρ b = B' at kB hpt hzz
    generalize putR ρ r = r' at kR hpt
    clear hz hT hB hC hA hBb iha ihb
    unfold ptrS fnV rwV at *
    go_enter Tryd.func29, Tryd.ntmps29
    go_upto_region 7 with fail
    go_cut [9, 10, 11] (fun s9 s10 s11 wx => PutMid w A' r' B' s9 s10 s11 wx)
    case first =>
      have hst0 : Hid (w.cell? ⟨g, 2, none⟩ = some (.pointer (some ⟨ga, 0, none⟩)) ∧ w.cell? ⟨g, 3, none⟩ = some (.pointer (some ⟨gb, 0, none⟩)) ∧ w.cell? ⟨g, 4, none⟩ = some (.int .i64 r.a) ∧ w.cell? ⟨g, 5, none⟩ = some (.int .i64 r.b) ∧ w.cell? ⟨g, 6, none⟩ = some (.int .i64 r.c) ∧ w.cell? ⟨g, 7, none⟩ = some (.int .i64 r.d) ∧ w.cell? ⟨g, 8, none⟩ = some (.int .i64 r.t) ∧ KeepP w g w) := Lib.hid ⟨c2, c3, c4, c5, c6, c7, c8, Below.refl _ _, hgl⟩
      have hst : Hid (w.drew.cell? ⟨g, 2, none⟩ = some (.pointer (some ⟨ga, 0, none⟩)) ∧ w.drew.cell? ⟨g, 3, none⟩ = some (.pointer (some ⟨gb, 0, none⟩)) ∧ w.drew.cell? ⟨g, 4, none⟩ = some (.int .i64 r.a) ∧ w.drew.cell? ⟨g, 5, none⟩ = some (.int .i64 r.b) ∧ w.drew.cell? ⟨g, 6, none⟩ = some (.int .i64 r.c) ∧ w.drew.cell? ⟨g, 7, none⟩ = some (.int .i64 r.d) ∧ w.drew.cell? ⟨g, 8, none⟩ = some (.int .i64 r.t) ∧ KeepP w g w.drew) := Lib.hid ⟨c2, c3, c4, c5, c6, c7, c8, (Below.refl _ _).drew, hgl⟩
      clear c0 c2 c3 c4 c5 c6 c7 c8 hb hS hAB hpt
      go_region_held3 (fun W => W.cell? ⟨g, 2, none⟩ = some (.pointer (some ⟨ga, 0, none⟩)) ∧ W.cell? ⟨g, 3, none⟩ = some (.pointer (some ⟨gb, 0, none⟩)) ∧ W.cell? ⟨g, 4, none⟩ = some (.int .i64 r.a) ∧ W.cell? ⟨g, 5, none⟩ = some (.int .i64 r.b) ∧ W.cell? ⟨g, 6, none⟩ = some (.int .i64 r.c) ∧ W.cell? ⟨g, 7, none⟩ = some (.int .i64 r.d) ∧ W.cell? ⟨g, 8, none⟩ = some (.int .i64 r.t) ∧ KeepP w g W)
        (first | with_reducible exact hS3.out | with_reducible exact hS2.out | with_reducible exact hS1.out | with_reducible exact hst.out | with_reducible exact putS_go hS3.out (below_alc w3 _) | with_reducible exact putS_go hS2.out (below_alc w2 _) | with_reducible exact putS_go hS1.out (below_alc w1 _) | with_reducible exact putS_go hst0.out ((below_alc w _).drew) | with_reducible exact putS_set (by omega) (putS_set (by omega) (putS_set (by omega) (putS_set (by omega) (putS_set (by omega) hS3.out)))))
        (first | (go_at_call 58; refine (kR.out _ (putS_bel (by assumption))).mono ?_; rintro e w2 ⟨rfl, hb2⟩; have hS2 := Lib.hid (putS_go (by assumption) hb2); have hz2 := (putS_bel hS2.out).size; (try (with_reducible (have hk02 := row_on hb2 hk01))); (try (with_reducible (have hk12 := row_on hb2 (alloc_last w1 _))))) | (go_at_call 29; have hG := hS2; refine (kB.out _ (putS_bel (by assumption))).mono ?_; rintro e w3 ⟨g3, rfl, hs3, hb3⟩; have hS3 := Lib.hid (putS_go (by assumption) hb3); have hz3 := (putS_bel hS3.out).size; (try (with_reducible (have hk := row_on hb3 hk02))); (try (with_reducible (have hk := row_on hb3 hk12))); (try (with_reducible (have hk := row_on hb3 (alloc_last w2 _)))); (try (have hxx := row_cells hk; obtain ⟨x0, x1, x2, x3, x4, y0, y1, y2, y3, y4⟩ := hxx))) | (go_at_call 29; refine (kA.out _ (putS_bel (by assumption))).mono ?_; rintro e w1 ⟨g1, rfl, hs1, hb1⟩; have hS1 := Lib.hid (putS_go (by assumption) hb1); have hz1 := (putS_bel hS1.out).size; (try (with_reducible (have hk01 := row_on hb1 (alc_d w _))))))
      all_goals (go_wp2_with fail; go_meet)
      all_goals
        have hs13 : Shp w3 A' g1 := by
          first | with_reducible exact (hs1.keep hb2).keep hb3 | with_reducible exact (hs1.keep (belT (below_alc _ _) hb2)).keep hb3 | with_reducible exact (hs1.keep hb2).keep (belT (below_alc _ _) hb3)
        have hbel3 := putS_bel hS3.out
        first
          | with_reducible exact pm_new hs13 hs3 hbel3
          | exact pm_set hk (by omega) hs13 hs3 hbel3
    case rest =>
      obtain ⟨g1, k, g3, rfl, rfl, rfl, hs1, hs3, hbc, hkl, q0, q1, q2, q3, q4⟩ := hcut
      have hC2 : ∀ (o : Nat) (v : Value), w.cell? ⟨g, o, none⟩ = some v → wc.cell? ⟨g, o, none⟩ = some v := fun o v hv => (hbc.cell (p := ⟨g, o, none⟩) hgl).trans hv
      have d2 := hC2 _ _ c2; have d3 := hC2 _ _ c3; have d4 := hC2 _ _ c4; have d5 := hC2 _ _ c5; have d6 := hC2 _ _ c6; have d7 := hC2 _ _ c7; have d8 := hC2 _ _ c8
      have hA0 := hAB.out.1.keep hbc
      have hB0 := hAB.out.2.keep hbc
      have hgc : g < wc.heap.size := by have := hbc.size; omega
      obtain ⟨x1, hx1⟩ : ∃ x, decide (g1 ≠ ga) = x := ⟨_, rfl⟩
      obtain ⟨x3, hx3⟩ : ∃ x, decide (g3 ≠ gb) = x := ⟨_, rfl⟩
      obtain ⟨x2, hx2⟩ : ∃ x, rwQ r'.a r'.b r'.c r'.d r'.t r.a r.b r.c r.d r.t = x := ⟨_, rfl⟩
      have hn1 : ∀ n, (binOp .neq 65 (.pointer (some ⟨g1, 0, none⟩)) (.pointer (some ⟨ga, 0, none⟩))).run Tryd.prog (wc.drewN n) = .ok (.bool x1) (wc.drewN n) := fun n => by
        rw [← hx1]; exact neq_shp (w := wc.drewN n) (hs1.keep (below_drewN (Below.refl _ _) n)) (hA0.keep (below_drewN (Below.refl _ _) n))
      have hn3 : ∀ n, (binOp .neq 65 (.pointer (some ⟨g3, 0, none⟩)) (.pointer (some ⟨gb, 0, none⟩))).run Tryd.prog (wc.drewN n) = .ok (.bool x3) (wc.drewN n) := fun n => by
        rw [← hx3]; exact neq_shp (w := wc.drewN n) (hs3.keep (below_drewN (Below.refl _ _) n)) (hB0.keep (below_drewN (Below.refl _ _) n))
      have hin := fun (x0 x1 x2 x3 x4 y0 y1 y2 y3 y4 : Int) (W : World) => row_in 9997 x0 x1 x2 x3 x4 y0 y1 y2 y3 y4 W
      simp only [Nat.reduceAdd] at hin
      have hsame : Hid (x1 = false → x2 = true → x3 = false → P = .fn a r b) := Lib.hid fun e1 e2 e3 => by
        subst e1 e2 e3
        have f1 : g1 = ga := by simpa using hx1
        have f3 : g3 = gb := by simpa using hx3
        subst f1 f3
        rw [hpt.out, Shp.one hs1 hA0, Shp.one hs3 hB0]
        congr 1
        obtain ⟨ra, rb, rc, rd, rt⟩ := r
        obtain ⟨ra', rb', rc', rd', rt'⟩ := r'
        unfold rwQ at hx2
        simp only [Bool.and_eq_true, beq_iff_eq] at hx2
        obtain ⟨⟨h1, h2, h3, h4⟩, h5⟩ := hx2
        rw [h1, h2, h3, h4, h5]
      have hS' := Lib.hid fun (W : World) (h : Below w.heap.size w W) => hS.out.keep h
      have kF := Lib.hid fun (W : World) (h : Below wc.heap.size wc W) => shFun_any A' B' r' g1 g3 W (Lib.hid (hs1.keep h)) (Lib.hid (hs3.keep h)) (by omega)
      have hbc' := Lib.hid hbc
      clear hC2 hA0 hB0 hAB hs1 hs3 hbc hS hx1 hx3 hb kA kB kR
      clear c0 c2 c3 c4 c5 c6 c7 c8
      cases x1
      · cases x2
        · go_wp2_with fail
          go_quiet (fail)
          go_wp2_with fail
          refine (kF.out _ (below_drewN (Below.refl _ _) nq)).mono ?_
          rintro e w9 ⟨g9, rfl, hs9, hb9⟩
          go_wp2_with fail
          go_ret
          exact ⟨g9, rfl, by rw [hpt.out]; exact hs9, hbc'.out.trans ((below_drewN (Below.refl _ _) nq).trans (hb9.mono hbc'.out.size))⟩
        · cases x3
          · have hP := Lib.hid (hsame.out rfl rfl rfl)
            go_wp2_with fail
            go_quiet (fail)
            go_wp2_with fail
            go_ret
            exact ⟨g, rfl, by rw [hP.out]; exact hS'.out _ (below_drewN hbc'.out nq), below_drewN hbc'.out nq⟩
          · go_wp2_with fail
            go_quiet (fail)
            go_wp2_with fail
            refine (kF.out _ (below_drewN (Below.refl _ _) nq)).mono ?_
            rintro e w9 ⟨g9, rfl, hs9, hb9⟩
            go_wp2_with fail
            go_ret
            exact ⟨g9, rfl, by rw [hpt.out]; exact hs9, hbc'.out.trans ((below_drewN (Below.refl _ _) nq).trans (hb9.mono hbc'.out.size))⟩
      · go_wp2_with fail
        go_quiet (fail)
        go_wp2_with fail
        refine (kF.out _ (below_drewN (Below.refl _ _) nq)).mono ?_
        rintro e w9 ⟨g9, rfl, hs9, hb9⟩
        go_wp2_with fail
        go_ret
        exact ⟨g9, rfl, by rw [hpt.out]; exact hs9, hbc'.out.trans ((below_drewN (Below.refl _ _) nq).trans (hb9.mono hbc'.out.size))⟩
end Go.Proofs.YtfkdcconmecaoaaDoor
