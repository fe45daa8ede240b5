/- subst.Row. -/
import Derived.Test.YtfkdcconmecaoaaDoorSbE
import Derived.Deep.RegionHeld3
import Derived.Deep.DeepCutAuto
/- subst.Row. -/
namespace Go.Proofs.YtfkdcconmecaoaaDoor
open Go.RowKit Go.Maps
set_option linter.unusedVariables false
set_option linter.unusedSimpArgs false

def subRE (xs : List Bn) (r : Rw) : Int := if (bsV xs && r.may) && (putR (rhB xs) r).cnt then 0 else 900
def subR (xs : List Bn) (r : Rw) : Rw := if (bsV xs && r.may) && (putR (rhB xs) r).cnt then putR (rhB xs) r else rw0
def SubRPost (xs : List Bn) (r : Rw) (w : World) (e : Ending) (w' : World) : Prop := e = .returned (.tuple #[rwV (subR xs r), .int .i64 (subRE xs r)]) ∧ Below w.heap.size w w'
theorem subR_no {xs : List Bn} {r : Rw} {w w' : World} (h : ((bsV xs && r.may) && (putR (rhB xs) r).cnt) = false) (hb : Below w.heap.size w w') : SubRPost xs r w (.returned (.tuple #[.agg #[.int .i64 0, .int .i64 0, .int .i64 0, .int .i64 0, .int .i64 0], .int .i64 900])) w' := by
  refine ⟨?_, hb⟩
  unfold subR subRE
  rw [h]; rfl
/-- the world in which subst.Row's calls begin. -/
def wbR (w : World) (r : Rw) : World := (w.alloc (.cells #[.int .i64 r.a, .int .i64 r.b, .int .i64 r.c, .int .i64 r.d, .int .i64 r.t] 36)).alloc (.cells #[.int .i64 0, .int .i64 0, .int .i64 0, .int .i64 0, .int .i64 0] 36)
structure InR (w : World) (r : Rw) (W : World) : Prop where
  a0 : W.cell? ⟨w.heap.size, 0, none⟩ = some (.int .i64 r.a)
  a1 : W.cell? ⟨w.heap.size, 1, none⟩ = some (.int .i64 r.b)
  a2 : W.cell? ⟨w.heap.size, 2, none⟩ = some (.int .i64 r.c)
  a3 : W.cell? ⟨w.heap.size, 3, none⟩ = some (.int .i64 r.d)
  a4 : W.cell? ⟨w.heap.size, 4, none⟩ = some (.int .i64 r.t)
  z : W.heap[w.heap.size + 1]? = some (rowO 0 0 0 0 0)
  s : w.heap.size + 1 < W.heap.size
  b : Below w.heap.size w W
theorem inR_of {w W : World} {r : Rw} (hb : Below (wbR w r).heap.size (wbR w r) W) : InR w r W := by
  have hs : (wbR w r).heap.size = w.heap.size + 2 := by simp [wbR]
  refine ⟨?_, ?_, ?_, ?_, ?_, ?_, ?_, ?_⟩
  · rw [hb.cell (p := ⟨w.heap.size, 0, none⟩) (by rw [hs]; simp)]; simp [wbR]
  · rw [hb.cell (p := ⟨w.heap.size, 1, none⟩) (by rw [hs]; simp)]; simp [wbR]
  · rw [hb.cell (p := ⟨w.heap.size, 2, none⟩) (by rw [hs]; simp)]; simp [wbR]
  · rw [hb.cell (p := ⟨w.heap.size, 3, none⟩) (by rw [hs]; simp)]; simp [wbR]
  · rw [hb.cell (p := ⟨w.heap.size, 4, none⟩) (by rw [hs]; simp)]; simp [wbR]
  · rw [hb.block (w.heap.size + 1) (by rw [hs]; omega)]
    have h := alloc_last (w.alloc (.cells #[.int .i64 r.a, .int .i64 r.b, .int .i64 r.c, .int .i64 r.d, .int .i64 r.t] 36)) (.cells #[.int .i64 0, .int .i64 0, .int .i64 0, .int .i64 0, .int .i64 0] 36)
    rw [show (w.alloc (.cells #[.int .i64 r.a, .int .i64 r.b, .int .i64 r.c, .int .i64 r.d, .int .i64 r.t] 36)).heap.size = w.heap.size + 1 by simp] at h
    exact h
  · have := hb.size; rw [hs] at this; omega
  · exact (below_alc2 w _ _).trans (hb.mono (by rw [hs]; omega))
theorem InR.go {w W W' : World} {r : Rw} (h : InR w r W) (hb : Below W.heap.size W W') : InR w r W' := by
  have h1 := h.s
  exact ⟨carry hb (by omega) h.a0, carry hb (by omega) h.a1, carry hb (by omega) h.a2, carry hb (by omega) h.a3, carry hb (by omega) h.a4, row_on hb h.z, by have := hb.size; omega, belT h.b hb⟩
theorem InR.set {w W : World} {r : Rw} {k o : Nat} {v : Value} (h : InR w r W) (hk : w.heap.size + 1 < k) : InR w r (W.setCell ⟨k, o, none⟩ v) := by
  have e : ∀ b q, b < k → (W.setCell ⟨k, o, none⟩ v).cell? ⟨b, q, none⟩ = W.cell? ⟨b, q, none⟩ := fun b q hb => World.cell?_setCell_other _ _ _ _ (by intro e; injection e; omega)
  exact ⟨(e _ _ (by omega)).trans h.a0, (e _ _ (by omega)).trans h.a1, (e _ _ (by omega)).trans h.a2, (e _ _ (by omega)).trans h.a3, (e _ _ (by omega)).trans h.a4, by rw [Deep.blk_setCell_other _ _ _ _ (show w.heap.size + 1 ≠ k by omega)]; exact h.z, by simpa using h.s, h.b.setCell (show w.heap.size ≤ k by omega) _⟩
def RowMid (w : World) (r r' : Rw) (s6 : Value) (W : World) : Prop := ∃ k, s6 = .pointer (some ⟨k, 0, none⟩) ∧ k < W.heap.size ∧ InR w r W ∧
    W.cell? ⟨k, 0, none⟩ = some (.int .i64 r'.a) ∧ W.cell? ⟨k, 1, none⟩ = some (.int .i64 r'.b) ∧ W.cell? ⟨k, 2, none⟩ = some (.int .i64 r'.c) ∧ W.cell? ⟨k, 3, none⟩ = some (.int .i64 r'.d) ∧ W.cell? ⟨k, 4, none⟩ = some (.int .i64 r'.t)
theorem rm_set {w w3 : World} {r r' : Rw} {k : Nat} (hk : w3.heap[k]? = some (rowO 0 0 0 0 0)) (hw : w.heap.size + 1 < k) (hI : InR w r w3) :
    RowMid w r r' (.pointer (some ⟨k, 0, none⟩)) (((((w3.setCell ⟨k, 0, none⟩ (.int .i64 r'.a)).setCell ⟨k, 1, none⟩ (.int .i64 r'.b)).setCell ⟨k, 2, none⟩ (.int .i64 r'.c)).setCell ⟨k, 3, none⟩ (.int .i64 r'.d)).setCell ⟨k, 4, none⟩ (.int .i64 r'.t)) := by
  obtain ⟨q0, q1, q2, q3, q4, _⟩ := row_cells hk
  have hkl := (Array.getElem?_eq_some_iff.1 hk).1
  refine ⟨k, rfl, by simpa using hkl, ((((hI.set hw).set hw).set hw).set hw).set hw, ?_, ?_, ?_, ?_, ?_⟩
  · exact setO (setO (setO (setO (setS q0) (by simp)) (by simp)) (by simp)) (by simp)
  · exact setO (setO (setO (setS (setO q1 (by simp))) (by simp)) (by simp)) (by simp)
  · exact setO (setO (setS (setO (setO q2 (by simp)) (by simp))) (by simp)) (by simp)
  · exact setO (setS (setO (setO (setO q3 (by simp)) (by simp)) (by simp))) (by simp)
  · exact setS (setO (setO (setO (setO q4 (by simp)) (by simp)) (by simp)) (by simp))
theorem rm_new {w w3 : World} {r r' : Rw} (hI : InR w r w3) :
    RowMid w r r' (.pointer (some ⟨w3.heap.size, 0, none⟩)) (w3.alloc (.cells #[.int .i64 r'.a, .int .i64 r'.b, .int .i64 r'.c, .int .i64 r'.d, .int .i64 r'.t] 36)) :=
  ⟨w3.heap.size, rfl, by simp, hI.go (below_alc _ _), by simp, by simp, by simp, by simp, by simp⟩
theorem rS_go {w W W' : World} {x0 x1 x2 x3 x4 : Value} {r : Rw}
    (h : W.cell? ⟨w.heap.size, 0, none⟩ = some x0 ∧ W.cell? ⟨w.heap.size, 1, none⟩ = some x1 ∧ W.cell? ⟨w.heap.size, 2, none⟩ = some x2 ∧ W.cell? ⟨w.heap.size, 3, none⟩ = some x3 ∧ W.cell? ⟨w.heap.size, 4, none⟩ = some x4 ∧ InR w r W) (hb : Below W.heap.size W W') :
    W'.cell? ⟨w.heap.size, 0, none⟩ = some x0 ∧ W'.cell? ⟨w.heap.size, 1, none⟩ = some x1 ∧ W'.cell? ⟨w.heap.size, 2, none⟩ = some x2 ∧ W'.cell? ⟨w.heap.size, 3, none⟩ = some x3 ∧ W'.cell? ⟨w.heap.size, 4, none⟩ = some x4 ∧ InR w r W' := by
  obtain ⟨h0, h1, h2, h3, h4, hI⟩ := h
  have := hI.s
  exact ⟨carry hb (by omega) h0, carry hb (by omega) h1, carry hb (by omega) h2, carry hb (by omega) h3, carry hb (by omega) h4, hI.go hb⟩
theorem rS_bel {w W : World} {x0 x1 x2 x3 x4 : Value} {r : Rw}
    (h : W.cell? ⟨w.heap.size, 0, none⟩ = some x0 ∧ W.cell? ⟨w.heap.size, 1, none⟩ = some x1 ∧ W.cell? ⟨w.heap.size, 2, none⟩ = some x2 ∧ W.cell? ⟨w.heap.size, 3, none⟩ = some x3 ∧ W.cell? ⟨w.heap.size, 4, none⟩ = some x4 ∧ InR w r W) : Below w.heap.size w W := h.2.2.2.2.2.b
theorem rS_set {w W : World} {x0 x1 x2 x3 x4 v : Value} {r : Rw} {k o : Nat} (hk : w.heap.size + 1 < k)
    (h : W.cell? ⟨w.heap.size, 0, none⟩ = some x0 ∧ W.cell? ⟨w.heap.size, 1, none⟩ = some x1 ∧ W.cell? ⟨w.heap.size, 2, none⟩ = some x2 ∧ W.cell? ⟨w.heap.size, 3, none⟩ = some x3 ∧ W.cell? ⟨w.heap.size, 4, none⟩ = some x4 ∧ InR w r W) :
    (W.setCell ⟨k, o, none⟩ v).cell? ⟨w.heap.size, 0, none⟩ = some x0 ∧ (W.setCell ⟨k, o, none⟩ v).cell? ⟨w.heap.size, 1, none⟩ = some x1 ∧ (W.setCell ⟨k, o, none⟩ v).cell? ⟨w.heap.size, 2, none⟩ = some x2 ∧ (W.setCell ⟨k, o, none⟩ v).cell? ⟨w.heap.size, 3, none⟩ = some x3 ∧ (W.setCell ⟨k, o, none⟩ v).cell? ⟨w.heap.size, 4, none⟩ = some x4 ∧ InR w r (W.setCell ⟨k, o, none⟩ v) := by
  obtain ⟨h0, h1, h2, h3, h4, hI⟩ := h
  have e : ∀ b q, b < k → (W.setCell ⟨k, o, none⟩ v).cell? ⟨b, q, none⟩ = W.cell? ⟨b, q, none⟩ := fun b q hb => World.cell?_setCell_other _ _ _ _ (by intro e; injection e; omega)
  exact ⟨(e _ _ (by omega)).trans h0, (e _ _ (by omega)).trans h1, (e _ _ (by omega)).trans h2, (e _ _ (by omega)).trans h3, (e _ _ (by omega)).trans h4, hI.set hk⟩
theorem row_new (w : World) (o : Obj) : (w.alloc o).heap[w.heap.size]? = some o := alloc_last w o
end Go.Proofs.YtfkdcconmecaoaaDoor

/- Types side by side and copied; numbers of errors. -/
namespace Go.Proofs.YtfkdcconmecaoaaDoor
open Go.RowKit
set_option linter.unusedVariables false
set_option linter.unusedSimpArgs false

theorem num_any (e : Int) (w : World) (h0 : 0 ≤ e) (h1 : e ≤ 9223372036854775807) :
    Calls Tryd.prog 11 #[.int .i64 e] w fun r w' => r = .returned (.int .i64 e) ∧ w = w' := by
  go_enter Tryd.func11, Tryd.ntmps11
  go_wp2
  go_ret
  exact ⟨rfl, rfl⟩
theorem num_q (e : Int) (w : World) (h0 : 0 ≤ e) (h1 : e ≤ 9223372036854775807) :
    Calls Tryd.prog 11 #[.int .i64 e] w fun r w' => r = .returned (.int .i64 e) ∧ w' = w := (num_any e w h0 h1).mono fun _ _ ⟨h, h'⟩ => ⟨h, h'.symm⟩
theorem getT_ext {l m : List Ty} (h : l.length = m.length) (he : ∀ i, i < l.length → l.getD i ty0 = m.getD i ty0) : l = m := by
  apply List.ext_getElem h
  intro i h1 h2
  have := he i h1
  rwa [List.getD_eq_getElem?_getD, List.getElem?_eq_getElem h1, List.getD_eq_getElem?_getD, List.getElem?_eq_getElem h2] at this

set_option maxHeartbeats 1000000 in
theorem sameTy_nil (a1 a2 : Option Addr) (c1 c2 : Nat) (w : World) :
    Calls Tryd.prog 34 #[.slice a1 0 c1, .slice a2 0 c2] w fun e w' => e = .returned (.bool true) ∧ Below w.heap.size w w' := by
  go_enter Tryd.func34, Tryd.ntmps34
  go_wp2_with fail
  go_loop [5] (fun i => i = .int .i64 0) (fun _ => 0)
  case atStart => rfl
  case round =>
    obtain rfl := hrel
    go_wp2_with fail
    go_ret
    exact ⟨rfl, Below.refl _ _⟩
set_option maxHeartbeats 1000000 in
theorem sameTy_len (a1 a2 : Option Addr) (n1 n2 c1 c2 : Nat) (w : World) (h : n1 ≠ n2) :
    Calls Tryd.prog 34 #[.slice a1 n1 c1, .slice a2 n2 c2] w fun e w' => e = .returned (.bool false) ∧ Below w.heap.size w w' := by
  have h1 : ((n1 : Int) == (n2 : Int)) = false := by rw [beq_eq_false_iff_ne]; omega
  have h2 : ((n1 : Int) != (n2 : Int)) = true := by rw [bne_iff_ne]; omega
  have h3 : (n1 == n2) = false := by simpa using h
  have h4 : (n1 != n2) = true := by simpa using h
  clear h
  go_enter Tryd.func34, Tryd.ntmps34
  go_wp2_with fail
  go_ret
  exact ⟨rfl, Below.refl _ _⟩
set_option maxRecDepth 100000 in
set_option maxHeartbeats 4000000 in
theorem sameTy_sl (b off cp b' off' cp' : Nat) (l m : List Ty) (w : World) (h : Hid (TySl w b off l)) (h' : Hid (TySl w b' off' m)) (hbs : b < w.heap.size) (hbs' : b' < w.heap.size) (hlm : l.length = m.length) (hl : l.length ≤ 140737488351232) :
    Calls Tryd.prog 34 #[.slice (some ⟨b, off, none⟩) l.length cp, .slice (some ⟨b', off', none⟩) l.length cp'] w fun e w' => e = .returned (.bool (decide (l = m))) ∧ Below w.heap.size w w' := by
  obtain ⟨A, hA⟩ : ∃ x, decide (l = m) = x := ⟨_, rfl⟩
  rw [hA]
  have hA' := Lib.hid hA
  have hlm' := Lib.hid hlm
  clear hA hlm
  go_enter Tryd.func34, Tryd.ntmps34
  go_wp2_with fail
  go_loopw [5] (fun i wr => ∃ j : Nat, j ≤ l.length ∧ i = .int .i64 j ∧ Below w.heap.size w wr ∧ Hid (∀ i, i < j → l.getD i ty0 = m.getD i ty0)) (fun i _ => l.length - (intOf i).toNat)
  case atStart => exact ⟨0, by omega, rfl, Below.refl _ _, Lib.hid fun i hi => by omega⟩
  case round =>
    obtain ⟨j, hj, rfl, hbw, hall⟩ := hrel
    by_cases hlt : j < l.length
    · have hT := (h.out j hlt).below hbw hbs
      have hU := (h'.out j (by rw [← hlm'.out]; exact hlt)).below hbw hbs'
      have hsuc := Lib.hid (show l.getD j ty0 = m.getD j ty0 → ∀ i, i < j + 1 → l.getD i ty0 = m.getD i ty0 from fun he i hi => by
        rcases Nat.lt_or_ge i j with h1 | h1
        · exact hall.out i h1
        · obtain rfl : i = j := by omega
          exact he)
      have hstop := Lib.hid (show l.getD j ty0 ≠ m.getD j ty0 → decide (l = m) = false from fun hn => decide_eq_false fun e => hn (by rw [e]))
      generalize l.getD j ty0 = t at hT hsuc hstop
      generalize m.getD j ty0 = u at hU hsuc hstop
      obtain ⟨bq, hq⟩ : ∃ x, tyE t u = x := ⟨_, rfl⟩
      have hqe := Lib.hid (tyE_iff t u)
      rw [hq] at hqe
      have hq := (show tyQ t.k t.v t.a t.b t.c0 t.c1 t.c2 t.c3 t.t u.k u.v u.a u.b u.c0 u.c1 u.c2 u.c3 u.t = bq from hq)
      have hws := hbw.size
      have hbr : b < wr.heap.size := by omega
      have hbr2 : b' < wr.heap.size := by omega
      have htin := fun x0 x1 x2 x3 x4 x5 x6 x7 x8 y0 y1 y2 y3 y4 y5 y6 y7 y8 W => ty_in x0 x1 x2 x3 x4 x5 x6 x7 x8 y0 y1 y2 y3 y4 y5 y6 y7 y8 W
      obtain ⟨e0, e1, e2, e3, e4, e5, e6, e7, e8⟩ := hT
      obtain ⟨d0, d1, d2, d3, d4, d5, d6, d7, d8⟩ := hU
      have hlt' : (j : Int) < (l.length : Int) := by omega
      have hj0 : (0 : Int) ≤ (j : Int) := by omega
      cases bq
      · have hf : Hid (A = false) := Lib.hid (by rw [← hA'.out]; exact hstop.out (of_decide_eq_false hqe.out.symm))
        clear hstop hsuc hqe
        go_wp2_with fail
        go_quiet (fail)
        go_wp2_with fail
        go_ret
        exact ⟨ret_bb hf.out.symm, by (repeat' (first | with_reducible exact Below.refl _ _ | with_reducible assumption | with_reducible apply Below.setCell | with_reducible apply Below.alloc | with_reducible apply Below.drew | with_reducible apply below_drewN | with_reducible exact Nat.le_refl _ | (simp; done) | (simp; omega) | omega | exact Nat.le_refl _))⟩
      · have hf := Lib.hid (hsuc.out (of_decide_eq_true hqe.out.symm))
        clear hstop hsuc hqe
        go_wp2_with fail
        go_quiet (fail)
        go_wp2_with fail
        go_roundw
        case rel => exact ⟨j + 1, by omega, by go_num, by (repeat' (first | with_reducible exact Below.refl _ _ | with_reducible assumption | with_reducible apply Below.setCell | with_reducible apply Below.alloc | with_reducible apply Below.drew | with_reducible apply below_drewN | with_reducible exact Nat.le_refl _ | (simp; done) | (simp; omega) | omega | exact Nat.le_refl _)), hf⟩
        case measure => simp [intOf]; omega
    · have hf : Hid (A = true) := Lib.hid (by rw [← hA'.out]; exact decide_eq_true (getT_ext hlm'.out fun i hi => hall.out i (by omega)))
      go_wp2_with fail
      go_ret
      exact ⟨ret_bb hf.out.symm, hbw⟩
theorem sameTy_any (a1 a2 : Option Addr) (n1 n2 c1 c2 : Nat) (l m : List Ty) (w : World) (h : Hid (TyArg w a1 n1 l)) (h' : Hid (TyArg w a2 n2 m)) (hl : n1 ≤ 140737488351232) :
    Calls Tryd.prog 34 #[.slice a1 n1 c1, .slice a2 n2 c2] w fun e w' => e = .returned (.bool (decide (l = m))) ∧ Below w.heap.size w w' := by
  obtain ⟨h1, h2⟩ := h.out
  obtain ⟨h3, h4⟩ := h'.out
  by_cases hn : n1 = n2
  · subst hn
    by_cases h0 : n1 = 0
    · obtain rfl : l = [] := List.eq_nil_of_length_eq_zero (by omega)
      obtain rfl : m = [] := List.eq_nil_of_length_eq_zero (by omega)
      subst h0
      exact sameTy_nil a1 a2 c1 c2 w
    · obtain ⟨b, off, rfl, h5, h6⟩ : ∃ b off, a1 = some ⟨b, off, none⟩ ∧ TySl w b off l ∧ b < w.heap.size := by
        rcases h2 with rfl | h2
        · simp at h1; omega
        · exact h2
      obtain ⟨b', off', rfl, h7, h8⟩ : ∃ b off, a2 = some ⟨b, off, none⟩ ∧ TySl w b off m ∧ b < w.heap.size := by
        rcases h4 with rfl | h4
        · simp at h3; omega
        · exact h4
      subst h1
      exact sameTy_sl b off c1 b' off' c2 l m w (Lib.hid h5) (Lib.hid h7) h6 h8 h3 hl
  · have : decide (l = m) = false := decide_eq_false fun e => hn (by rw [h1, h3, e])
    rw [this]
    exact sameTy_len a1 a2 n1 n2 c1 c2 w hn
set_option maxHeartbeats 1000000 in
theorem sameType_any (a1 a2 : Option Addr) (n1 n2 c1 c2 : Nat) (l m : List Ty) (w : World) (h : Hid (TyArg w a1 n1 l)) (h' : Hid (TyArg w a2 n2 m)) (hl : n1 ≤ 140737488351232) :
    Calls Tryd.prog 13 #[.agg #[.slice a1 n1 c1], .agg #[.slice a2 n2 c2]] w fun e w' => e = .returned (.bool (decide (l = m))) ∧ Below w.heap.size w w' := by
  have k := Lib.hid fun (W : World) (hb : Below w.heap.size w W) => sameTy_any a1 a2 n1 n2 c1 c2 l m W (Lib.hid (h.out.below hb)) (Lib.hid (h'.out.below hb)) hl
  generalize decide (l = m) = q at k
  go_enter Tryd.func13, Tryd.ntmps13
  go_wp2_with fail
  refine (k.out _ (by (repeat' (first | with_reducible exact Below.refl _ _ | with_reducible assumption | with_reducible apply Below.setCell | with_reducible apply Below.alloc | with_reducible apply Below.drew | with_reducible apply below_drewN | with_reducible exact Nat.le_refl _ | (simp; done) | (simp; omega) | omega | exact Nat.le_refl _)))).mono ?_
  rintro e w1 ⟨rfl, hb⟩
  have hB := Lib.hid (belT (show Below w.heap.size w _ from by (repeat' (first | with_reducible exact Below.refl _ _ | with_reducible assumption | with_reducible apply Below.setCell | with_reducible apply Below.alloc | with_reducible apply Below.drew | with_reducible apply below_drewN | with_reducible exact Nat.le_refl _ | (simp; done) | (simp; omega) | omega | exact Nat.le_refl _))) hb)
  clear hb
  go_wp2_with fail
  go_ret
  exact ⟨rfl, hB.out⟩
theorem ownT_sl {B : Nat} {w : World} {v : Value} {l : List Ty} (h : OwnT B w v l) : ∃ a n c, v = .slice a n c := by
  rcases h.cases with ⟨rfl, _⟩ | ⟨g, c, rfl, _⟩ <;> exact ⟨_, _, _, rfl⟩
set_option maxHeartbeats 1000000 in
theorem copyType_any (a : Option Addr) (n c : Nat) (l : List Ty) (w : World) (h : Hid (TyArg w a n l)) (hl : n * 72 ≤ 140737488351232) :
    Calls Tryd.prog 19 #[.agg #[.slice a n c]] w fun e w' => ∃ v, e = .returned (.agg #[v]) ∧ OwnT w.heap.size w' v l ∧ Below w.heap.size w w' := by
  have k := Lib.hid fun (W : World) (hb : Below w.heap.size w W) => CopyTyNodes_any a n c l W (Lib.hid (h.out.below hb)) hl
  go_enter Tryd.func19, Tryd.ntmps19
  go_wp2_with fail
  refine (k.out _ (by (repeat' (first | with_reducible exact Below.refl _ _ | with_reducible assumption | with_reducible apply Below.setCell | with_reducible apply Below.alloc | with_reducible apply Below.drew | with_reducible apply below_drewN | with_reducible exact Nat.le_refl _ | (simp; done) | (simp; omega) | omega | exact Nat.le_refl _)))).mono ?_
  rintro e w1 ⟨v, rfl, hv, hb1⟩
  have hB := Lib.hid (belT (show Below w.heap.size w _ from by (repeat' (first | with_reducible exact Below.refl _ _ | with_reducible assumption | with_reducible apply Below.setCell | with_reducible apply Below.alloc | with_reducible apply Below.drew | with_reducible apply below_drewN | with_reducible exact Nat.le_refl _ | (simp; done) | (simp; omega) | omega | exact Nat.le_refl _))) hb1)
  obtain ⟨hc1, hf1⟩ := bcell hb1
  have hz1_0 : w.heap.size < w1.heap.size := by have := hb1.size; (try simp at this); omega
  have hz1_1 : w.heap.size + 1 < w1.heap.size := by have := hb1.size; (try simp at this); omega
  have hcl1_1_0 : w1.cell? ⟨w.heap.size + 1, 0, none⟩ = some (.slice none 0 0) := by rw [hc1 _ _ (by simp; try omega)]; simp
  have hfl1_1_0 : w1.frozen? ⟨w.heap.size + 1, 0, none⟩ = false := by rw [hf1 _ _ (by simp; try omega)]; simp
  have hv' := Lib.hid hv
  clear hb1 hv hc1 hf1
  obtain ⟨a', n', c', rfl⟩ := ownT_sl hv'.out
  go_wp2_with fail
  exact bodyPost_ret (v := .agg #[.slice a' n' c']) (by simp [results, Tryd.results19, go_sem, *]) rfl ⟨_, rfl, ownT_le (ownT_put hv'.out (by simp)) (by simp; omega), by have := hB.out; (repeat' (first | with_reducible exact Below.refl _ _ | with_reducible assumption | with_reducible apply Below.setCell | with_reducible apply Below.alloc | with_reducible apply Below.drew | with_reducible apply below_drewN | with_reducible exact Nat.le_refl _ | (simp; done) | (simp; omega) | omega | exact Nat.le_refl _))⟩
end Go.Proofs.YtfkdcconmecaoaaDoor

/- awake of layer 9. -/
namespace Go.Proofs.YtfkdcconmecaoaaDoor
open Go.RowKit
set_option linter.unusedVariables false
set_option linter.unusedSimpArgs false

def aV : List Ty := [⟨2, 2, 0, 0, 0, 0, 0, 0, 0⟩]
def aF : List Ty := [⟨2, 2, 0, 0, 0, 0, 0, 0, 0⟩, ⟨1, 0, 0, 0, 0, 0, 0, 0, 0⟩, ⟨3, 0, 0, 1, 0, 0, 0, 0, 3⟩]
def aR : Rw := ⟨0, 1, 0, 0, -1⟩
def aB (ad : Option Addr) : List Bn := [⟨2, false, ad, 3, 3, aF, rw0⟩, ⟨3, true, none, 0, 0, [], aR⟩]
def aC (ad : Option Addr) : List Bn := [⟨2, false, ad, 1, 1, aV, aR⟩]
def aO : List Ty := [⟨2, 2, 0, 0, 0, 0, 0, 0, 0⟩, ⟨1, 0, 0, 0, 0, 0, 0, 0, 0⟩, ⟨3, 0, 0, 1, 0, 0, 0, 0, 3⟩, ⟨1, 0, 0, 0, 0, 0, 0, 0, 0⟩, ⟨3, 0, 2, 3, 0, 1, 0, 0, -1⟩]
theorem aw1 (ad : Option Addr) : subT (aB ad) aF = aO ∧ subE (aB ad) aF = 0 := ⟨by kernel_rfl, by kernel_rfl⟩
theorem aw2 (ad : Option Addr) : rwV (subR (aB ad) ⟨0, 0, 0, 0, 3⟩) = .agg #[.int .i64 0, .int .i64 1, .int .i64 0, .int .i64 0, .int .i64 (-1)] ∧ subRE (aB ad) ⟨0, 0, 0, 0, 3⟩ = 0 := ⟨by kernel_rfl, by kernel_rfl⟩
theorem aw3 (ad : Option Addr) : subE (aB ad) [] = 900 := by kernel_rfl
theorem aw4 (ad : Option Addr) : subE (aC ad) aV = 900 := by kernel_rfl
def bnL1 (t : Bn) : List Value := [.int .i64 t.v, .bool t.ir, .slice t.ad t.n t.c, .int .i64 t.r.a, .int .i64 t.r.b, .int .i64 t.r.c, .int .i64 t.r.d, .int .i64 t.r.t]
def bnL (l : List Bn) : List Value := l.flatMap bnL1
theorem bnL_get : ∀ (l : List Bn) (i k : Nat), k < 8 → (bnL l)[i * 8 + k]? = (l[i]?).bind fun t => (bnL1 t)[k]?
  | [], i, k, _ => by simp [bnL]
  | t :: l, 0, k, hk => by
    simp only [bnL, List.flatMap_cons, Nat.zero_mul, Nat.zero_add]
    rw [List.getElem?_append_left (by simp [bnL1]; omega)]; rfl
  | t :: l, i + 1, k, hk => by
    have h := bnL_get l i k hk
    simp only [bnL, List.flatMap_cons] at *
    rw [List.getElem?_append_right (by simp [bnL1]; omega), show (i + 1) * 8 + k - (bnL1 t).length = i * 8 + k by simp [bnL1]; omega, h]
    simp
theorem bnAt_of {w : World} {g off : Nat} {l : List Bn} (h : ∀ j u, (bnL l)[j]? = some u → w.cell? ⟨g, off + j, none⟩ = some u) : ∀ i, i < l.length → BnAt w g off (l.getD i bn0) i := by
  intro i hi
  have hg : l[i]? = some (l.getD i bn0) := by rw [List.getD_eq_getElem?_getD, List.getElem?_eq_getElem hi]; rfl
  have k0 := h (i * 8 + 0) (.int .i64 (l.getD i bn0).v) (by rw [bnL_get l i 0 (by omega), hg]; rfl)
  have k1 := h (i * 8 + 1) (.bool (l.getD i bn0).ir) (by rw [bnL_get l i 1 (by omega), hg]; rfl)
  have k2 := h (i * 8 + 2) (.slice (l.getD i bn0).ad (l.getD i bn0).n (l.getD i bn0).c) (by rw [bnL_get l i 2 (by omega), hg]; rfl)
  have k3 := h (i * 8 + 3) (.int .i64 (l.getD i bn0).r.a) (by rw [bnL_get l i 3 (by omega), hg]; rfl)
  have k4 := h (i * 8 + 4) (.int .i64 (l.getD i bn0).r.b) (by rw [bnL_get l i 4 (by omega), hg]; rfl)
  have k5 := h (i * 8 + 5) (.int .i64 (l.getD i bn0).r.c) (by rw [bnL_get l i 5 (by omega), hg]; rfl)
  have k6 := h (i * 8 + 6) (.int .i64 (l.getD i bn0).r.d) (by rw [bnL_get l i 6 (by omega), hg]; rfl)
  have k7 := h (i * 8 + 7) (.int .i64 (l.getD i bn0).r.t) (by rw [bnL_get l i 7 (by omega), hg]; rfl)
  exact ⟨k0, k1, k2, k3, k4, k5, k6, k7⟩
theorem TyArg.alloc {w : World} {a : Option Addr} {n : Nat} {ts : List Ty} (o : Obj) (h : TyArg w a n ts) : TyArg (w.alloc o) a n ts := h.below (below_alc w o)
theorem BnArg.alloc {w : World} {a : Option Addr} {n : Nat} {ts : List Bn} (o : Obj) (h : BnArg w a n ts) : BnArg (w.alloc o) a n ts := h.below (below_alc w o)
theorem tyArg_nil (w : World) (a : Option Addr) : TyArg w a 0 [] := ⟨rfl, .inl rfl⟩
theorem tyArg_lit (w : World) (arr : Array Value) (T : TypeId) (g n : Nat) (ts : List Ty) (hg : g = w.heap.size) (hn : n = ts.length) (h : arr.toList = tyL ts) : TyArg (w.alloc (.cells arr T)) (some ⟨g, 0, none⟩) n ts := by
  refine ⟨hn, .inr ⟨g, 0, rfl, tySl_of fun j u hj => ?_, by simp; omega⟩⟩
  subst hg
  rw [Nat.zero_add, World.cell?_alloc_at _ _ _ _ rfl, ← hj, ← h, Array.getElem?_toList]
theorem bnArg_lit (w : World) (arr : Array Value) (T : TypeId) (g n : Nat) (xs : List Bn) (hg : g = w.heap.size) (hn : n = xs.length) (h : arr.toList = bnL xs) (ht : ∀ x ∈ xs, TyArg w x.ad x.n x.ns ∧ x.n ≤ 140737488351232) : BnArg (w.alloc (.cells arr T)) (some ⟨g, 0, none⟩) n xs := by
  refine ⟨hn, .inr ⟨g, 0, rfl, fun i hi => ⟨bnAt_of (fun j u hj => ?_) i hi, (ht _ (getB_mem hi)).1.alloc _, (ht _ (getB_mem hi)).2⟩, by simp; omega⟩⟩
  subst hg
  rw [Nat.zero_add, World.cell?_alloc_at _ _ _ _ rfl, ← hj, ← h, Array.getElem?_toList]
/-- one cell, a row: in memory. -/
def BoxAt (w : World) (g : Nat) (v : Value) : Prop := g < w.heap.size ∧ w.cell? ⟨g, 0, none⟩ = some v
theorem BoxAt.below {w w' : World} {g : Nat} {v : Value} (h : BoxAt w g v) (hb : Below w.heap.size w w') : BoxAt w' g v := ⟨by have := hb.size; have := h.1; omega, carry hb h.1 h.2⟩
def RowAt (w : World) (g : Nat) (r : Rw) : Prop := g < w.heap.size ∧ w.cell? ⟨g, 0, none⟩ = some (.int .i64 r.a) ∧ w.cell? ⟨g, 1, none⟩ = some (.int .i64 r.b) ∧ w.cell? ⟨g, 2, none⟩ = some (.int .i64 r.c) ∧ w.cell? ⟨g, 3, none⟩ = some (.int .i64 r.d) ∧ w.cell? ⟨g, 4, none⟩ = some (.int .i64 r.t)
theorem RowAt.below {w w' : World} {g : Nat} {r : Rw} (h : RowAt w g r) (hb : Below w.heap.size w w') : RowAt w' g r := ⟨by have := hb.size; have := h.1; omega, carry hb h.1 h.2.1, carry hb h.1 h.2.2.1, carry hb h.1 h.2.2.2.1, carry hb h.1 h.2.2.2.2.1, carry hb h.1 h.2.2.2.2.2⟩
theorem belA {w W : World} (o : Obj) (h : Below w.heap.size w W) : Below w.heap.size w (W.alloc o) := h.alloc h.size _
theorem BoxAt.alloc {w : World} {g : Nat} {v : Value} (o : Obj) (h : BoxAt w g v) : BoxAt (w.alloc o) g v := h.below (below_alc w o)
theorem RowAt.alloc {w : World} {g : Nat} {r : Rw} (o : Obj) (h : RowAt w g r) : RowAt (w.alloc o) g r := h.below (below_alc w o)
theorem tyArg_sl {w : World} {g off n : Nat} {ts : List Ty} (h : TyArg w (some ⟨g, off, none⟩) n ts) (h0 : ts ≠ []) : TySl w g off ts ∧ g < w.heap.size := by
  obtain ⟨_, h1 | ⟨b, o, h1, h2, h3⟩⟩ := h
  · exact absurd h1 h0
  · injection h1 with h1; injection h1 with h4 h5 _; subst h4; subst h5; exact ⟨h2, h3⟩
theorem box_lit (w : World) (T : TypeId) (g : Nat) (v : Value) (hg : g = w.heap.size) : BoxAt (w.alloc (.cells #[v] T)) g v := by
  subst hg
  exact ⟨by simp, by rw [World.cell?_alloc_at _ _ _ _ rfl]; rfl⟩
theorem row_lit (w : World) (T : TypeId) (g : Nat) (r : Rw) (hg : g = w.heap.size) : RowAt (w.alloc (.cells #[.int .i64 r.a, .int .i64 r.b, .int .i64 r.c, .int .i64 r.d, .int .i64 r.t] T)) g r := by
  subst hg
  refine ⟨by simp, ?_, ?_, ?_, ?_, ?_⟩ <;> (rw [World.cell?_alloc_at _ _ _ _ rfl]; rfl)
end Go.Proofs.YtfkdcconmecaoaaDoor

/- The first bind counts: plain facts. -/
namespace Go.Proofs.YtfkdcconmecaoaaDoor
set_option linter.unusedVariables false
set_option linter.unusedSimpArgs false

def fOne (x : Int) (a : Option Addr) (n c : Nat) (ts : List Ty) : List Bn := [⟨x, false, a, n, c, ts, rw0⟩]
def fTwo (x : Int) (a : Option Addr) (n c : Nat) (ts : List Ty) (a' : Option Addr) (n' c' : Nat) (ts' : List Ty) : List Bn :=
  [⟨x, true, none, 0, 0, [], ⟨0, 0, 0, 0, x⟩⟩, ⟨x, false, a, n, c, ts, rw0⟩, ⟨x, false, a', n', c', ts', rw0⟩, ⟨x, true, none, 0, 0, [], ⟨0, 0, 0, 0, -1⟩⟩]
def ty00 : List Ty := [⟨0, 0, 0, 0, 0, 0, 0, 0, 0⟩]
theorem subE_bd (xs : List Bn) (ts : List Ty) : 0 ≤ subE xs ts ∧ subE xs ts ≤ 900 := by unfold subE; split <;> omega
theorem subT_len (xs : List Bn) (ts : List Ty) : (subT xs ts).length ≤ 256 := by
  unfold subT
  split
  · split
    · rename_i h
      rw [fl_len]
      unfold TT.fits at h
      simp only [Bool.and_eq_true, decide_eq_true_eq] at h
      exact h.1
    · simp
  · simp
theorem fOne_ok (x : Int) (hx : 0 ≤ x ∧ x < 4) (a : Option Addr) (n c : Nat) (ts : List Ty) : bsV (fOne x a n c ts) = tyV ts := by
  unfold bsV fOne Bn.ok
  simp [rw0, rwQ]
  intro _; omega
theorem fTwo_ok (x : Int) (hx : 0 ≤ x ∧ x < 4) (a : Option Addr) (n c : Nat) (ts : List Ty) (a' : Option Addr) (n' c' : Nat) (ts' : List Ty) : bsV (fTwo x a n c ts a' n' c' ts') = (tyV ts && tyV ts') := by
  have h1 : (⟨0, 0, 0, 0, x⟩ : Rw).may = true := decide_eq_true (by simp only []; omega)
  have h2 : (⟨0, 0, 0, 0, -1⟩ : Rw).may = true := by decide
  have h3 : decide (0 ≤ x ∧ x < 4096) = true := decide_eq_true (by omega)
  unfold bsV fTwo Bn.ok
  simp [rw0, rwQ, h1, h2]
  cases tyV ts <;> cases tyV ts' <;> simp <;> omega
theorem sf_tr : tyV ty00 = true := by kernel_rfl
theorem sf_three (x : Int) (hx : 0 ≤ x ∧ x < 4) (a : Option Addr) (n c : Nat) (ts : List Ty) : subE (fOne x a n c ts) ty00 = if tyV ts then 0 else 900 := by
  unfold subE
  rw [fOne_ok x hx, sf_tr]
  have : ∀ σ ρ, (putT σ ρ (treeOf ty00)).fits = true := fun σ ρ => by kernel_rfl
  rw [this]; cases tyV ts <;> rfl
theorem putT_eq {σ : Int → Option TT} {ρ ρ' : Int → Option Rw} (h : ∀ r, putR ρ r = putR ρ' r) : ∀ T, putT σ ρ T = putT σ ρ' T
  | .base _ => rfl
  | .var _ => rfl
  | .fn a r b => by unfold putT; rw [putT_eq h a, putT_eq h b, h]
theorem sf_sg (x : Int) (a : Option Addr) (n c : Nat) (ts : List Ty) (a' : Option Addr) (n' c' : Nat) (ts' : List Ty) : sgB (fTwo x a n c ts a' n' c' ts') = sgB (fOne x a n c ts) := by
  funext v
  unfold sgB fst fTwo fOne
  simp only [List.findIdx?_cons, List.findIdx?_nil]
  cases h : (x == v) <;> simp
theorem sf_rh1 (x : Int) (a : Option Addr) (n c : Nat) (ts : List Ty) (v : Int) : rhB (fOne x a n c ts) v = none := by
  unfold rhB fst fOne
  simp [List.findIdx?_cons]
theorem sf_rh2 (x : Int) (a : Option Addr) (n c : Nat) (ts : List Ty) (a' : Option Addr) (n' c' : Nat) (ts' : List Ty) (v : Int) : rhB (fTwo x a n c ts a' n' c' ts') v = if v = x then some ⟨0, 0, 0, 0, x⟩ else none := by
  unfold rhB fst fTwo
  by_cases h : v = x
  · subst h; simp [List.findIdx?_cons]
  · have h1 : (x == v) = false := by rw [beq_eq_false_iff_ne]; exact fun e => h e.symm
    simp [List.findIdx?_cons, h1, h]
theorem sf_put (x : Int) (a : Option Addr) (n c : Nat) (ts : List Ty) (a' : Option Addr) (n' c' : Nat) (ts' : List Ty) (T : TT) :
    putT (sgB (fTwo x a n c ts a' n' c' ts')) (rhB (fTwo x a n c ts a' n' c' ts')) T = putT (sgB (fOne x a n c ts)) (rhB (fOne x a n c ts)) T := by
  rw [sf_sg]
  apply putT_eq
  intro r
  unfold putR
  rw [sf_rh1, sf_rh2]
  by_cases h0 : r.t < 0
  · rw [if_pos h0, if_pos h0]
  · rw [if_neg h0, if_neg h0]
    by_cases h : r.t = x
    · rw [if_pos h]; simp only [Int.zero_add]; rw [← h]
    · rw [if_neg h]
theorem sf_bad (x : Int) (hx : 0 ≤ x ∧ x < 4) (us : List Ty) (a : Option Addr) (n c : Nat) (ts : List Ty) (a' : Option Addr) (n' c' : Nat) (ts' : List Ty) (h : subE (fOne x a' n' c' ts') ty00 ≠ 0) : subE (fTwo x a n c ts a' n' c' ts') us = 900 := by
  rw [sf_three x hx] at h
  have h : tyV ts' = false := by cases h' : tyV ts' <;> simp_all
  unfold subE
  rw [fTwo_ok x hx, h]; simp
theorem sf_good (x : Int) (hx : 0 ≤ x ∧ x < 4) (us : List Ty) (a : Option Addr) (n c : Nat) (ts : List Ty) (a' : Option Addr) (n' c' : Nat) (ts' : List Ty) (h : subE (fOne x a' n' c' ts') ty00 = 0) :
    subE (fOne x a n c ts) us = subE (fTwo x a n c ts a' n' c' ts') us ∧ subT (fOne x a n c ts) us = subT (fTwo x a n c ts a' n' c' ts') us := by
  rw [sf_three x hx] at h
  have h : tyV ts' = true := by cases h' : tyV ts' <;> simp_all
  unfold subE subT
  rw [fTwo_ok x hx, fOne_ok x hx, h, sf_put, Bool.and_true]
  exact ⟨rfl, rfl⟩
end Go.Proofs.YtfkdcconmecaoaaDoor
