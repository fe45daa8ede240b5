/- typ.Text. -/
import Derived.Test.YtfkdcconmecaoaaDoorTxD
import Derived.Test.YtfkdcconmecaoaaDoorMmD
import Derived.Deep.RegionHeld3
import Derived.Test.YtfkdcconmecaoaaDoorTxA
/- typ.Text. -/
namespace Go.Proofs.YtfkdcconmecaoaaDoor
open Go.RowKit Go.Maps
set_option linter.unusedVariables false
set_option linter.unusedSimpArgs false

def txV (ts : List Ty) : ByteArray := if tyV ts then ⟨(tx (treeOf ts) [] []).toArray⟩ else ⟨#[]⟩
def txE (ts : List Ty) : Int := if tyV ts then 0 else 700
/-- a writer that was just made. -/
def TxMid (w0 : World) (b off cp : Nat) (ts : List Ty) (s4 : Value) (W : World) : Prop := ∃ g p1 m1 p2 m2, s4 = .pointer (some ⟨g, 0, none⟩) ∧ WrW w0 W g p1 m1 p2 m2 b off cp ts [] [] []
theorem wrt_new {w : World} {B g : Nat} {nd f1 f2 : Value} (hB : B ≤ g) (h : w.heap[g]? = some (.cells #[.pointer none, .slice none 0 0, nd, f1, f2] 139 (0, 0))) : WrtAt w B g [] nd f1 f2 :=
  .inl ⟨hB, .slice none 0 0, h, World.ownsRow_nil _ _ _ _⟩
theorem set5 {w : World} {g : Nat} {nd f1 f2 : Value} (h : w.heap[g]? = some (.cells #[.pointer none, .slice none 0 0, .slice none 0 0, .nilFunc, .nilFunc] 139 (0, 0))) : (((((w.setCell ⟨g, 0, none⟩ (.pointer none)).setCell ⟨g, 1, none⟩ (.slice none 0 0)).setCell ⟨g, 2, none⟩ nd).setCell ⟨g, 3, none⟩ f1).setCell ⟨g, 4, none⟩ f2).heap[g]? = some (.cells #[.pointer none, .slice none 0 0, nd, f1, f2] 139 (0, 0)) := by
  simp [World.setCell, Array.getElem?_modify, h]
theorem bar5 {w : World} {g : Nat} {v0 v1 v2 v3 v4 : Value} : Bar (fun k => k = g) w (((((w.setCell ⟨g, 0, none⟩ v0).setCell ⟨g, 1, none⟩ v1).setCell ⟨g, 2, none⟩ v2).setCell ⟨g, 3, none⟩ v3).setCell ⟨g, 4, none⟩ v4) :=
  ((((Bar.set (S := fun k => k = g) ⟨g, 0, none⟩ v0 rfl).trans (Bar.set (S := fun k => k = g) ⟨g, 1, none⟩ v1 rfl) fun _ _ h => h).trans (Bar.set (S := fun k => k = g) ⟨g, 2, none⟩ v2 rfl) fun _ _ h => h).trans (Bar.set (S := fun k => k = g) ⟨g, 3, none⟩ v3 rfl) fun _ _ h => h).trans (Bar.set (S := fun k => k = g) ⟨g, 4, none⟩ v4 rfl) fun _ _ h => h
theorem nmMap_of {w : World} {m : Nat} (h : w.heap[m]? = some (.map #[] 0)) : NmMap w m [] :=
  ⟨.map [], ⟨#[], 0, h, ⟨by simp, Go.MapKept.stamped_empty 0, by simp⟩, Nat.le_refl _, rfl⟩, rfl, fun v => ⟨rfl, fun h => by cases h⟩⟩
theorem mid_new {w w1 W : World} {b off cp : Nat} {ts : List Ty} {g p1 m1 p2 m2 : Nat} (hB : Below w.heap.size w w1) (hW : Below w1.heap.size w1 W) (hg : w1.heap.size ≤ g) (h1 : w1.heap.size ≤ m1) (h2 : w1.heap.size ≤ m2) (hne : m1 ≠ m2)
    (e0 : W.heap[g]? = some (.cells #[.pointer none, .slice none 0 0, .slice (some ⟨b, off, none⟩) ts.length cp, byV p1, byV p2] 139 (0, 0))) (e1 : W.heap[p1]? = some (.cells #[.map (some m1)] 119 (0, 0))) (e2 : W.heap[p2]? = some (.cells #[.map (some m2)] 119 (0, 0))) (e3 : W.heap[m1]? = some (.map #[] 0)) (e4 : W.heap[m2]? = some (.map #[] 0)) :
    TxMid w b off cp ts (.pointer (some ⟨g, 0, none⟩)) W :=
  ⟨g, p1, m1, p2, m2, rfl, wrt_new (by have := hB.size; omega) e0, ⟨e1, nmMap_of e3⟩, ⟨e2, nmMap_of e4⟩, belT hB hW, by have := hB.size; omega, by have := hB.size; omega, hne⟩
theorem hpA {w : World} {o : Obj} {i : Nat} (h : i < w.heap.size) : (w.alloc o).heap[i]? = w.heap[i]? := Lib.alloc_old w o i h
theorem hpB {w : World} {o : Obj} {i : Nat} (h : i = w.heap.size) : (w.alloc o).heap[i]? = some o := by subst h; exact alloc_last _ _
set_option maxRecDepth 100000 in
set_option maxHeartbeats 8000000 in
theorem tyText_any (a : Option Addr) (n c : Nat) (ts : List Ty) (w : World) (h : Hid (TyArg w a n ts)) (hl : n ≤ 140737488351232) (hT : Hid (TabW w)) :
    Calls Tryd.prog 43 #[.agg #[.slice a n c]] w fun e w' => e = .returned (.tuple #[.string (txV ts), .int .i64 (txE ts)]) ∧ Below w.heap.size w w' := by
  have kM := Lib.hid fun (W : World) (hb : Below w.heap.size w W) => tyMay_any a n c ts W (Lib.hid (h.out.below hb)) hl
  have hX := Lib.hid (show BoxAt (w.alloc (.cells #[.slice a n c] 24)) w.heap.size (.slice a n c) from box_lit _ _ _ _ rfl)
  cases htv : tyV ts
  · have hv : Hid (txV ts = ⟨#[]⟩ ∧ txE ts = 700) := Lib.hid (by unfold txV txE; rw [htv]; exact ⟨rfl, rfl⟩)
    rw [htv] at kM
    clear htv h
    go_enter Tryd.func43, Tryd.ntmps43
    go_wp2_with fail
    refine (kM.out _ (below_alc w _)).mono ?_
    rintro e w1 ⟨rfl, hb1⟩
    have hB := Lib.hid (belT (below_alc w _) hb1)
    clear hb1
    go_wp2_with fail
    go_ret2
    exact ⟨by rw [hv.out.1, hv.out.2]; rfl, hB.out⟩
  · have hto := tyV_of htv
    have hv : Hid (txV ts = ⟨(tx (treeOf ts) [] []).toArray⟩ ∧ txE ts = 0) := Lib.hid (by unfold txV txE; rw [htv]; exact ⟨rfl, rfl⟩)
    obtain ⟨rfl, _⟩ := h.out
    obtain ⟨b, off, rfl, hA4, hA5⟩ := tyArg_some h.out htv
    have h256 := (tyV_le htv).2
    have hpos : 1 ≤ ts.length := by have := (treeOf ts).sz_pos; omega
    have kW := Lib.hid fun (g p1 m1 p2 m2 : Nat) (W : World) (hw : WrW w W g p1 m1 p2 m2 b off c ts [] [] []) =>
      (show Calls Tryd.prog 75 #[.pointer (some ⟨g, 0, none⟩), .int .i64 ((ts.length : Int) - 1)] W (WrPost w W g p1 m1 p2 m2 b off c ts (tx (treeOf ts) [] []) (tvs (treeOf ts) []) (rvs (treeOf ts) [])) from by
        have := write_any w g p1 m1 p2 m2 b off c ts hT (Lib.hid hA4) hA5 h256 (treeOf ts) (ts.length - 1) W [] [] [] (Lib.hid hw) hto.2.2.2.2 hto.1 (by simp; omega) (by simp; omega) (by simp; omega)
        rw [show ((ts.length - 1 : Nat) : Int) = (ts.length : Int) - 1 by omega] at this
        exact this)
    have hne := Lib.hid (tx_ne (treeOf ts) [] [])
    generalize tx (treeOf ts) [] [] = L at kW hne hv
    generalize tvs (treeOf ts) [] = NA at kW
    generalize rvs (treeOf ts) [] = NB at kW
    rw [htv] at kM
    unfold WrPost at kW
    clear htv hto h hA4 hA5
    go_enter Tryd.func43, Tryd.ntmps43
    go_wp2_with fail
    refine (kM.out _ (below_alc w _)).mono ?_
    rintro e w1 ⟨rfl, hb1⟩
    have hX := Lib.hid (hX.out.below hb1)
    have hB := Lib.hid (belT (below_alc w (.cells #[.slice (some ⟨b, off, none⟩) ts.length c] 24)) hb1)
    clear hb1 kM
    go_upto_region 3 with fail
    go_cut [4] (fun s4 W => TxMid w b off c ts s4 W ∧ BoxAt W w.heap.size (.slice (some ⟨b, off, none⟩) ts.length c))
    case first =>
      obtain ⟨x0, x1⟩ := hX.out
      have hS : ∀ W, Below w1.heap.size w1 W → (W.cell? ⟨w.heap.size, 0, none⟩ = some (.slice (some ⟨b, off, none⟩) ts.length c) ∧ Below w1.heap.size w1 W) := fun W hb => ⟨carry hb x0 x1, hb⟩
      have hzw : ∀ W : World, (zeroValue 139).run Tryd.prog W = .ok (.agg #[.pointer none, .slice none 0 0, .slice none 0 0, .nilFunc, .nilFunc]) W := fun W => by kernel_rfl
      have hsb : ∀ W : World, (sizeOf 137).run Tryd.prog W = .ok 2 W := fun W => by kernel_rfl
      have hsf : ∀ W : World, (sizeOf 129).run Tryd.prog W = .ok 1 W := fun W => by kernel_rfl
      have hsn : ∀ W : World, (sizeOf 22).run Tryd.prog W = .ok 1 W := fun W => by kernel_rfl
      have hst : ∀ (a : Addr) (f : Fn) (x y : Array Value) (m : Mode) (W : World), (store a (.func f x y) m).run Tryd.prog W = stored Tryd.prog W a (.func f x y) m := fun a f x y m W => run_store _ _ _ _ _ rfl
      unfold byV at *
      go_region_held3 (fun W => W.cell? ⟨w.heap.size, 0, none⟩ = some (.slice (some ⟨b, off, none⟩) ts.length c) ∧ Below w1.heap.size w1 W)
        (exact hS _ (by (repeat' (first | with_reducible exact Below.refl _ _ | with_reducible assumption | with_reducible apply Below.setCell | with_reducible apply Below.alloc | with_reducible apply Below.drew | with_reducible apply below_drewN | with_reducible exact Nat.le_refl _ | (simp; done) | (simp; omega) | omega | exact Nat.le_refl _))))
        ((first | (go_at_call 74; refine (byFirst_any _).mono ?_; rintro e w' ⟨rfl, rfl⟩; unfold byV)))
      all_goals (go_wp2_with fail; go_meet)
      · refine ⟨?_, ⟨by simp; omega, (by assumption : _ ∧ _).1⟩⟩
        have hBo := hB.out
        refine mid_new (p1 := w1.heap.size + 1) (p2 := w1.heap.size + 1 + 1 + 1) (m1 := w1.heap.size) (m2 := w1.heap.size + 1 + 1) hBo (Below.drew (belA _ (belA _ (belA _ (belA _ (belA _ (Below.refl _ _))))))) (by omega) (by omega) (by omega) (by omega) ?_ ?_ ?_ ?_ ?_
        all_goals (show (World.alloc _ _).heap[_]? = _)
        all_goals (repeat (first | exact hpB (by first | (simp; done) | (simp; omega)) | rw [hpA (by first | (simp; done) | (simp; omega))]))
      · refine ⟨?_, ⟨by simp; omega, (by assumption : _ ∧ _).1⟩⟩
        have hBo := hB.out
        refine mid_new (p1 := w1.heap.size + 1) (p2 := w1.heap.size + 1 + 1 + 1 + 1) (m1 := w1.heap.size) (m2 := w1.heap.size + 1 + 1 + 1) hBo (Below.drew (belA _ (belA _ (belA _ (belA _ (belA _ (Below.refl _ _))))))) (by omega) (by omega) (by omega) (by omega) ?_ ?_ ?_ ?_ ?_
        all_goals (show (World.alloc _ _).heap[_]? = _)
        all_goals (repeat (first | exact hpB (by first | (simp; done) | (simp; omega)) | rw [hpA (by first | (simp; done) | (simp; omega))]))
      · refine ⟨?_, ⟨by simp; omega, (by assumption : _ ∧ _).1⟩⟩
        have hBo := hB.out
        refine mid_new (p1 := w1.heap.size + 1 + 1) (p2 := w1.heap.size + 1 + 1 + 1 + 1) (m1 := w1.heap.size + 1) (m2 := w1.heap.size + 1 + 1 + 1) hBo (Below.drew (belA _ (belA _ (belA _ (belA _ (belA _ (Below.refl _ _))))))) (by omega) (by omega) (by omega) (by omega) ?_ ?_ ?_ ?_ ?_
        all_goals (show (World.alloc _ _).heap[_]? = _)
        all_goals (repeat (first | exact hpB (by first | (simp; done) | (simp; omega)) | rw [hpA (by first | (simp; done) | (simp; omega))]))
    case rest =>
      obtain ⟨⟨g, p1, m1, p2, m2, rfl, hW⟩, hX3⟩ := hcut
      have hW := Lib.hid hW
      have hX3 := Lib.hid hX3
      obtain ⟨x0, x1⟩ := hX3.out
      go_wp2_with fail
      refine (kW.out g p1 m1 p2 m2 _ hW.out).mono ?_
      rintro e w4 ⟨rfl, hW4, hb4⟩
      clear x0 x1 hX3 hb4
      have hW4 := Lib.hid hW4
      obtain ⟨c0, _⟩ := hW4.out.wr.cells
      go_wp2_with fail
      refine (wr_text _ g L _ _ _ _ (Lib.hid hW4.out.wr) hne.out).mono ?_
      rintro e w5 ⟨rfl, hb5⟩
      have hF := Lib.hid (hW4.out.bel.trans hb5)
      clear hb5
      go_wp2_with fail
      go_ret2
      exact ⟨by rw [hv.out.1, hv.out.2]; rfl, hF.out⟩
end Go.Proofs.YtfkdcconmecaoaaDoor

/- match.Equal. -/
namespace Go.Proofs.YtfkdcconmecaoaaDoor
open Go.RowKit Go.Maps
set_option linter.unusedVariables false
set_option linter.unusedSimpArgs false

def eqV (ts us : List Ty) : Bool := (tyV ts && tyV us) && decide (txV ts = txV us)
def eqE (ts us : List Ty) : Int := if tyV ts && tyV us then 0 else 1100
set_option maxRecDepth 100000 in
set_option maxHeartbeats 8000000 in
theorem equal_any (a1 a2 : Option Addr) (n1 n2 c1 c2 : Nat) (ts us : List Ty) (w : World) (h : Hid (TyArg w a1 n1 ts)) (h2 : Hid (TyArg w a2 n2 us)) (hl : n1 ≤ 140737488351232) (hl2 : n2 ≤ 140737488351232) (hT : Hid (TabW w)) :
    Calls Tryd.prog 21 #[.agg #[.slice a1 n1 c1], .agg #[.slice a2 n2 c2]] w fun e w' => e = .returned (.tuple #[.bool (eqV ts us), .int .i64 (eqE ts us)]) ∧ Below w.heap.size w w' := by
  have kM := Lib.hid fun (W : World) (hb : Below w.heap.size w W) => tyText_any a1 n1 c1 ts W (Lib.hid (h.out.below hb)) hl (Lib.hid (tab_keep hT.out hb (Nat.le_refl _)))
  have kN := Lib.hid fun (W : World) (hb : Below w.heap.size w W) => tyText_any a2 n2 c2 us W (Lib.hid (h2.out.below hb)) hl2 (Lib.hid (tab_keep hT.out hb (Nat.le_refl _)))
  have hX := Lib.hid (show BoxAt ((w.alloc (.cells #[.slice a1 n1 c1] 24)).alloc (.cells #[.slice a2 n2 c2] 24)) w.heap.size (.slice a1 n1 c1) from BoxAt.alloc _ (box_lit _ _ _ _ rfl))
  have hY := Lib.hid (show BoxAt ((w.alloc (.cells #[.slice a1 n1 c1] 24)).alloc (.cells #[.slice a2 n2 c2] 24)) (w.heap.size + 1) (.slice a2 n2 c2) from box_lit _ _ _ _ (by simp))
  cases htv : tyV ts
  · have hv : Hid (eqV ts us = false ∧ eqE ts us = 1100) := Lib.hid (by unfold eqV eqE; rw [htv]; exact ⟨rfl, rfl⟩)
    rw [show txE ts = 700 from by unfold txE; rw [htv]; rfl] at kM
    generalize txV ts = s1 at kM
    clear htv h h2 kN hY
    go_enter Tryd.func21, Tryd.ntmps21
    go_wp2_with fail
    refine (kM.out _ (below_alc2 w _ _)).mono ?_
    rintro e w1 ⟨rfl, hb1⟩
    have hB := Lib.hid (belT (below_alc2 w _ _) hb1)
    clear hb1
    go_wp2_with fail
    go_ret2
    exact ⟨by rw [hv.out.1, hv.out.2]; rfl, hB.out⟩
  cases huv : tyV us
  · have hv : Hid (eqV ts us = false ∧ eqE ts us = 1100) := Lib.hid (by unfold eqV eqE; rw [htv, huv]; exact ⟨rfl, rfl⟩)
    rw [show txE ts = 0 from by unfold txE; rw [htv]; rfl] at kM
    rw [show txE us = 700 from by unfold txE; rw [huv]; rfl] at kN
    generalize txV ts = s1 at kM
    generalize txV us = s2 at kN
    clear htv huv h h2
    go_enter Tryd.func21, Tryd.ntmps21
    go_wp2_with fail
    refine (kM.out _ (below_alc2 w _ _)).mono ?_
    rintro e w1 ⟨rfl, hb1⟩
    have hB := belT (below_alc2 w (.cells #[.slice a1 n1 c1] 24) (.cells #[.slice a2 n2 c2] 24)) hb1
    obtain ⟨x0, x1⟩ := hY.out.below hb1
    clear hb1
    go_wp2_with fail
    refine (kN.out _ hB).mono ?_
    rintro e w2 ⟨rfl, hb2⟩
    go_wp2_with fail
    go_ret2
    exact ⟨by rw [hv.out.1, hv.out.2]; rfl, belT hB hb2⟩
  · have hv : Hid (eqV ts us = decide (txV ts = txV us) ∧ eqE ts us = 0) := Lib.hid (by unfold eqV eqE; rw [htv, huv]; exact ⟨rfl, rfl⟩)
    rw [show txE ts = 0 from by unfold txE; rw [htv]; rfl] at kM
    rw [show txE us = 0 from by unfold txE; rw [huv]; rfl] at kN
    generalize txV ts = s1 at kM hv
    generalize txV us = s2 at kN hv
    obtain ⟨q, hq⟩ : ∃ q, (s1.toList == s2.toList) = q := ⟨_, rfl⟩
    have hv : Hid (eqV ts us = q ∧ eqE ts us = 0) := Lib.hid ⟨by rw [hv.out.1, ← hq, Bool.eq_iff_iff, decide_eq_true_iff, beq_iff_eq, Lib.toList_data, Lib.toList_data]; exact ⟨fun h => by rw [h], fun h => ba_ext h⟩, hv.out.2⟩
    clear htv huv h h2
    go_enter Tryd.func21, Tryd.ntmps21
    go_wp2_with fail
    refine (kM.out _ (below_alc2 w _ _)).mono ?_
    rintro e w1 ⟨rfl, hb1⟩
    have hB := belT (below_alc2 w (.cells #[.slice a1 n1 c1] 24) (.cells #[.slice a2 n2 c2] 24)) hb1
    obtain ⟨x0, x1⟩ := hY.out.below hb1
    clear hb1
    go_wp2_with fail
    refine (kN.out _ hB).mono ?_
    rintro e w2 ⟨rfl, hb2⟩
    go_wp2_with fail
    go_ret2
    exact ⟨by rw [hv.out.1, hv.out.2]; rfl, belT hB hb2⟩
theorem eqV_of {ts us : List Ty} (h1 : tyV ts = true) (h2 : tyV us = true) : eqV ts us = (instT (treeOf ts) (treeOf us) && instT (treeOf us) (treeOf ts)) ∧ eqE ts us = 0 := by
  rw [both_iff (tyV_of h1).1 (tyV_of h2).1]
  unfold eqV eqE txV
  rw [h1, h2]
  refine ⟨?_, rfl⟩
  simp only [Bool.and_self, Bool.true_and, if_true]
  rw [decide_eq_decide]
  exact ⟨fun h => by injection h with h; have := congrArg Array.toList h; simpa using this, fun h => by rw [h]⟩
theorem eq_no {ts us : List Ty} (h : (tyV ts && tyV us) = false) : eqV ts us = false ∧ eqE ts us = 1100 := by unfold eqV eqE; rw [h]; exact ⟨rfl, rfl⟩
/-! Layer 11's awake. -/
def mG : List Ty := [⟨2, 5, 0, 0, 0, 0, 0, 0, 0⟩, ⟨2, 5, 0, 0, 0, 0, 0, 0, 0⟩, ⟨3, 0, 0, 1, 0, 0, 0, 0, 2⟩]
def mS : List Ty := [⟨0, 0, 0, 0, 0, 0, 0, 0, 0⟩, ⟨0, 0, 0, 0, 0, 0, 0, 0, 0⟩, ⟨3, 0, 0, 1, 0, 0, 0, 1, -1⟩]
theorem ma1 : instV mG mS = true ∧ instE mG mS = 0 := ⟨by kernel_rfl, by kernel_rfl⟩
theorem ma2 : instV mS mG = false ∧ instE mS mG = 0 := ⟨by kernel_rfl, by kernel_rfl⟩
theorem ma3 : eqV mG mS = false ∧ eqE mG mS = 0 := by
  obtain ⟨h1, h2⟩ := eqV_of (ts := mG) (us := mS) (by kernel_rfl) (by kernel_rfl)
  exact ⟨h1.trans (by kernel_rfl), h2⟩
theorem ma4 : eqV mG [] = false ∧ eqE mG [] = 1100 := eq_no (by kernel_rfl)
set_option maxRecDepth 100000 in
set_option maxHeartbeats 8000000 in
theorem awake11_any (w : World) (hT : Hid (TabW w)) : Calls Tryd.prog 23 #[] w fun e w' => e = .returned (.bool true) ∧ Below w.heap.size w w' := by
  go_enter Tryd.func23, Tryd.ntmps23
  go_wp2_with fail
  refine (instance_any _ _ _ _ _ _ mG mS _ (Lib.hid (by exact TyArg.alloc _ (TyArg.alloc _ (TyArg.alloc _ (TyArg.alloc _ (tyArg_lit _ _ _ _ _ _ rfl rfl rfl)))))) (Lib.hid (by exact TyArg.alloc _ (tyArg_lit _ _ _ _ _ _ (by simp) rfl rfl))) (by omega) (by omega)).mono ?_
  rintro e w1 ⟨rfl, hb1⟩
  rw [ma1.1, ma1.2]
  have hG := Lib.hid (show TyArg w1 (some ⟨w.heap.size, 0, none⟩) 3 mG from TyArg.below (by exact TyArg.alloc _ (TyArg.alloc _ (TyArg.alloc _ (TyArg.alloc _ (tyArg_lit _ _ _ _ _ _ rfl rfl rfl))))) hb1)
  have hS := Lib.hid (show TyArg w1 (some ⟨w.heap.size + 1 + 1 + 1, 0, none⟩) 3 mS from TyArg.below (by exact TyArg.alloc _ (tyArg_lit _ _ _ _ _ _ (by simp) rfl rfl)) hb1)
  have hP := Lib.hid (show BoxAt w1 (w.heap.size + 1) (.slice (some ⟨w.heap.size, 0, none⟩) 3 3) from BoxAt.below (by exact BoxAt.alloc _ (BoxAt.alloc _ (BoxAt.alloc _ (box_lit _ _ _ _ (by simp))))) hb1)
  have hQ := Lib.hid (show BoxAt w1 (w.heap.size + 1 + 1 + 1 + 1) (.slice (some ⟨w.heap.size + 1 + 1 + 1, 0, none⟩) 3 3) from BoxAt.below (by exact box_lit _ _ _ _ (by simp)) hb1)
  have hB := Lib.hid (belT (show Below w.heap.size w _ from by (repeat' (first | with_reducible exact Below.refl _ _ | with_reducible assumption | with_reducible apply Below.setCell | with_reducible apply Below.alloc | with_reducible apply Below.drew | with_reducible apply below_drewN | with_reducible exact Nat.le_refl _ | (simp; done) | (simp; omega) | omega | exact Nat.le_refl _))) hb1)
  clear hb1
  obtain ⟨p0, p1⟩ := hP.out
  obtain ⟨q0, q1⟩ := hQ.out
  go_wp2_with fail
  clear p0 p1 q0 q1
  refine (instance_any _ _ _ _ _ _ mS mG _ hS hG (by omega) (by omega)).mono ?_
  rintro e w2 ⟨rfl, hb2⟩
  rw [ma2.1, ma2.2]
  have hG := Lib.hid (hG.out.below hb2)
  have hS := Lib.hid (hS.out.below hb2)
  have hP := Lib.hid (hP.out.below hb2)
  have hQ := Lib.hid (hQ.out.below hb2)
  have hB := Lib.hid (belT hB.out hb2)
  clear hb2
  obtain ⟨p0, p1⟩ := hP.out
  obtain ⟨q0, q1⟩ := hQ.out
  go_wp2_with fail
  clear p0 p1 q0 q1
  refine (equal_any _ _ _ _ _ _ mG mS _ hG hS (by omega) (by omega) (Lib.hid (tab_keep hT.out hB.out (Nat.le_refl _)))).mono ?_
  rintro e w3 ⟨rfl, hb3⟩
  rw [ma3.1, ma3.2]
  have hG := Lib.hid (hG.out.below hb3)
  have hP := Lib.hid (hP.out.below hb3)
  have hB := Lib.hid (belT hB.out hb3)
  clear hb3 hQ hS
  obtain ⟨p0, p1⟩ := hP.out
  go_wp2_with fail
  clear p0 p1
  refine (equal_any _ _ _ _ _ _ mG [] _ hG (Lib.hid (tyArg_nil _ _)) (by omega) (by omega) (Lib.hid (tab_keep hT.out hB.out (Nat.le_refl _)))).mono ?_
  rintro e w4 ⟨rfl, hb4⟩
  rw [ma4.1, ma4.2]
  have hB := Lib.hid (belT hB.out hb4)
  clear hb4 hP hG
  go_wp2_with ((go_at_call 11; refine (num_any _ _ (by omega) (by omega)).mono ?_; rintro e w' ⟨rfl, rfl⟩))
  go_ret
  exact ⟨rfl, hB.out⟩
end Go.Proofs.YtfkdcconmecaoaaDoor
