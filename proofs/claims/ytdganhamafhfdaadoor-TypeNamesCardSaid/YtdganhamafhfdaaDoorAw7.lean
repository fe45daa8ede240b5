/- typ.Fun. -/
import Derived.Test.YtdganhamafhfdaaDoorVrC
import Derived.Test.YtdganhamafhfdaaDoorRcA
import Derived.Test.YtdganhamafhfdaaDoorTxA
import Derived.Test.YtdganhamafhfdaaDoorEqA
import Derived.Test.YtdganhamafhfdaaDoorRwG
/- typ.Fun. -/
namespace Go.Proofs.YtdganhamafhfdaaDoor
open Go.RowKit
set_option linter.unusedVariables false
set_option linter.unusedSimpArgs false

/-- a function's nodes. -/
def arwL (us : List Ty) (r : Rw) (bs : List Ty) : List Ty := us ++ bs.map (shT us.length) ++ [fnT ((us.length : Int) - 1) (((us.length + bs.length : Nat) : Int) - 1) r]
def funOk (us : List Ty) (r : Rw) (bs : List Ty) : Bool := tyV us && tyV bs && r.may && decide (us.length + bs.length + 1 ≤ 256)
def funT (us : List Ty) (r : Rw) (bs : List Ty) : List Ty := if funOk us r bs then arwL us r bs else []
def funE (us : List Ty) (r : Rw) (bs : List Ty) : Int := if funOk us r bs then 0 else 700
/-- the memory that Fun has of its own. -/
def FnW (w : World) (r : Rw) (a1 : Option Addr) (n1 c1 : Nat) (a2 : Option Addr) (n2 c2 : Nat) (W : World) : Prop :=
  w.heap.size + 3 < W.heap.size ∧ W.cell? ⟨w.heap.size, 0, none⟩ = some (.slice a1 n1 c1) ∧ RowAt W (w.heap.size + 1) r ∧ W.cell? ⟨w.heap.size + 1 + 1, 0, none⟩ = some (.slice a2 n2 c2) ∧ W.cell? ⟨w.heap.size + 1 + 1 + 1, 0, none⟩ = some (.slice none 0 0) ∧ W.frozen? ⟨w.heap.size + 1 + 1 + 1, 0, none⟩ = false ∧ Below w.heap.size w W
theorem FnW.below {w W W' : World} {r : Rw} {a1 a2 : Option Addr} {n1 c1 n2 c2 : Nat} (h : FnW w r a1 n1 c1 a2 n2 c2 W) (hb : Below W.heap.size W W') : FnW w r a1 n1 c1 a2 n2 c2 W' := by
  obtain ⟨h0, h1, h2, h3, h4, h5, h6⟩ := h
  exact ⟨by have := hb.size; omega, carry hb (by omega) h1, h2.below hb, carry hb (by omega) h3, carry hb (by omega) h4, by rw [hb.frozen (p := ⟨w.heap.size + 1 + 1 + 1, 0, none⟩) (show w.heap.size + 1 + 1 + 1 < W.heap.size by omega)]; exact h5, belT h6 hb⟩
theorem fnW_mk (w : World) (r : Rw) (a1 : Option Addr) (n1 c1 : Nat) (a2 : Option Addr) (n2 c2 : Nat) : FnW w r a1 n1 c1 a2 n2 c2 ((((w.alloc (.cells #[.slice a1 n1 c1] 24)).alloc (.cells #[.int .i64 r.a, .int .i64 r.b, .int .i64 r.c, .int .i64 r.d, .int .i64 r.t] 27)).alloc (.cells #[.slice a2 n2 c2] 24)).alloc (.cells #[.slice none 0 0] 24)) :=
  ⟨by simp, (BoxAt.alloc _ (BoxAt.alloc _ (BoxAt.alloc _ (box_lit w _ _ _ rfl)))).2, RowAt.alloc _ (RowAt.alloc _ (row_lit (w.alloc _) _ _ r (by simp))), (BoxAt.alloc _ (box_lit ((w.alloc _).alloc _) _ _ _ (by simp))).2, (box_lit (((w.alloc _).alloc _).alloc _) _ _ _ (by simp)).2, by simp [go_sem], belA _ (belA _ (below_alc2 w _ _))⟩
def FunPost (us : List Ty) (r : Rw) (bs : List Ty) (w : World) (e : Ending) (w' : World) : Prop := ∃ v, e = .returned (.tuple #[.agg #[v], .int .i64 (funE us r bs)]) ∧ OwnT w.heap.size w' v (funT us r bs) ∧ Below w.heap.size w w'
theorem fun_no {us : List Ty} {r : Rw} {bs : List Ty} {w w' : World} {v : Value} (h : funOk us r bs = false) (hv : v = .slice none 0 0) (hb : Below w.heap.size w w') : FunPost us r bs w (.returned (.tuple #[.agg #[v], .int .i64 700])) w' := by
  subst hv
  refine ⟨_, by unfold funE; rw [h]; rfl, ?_, hb⟩
  unfold funT; rw [h]; exact OwnT.nil _ _
theorem fun_yes {us : List Ty} {r : Rw} {bs : List Ty} (h : funOk us r bs = true) : funE us r bs = 0 ∧ funT us r bs = arwL us r bs := by unfold funE funT; rw [h]; exact ⟨rfl, rfl⟩
set_option maxRecDepth 100000 in
set_option maxHeartbeats 8000000 in
theorem fun_bad (a1 : Option Addr) (n1 c1 : Nat) (r : Rw) (a2 : Option Addr) (n2 c2 : Nat) (us bs : List Ty) (w : World) (h1 : Hid (TyArg w a1 n1 us)) (h2 : Hid (TyArg w a2 n2 bs)) (hl : n1 ≤ 140737488351232) (hl2 : n2 ≤ 140737488351232) (hno : funOk us r bs = false) :
    Calls Tryd.prog 22 #[.agg #[.slice a1 n1 c1], .agg #[.int .i64 r.a, .int .i64 r.b, .int .i64 r.c, .int .i64 r.d, .int .i64 r.t], .agg #[.slice a2 n2 c2]] w (FunPost us r bs w) := by
  have kM := Lib.hid fun (W : World) (hb : Below w.heap.size w W) => tyMay_any a1 n1 c1 us W (Lib.hid (h1.out.below hb)) hl
  have kN := Lib.hid fun (W : World) (hb : Below w.heap.size w W) => tyMay_any a2 n2 c2 bs W (Lib.hid (h2.out.below hb)) hl2
  have kR := Lib.hid fun (W : World) => rowsMay_any r.a r.b r.c r.d r.t W
  have hW0 := Lib.hid (fnW_mk w r a1 n1 c1 a2 n2 c2)
  have hn1 := h1.out.1
  have hn2 := h2.out.1
  obtain ⟨q1, hq1⟩ : ∃ q, tyV us = q := ⟨_, rfl⟩
  obtain ⟨q2, hq2⟩ : ∃ q, tyV bs = q := ⟨_, rfl⟩
  obtain ⟨q3, hq3⟩ : ∃ q, mayR r.a r.b r.c r.d r.t = q := ⟨_, rfl⟩
  have hq4 : q1 = true → q2 = true → q3 = true → 256 < n1 + n2 + 1 := by
    rintro rfl rfl rfl
    unfold funOk at hno
    rw [hq1, hq2, show r.may = true from hq3] at hno
    simp at hno
    omega
  rw [hq1] at kM
  rw [hq2] at kN
  rw [hq3] at kR
  have hno := Lib.hid hno
  have hb0 : ∀ W, FnW w r a1 n1 c1 a2 n2 c2 W → Below w.heap.size w W := fun W h => h.2.2.2.2.2.2
  have hb0 := Lib.hid hb0
  clear hq1 hq2 hq3 hn1 hn2 h1 h2
  go_enter Tryd.func22, Tryd.ntmps22
  go_upto_region 1 with fail
  obtain ⟨W0, hW0e⟩ : ∃ W, ((((w.alloc (.cells #[.slice a1 n1 c1] 24)).alloc (.cells #[.int .i64 r.a, .int .i64 r.b, .int .i64 r.c, .int .i64 r.d, .int .i64 r.t] 27)).alloc (.cells #[.slice a2 n2 c2] 24)).alloc (.cells #[.slice none 0 0] 24)) = W := ⟨_, rfl⟩
  rw [hW0e] at hW0 ⊢
  clear hW0e
  obtain ⟨x0, x1, ⟨x2, x3, x4, x5, x6, x7⟩, x8, x9, x10, x11⟩ := hW0.out
  cases q1
  · go_wp2_with fail
    refine (kM.out _ (hb0.out _ hW0.out)).mono ?_
    rintro e w1 ⟨rfl, hb⟩
    have hW1 := Lib.hid (hW0.out.below hb)
    clear x0 x1 x2 x3 x4 x5 x6 x7 x8 x9 x10 x11 hb
    obtain ⟨x0, x1, ⟨x2, x3, x4, x5, x6, x7⟩, x8, x9, x10, x11⟩ := hW1.out
    go_wp2_with fail
    refine bodyPost_ret (v := .tuple #[.agg #[.slice none 0 0], .int .i64 700]) (by simp [results, Tryd.results22, go_sem, x10, setS x9]) rfl (fun_no hno.out rfl ((hb0.out _ hW1.out).setCell (by show w.heap.size ≤ w.heap.size + 1 + 1 + 1; omega) _))
  cases q2
  · go_wp2_with fail
    refine (kM.out _ (hb0.out _ hW0.out)).mono ?_
    rintro e w1 ⟨rfl, hb⟩
    have hW1 := Lib.hid (hW0.out.below hb)
    clear x0 x1 x2 x3 x4 x5 x6 x7 x8 x9 x10 x11 hb
    obtain ⟨x0, x1, ⟨x2, x3, x4, x5, x6, x7⟩, x8, x9, x10, x11⟩ := hW1.out
    go_wp2_with fail
    refine (kN.out _ (hb0.out _ hW1.out)).mono ?_
    rintro e w2 ⟨rfl, hb⟩
    have hW2 := Lib.hid (hW1.out.below hb)
    clear x0 x1 x2 x3 x4 x5 x6 x7 x8 x9 x10 x11 hb
    obtain ⟨x0, x1, ⟨x2, x3, x4, x5, x6, x7⟩, x8, x9, x10, x11⟩ := hW2.out
    go_wp2_with fail
    refine bodyPost_ret (v := .tuple #[.agg #[.slice none 0 0], .int .i64 700]) (by simp [results, Tryd.results22, go_sem, x10, setS x9]) rfl (fun_no hno.out rfl ((hb0.out _ hW2.out).setCell (by show w.heap.size ≤ w.heap.size + 1 + 1 + 1; omega) _))
  cases q3
  · go_wp2_with fail
    refine (kM.out _ (hb0.out _ hW0.out)).mono ?_
    rintro e w1 ⟨rfl, hb⟩
    have hW1 := Lib.hid (hW0.out.below hb)
    clear x0 x1 x2 x3 x4 x5 x6 x7 x8 x9 x10 x11 hb
    obtain ⟨x0, x1, ⟨x2, x3, x4, x5, x6, x7⟩, x8, x9, x10, x11⟩ := hW1.out
    go_wp2_with fail
    refine (kN.out _ (hb0.out _ hW1.out)).mono ?_
    rintro e w2 ⟨rfl, hb⟩
    have hW2 := Lib.hid (hW1.out.below hb)
    clear x0 x1 x2 x3 x4 x5 x6 x7 x8 x9 x10 x11 hb
    obtain ⟨x0, x1, ⟨x2, x3, x4, x5, x6, x7⟩, x8, x9, x10, x11⟩ := hW2.out
    go_wp2_with fail
    refine (kR.out _).mono ?_
    rintro e w3 ⟨rfl, hb⟩
    have hW3 := Lib.hid (hW2.out.below hb)
    clear x0 x1 x2 x3 x4 x5 x6 x7 x8 x9 x10 x11 hb
    obtain ⟨x0, x1, ⟨x2, x3, x4, x5, x6, x7⟩, x8, x9, x10, x11⟩ := hW3.out
    go_wp2_with fail
    refine bodyPost_ret (v := .tuple #[.agg #[.slice none 0 0], .int .i64 700]) (by simp [results, Tryd.results22, go_sem, x10, setS x9]) rfl (fun_no hno.out rfl ((hb0.out _ hW3.out).setCell (by show w.heap.size ≤ w.heap.size + 1 + 1 + 1; omega) _))
  · have hq5 := hq4 rfl rfl rfl
    go_wp2_with fail
    refine (kM.out _ (hb0.out _ hW0.out)).mono ?_
    rintro e w1 ⟨rfl, hb⟩
    have hW1 := Lib.hid (hW0.out.below hb)
    clear x0 x1 x2 x3 x4 x5 x6 x7 x8 x9 x10 x11 hb
    obtain ⟨x0, x1, ⟨x2, x3, x4, x5, x6, x7⟩, x8, x9, x10, x11⟩ := hW1.out
    go_wp2_with fail
    refine (kN.out _ (hb0.out _ hW1.out)).mono ?_
    rintro e w2 ⟨rfl, hb⟩
    have hW2 := Lib.hid (hW1.out.below hb)
    clear x0 x1 x2 x3 x4 x5 x6 x7 x8 x9 x10 x11 hb
    obtain ⟨x0, x1, ⟨x2, x3, x4, x5, x6, x7⟩, x8, x9, x10, x11⟩ := hW2.out
    go_wp2_with fail
    refine (kR.out _).mono ?_
    rintro e w3 ⟨rfl, hb⟩
    have hW3 := Lib.hid (hW2.out.below hb)
    clear x0 x1 x2 x3 x4 x5 x6 x7 x8 x9 x10 x11 hb
    obtain ⟨x0, x1, ⟨x2, x3, x4, x5, x6, x7⟩, x8, x9, x10, x11⟩ := hW3.out
    go_wp2_with fail
    refine bodyPost_ret (v := .tuple #[.agg #[.slice none 0 0], .int .i64 700]) (by simp [results, Tryd.results22, go_sem, x10, setS x9]) rfl (fun_no hno.out rfl ((hb0.out _ hW3.out).setCell (by show w.heap.size ≤ w.heap.size + 1 + 1 + 1; omega) _))
set_option maxRecDepth 100000 in
set_option maxHeartbeats 8000000 in
theorem fun_good (a1 : Option Addr) (n1 c1 : Nat) (r : Rw) (a2 : Option Addr) (n2 c2 : Nat) (us bs : List Ty) (w : World) (h1 : Hid (TyArg w a1 n1 us)) (h2 : Hid (TyArg w a2 n2 bs)) (hok : funOk us r bs = true) :
    Calls Tryd.prog 22 #[.agg #[.slice a1 n1 c1], .agg #[.int .i64 r.a, .int .i64 r.b, .int .i64 r.c, .int .i64 r.d, .int .i64 r.t], .agg #[.slice a2 n2 c2]] w (FunPost us r bs w) := by
  have hok' : (tyV us = true ∧ tyV bs = true) ∧ mayR r.a r.b r.c r.d r.t = true ∧ us.length + bs.length + 1 ≤ 256 := by
    unfold funOk at hok
    simp only [Bool.and_eq_true, decide_eq_true_eq] at hok
    exact ⟨hok.1.1, hok.1.2, hok.2⟩
  obtain ⟨⟨ha, hb⟩, hr, hsz⟩ := hok'
  have hla := tyV_le ha
  have hlb := tyV_le hb
  have hch := Lib.hid fun (m : Nat) (hm : m < bs.length) (h3 : (bs.getD m ty0).k = 3) => tyV_child hb hm h3
  have kM := Lib.hid fun (W : World) (hb : Below w.heap.size w W) => tyMay_any a1 n1 c1 us W (Lib.hid (h1.out.below hb)) (by have := h1.out.1; omega)
  have kN := Lib.hid fun (W : World) (hb : Below w.heap.size w W) => tyMay_any a2 n2 c2 bs W (Lib.hid (h2.out.below hb)) (by have := h2.out.1; omega)
  have kR := Lib.hid fun (W : World) => rowsMay_any r.a r.b r.c r.d r.t W
  have kC := Lib.hid fun (W : World) (hb : Below w.heap.size w W) => clone_any a1 n1 c1 us W (Lib.hid (h1.out.below hb)) (by have := h1.out.1; omega)
  rw [ha] at kM
  rw [hb] at kN
  rw [hr] at kR
  have ha0 : us ≠ [] := by intro h; rw [h] at hla; simp at hla
  obtain ⟨rfl, hA1⟩ := h1.out
  obtain ⟨rfl, hA2⟩ := h2.out
  obtain ⟨b1, off1, rfl, hS1, hb1⟩ := Or.resolve_left hA1 ha0
  obtain ⟨b2, off2, rfl, hS2, hb2⟩ : ∃ b off, a2 = some ⟨b, off, none⟩ ∧ TySl w b off bs ∧ b < w.heap.size := by
    rcases hA2 with h0 | h0
    · rw [h0] at hlb; simp at hlb
    · exact h0
  have hS2 := Lib.hid hS2
  have hWW := Lib.hid (fnW_mk w r (some ⟨b1, off1, none⟩) us.length c1 (some ⟨b2, off2, none⟩) bs.length c2)
  have hfy := Lib.hid (fun_yes hok)
  have hb0 := Lib.hid (fun W (h : FnW w r (some ⟨b1, off1, none⟩) us.length c1 (some ⟨b2, off2, none⟩) bs.length c2 W) => h.2.2.2.2.2.2)
  unfold FunPost
  rw [hfy.out.1, hfy.out.2]
  clear hA1 hA2 ha hb hr hok hS1 h1 h2 hfy ha0
  go_enter Tryd.func22, Tryd.ntmps22
  go_upto_region 1 with fail
  obtain ⟨V0, hV0e⟩ : ∃ W, ((((w.alloc (.cells #[.slice (some ⟨b1, off1, none⟩) us.length c1] 24)).alloc (.cells #[.int .i64 r.a, .int .i64 r.b, .int .i64 r.c, .int .i64 r.d, .int .i64 r.t] 27)).alloc (.cells #[.slice (some ⟨b2, off2, none⟩) bs.length c2] 24)).alloc (.cells #[.slice none 0 0] 24)) = W := ⟨_, rfl⟩
  rw [hV0e] at hWW ⊢
  clear hV0e
  obtain ⟨x0, x1, ⟨x2, x3, x4, x5, x6, x7⟩, x8, x9, x10, x11⟩ := hWW.out
  go_wp2_with fail
  refine (kM.out _ (hb0.out _ hWW.out)).mono ?_
  rintro e V1 ⟨rfl, hb⟩
  have hWW := Lib.hid (hWW.out.below hb)
  clear x0 x1 x2 x3 x4 x5 x6 x7 x8 x9 x10 x11 hb
  obtain ⟨x0, x1, ⟨x2, x3, x4, x5, x6, x7⟩, x8, x9, x10, x11⟩ := hWW.out
  go_wp2_with fail
  refine (kN.out _ (hb0.out _ hWW.out)).mono ?_
  rintro e V2 ⟨rfl, hb⟩
  have hWW := Lib.hid (hWW.out.below hb)
  clear x0 x1 x2 x3 x4 x5 x6 x7 x8 x9 x10 x11 hb
  obtain ⟨x0, x1, ⟨x2, x3, x4, x5, x6, x7⟩, x8, x9, x10, x11⟩ := hWW.out
  go_wp2_with fail
  refine (kR.out _).mono ?_
  rintro e W0 ⟨rfl, hb⟩
  have hW0 := Lib.hid (hWW.out.below hb)
  clear x0 x1 x2 x3 x4 x5 x6 x7 x8 x9 x10 x11 hb hWW
  obtain ⟨x0, x1, ⟨x2, x3, x4, x5, x6, x7⟩, x8, x9, x10, x11⟩ := hW0.out
  go_wp2_with fail
  refine (kC.out _ (hb0.out _ hW0.out)).mono ?_
  rintro e w1 ⟨v', rfl, hown1, hb⟩
  have hB1 := Lib.hid hb
  have hown1' := Lib.hid hown1
  have hA1 := Lib.hid (hW0.out.below hB1.out)
  clear hown1 hb x0 x1 x2 x3 x4 x5 x6 x7 x8 x9 x10 x11 kM kN kR kC
  obtain ⟨x0, x1, ⟨x2, x3, x4, x5, x6, x7⟩, x8, x9, x10, x11⟩ := hA1.out
  go_wp2_with fail
  clear x0 x1 x2 x3 x4 x5 x6 x7 x8 x9 x10 x11
  go_loopw [8, 43] (fun v i W => ∃ m : Nat, m ≤ bs.length ∧ i = .int .i64 m ∧ Hid (OwnT W0.heap.size W v (us ++ (bs.take m).map (shT us.length)) ∧ Below W0.heap.size W0 W)) (fun _ i _ => bs.length - (intOf i).toNat)
  case atStart => exact ⟨0, by omega, rfl, Lib.hid ⟨by rw [List.take_zero, List.map_nil, List.append_nil]; exact hown1'.out, hB1.out⟩⟩
  case round =>
    rename World => W
    obtain ⟨m, hm, rfl, hJ⟩ := hrel
    have hAW := Lib.hid (hW0.out.below hJ.out.2)
    obtain ⟨x0, x1, ⟨x2, x3, x4, x5, x6, x7⟩, x8, x9, x10, x11⟩ := hAW.out
    have hsW := hJ.out.2.size
    have z0 : w.heap.size < W.heap.size := by omega
    have z1 : w.heap.size < W.heap.size + 1 := by omega
    have z2 : w.heap.size + 1 < W.heap.size := by omega
    have z3 : w.heap.size + 1 < W.heap.size + 1 := by omega
    have z4 : w.heap.size + 1 + 1 < W.heap.size := by omega
    have z5 : w.heap.size + 1 + 1 < W.heap.size + 1 := by omega
    have z6 : w.heap.size + 1 + 1 + 1 < W.heap.size := by omega
    have z7 : w.heap.size + 1 + 1 + 1 < W.heap.size + 1 := by omega
    have hOl : (us ++ (bs.take m).map (shT us.length)).length = us.length + m := by rw [List.length_append, List.length_map, List.length_take]; omega
    obtain ⟨va, vn, vc, hveq⟩ := ownT_sl hJ.out.1
    subst hveq
    have hvn : vn = us.length + m := by rw [← hOl]; exact hJ.out.1.arg.1
    subst hvn
    obtain ⟨L, hL⟩ : ∃ L, us ++ (bs.take m).map (shT us.length) = L := ⟨_, rfl⟩
    have hJ1 := Lib.hid hJ.out.1
    have hJ2 := Lib.hid hJ.out.2
    rw [hL] at hJ1 hOl
    have hL2 := Lib.hid hL
    clear hL hJ
    by_cases hmy : m < bs.length
    · have hN := hS2.out.below x11 hb2 m hmy
      have hc3 := hch.out m hmy
      have htk2 := Lib.hid (take_map (shT us.length) bs ty0 hmy)
      generalize bs.getD m ty0 = y at hN hc3 htk2
      obtain ⟨y0, y1, y2, y3, y4, y5, y6, y7, y8⟩ := hN
      have hmy' : (m : Int) < (bs.length : Int) := by omega
      have hm0 : (0 : Int) ≤ (m : Int) := by omega
      have hybs : b2 < W.heap.size := by omega
      by_cases hy3 : y.k = 3
      · obtain ⟨ha0', ha1', hb0', hb1'⟩ := hc3 hy3
        have hsh : Hid (shT us.length y = ⟨3, y.v, y.a + us.length, y.b + us.length, y.c0, y.c1, y.c2, y.c3, y.t⟩) := Lib.hid (by unfold shT; rw [if_pos hy3, ← hy3])
        rw [hy3] at y0
        clear hc3
        go_wp2_with (at_builtin; refine op_tyh rfl (.tmp 64) (.tmp 66) _ W W0.heap.size hsW (by (repeat' (first | with_reducible exact Below.refl _ _ | with_reducible assumption | with_reducible apply Below.setCell | with_reducible apply Below.alloc | with_reducible apply Below.drew | with_reducible apply below_drewN | with_reducible exact Nat.le_refl _ | (simp; done) | (simp; omega) | omega | exact Nat.le_refl _))) _ L ⟨3, y.v, y.a + us.length, y.b + us.length, y.c0, y.c1, y.c2, y.c3, y.t⟩ _ rfl rfl _ (by first | (simp; done) | (simp; omega)) rfl rfl hJ1.out (by omega) ?_)
        intro g3 c3 w3 hO3 hBar3 hM3
        have hJ3 : Hid (OwnT W0.heap.size w3 (.slice (some ⟨g3, 0, none⟩) (us.length + m + 1) c3) (us ++ (bs.take (m + 1)).map (shT us.length)) ∧ Below W0.heap.size W0 w3) := Lib.hid ⟨by rw [htk2.out, hsh.out, ← List.append_assoc, hL2.out]; (first | exact hO3 | (rw [hOl] at hO3; exact hO3)), hJ2.out.trans (bar_belO hBar3 hJ1.out hsW)⟩
        clear hO3 hBar3 hM3
        (try rw [hOl])
        go_wp2_with fail
        go_roundw
        case rel => exact ⟨m + 1, by omega, by go_num, hJ3⟩
        case measure => simp [intOf]; omega
      · have hsh : Hid (shT us.length y = y) := Lib.hid (by unfold shT; rw [if_neg hy3])
        have hy4 : (y.k == 3) = false := beq_eq_false_iff_ne.2 hy3
        clear hc3 hy3
        go_wp2_with (at_builtin; refine op_tyh rfl (.tmp 64) (.tmp 66) _ W W0.heap.size hsW (by (repeat' (first | with_reducible exact Below.refl _ _ | with_reducible assumption | with_reducible apply Below.setCell | with_reducible apply Below.alloc | with_reducible apply Below.drew | with_reducible apply below_drewN | with_reducible exact Nat.le_refl _ | (simp; done) | (simp; omega) | omega | exact Nat.le_refl _))) _ L y _ rfl rfl _ (by first | (simp; done) | (simp; omega)) rfl rfl hJ1.out (by omega) ?_)
        intro g3 c3 w3 hO3 hBar3 hM3
        have hJ3 : Hid (OwnT W0.heap.size w3 (.slice (some ⟨g3, 0, none⟩) (us.length + m + 1) c3) (us ++ (bs.take (m + 1)).map (shT us.length)) ∧ Below W0.heap.size W0 w3) := Lib.hid ⟨by rw [htk2.out, hsh.out, ← List.append_assoc, hL2.out]; (first | exact hO3 | (rw [hOl] at hO3; exact hO3)), hJ2.out.trans (bar_belO hBar3 hJ1.out hsW)⟩
        clear hO3 hBar3 hM3
        (try rw [hOl])
        go_wp2_with fail
        go_roundw
        case rel => exact ⟨m + 1, by omega, by go_num, hJ3⟩
        case measure => simp [intOf]; omega
    · obtain rfl : m = bs.length := by omega
      have hLf : Hid (L = us ++ bs.map (shT us.length)) := Lib.hid (by rw [← hL2.out, List.take_length])
      go_wp2_with (at_builtin; refine op_tyh rfl (.tmp 78) (.tmp 80) _ W W0.heap.size hsW (by (repeat' (first | with_reducible exact Below.refl _ _ | with_reducible assumption | with_reducible apply Below.setCell | with_reducible apply Below.alloc | with_reducible apply Below.drew | with_reducible apply below_drewN | with_reducible exact Nat.le_refl _ | (simp; done) | (simp; omega) | omega | exact Nat.le_refl _))) _ L (fnT ((us.length : Int) - 1) (((us.length + bs.length : Nat) : Int) - 1) r) _ rfl rfl _ (by first | (simp; done) | (simp; omega)) rfl (by first | rfl | simp [tyL1, fnT]) hJ1.out (by omega) ?_)
      intro g3 c3 w3 hO3 hBar3 hM3
      have hB3 := Lib.hid (hJ2.out.trans (bar_belO hBar3 hJ1.out hsW))
      have hO3' : Hid (OwnT W0.heap.size w3 (.slice (some ⟨g3, 0, none⟩) (L.length + 1) c3) (arwL us r bs)) := Lib.hid (by unfold arwL; rw [← hLf.out]; rw [show L.length + 1 = us.length + bs.length + 1 from by omega]; (first | exact hO3 | (rw [Int.natCast_add]; exact hO3)))
      clear hO3 hBar3 hM3 x0 x1 x2 x3 x4 x5 x6 x7 x8 x9 x10 x11
      have hA3 := Lib.hid (hW0.out.below hB3.out)
      obtain ⟨x0, x1, x2, x8, x9, x10, x11⟩ := hA3.out
      have hw0 := hW0.out.1
      have x12 : w.heap.size + 1 + 1 + 1 < w3.heap.size := by omega
      go_wp2_with fail
      refine bodyPost_ret (v := .tuple #[.agg #[.slice (some ⟨g3, 0, none⟩) (us.length + bs.length + 1) c3], .int .i64 0]) (by simp [results, Tryd.results22, go_sem, x10, setS x9]) rfl ⟨_, rfl, ownT_le (ownT_put (by first | exact hO3'.out | (have e := hO3'.out; rw [hOl] at e; exact e)) (by omega)) (by omega), x11.setCell (by show w.heap.size ≤ w.heap.size + 1 + 1 + 1; omega) _⟩
theorem fun_any (a1 : Option Addr) (n1 c1 : Nat) (r : Rw) (a2 : Option Addr) (n2 c2 : Nat) (us bs : List Ty) (w : World) (h1 : Hid (TyArg w a1 n1 us)) (h2 : Hid (TyArg w a2 n2 bs)) (hl : n1 ≤ 140737488351232) (hl2 : n2 ≤ 140737488351232) :
    Calls Tryd.prog 22 #[.agg #[.slice a1 n1 c1], .agg #[.int .i64 r.a, .int .i64 r.b, .int .i64 r.c, .int .i64 r.d, .int .i64 r.t], .agg #[.slice a2 n2 c2]] w (FunPost us r bs w) := by
  cases h : funOk us r bs
  · exact fun_bad a1 n1 c1 r a2 n2 c2 us bs w h1 h2 hl hl2 h
  · exact fun_good a1 n1 c1 r a2 n2 c2 us bs w h1 h2 h
end Go.Proofs.YtdganhamafhfdaaDoor

/- A function's variables: plain facts. -/
namespace Go.Proofs.YtdganhamafhfdaaDoor
open Go.RowKit
set_option linter.unusedVariables false
set_option linter.unusedSimpArgs false

theorem arw_fl {us bs : List Ty} {r : Rw} (h1 : tyV us = true) (h2 : tyV bs = true) : fl 0 (TT.fn (treeOf us) r (treeOf bs)) = arwL us r bs := by
  have h1 := tyV_of h1
  have h2 := tyV_of h2
  have e1 : bs.map (shT us.length) = fl (treeOf us).sz (treeOf bs) := by
    have := sh_fl (treeOf us).sz (treeOf bs) 0 h2.1
    rw [← h2.2.1, h1.2.2.1] at this
    rw [this, h1.2.2.1]; simp
  unfold arwL
  rw [e1, fl_fn, ← h1.2.1, h1.2.2.1, h2.2.2.1]
  simp
theorem arw_V {us bs : List Ty} {r : Rw} (h : funOk us r bs = true) : tyV us = true ∧ tyV bs = true ∧ tyV (arwL us r bs) = true ∧ treeOf (arwL us r bs) = .fn (treeOf us) r (treeOf bs) ∧ (arwL us r bs).length = us.length + bs.length + 1 := by
  unfold funOk at h
  simp only [Bool.and_eq_true, decide_eq_true_eq] at h
  obtain ⟨⟨⟨h1, h2⟩, h3⟩, h4⟩ := h
  have g1 := tyV_of h1
  have g2 := tyV_of h2
  have hok : (TT.fn (treeOf us) r (treeOf bs)).ok = true := by unfold TT.ok; rw [g1.1, g2.1, h3]; rfl
  have hsz : (TT.fn (treeOf us) r (treeOf bs)).sz ≤ 256 := by unfold TT.sz; rw [g1.2.2.1, g2.2.2.1]; omega
  rw [← arw_fl h1 h2]
  refine ⟨h1, h2, fl_may hok hsz, treeOf_fl hok, ?_⟩
  rw [fl_len]; unfold TT.sz; rw [g1.2.2.1, g2.2.2.1]
theorem addI_add {l m : List Int} (h : ∀ x ∈ m, x ∈ l) (v : Int) : (addI l v).length + m.length ≤ (addI m v).length + l.length ∧ ∀ x ∈ addI m v, x ∈ addI l v := by
  refine ⟨?_, fun x hx => ?_⟩
  · cases hl : hasI l v
    · have hm : hasI m v = false := by
        cases hm : hasI m v
        · rfl
        · have := h v ((hasI_iff m v).1 hm)
          rw [(hasI_iff l v).2 this] at hl; cases hl
      unfold addI
      rw [hl, hm]
      simp
      omega
    · have := (addI_len m v).1
      have e : addI l v = l := by unfold addI; rw [hl]; rfl
      rw [e]; omega
  · rw [addI_mem] at hx ⊢
    rcases hx with hx | hx
    · exact .inl (h x hx)
    · exact .inr hx
theorem addT_add {l m : List Int} (h : ∀ x ∈ m, x ∈ l) (v : Int) : (addT l v).length + m.length ≤ (addT m v).length + l.length ∧ ∀ x ∈ addT m v, x ∈ addT l v := by
  unfold addT
  by_cases hv : v < 0
  · rw [if_pos hv, if_pos hv]; exact ⟨by omega, h⟩
  · rw [if_neg hv, if_neg hv]; exact addI_add h v
theorem tvs_add : ∀ (T : TT) (l m : List Int), (∀ x ∈ m, x ∈ l) → (tvs T l).length + m.length ≤ (tvs T m).length + l.length ∧ ∀ x ∈ tvs T m, x ∈ tvs T l
  | .base _, l, m, h => ⟨by show l.length + m.length ≤ m.length + l.length; omega, h⟩
  | .var v, l, m, h => addI_add h v
  | .fn a r b, l, m, h => by
    obtain ⟨h1, h2⟩ := tvs_add a l m h
    obtain ⟨h3, h4⟩ := tvs_add b _ _ h2
    exact ⟨by show (tvs b (tvs a l)).length + _ ≤ (tvs b (tvs a m)).length + _; omega, h4⟩
theorem rvs_add : ∀ (T : TT) (l m : List Int), (∀ x ∈ m, x ∈ l) → (rvs T l).length + m.length ≤ (rvs T m).length + l.length ∧ ∀ x ∈ rvs T m, x ∈ rvs T l
  | .base _, l, m, h => ⟨by show l.length + m.length ≤ m.length + l.length; omega, h⟩
  | .var v, l, m, h => ⟨by show l.length + m.length ≤ m.length + l.length; omega, h⟩
  | .fn a r b, l, m, h => by
    obtain ⟨h1, h2⟩ := rvs_add a l m h
    obtain ⟨h5, h6⟩ := addT_add h2 r.t
    obtain ⟨h3, h4⟩ := rvs_add b _ _ h6
    exact ⟨by show (rvs b (addT (rvs a l) r.t)).length + _ ≤ (rvs b (addT (rvs a m) r.t)).length + _; omega, h4⟩
theorem take_pre {l e m : List Int} (h : m = l ++ e) : m.take l.length = l := by rw [h, List.take_left]
/-- what is seen of a function and its parts. -/
theorem gr_yes {us bs : List Ty} {r : Rw} (h : funOk us r bs = true) {A B C D X Y : List Int} (hA : tvs (treeOf us) [] = A) (hB : rvs (treeOf us) [] = B) (hC : tvs (treeOf bs) [] = C) (hD : rvs (treeOf bs) [] = D) (hX : tvs (treeOf (arwL us r bs)) [] = X) (hY : rvs (treeOf (arwL us r bs)) [] = Y) :
    (A.length ≤ X.length ∧ X.take A.length = A ∧ X.length ≤ A.length + C.length) ∧ (B.length ≤ Y.length ∧ Y.take B.length = B ∧ Y.length ≤ B.length + D.length + 1) := by
  rw [(arw_V h).2.2.2.1] at hX hY
  have hX : tvs (treeOf bs) A = X := by rw [← hX, ← hA]; rfl
  have hY : rvs (treeOf bs) (addT B r.t) = Y := by rw [← hY, ← hB]; rfl
  obtain ⟨e1, p1⟩ := tvs_pre (treeOf bs) A
  obtain ⟨e2, p2⟩ := rvs_pre (treeOf bs) (addT B r.t)
  obtain ⟨e3, p3⟩ := addT_pre B r.t
  have t1 := (tvs_add (treeOf bs) A [] (fun _ h => by cases h)).1
  have t2 := (rvs_add (treeOf bs) (addT B r.t) [] (fun _ h => by cases h)).1
  have t3 := (addT_len B r.t).2
  have t4 := (tvs_len (treeOf bs) A).1
  have t5 := (rvs_len (treeOf bs) (addT B r.t)).1
  have t6 := (addT_len B r.t).1
  rw [hC] at t1
  rw [hD] at t2
  rw [hX] at p1 t1 t4
  rw [hY] at p2 t2 t5
  simp only [List.length_nil, Nat.add_zero] at t1 t2
  refine ⟨⟨t4, take_pre p1, by omega⟩, ⟨by omega, take_pre (by rw [p2, p3, List.append_assoc]), by omega⟩⟩
theorem is_to (a : Option Addr) (m c n : Nat) (h : n ≤ c) (W : World) : (Instr.slice 34 (.slice a m c) none (some (.int .i64 n)) none).run Tryd.prog W = .ok (.slice a n c) W := by
  have hs : ∀ W : World, (sizeOf 3).run Tryd.prog W = .ok 1 W := fun _ => by kernel_rfl
  have he : Tryd.prog.elem 34 = 3 := by kernel_rfl
  rw [run_slice_h W 34 a m c (by rw [he]; exact Tryd.underlying34) .i64 (n : Int) (by omega) (by omega), he, hs]
  cases a <;> simp [Result.andThen, sliced, Addr.add]
theorem isArg_pre {w : World} {a : Option Addr} {m n : Nat} {l k : List Int} (h : IsArg w a m l) (hk : l.take n = k) (hn : n ≤ l.length) : IsArg w a n k := by
  subst hk
  obtain ⟨h1, h2⟩ := h
  refine ⟨by rw [List.length_take]; omega, ?_⟩
  rcases h2 with rfl | ⟨b, off, rfl, h3, h4⟩
  · exact .inl (by simp)
  · refine .inr ⟨b, off, rfl, fun i hi => ?_, h4⟩
    rw [List.length_take] at hi
    have := h3 i (by omega)
    rw [List.getD_eq_getElem?_getD] at this ⊢
    rw [List.getElem?_take_of_lt (by omega)]
    exact this
theorem ownI_cap {B : Nat} {w : World} {a : Option Addr} {n c : Nat} {l : List Int} (h : OwnI B w (.slice a n c) l) : l.length ≤ c := by
  rcases h.cases with ⟨h1, rfl⟩ | ⟨g, c', h1, _, _, h4, _⟩
  · simp
  · injection h1 with _ _ h1; subst h1; exact h4
end Go.Proofs.YtdganhamafhfdaaDoor

/- Layer 7's awake. -/
namespace Go.Proofs.YtdganhamafhfdaaDoor
open Go.RowKit Go.Maps
set_option linter.unusedVariables false
set_option linter.unusedSimpArgs false

def r7 : Rw := ⟨0, 2, 0, 0, 3⟩
def v7 : List Ty := [⟨2, 7, 0, 0, 0, 0, 0, 0, 0⟩]
def f7 : List Ty := [⟨2, 7, 0, 0, 0, 0, 0, 0, 0⟩, ⟨2, 7, 0, 0, 0, 0, 0, 0, 0⟩, ⟨3, 0, 0, 1, 0, 2, 0, 0, 3⟩]
theorem fa1 : funT v7 r7 v7 = f7 ∧ funE v7 r7 v7 = 0 := ⟨by kernel_rfl, by kernel_rfl⟩
theorem fa2 : tyV f7 = true ∧ tvs (treeOf f7) [] = [7] ∧ rvs (treeOf f7) [] = [3] := ⟨by kernel_rfl, by kernel_rfl, by kernel_rfl⟩
theorem it0 : Lib.itoa ((0 : Nat) : Int) = [48] := by unfold Lib.itoa; rw [if_neg (by omega)]; exact ddi 0 (by omega)
theorem fa3 : txV f7 = ⟨#[40, 116, 48, 32, 45, 60, 111, 49, 44, 111, 49, 124, 101, 48, 62, 32, 116, 48, 41]⟩ ∧ txE f7 = 0 := by
  unfold txV txE
  rw [fa2.1]
  refine ⟨?_, rfl⟩
  have e : tx (treeOf f7) [] [] = [40] ++ (116 :: Lib.itoa ((0 : Nat) : Int)) ++ ([32, 45] ++ rwT r7 (Lib.itoa ((0 : Nat) : Int)) ++ [32]) ++ (116 :: Lib.itoa ((0 : Nat) : Int)) ++ [41] := rfl
  rw [if_pos rfl, e, it0, show rwT r7 [48] = [60, 111, 49, 44, 111, 49, 124, 101, 48, 62] from by kernel_rfl]
  rfl
theorem fa4 : txV [] = ⟨#[]⟩ ∧ txE [] = 700 := ⟨by unfold txV; rfl, by unfold txE; rfl⟩
set_option maxRecDepth 100000 in
set_option maxHeartbeats 8000000 in
theorem awake7_any (w : World) (hT : Hid (TabW w)) : Calls Tryd.prog 31 #[] w fun e w' => e = .returned (.bool true) ∧ Below w.heap.size w w' := by
  go_enter Tryd.func31, Tryd.ntmps31
  go_wp2_with fail
  refine (fun_any _ _ _ r7 _ _ _ v7 v7 _ (Lib.hid (by exact TyArg.alloc _ (TyArg.alloc _ (tyArg_lit _ _ _ _ _ _ rfl rfl rfl)))) (Lib.hid (by exact TyArg.alloc _ (TyArg.alloc _ (tyArg_lit _ _ _ _ _ _ rfl rfl rfl)))) (by omega) (by omega)).mono ?_
  rintro e w1 ⟨v, rfl, hv, hb1⟩
  rw [fa1.1] at hv
  rw [fa1.2]
  obtain ⟨a1, m1, d1, rfl⟩ := ownT_sl hv
  obtain rfl : m1 = 3 := hv.arg.1
  have hF := Lib.hid (hv.arg.alloc (.cells #[.slice a1 3 d1] 24))
  have hX := Lib.hid (box_lit w1 24 w1.heap.size (.slice a1 3 d1) rfl)
  have hB := Lib.hid (belA (.cells #[.slice a1 3 d1] 24) (belT (show Below w.heap.size w _ from by (repeat' (first | with_reducible exact Below.refl _ _ | with_reducible assumption | with_reducible apply Below.setCell | with_reducible apply Below.alloc | with_reducible apply Below.drew | with_reducible apply below_drewN | with_reducible exact Nat.le_refl _ | (simp; done) | (simp; omega) | omega | exact Nat.le_refl _))) hb1))
  clear hb1 hv
  go_wp2_with fail
  refine (tyText_any _ _ _ f7 _ hF (by omega) (Lib.hid (tab_keep hT.out hB.out (Nat.le_refl _)))).mono ?_
  rintro e w2 ⟨rfl, hb⟩
  rw [fa3.1, fa3.2]
  have hF := Lib.hid (hF.out.below hb)
  have hX := Lib.hid (hX.out.below hb)
  have hB := Lib.hid (belT hB.out hb)
  clear hb
  obtain ⟨x0, x1⟩ := hX.out
  go_wp2_with fail
  clear x0 x1
  refine (vars_any _ _ _ f7 _ hF (by omega)).mono ?_
  rintro e w3 hp
  unfold VarsPost at hp
  rw [fa2.1, fa2.2.1, fa2.2.2, if_pos rfl] at hp
  obtain ⟨u1, u2, rfl, hu1, hu2, _, hb⟩ := hp
  obtain ⟨a2, m2, d2, rfl⟩ := ownI_sl hu1
  obtain ⟨a3, m3, d3, rfl⟩ := ownI_sl hu2
  obtain rfl : m2 = 1 := hu1.arg.1
  obtain rfl : m3 = 1 := hu2.arg.1
  have hI := Lib.hid hu1.arg
  have hJ := Lib.hid hu2.arg
  have hF := Lib.hid (hF.out.below hb)
  have hX := Lib.hid (hX.out.below hb)
  have hB := Lib.hid (belT hB.out hb)
  clear hb hu1 hu2
  go_wp2_with fail
  refine (tyText_any _ _ _ [] _ (Lib.hid (tyArg_nil _ _)) (by omega) (Lib.hid (tab_keep hT.out hB.out (Nat.le_refl _)))).mono ?_
  rintro e w4 ⟨rfl, hb⟩
  rw [fa4.1, fa4.2]
  have hI := Lib.hid (hI.out.below hb)
  have hJ := Lib.hid (hJ.out.below hb)
  have hF := Lib.hid (hF.out.below hb)
  have hX := Lib.hid (hX.out.below hb)
  have hB := Lib.hid (belT hB.out hb)
  clear hb
  obtain ⟨x0, x1⟩ := hX.out
  have hq : ((⟨#[40, 116, 48, 32, 45, 60, 111, 49, 44, 111, 49, 124, 101, 48, 62, 32, 116, 48, 41]⟩ : ByteArray).toList == (⟨#[40, 116, 48, 32, 45, 60, 111, 49, 44, 111, 49, 124, 101, 48, 62, 32, 116, 48, 41]⟩ : ByteArray).toList) = true := beq_self_eq_true _
  go_wp2_with (first | (go_at_call 24; refine (num_any _ _ (by omega) (by omega)).mono ?_; rintro e w' ⟨rfl, rfl⟩))
  clear x0 x1 hq
  refine (sameInts_any _ _ _ _ _ _ [7] [7] _ (Lib.hid (by exact IsArg.alloc _ hI.out)) (Lib.hid (by exact isArg_lit _ _ _ _ _ _ rfl rfl rfl)) (by omega)).mono ?_
  rintro e w5 ⟨rfl, hb⟩
  rw [decide_eq_true rfl]
  have hJ := Lib.hid ((hJ.out.alloc _).below hb)
  have hF := Lib.hid ((hF.out.alloc _).below hb)
  have hX := Lib.hid ((hX.out.alloc _).below hb)
  have hB := Lib.hid (belT (belA _ hB.out) hb)
  clear hb hI
  go_wp2_with fail
  refine (sameInts_any _ _ _ _ _ _ [3] [3] _ (Lib.hid (by exact IsArg.alloc _ hJ.out)) (Lib.hid (by exact isArg_lit _ _ _ _ _ _ rfl rfl rfl)) (by omega)).mono ?_
  rintro e w6 ⟨rfl, hb⟩
  rw [decide_eq_true rfl]
  have hF := Lib.hid ((hF.out.alloc _).below hb)
  have hX := Lib.hid ((hX.out.alloc _).below hb)
  have hB := Lib.hid (belT (belA _ hB.out) hb)
  clear hb hJ
  obtain ⟨x0, x1⟩ := hX.out
  go_wp2_with (first | (go_at_call 24; refine (num_any _ _ (by omega) (by omega)).mono ?_; rintro e w' ⟨rfl, rfl⟩))
  clear x0 x1
  refine (tyMay_any _ _ _ f7 _ hF (by omega)).mono ?_
  rintro e w7 ⟨rfl, hb⟩
  rw [fa2.1]
  have hB := Lib.hid (belT hB.out hb)
  clear hb hF hX
  go_wp2_with fail
  refine (tyMay_any _ _ _ [] _ (Lib.hid (tyArg_nil _ _)) (by omega)).mono ?_
  rintro e w8 ⟨rfl, hb⟩
  rw [show tyV [] = false from by kernel_rfl]
  have hB := Lib.hid (belT hB.out hb)
  clear hb
  go_wp2_with fail
  go_ret
  exact ⟨rfl, hB.out⟩
end Go.Proofs.YtdganhamafhfdaaDoor
