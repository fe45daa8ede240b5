/- The document's matcher, in memory. -/
import Derived.Test.YtfkdcconmecaoaaDoorVrC
import Derived.Test.YtfkdcconmecaoaaDoorTyS
import Derived.Test.YtfkdcconmecaoaaDoorMmD
import Derived.Test.YtfkdcconmecaoaaDoorRcA
import Derived.Test.YtfkdcconmecaoaaDoorSbH
import Derived.Laws.AppendOwn
import Derived.BigRegion
import Derived.Deep.RegionLaw
/- The reference's Same, Part and Equal. -/
namespace Go.Proofs.YtfkdcconmecaoaaDoor
open Go.RowKit Go.Maps
set_option linter.unusedVariables false
set_option linter.unusedSimpArgs false

set_option maxRecDepth 100000 in
set_option maxHeartbeats 4000000 in
theorem rsame_len (a1 a2 : Option Addr) (n1 n2 c1 c2 : Nat) (w : World) (h : n1 ≠ n2) :
    Calls Tryd.prog 67 #[.agg #[.slice a1 n1 c1], .agg #[.slice a2 n2 c2]] w fun e w' => e = .returned (.bool false) ∧ Below w.heap.size w w' := by
  have h1 : ((n1 : Int) == (n2 : Int)) = false := by rw [beq_eq_false_iff_ne]; omega
  have h2 : ((n1 : Int) != (n2 : Int)) = true := by rw [bne_iff_ne]; omega
  have h3 : (n1 == n2) = false := by simpa using h
  have h4 : (n1 != n2) = true := by simpa using h
  clear h
  go_enter Tryd.func67, Tryd.ntmps67
  go_wp2_with fail
  go_ret
  exact ⟨rfl, below_alc2 w _ _⟩
set_option maxRecDepth 100000 in
set_option maxHeartbeats 4000000 in
theorem rsame_sl (b off cp b' off' cp' : Nat) (l m : List Ty) (w : World) (h : Hid (TySl w b off l)) (h' : Hid (TySl w b' off' m)) (hbs : b < w.heap.size) (hbs' : b' < w.heap.size) (hlm : l.length = m.length) (hl : l.length ≤ 140737488351232) :
    Calls Tryd.prog 67 #[.agg #[.slice (some ⟨b, off, none⟩) l.length cp], .agg #[.slice (some ⟨b', off', none⟩) l.length cp']] w fun e w' => e = .returned (.bool (decide (l = m))) ∧ Below w.heap.size w w' := by
  obtain ⟨A, hA⟩ : ∃ x, decide (l = m) = x := ⟨_, rfl⟩
  rw [hA]
  have hA' := Lib.hid hA
  have hlm' := Lib.hid hlm
  clear hA hlm
  have hX := Lib.hid (show BoxAt ((w.alloc (.cells #[.slice (some ⟨b, off, none⟩) l.length cp] 24)).alloc (.cells #[.slice (some ⟨b', off', none⟩) l.length cp'] 24)) w.heap.size (.slice (some ⟨b, off, none⟩) l.length cp) from BoxAt.alloc _ (box_lit _ _ _ _ rfl))
  have hY := Lib.hid (show BoxAt ((w.alloc (.cells #[.slice (some ⟨b, off, none⟩) l.length cp] 24)).alloc (.cells #[.slice (some ⟨b', off', none⟩) l.length cp'] 24)) (w.heap.size + 1) (.slice (some ⟨b', off', none⟩) l.length cp') from box_lit _ _ _ _ (by simp))
  have hB := Lib.hid (below_alc2 w (.cells #[.slice (some ⟨b, off, none⟩) l.length cp] 24) (.cells #[.slice (some ⟨b', off', none⟩) l.length cp'] 24))
  go_enter Tryd.func67, Tryd.ntmps67
  go_wp2_with fail
  generalize hW0 : ((w.alloc (.cells #[.slice (some ⟨b, off, none⟩) l.length cp] 24)).alloc (.cells #[.slice (some ⟨b', off', none⟩) l.length cp'] 24)) = W0 at hX hY hB ⊢
  clear hW0
  go_loopw [5] (fun i wr => ∃ j : Nat, j ≤ l.length ∧ i = .int .i64 j ∧ Hid (Below W0.heap.size W0 wr) ∧ Hid (∀ i, i < j → l.getD i ty0 = m.getD i ty0)) (fun i _ => l.length - (intOf i).toNat)
  case atStart => exact ⟨0, by omega, rfl, Lib.hid (Below.refl _ _), Lib.hid fun i hi => by omega⟩
  case round =>
    obtain ⟨j, hj, rfl, hbw, hall⟩ := hrel
    obtain ⟨x0, x1⟩ := hX.out.below hbw.out
    obtain ⟨y0, y1⟩ := hY.out.below hbw.out
    have hBw := Lib.hid (belT hB.out hbw.out)
    by_cases hlt : j < l.length
    · have hT := (h.out j hlt).below hBw.out hbs
      have hU := (h'.out j (by rw [← hlm'.out]; exact hlt)).below hBw.out hbs'
      have hsuc := Lib.hid (show l.getD j ty0 = m.getD j ty0 → ∀ i, i < j + 1 → l.getD i ty0 = m.getD i ty0 from fun he i hi => by
        rcases Nat.lt_or_ge i j with h1 | h1
        · exact hall.out i h1
        · obtain rfl : i = j := by omega
          exact he)
      have hstop := Lib.hid (show l.getD j ty0 ≠ m.getD j ty0 → decide (l = m) = false from fun hn => decide_eq_false fun e => hn (by rw [e]))
      generalize l.getD j ty0 = t at hT hsuc hstop
      generalize m.getD j ty0 = u at hU hsuc hstop
      obtain ⟨bq, hq⟩ : ∃ x, tyE t u = x := ⟨_, rfl⟩
      have hqe := Lib.hid (tyE_iff t u)
      rw [hq] at hqe
      have hq := (show tyQ t.k t.v t.a t.b t.c0 t.c1 t.c2 t.c3 t.t u.k u.v u.a u.b u.c0 u.c1 u.c2 u.c3 u.t = bq from hq)
      have hws := hBw.out.size
      have hbr : b < wr.heap.size := by omega
      have hbr2 : b' < wr.heap.size := by omega
      have htin := fun x0 x1 x2 x3 x4 x5 x6 x7 x8 y0 y1 y2 y3 y4 y5 y6 y7 y8 W => ty_in x0 x1 x2 x3 x4 x5 x6 x7 x8 y0 y1 y2 y3 y4 y5 y6 y7 y8 W
      obtain ⟨e0, e1, e2, e3, e4, e5, e6, e7, e8⟩ := hT
      obtain ⟨d0, d1, d2, d3, d4, d5, d6, d7, d8⟩ := hU
      have hlt' : (j : Int) < (l.length : Int) := by omega
      have hj0 : (0 : Int) ≤ (j : Int) := by omega
      cases bq
      · have hf : Hid (A = false) := Lib.hid (by rw [← hA'.out]; exact hstop.out (of_decide_eq_false hqe.out.symm))
        clear hstop hsuc hqe
        go_wp2_with fail
        go_quiet (fail)
        go_wp2_with fail
        go_ret
        exact ⟨ret_bb hf.out.symm, below_drewN hBw.out _⟩
      · have hf := Lib.hid (hsuc.out (of_decide_eq_true hqe.out.symm))
        clear hstop hsuc hqe
        go_wp2_with fail
        go_quiet (fail)
        go_wp2_with fail
        go_roundw
        case rel => exact ⟨j + 1, by omega, by go_num, Lib.hid (below_drewN hbw.out _), hf⟩
        case measure => simp [intOf]; omega
    · have hf : Hid (A = true) := Lib.hid (by rw [← hA'.out]; exact decide_eq_true (getT_ext hlm'.out fun i hi => hall.out i (by omega)))
      go_wp2_with fail
      go_ret
      exact ⟨ret_bb hf.out.symm, hBw.out⟩
theorem rsame_any (a1 a2 : Option Addr) (n1 n2 c1 c2 : Nat) (l m : List Ty) (w : World) (h : Hid (TyArg w a1 n1 l)) (h' : Hid (TyArg w a2 n2 m)) (hl : n1 ≤ 140737488351232) (hp : 1 ≤ n1) :
    Calls Tryd.prog 67 #[.agg #[.slice a1 n1 c1], .agg #[.slice a2 n2 c2]] w fun e w' => e = .returned (.bool (decide (l = m))) ∧ Below w.heap.size w w' := by
  obtain ⟨h1, h2⟩ := h.out
  obtain ⟨h3, h4⟩ := h'.out
  by_cases hn : n1 = n2
  · subst hn
    obtain ⟨b, off, rfl, h5, h6⟩ : ∃ b off, a1 = some ⟨b, off, none⟩ ∧ TySl w b off l ∧ b < w.heap.size := by
      rcases h2 with rfl | h2
      · simp at h1; omega
      · exact h2
    obtain ⟨b', off', rfl, h7, h8⟩ : ∃ b off, a2 = some ⟨b, off, none⟩ ∧ TySl w b off m ∧ b < w.heap.size := by
      rcases h4 with rfl | h4
      · simp at h3; omega
      · exact h4
    subst h1
    exact rsame_sl b off c1 b' off' c2 l m w (Lib.hid h5) (Lib.hid h7) h6 h8 h3 hl
  · have : decide (l = m) = false := decide_eq_false fun e => hn (by rw [h1, h3, e])
    rw [this]
    exact rsame_len a1 a2 n1 n2 c1 c2 w hn

/-- a part that lies at a place. -/
def SegAt (ts : List Ty) (T : TT) (o : Nat) : Prop := o + T.sz ≤ ts.length ∧ ∀ j, j < T.sz → ts.getD (o + j) ty0 = (fl o T).getD j ty0
theorem segAt_whole {ts : List Ty} (h : tyV ts = true) : SegAt ts (treeOf ts) 0 := by
  obtain ⟨h1, h2, h3, _⟩ := tyV_of h
  refine ⟨by omega, fun j hj => ?_⟩
  rw [Nat.zero_add]
  conv => lhs; rw [h2]
theorem SegAt.fn {ts : List Ty} {a b : TT} {r : Rw} {o : Nat} (h : SegAt ts (.fn a r b) o) : SegAt ts a o ∧ SegAt ts b (o + a.sz) ∧ ts.getD (o + (a.sz + b.sz)) ty0 = fnT ((o + a.sz : Nat) - 1) ((o + a.sz + b.sz : Nat) - 1) r := by
  obtain ⟨h1, h2⟩ := h
  have hsz : (TT.fn a r b).sz = a.sz + b.sz + 1 := rfl
  rw [hsz] at h1 h2
  refine ⟨⟨by omega, fun j hj => ?_⟩, ⟨by omega, fun j hj => ?_⟩, ?_⟩
  · rw [h2 j (by omega), fl_fn_a _ _ _ _ hj]
  · have := h2 (a.sz + j) (by omega)
    rw [fl_fn_b _ _ _ _ hj] at this
    rw [← this, Nat.add_assoc]
  · rw [h2 (a.sz + b.sz) (by omega), fl_fn_r]
theorem SegAt.bg {ts : List Ty} {T : TT} {o : Nat} (h : SegAt ts T o) (hT : T.ok = true) : Go.Proofs.YtfkdcconmecaoaaDoor.bg (ksT ts) (o + T.sz - 1) = o := (fl_at ts T o hT h.1 h.2).1
theorem unsh_fl : ∀ (T : TT) (d o : Nat), T.ok = true → (fl (o + d) T).map (shT (-(d : Int))) = fl o T := by
  intro T d o h
  rw [← sh_fl d T o h, List.map_map]
  conv => rhs; rw [← List.map_id (fl o T)]
  congr 1
  funext t
  unfold shT
  simp only [Function.comp, id]
  by_cases h3 : t.k = 3
  · rw [if_pos h3, if_pos h3]
    obtain ⟨k, v, a, b, c0, c1, c2, c3, tl⟩ := t
    simp only [Ty.mk.injEq, true_and, and_true]
    omega
  · rw [if_neg h3, if_neg h3]
theorem SegAt.list {ts : List Ty} {T : TT} {o : Nat} (h : SegAt ts T o) (hT : T.ok = true) : ((ts.drop o).take T.sz).map (shT (-(o : Int))) = fl 0 T := by
  have e : (ts.drop o).take T.sz = fl o T := by
    apply getT_ext
    · rw [List.length_take, List.length_drop, fl_len]; have := h.1; omega
    · intro i hi
      rw [List.length_take, List.length_drop] at hi
      rw [← h.2 i (by omega), List.getD_eq_getElem?_getD, List.getD_eq_getElem?_getD, List.getElem?_take, if_pos (by omega), List.getElem?_drop]
  have := unsh_fl T o 0 hT
  rw [Nat.zero_add] at this
  rw [e, this]
set_option maxRecDepth 100000 in
set_option maxHeartbeats 8000000 in
theorem rpart_any (b off c : Nat) (ts : List Ty) (T : TT) (o : Nat) (w : World) (h : Hid (TySl w b off ts)) (hb : b < w.heap.size) (htv : tyV ts = true) (hS : SegAt ts T o) (hT : T.ok = true) :
    Calls Tryd.prog 66 #[.agg #[.slice (some ⟨b, off, none⟩) ts.length c], .int .i64 ((o + T.sz - 1 : Nat) : Int)] w fun e w' => ∃ v, e = .returned (.agg #[v]) ∧ OwnT w.heap.size w' v (fl 0 T) ∧ Below w.heap.size w w' := by
  have hpos := T.sz_pos
  have hle := hS.1
  have hl := (tyV_le htv).2
  have hch := Lib.hid fun (m : Nat) (hm : m < ts.length) (h3 : (ts.getD m ty0).k = 3) => tyV_child htv hm h3
  have hbg := hS.bg hT
  have hls := Lib.hid (hS.list hT)
  have kB := Lib.hid fun (W : World) (hB : Below w.heap.size w W) => rbegin_any b off c ts (by omega) (o + T.sz) (o + T.sz - 1) W (by omega) (by omega) (Lib.hid (h.out.below hB hb)) (by have := hB.size; omega)
  rw [hbg] at kB
  obtain ⟨L, hL⟩ : ∃ L, ts.drop o = L := ⟨_, rfl⟩
  have hLn : L.length = ts.length - o := by rw [← hL, List.length_drop]
  have hget := Lib.hid fun (m : Nat) => (show L.getD m ty0 = ts.getD (o + m) ty0 from by rw [← hL, List.getD_eq_getElem?_getD, List.getElem?_drop, ← List.getD_eq_getElem?_getD])
  rw [hL] at hls
  obtain ⟨e, he⟩ : ∃ e, o + T.sz - 1 = e := ⟨_, rfl⟩
  rw [he] at kB
  have hes : T.sz = e + 1 - o := by omega
  rw [he]
  rw [hes] at hls hle
  generalize fl 0 T = F at hls ⊢
  have hoe : o ≤ e := by omega
  have hee : e < ts.length := by omega
  clear hL hS hT hbg hpos hes he htv
  have hW0 := Lib.hid (show BoxAt ((w.alloc (.cells #[.slice (some ⟨b, off, none⟩) ts.length c] 24)).alloc (.cells #[.slice none 0 0] 24)) w.heap.size (.slice (some ⟨b, off, none⟩) ts.length c) from BoxAt.alloc _ (box_lit _ _ _ _ rfl))
  have hV0 := Lib.hid (show BoxAt ((w.alloc (.cells #[.slice (some ⟨b, off, none⟩) ts.length c] 24)).alloc (.cells #[.slice none 0 0] 24)) (w.heap.size + 1) (.slice none 0 0) from box_lit _ _ _ _ (by simp))
  have hF0 : Hid (((w.alloc (.cells #[.slice (some ⟨b, off, none⟩) ts.length c] 24)).alloc (.cells #[.slice none 0 0] 24)).frozen? ⟨w.heap.size + 1, 0, none⟩ = false) := Lib.hid (by simp [go_sem])
  go_enter Tryd.func66, Tryd.ntmps66
  go_wp2_with fail
  refine (kB.out _ (below_alc2 w _ _)).mono ?_
  rintro e' w1 ⟨rfl, hb1⟩
  have hX1 := Lib.hid (hW0.out.below hb1)
  have hV1 := Lib.hid (hV0.out.below hb1)
  have hF1 : Hid (w1.frozen? ⟨w.heap.size + 1, 0, none⟩ = false) := Lib.hid (by rw [hb1.frozen (p := ⟨w.heap.size + 1, 0, none⟩) (show w.heap.size + 1 < _ by simp)]; exact hF0.out)
  have hB1 := Lib.hid (belT (below_alc2 w (.cells #[.slice (some ⟨b, off, none⟩) ts.length c] 24) (.cells #[.slice none 0 0] 24)) hb1)
  clear hb1 kB hW0 hV0 hF0
  go_wp2_with fail
  go_loopw [6, 7] (fun v i W => ∃ m : Nat, o + m ≤ e + 1 ∧ i = .int .i64 ((o + m : Nat) : Int) ∧ Hid (OwnT w1.heap.size W v ((L.take m).map (shT (-(o : Int)))) ∧ Below w1.heap.size w1 W)) (fun _ i _ => e + 1 - (intOf i).toNat)
  case atStart => exact ⟨0, by omega, by simp, Lib.hid ⟨OwnT.nil _ _, Below.refl _ _⟩⟩
  case round =>
    rename World => W
    obtain ⟨m, hm, rfl, hJ⟩ := hrel
    obtain ⟨x0, x1⟩ := hX1.out.below hJ.out.2
    have hBW := Lib.hid (hB1.out.trans (hJ.out.2.mono hB1.out.size))
    have hsW := hJ.out.2.size
    have hOl : ((L.take m).map (shT (-(o : Int)))).length = m := by rw [List.length_map, List.length_take]; omega
    obtain ⟨va, vn, vc, hveq⟩ := ownT_sl hJ.out.1
    subst hveq
    have hvn : vn = m := by rw [← hOl]; exact hJ.out.1.arg.1
    subst hvn
    by_cases hmy : o + vn ≤ e
    · have hN := h.out.below hBW.out hb (o + vn) (by omega)
      have htk := Lib.hid (take_map (shT (-(o : Int))) L ty0 (j := vn) (by omega))
      rw [hget.out vn] at htk
      have hc3 := hch.out (o + vn) (by omega)
      generalize ts.getD (o + vn) ty0 = y at hN htk hc3
      generalize (L.take vn).map (shT (-(o : Int))) = K at hJ hOl htk
      obtain ⟨y0, y1, y2, y3, y4, y5, y6, y7, y8⟩ := hN
      have hJ1 := Lib.hid hJ.out.1
      have hJ2 := Lib.hid hJ.out.2
      clear hJ
      have hbW : b < W.heap.size := by have := hBW.out.size; omega
      have hi' : ((o + vn : Nat) : Int) < (ts.length : Int) := by omega
      have hi0 : (0 : Int) ≤ ((o + vn : Nat) : Int) := by omega
      have hie : ((o + vn : Nat) : Int) ≤ (e : Int) := by omega
      by_cases hy3 : y.k = 3
      · obtain ⟨ha0, ha1, hb0, hb1⟩ := hc3 hy3
        have hsh : Hid (shT (-(o : Int)) y = ⟨3, y.v, y.a - o, y.b - o, y.c0, y.c1, y.c2, y.c3, y.t⟩) := Lib.hid (by unfold shT; rw [if_pos hy3, ← hy3]; rfl)
        rw [hy3] at y0
        clear hc3
        go_wp2_with (at_builtin; refine op_tyh rfl (.tmp 37) (.tmp 39) _ W w1.heap.size hsW (by (repeat' (first | with_reducible exact Below.refl _ _ | with_reducible assumption | with_reducible apply Below.setCell | with_reducible apply Below.alloc | with_reducible apply Below.drew | with_reducible apply below_drewN | with_reducible exact Nat.le_refl _ | (simp; done) | (simp; omega) | omega | exact Nat.le_refl _))) _ K ⟨3, y.v, y.a - (o : Int), y.b - (o : Int), y.c0, y.c1, y.c2, y.c3, y.t⟩ _ rfl rfl _ (by first | (simp; done) | (simp; omega)) rfl rfl hJ1.out (by omega) ?_)
        intro g3 c3 w3 hO3 hBar3 hM3
        have hJ3 : Hid (OwnT w1.heap.size w3 (.slice (some ⟨g3, 0, none⟩) (vn + 1) c3) ((L.take (vn + 1)).map (shT (-(o : Int)))) ∧ Below w1.heap.size w1 w3) := Lib.hid ⟨by rw [htk.out, hsh.out]; (first | exact hO3 | (rw [hOl] at hO3; exact hO3)), hJ2.out.trans (bar_belO hBar3 hJ1.out hsW)⟩
        clear hO3 hBar3 hM3
        (try rw [hOl])
        go_wp2_with fail
        go_roundw
        case rel => exact ⟨vn + 1, by omega, by go_num, hJ3⟩
        case measure => simp [intOf]; omega
      · have hsh : Hid (shT (-(o : Int)) y = y) := Lib.hid (by unfold shT; rw [if_neg hy3])
        have hy4 : (y.k == 3) = false := beq_eq_false_iff_ne.2 hy3
        clear hc3 hy3
        go_wp2_with (at_builtin; refine op_tyh rfl (.tmp 37) (.tmp 39) _ W w1.heap.size hsW (by (repeat' (first | with_reducible exact Below.refl _ _ | with_reducible assumption | with_reducible apply Below.setCell | with_reducible apply Below.alloc | with_reducible apply Below.drew | with_reducible apply below_drewN | with_reducible exact Nat.le_refl _ | (simp; done) | (simp; omega) | omega | exact Nat.le_refl _))) _ K y _ rfl rfl _ (by first | (simp; done) | (simp; omega)) rfl rfl hJ1.out (by omega) ?_)
        intro g3 c3 w3 hO3 hBar3 hM3
        have hJ3 : Hid (OwnT w1.heap.size w3 (.slice (some ⟨g3, 0, none⟩) (vn + 1) c3) ((L.take (vn + 1)).map (shT (-(o : Int)))) ∧ Below w1.heap.size w1 w3) := Lib.hid ⟨by rw [htk.out, hsh.out]; (first | exact hO3 | (rw [hOl] at hO3; exact hO3)), hJ2.out.trans (bar_belO hBar3 hJ1.out hsW)⟩
        clear hO3 hBar3 hM3
        (try rw [hOl])
        go_wp2_with fail
        go_roundw
        case rel => exact ⟨vn + 1, by omega, by go_num, hJ3⟩
        case measure => simp [intOf]; omega
    · have hm' : vn = e + 1 - o := by omega
      have hF : Hid (OwnT w1.heap.size W (.slice va vn vc) F) := Lib.hid (by have := hJ.out.1; rw [hm', hls.out] at this; rw [hm']; exact this)
      have hie : (e : Int) < ((o + vn : Nat) : Int) := by omega
      have hJ2 := Lib.hid hJ.out.2
      obtain ⟨v0, v1⟩ := hV1.out.below hJ.out.2
      have v2 : W.frozen? ⟨w.heap.size + 1, 0, none⟩ = false := by rw [hJ.out.2.frozen (p := ⟨w.heap.size + 1, 0, none⟩) hV1.out.1]; exact hF1.out
      have hz1 := Lib.hid hV1.out.1
      clear hJ hm' hOl hmy
      go_wp2_with fail
      refine bodyPost_ret (v := .agg #[.slice va vn vc]) (by simp [results, Tryd.results66, go_sem, v1, setS v1]) rfl ⟨_, rfl, ownT_le (ownT_put hF.out (by have := hz1.out; omega)) (by have := hz1.out; omega), hBW.setCell (by show w.heap.size ≤ w.heap.size + 1; omega) _⟩
end Go.Proofs.YtfkdcconmecaoaaDoor

/- The reference's matcher in memory. (OwnBn: OwnB of SbO under another name: Dec has an OwnB too. Never beside SbO.) -/
namespace Go.Proofs.YtfkdcconmecaoaaDoor
open Go.RowKit Go.Maps
set_option linter.unusedVariables false
set_option linter.unusedSimpArgs false

theorem infoBq : (Tryd.prog.info? 40).map (fun i => (i.zero, i.size, i.bytes)) = some (some (.agg #[.int .i64 0, .bool false, .slice none 0 0, .int .i64 0, .int .i64 0, .int .i64 0, .int .i64 0, .int .i64 0]), 8, 80) := by kernel_rfl
theorem bnLq_len (l : List Bn) : (bnL l).length = l.length * 8 := by
  induction l with
  | nil => rfl
  | cons t l ih => simp only [bnL, List.flatMap_cons, List.length_append, List.length_cons] at *; rw [ih]; simp [bnL1]; omega
theorem bnLq_app (l m : List Bn) : bnL (l ++ m) = bnL l ++ bnL m := by simp [bnL]
theorem bnLq_one (l : List Bn) : ∀ u ∈ bnL l, u.oneCell' = true := by
  intro u hu
  unfold bnL at hu
  rw [List.mem_flatMap] at hu
  obtain ⟨t, _, ht⟩ := hu
  unfold bnL1 at ht
  simp only [List.mem_cons, List.not_mem_nil, or_false] at ht
  rcases ht with rfl | rfl | rfl | rfl | rfl | rfl | rfl | rfl <;> rfl
def OwnBn (B : Nat) (w : World) (v : Value) (l : List Bn) : Prop := w.ownsRow B 40 8 v l.length (bnL l)
theorem OwnBn.nil (B : Nat) (w : World) : OwnBn B w (.slice none 0 0) [] := ⟨rfl, .inl ⟨rfl, rfl⟩⟩
theorem OwnBn.below {B : Nat} {w w1 : World} {v : Value} {l : List Bn} (h : OwnBn B w v l) (hb : Below w.heap.size w w1) : OwnBn B w1 v l := owns_below h hb
theorem OwnBn.fresh (w : World) : OwnBn w.heap.size (w.alloc (.cells #[] 40)) (.slice (some ⟨w.heap.size, 0, none⟩) 0 0) [] :=
  ⟨rfl, .inr ⟨w.heap.size, 0, #[], rfl, Nat.le_refl _, by show (w.heap.push _)[w.heap.size]? = _; simp, Nat.le_refl _, by decide, rfl, rfl⟩⟩
theorem OwnBn.cases {B : Nat} {w : World} {v : Value} {l : List Bn} (h : OwnBn B w v l) : (v = .slice none 0 0 ∧ l = []) ∨ ∃ g c, v = .slice (some ⟨g, 0, none⟩) l.length c ∧ B ≤ g ∧ g < w.heap.size ∧ l.length ≤ c ∧ (∀ j u, (bnL l)[j]? = some u → w.cell? ⟨g, j, none⟩ = some u) ∧ ∀ o, w.frozen? ⟨g, o, none⟩ = false := by
  have hh := h
  rcases h.2 with ⟨rfl, h0⟩ | ⟨g, cap, cur, rfl, hb, hg, hc, hm, hsz, htk⟩
  · exact .inl ⟨rfl, List.eq_nil_of_length_eq_zero h0⟩
  · refine .inr ⟨g, cap, rfl, hb, (Array.getElem?_eq_some_iff.1 hg).1, hc, fun j u hj => ?_, fun o => World.ownsRow.frozenAt hh o⟩
    have := World.ownsRow.cells (show w.ownsRow B 40 8 (.slice (some ⟨g, 0, none⟩) l.length cap) l.length (bnL l) from hh) rfl j u hj
    by_cases hj0 : j = 0
    · subst hj0; simpa [Addr.add] using this
    · simpa [Addr.add, hj0] using this
theorem OwnBn.arg {B : Nat} {w : World} {a : Option Addr} {n c : Nat} {l : List Bn} (h : OwnBn B w (.slice a n c) l) (ht : ∀ x ∈ l, TyArg w x.ad x.n x.ns ∧ x.n ≤ 140737488351232) : BnArg w a n l := by
  rcases h.cases with ⟨h1, rfl⟩ | ⟨g, c, h1, _, h3, _, h5, _⟩
  · injection h1 with _ h1 _; subst h1; exact ⟨rfl, .inl rfl⟩
  · injection h1 with h0 h1 _; subst h0; subst h1
    refine ⟨rfl, .inr ⟨g, 0, rfl, fun i hi => ⟨bnAt_of (fun j u hj => ?_) i hi, (ht _ (getB_mem hi)).1, (ht _ (getB_mem hi)).2⟩, h3⟩⟩
    rw [Nat.zero_add]; exact h5 j u hj
theorem own_btq : (40 : TypeId) ≠ 38 := by decide
/-- a bind more, behind those that there are: it lies in the block that was made last. -/
theorem op_bnhq {ops : Array Oper} {rest : List Oper} {o : Oper} {a : Act} {Q : Exit → Act → World → Prop} (hgd : o.guard = none) (s x : Operand) (W Z : World) (B : Nat) (hB : B ≤ Z.heap.size) (hZ : Below Z.heap.size Z W) (ov : Value) (l : List Bn) (y : Bn) (arr : Array Value)
    (ho : o.op = .call { callee := .builtin .append, args := #[s, x], argTypes := #[26, 26] })
    (hs : a.eval s = ov) (g0 : Nat) (hg0 : g0 = W.heap.size) (hx : a.eval x = .slice (some ⟨g0, 0, none⟩) 1 1) (harr : arr.toList = bnL1 y) (hown : OwnBn B Z ov l) (hlen : l.length ≤ 1759218604400)
    (h : ∀ g c w', OwnBn B w' (.slice (some ⟨g, 0, none⟩) (l.length + 1) c) (l ++ [y]) → Bar (fun k => ov.ownBlock = some k) Z w' → wpList Tryd.prog ops Q rest (a.put o.dst (.slice (some ⟨g, 0, none⟩) (l.length + 1) c)) w') :
    wpList Tryd.prog ops Q (o :: rest) a (W.alloc (.cells arr 40)) := by
  obtain ⟨i0, hi, hz0, hz1, hz2⟩ := info_parts infoBq
  have hy : bnL [y] = bnL1 y := by simp [bnL]
  have hsz := hZ.size
  refine wpList_append_own _ hgd s x 26 ho B 40 i0 (.agg #[.int .i64 0, .bool false, .slice none 0 0, .int .i64 0, .int .i64 0, .int .i64 0, .int .i64 0, .int .i64 0]) 8 80 Tryd.underlying26 hi hz0 hz1 hz2 rfl (by decide) ov l.length (bnL l) hs (World.ownsRow.alloc (hown.below hZ) _) ⟨W.heap.size, 0, none⟩ 1 1 (bnL [y]) (by rw [hx, hg0]) (bnLq_len [y]) ?_ (bnLq_one [y]) (by unfold maxLen; omega) (by omega) (by simp; omega) ?_
  · intro j u hj
    have e : (⟨W.heap.size, 0, none⟩ : Addr).add j = ⟨W.heap.size, j, none⟩ := by simp [Addr.add]; try omega
    rw [e, World.cell?_alloc_at _ _ _ _ rfl, ← hj, hy, ← harr, Array.getElem?_toList]
  · intro v' w' hown' hgr hnil
    have hown2 : OwnBn B w' v' (l ++ [y]) := by unfold OwnBn; rw [bnLq_app, List.length_append]; exact hown'
    rcases hown2.cases with ⟨_, h0⟩ | ⟨g, c, rfl, _⟩
    · simp at h0
    · rw [List.length_append, List.length_singleton] at hown2 ⊢
      exact h g c w' hown2 (((Bar.of_below (S := fun k => ov.ownBlock = some k) hZ).trans (Bar.of_below (S := fun k => ov.ownBlock = some k) (below_alc W _)) fun _ _ hs => hs).trans (Bar.of_grown hgr) fun _ _ hs => hs)

/-- what is asked of a bind that a matcher has made. -/
def BtOk (x : Bn) : Prop := x.n ≤ 256 ∧ (x.ir = false → ∃ T : TT, T.ok = true ∧ x.ns = fl 0 T)
/-- a matcher of the reference, in memory. -/
structure RmI (B g : Nat) (w : World) (v : Value) (ok : Bool) (xs : List Bn) : Prop where
  c1 : w.cell? ⟨g, 0, none⟩ = some v
  c2 : w.cell? ⟨g, 1, none⟩ = some (.bool ok)
  f : ∀ o, w.frozen? ⟨g, o, none⟩ = false
  i : OwnBn B w v xs
  t : ∀ x ∈ xs, OwnT B w (.slice x.ad x.n x.c) x.ns ∧ BtOk x
  gB : g < B
  hB : B ≤ w.heap.size
structure GoB (g : Nat) (w w' : World) (v v' : Value) : Prop where
  bar : Bar (fun k => k = g ∨ v.ownBlock = some k) w w'
  away : ∀ k, k < w.heap.size → v'.ownBlock = some k → v.ownBlock = some k
theorem GoB.trans {g : Nat} {w w1 w2 : World} {v v1 v2 : Value} (h : GoB g w w1 v v1) (h' : GoB g w1 w2 v1 v2) : GoB g w w2 v v2 := by
  have hs := h.bar.size
  refine ⟨⟨h'.bar.os.trans h.bar.os, h'.bar.tape.trans h.bar.tape, h'.bar.output.trans h.bar.output, by have := h'.bar.size; omega, fun k hk hn => ?_⟩, fun k hk hv => h.away k hk (h'.away k (by omega) hv)⟩
  rw [h'.bar.block k (by omega) (fun hc => hn (hc.imp id (fun hv => h.away k hk hv)))]
  exact h.bar.block k hk hn
theorem GoB.of_below {g : Nat} {w w' : World} {v : Value} (h : Below w.heap.size w w') : GoB g w w' v v := ⟨Bar.of_below h, fun _ _ h => h⟩
theorem RmI.below {B g : Nat} {w w' : World} {v : Value} {ok : Bool} {xs : List Bn} (h : RmI B g w v ok xs) (hb : Below w.heap.size w w') : RmI B g w' v ok xs := by
  have hs := hb.size
  have hg : g < w.heap.size := by have := h.gB; have := h.hB; omega
  exact ⟨carry hb hg h.c1, carry hb hg h.c2, fun o => by rw [hb.frozen (p := ⟨g, o, none⟩) hg]; exact h.f o, h.i.below hb, fun x hx => ⟨(h.t x hx).1.below hb, (h.t x hx).2⟩, h.gB, by have := h.hB; omega⟩
theorem RmI.low {B g : Nat} {w : World} {v : Value} {ok : Bool} {xs : List Bn} (h : RmI B g w v ok xs) {k : Nat} (hk : k < B) (hg : k ≠ g) : ¬ (k = g ∨ v.ownBlock = some k) := by
  rintro (h1 | h1)
  · exact hg h1
  · have := (own_lt h.i k h1).1; omega
theorem RmI.fresh {B g : Nat} {w : World} {v : Value} {ok : Bool} {xs : List Bn} (h : RmI B g w v ok xs) {k : Nat} (hk : w.heap.size ≤ k) : ¬ (k = g ∨ v.ownBlock = some k) := by
  have h1 := h.gB; have h2 := h.hB
  rintro (h3 | h3)
  · omega
  · have := (own_lt h.i k h3).2; omega
theorem RmI.arg {B g : Nat} {w : World} {a : Option Addr} {n c : Nat} {ok : Bool} {xs : List Bn} (h : RmI B g w (.slice a n c) ok xs) : BnArg w a n xs :=
  h.i.arg fun x hx => ⟨(h.t x hx).1.arg, by have := (h.t x hx).2.1; omega⟩
/-- its truth is written. -/
theorem RmI.setOk {B g : Nat} {w : World} {v : Value} {ok b : Bool} {xs : List Bn} (h : RmI B g w v ok xs) : RmI B g (w.setCell ⟨g, 1, none⟩ (.bool b)) v b xs ∧ GoB g w (w.setCell ⟨g, 1, none⟩ (.bool b)) v v :=
  ⟨⟨setO h.c1 (by intro e; injection e with _ e2 _; omega), setS h.c2, fun o => by rw [World.frozen?_setCell]; exact h.f o, ownsRow_setCell_below h.i h.gB _, fun x hx => ⟨ownT_put (h.t x hx).1 h.gB, (h.t x hx).2⟩, h.gB, by have := h.hB; simpa using this⟩, Bar.set _ _ (.inl rfl), fun _ _ hv => hv⟩
/-- a bind more. -/
theorem RmI.app {B g : Nat} {w w' : World} {v v' : Value} {ok : Bool} {xs : List Bn} {y : Bn} (h : RmI B g w v ok xs) (hO : OwnBn B w' v' (xs ++ [y])) (hb : Bar (fun k => v.ownBlock = some k) w w') (ha : ∀ k, k < w.heap.size → v'.ownBlock = some k → v.ownBlock = some k) (hy : OwnT B w (.slice y.ad y.n y.c) y.ns ∧ BtOk y) :
    RmI B g (w'.setCell ⟨g, 0, none⟩ v') v' ok (xs ++ [y]) ∧ GoB g w (w'.setCell ⟨g, 0, none⟩ v') v v' := by
  have hg : ¬ v.ownBlock = some g := fun hv => by have h1 := (own_lt h.i g hv).1; have h2 := h.gB; omega
  have hs := hb.size
  have hB := h.hB
  have hgB := h.gB
  have ht : ∀ x : Bn, OwnT B w (.slice x.ad x.n x.c) x.ns → OwnT B w' (.slice x.ad x.n x.c) x.ns := fun x hx => hb.own hx fun k hk hk' => own_ne hx h.i (Ne.symm own_btq) k hk hk'
  refine ⟨⟨setS (hb.cell h.c1 hg), setO (hb.cell h.c2 hg) (by intro e; injection e with _ e2 _; omega), fun o => ?_, ownsRow_setCell_below hO hgB _, fun x hx => ?_, hgB, by simpa using (by omega : B ≤ w'.heap.size)⟩, ?_, fun k hk hv => ha k hk hv⟩
  · rw [World.frozen?_setCell]
    have e : w'.heap[g]? = w.heap[g]? := hb.block g (by omega) hg
    have := h.f o
    unfold World.frozen? at this ⊢
    simp only [e]; exact this
  · rcases List.mem_append.1 hx with hx | hx
    · exact ⟨ownT_put (ht x (h.t x hx).1) hgB, (h.t x hx).2⟩
    · obtain rfl := List.mem_singleton.1 hx
      exact ⟨ownT_put (ht _ hy.1) hgB, hy.2⟩
  · exact (hb.mono (S' := fun k => k = g ∨ v.ownBlock = some k) fun _ hk => .inr hk).trans (Bar.set (S := fun k => k = g) _ _ rfl) fun k _ hk => .inl hk
end Go.Proofs.YtfkdcconmecaoaaDoor

/- What the reference's matcher knows; its rows. -/
namespace Go.Proofs.YtfkdcconmecaoaaDoor
open Go.RowKit Go.Maps
set_option linter.unusedVariables false
set_option linter.unusedSimpArgs false

def msB (xs : List Bn) : MS := ⟨sgB xs, rhB xs⟩
def noB (xs : List Bn) (ir : Bool) (v : Int) (j : Nat) : Prop := ∀ i, i < j → ¬ ((xs.getD i bn0).ir = ir ∧ (xs.getD i bn0).v = v)
theorem getB_eq {xs : List Bn} {j : Nat} (hj : j < xs.length) : xs.getD j bn0 = xs[j] := by rw [List.getD_eq_getElem?_getD, List.getElem?_eq_getElem hj]; rfl
theorem fst_at {xs : List Bn} {ir : Bool} {v : Int} {j : Nat} (hj : j < xs.length) (hn : noB xs ir v j) (h : (xs.getD j bn0).ir = ir ∧ (xs.getD j bn0).v = v) : fst xs ir v = some j := by
  unfold fst
  rw [List.findIdx?_eq_some_iff_getElem]
  refine ⟨hj, ?_, fun i hi => ?_⟩
  · rw [← getB_eq hj, h.1, h.2]; simp
  · have := hn i hi
    rw [getB_eq (by omega : i < xs.length)] at this
    simp only [Bool.not_eq_true, Bool.and_eq_false_iff, beq_eq_false_iff_ne]
    by_cases h1 : xs[i].ir = ir
    · exact .inr fun h2 => this ⟨h1, h2⟩
    · exact .inl h1
theorem fst_noneq {xs : List Bn} {ir : Bool} {v : Int} (hn : noB xs ir v xs.length) : fst xs ir v = none := by
  unfold fst
  rw [List.findIdx?_eq_none_iff]
  intro x hx
  obtain ⟨i, hi, rfl⟩ := List.getElem_of_mem hx
  have := hn i hi
  rw [getB_eq hi] at this
  simp only [Bool.and_eq_false_iff, beq_eq_false_iff_ne]
  by_cases h1 : xs[i].ir = ir
  · exact .inr fun h2 => this ⟨h1, h2⟩
  · exact .inl h1
theorem noB_succ {xs : List Bn} {ir : Bool} {v : Int} {j : Nat} (hn : noB xs ir v j) (h : ¬ ((xs.getD j bn0).ir = ir ∧ (xs.getD j bn0).v = v)) : noB xs ir v (j + 1) := fun i hi => by
  rcases Nat.lt_or_ge i j with h1 | h1
  · exact hn i h1
  · obtain rfl : i = j := by omega
    exact h
theorem fst_app (xs : List Bn) (y : Bn) (ir : Bool) (v : Int) : fst (xs ++ [y]) ir v = (fst xs ir v).or (if y.ir = ir ∧ y.v = v then some xs.length else none) := by
  unfold fst
  rw [List.findIdx?_append]
  congr 1
  by_cases h : y.ir = ir ∧ y.v = v
  · rw [if_pos h, List.findIdx?_cons, if_pos (by rw [h.1, h.2]; simp)]
    simp
  · rw [if_neg h, List.findIdx?_cons, if_neg (by simp only [Bool.and_eq_true, beq_iff_eq]; exact h)]
    simp
theorem getB_app {xs : List Bn} {y : Bn} {i : Nat} (hi : i < xs.length) : (xs ++ [y]).getD i bn0 = xs.getD i bn0 := by
  rw [List.getD_eq_getElem?_getD, List.getD_eq_getElem?_getD, List.getElem?_append_left hi]
theorem getB_last (xs : List Bn) (y : Bn) : (xs ++ [y]).getD xs.length bn0 = y := by
  rw [List.getD_eq_getElem?_getD, List.getElem?_append_right (by omega)]; simp
theorem map_app {α : Type} (f : Bn → α) (xs : List Bn) (y : Bn) (ir : Bool) (hn : fst xs ir y.v = none) : (fun v => (fst (xs ++ [y]) ir v).map fun i => f ((xs ++ [y]).getD i bn0)) = if y.ir = ir then upd (fun v => (fst xs ir v).map fun i => f (xs.getD i bn0)) y.v (f y) else fun v => (fst xs ir v).map fun i => f (xs.getD i bn0) := by
  funext v
  rw [fst_app]
  by_cases hir : y.ir = ir
  · rw [if_pos hir]
    unfold upd
    by_cases hv : v = y.v
    · subst hv
      rw [if_pos rfl, hn, if_pos ⟨hir, rfl⟩]
      simp only [Option.or, Option.map_some, getB_last]
    · rw [if_neg hv, if_neg (fun h => hv h.2.symm), Option.or_none]
      show _ = (fst xs ir v).map fun i => f (xs.getD i bn0)
      cases hf : fst xs ir v with
      | none => rfl
      | some i => simp only [Option.map_some, getB_app (fst_some hf).1]
  · rw [if_neg hir, if_neg (fun h => hir h.1), Option.or_none]
    cases hf : fst xs ir v with
    | none => rfl
    | some i => simp only [Option.map_some, getB_app (fst_some hf).1]
theorem map_app2 {α : Type} (f : Bn → α) (xs : List Bn) (y : Bn) (ir : Bool) (hir : ¬ y.ir = ir) : (fun v => (fst (xs ++ [y]) ir v).map fun i => f ((xs ++ [y]).getD i bn0)) = fun v => (fst xs ir v).map fun i => f (xs.getD i bn0) := by
  funext v
  rw [fst_app, if_neg (fun h => hir h.1), Option.or_none]
  cases hf : fst xs ir v with
  | none => rfl
  | some i => simp only [Option.map_some, getB_app (fst_some hf).1]
theorem msB_appT {xs : List Bn} {y : Bn} (hir : y.ir = false) (hn : fst xs false y.v = none) : msB (xs ++ [y]) = ⟨upd (sgB xs) y.v (treeOf y.ns), rhB xs⟩ := by
  unfold msB
  congr 1
  · have := map_app (fun x => treeOf x.ns) xs y false hn
    rw [if_pos hir] at this
    exact this
  · exact map_app2 (fun x => x.r) xs y true (by rw [hir]; decide)
theorem msB_appR {xs : List Bn} {y : Bn} (hir : y.ir = true) (hn : fst xs true y.v = none) : msB (xs ++ [y]) = ⟨sgB xs, upd (rhB xs) y.v y.r⟩ := by
  unfold msB
  congr 1
  · exact map_app2 (fun x => treeOf x.ns) xs y false (by rw [hir]; decide)
  · have := map_app (fun x => x.r) xs y true hn
    rw [if_pos hir] at this
    exact this
/-- what a step of the matcher does to what it knows. -/
def StepB (R : MS → Option MS) (ok : Bool) (xs : List Bn) (ok' : Bool) (xs' : List Bn) : Prop :=
  if ok then (match R (msB xs) with
    | none => ok' = false
    | some m => ok' = true ∧ msB xs' = m) else ok' = false
theorem StepB.trans {R R' : MS → Option MS} {ok ok1 ok2 : Bool} {xs xs1 xs2 : List Bn} (h : StepB R ok xs ok1 xs1) (h' : StepB R' ok1 xs1 ok2 xs2) : StepB (fun m => (R m).bind R') ok xs ok2 xs2 := by
  unfold StepB at *
  cases ok
  · simp only [Bool.false_eq_true, if_false] at h ⊢
    subst h
    simpa using h'
  · simp only [if_true] at h ⊢
    cases hr : R (msB xs) with
    | none =>
      rw [hr] at h
      simp only [] at h
      subst h
      simp only [Option.bind_none]
      simpa using h'
    | some m =>
      rw [hr] at h
      simp only [] at h
      obtain ⟨rfl, rfl⟩ := h
      simp only [Option.bind_some]
      simpa using h'
theorem step_neg {g s : Rw} {ok : Bool} {xs : List Bn} (h : g.t < 0) : StepB (mtR g s) ok xs ((ok && geR s g) && rwQ g.a g.b g.c g.d g.t s.a s.b s.c s.d s.t) xs := by
  unfold StepB mtR
  rw [if_pos h, rwQ_iff]
  cases ok
  · simp
  · simp only [if_true, Bool.true_and]
    by_cases e : g = s
    · subst e
      have : geR g g = true := by unfold geR; simp
      rw [if_pos rfl, this]; simp
    · rw [if_neg e]; simp [e]
theorem step_old {g s : Rw} {ok : Bool} {xs : List Bn} {j : Nat} (h : ¬ g.t < 0) (hf : fst xs true g.t = some j) : StepB (mtR g s) ok xs ((ok && geR s g) && rwQ (xs.getD j bn0).r.a (xs.getD j bn0).r.b (xs.getD j bn0).r.c (xs.getD j bn0).r.d (xs.getD j bn0).r.t (s.a - g.a) (s.b - g.b) (s.c - g.c) (s.d - g.d) s.t) xs := by
  have hq := rwQ_iff (xs.getD j bn0).r (subRw s g)
  rw [show rwQ (xs.getD j bn0).r.a (xs.getD j bn0).r.b (xs.getD j bn0).r.c (xs.getD j bn0).r.d (xs.getD j bn0).r.t (s.a - g.a) (s.b - g.b) (s.c - g.c) (s.d - g.d) s.t = decide ((xs.getD j bn0).r = subRw s g) from hq]
  have hr : (msB xs).r g.t = some (xs.getD j bn0).r := by show rhB xs g.t = _; unfold rhB; rw [hf]; rfl
  unfold StepB mtR
  rw [if_neg h]
  cases ok
  · simp
  · simp only [if_true, Bool.true_and]
    cases hg : geR s g
    · simp
    · simp only [if_true, Bool.true_and, hr]
      by_cases e : (xs.getD j bn0).r = subRw s g
      · rw [if_pos e, decide_eq_true e]; exact ⟨rfl, rfl⟩
      · rw [if_neg e, decide_eq_false e]
theorem step_new {g s : Rw} {ok : Bool} {xs : List Bn} (h : ¬ g.t < 0) (hf : fst xs true g.t = none) : StepB (mtR g s) ok xs (ok && geR s g) (xs ++ [⟨g.t, true, none, 0, 0, [], subRw s g⟩]) := by
  have hr : (msB xs).r g.t = none := by show rhB xs g.t = _; unfold rhB; rw [hf]; rfl
  have ha := msB_appR (xs := xs) (y := ⟨g.t, true, none, 0, 0, [], subRw s g⟩) rfl hf
  unfold StepB mtR
  rw [if_neg h]
  cases ok
  · simp
  · simp only [if_true, Bool.true_and]
    cases hg : geR s g
    · simp
    · simp only [if_true, hr]
      exact ⟨trivial, ha⟩
theorem step_var_old {v : Int} {S : TT} {ok : Bool} {xs : List Bn} {j : Nat} (hS : S.ok = true) (hf : fst xs false v = some j) (hT : ∃ T : TT, T.ok = true ∧ (xs.getD j bn0).ns = fl 0 T) : StepB (mtT (.var v) S) ok xs (ok && decide ((xs.getD j bn0).ns = fl 0 S)) xs := by
  obtain ⟨T, hT, hn⟩ := hT
  have hr : (msB xs).s v = some T := by show sgB xs v = _; unfold sgB; rw [hf]; simp only [Option.map_some]; rw [hn, treeOf_fl hT]
  unfold StepB
  cases ok
  · simp
  · simp only [if_true, Bool.true_and]
    unfold mtT
    simp only [hr]
    by_cases e : T = S
    · rw [if_pos e]; subst e; rw [decide_eq_true hn]; (first | exact ⟨rfl, rfl⟩ | exact ⟨trivial, rfl⟩)
    · rw [if_neg e]
      refine decide_eq_false fun h => e ?_
      rw [hn] at h
      rw [← treeOf_fl hT, h, treeOf_fl hS]
theorem step_var_new {v : Int} {S : TT} {ok : Bool} {xs : List Bn} {y : Bn} (hS : S.ok = true) (hf : fst xs false v = none) (hy : y.v = v ∧ y.ir = false ∧ y.ns = fl 0 S) : StepB (mtT (.var v) S) ok xs ok (xs ++ [y]) := by
  obtain ⟨rfl, h2, h3⟩ := hy
  have hr : (msB xs).s y.v = none := by show sgB xs y.v = _; unfold sgB; rw [hf]; rfl
  have ha := msB_appT (xs := xs) (y := y) h2 hf
  unfold StepB
  cases ok
  · simp
  · simp only [if_true]
    unfold mtT
    simp only [hr]
    rw [ha, h3, treeOf_fl hS]
    first | exact ⟨rfl, rfl⟩ | exact ⟨trivial, rfl⟩
theorem RmI.bar {B g : Nat} {w w' : World} {v : Value} {ok ok' : Bool} {xs : List Bn} (h : RmI B g w v ok xs) (hb : Bar (fun k => k = g) w w') (c1 : w'.cell? ⟨g, 0, none⟩ = some v) (c2 : w'.cell? ⟨g, 1, none⟩ = some (.bool ok')) (f : ∀ o, w'.frozen? ⟨g, o, none⟩ = false) : RmI B g w' v ok' xs :=
  ⟨c1, c2, f, hb.own h.i fun k hk e => by have h1 := (own_lt h.i k hk).1; have h2 := h.gB; omega, fun x hx => ⟨hb.own (h.t x hx).1 fun k hk e => by have h1 := (own_lt (h.t x hx).1 k hk).1; have h2 := h.gB; omega, (h.t x hx).2⟩, h.gB, by have h1 := hb.size; have h2 := h.hB; omega⟩
theorem GoB.bar1 {g : Nat} {w w' : World} {v : Value} (hb : Bar (fun k => k = g) w w') : GoB g w w' v v := ⟨hb.mono fun _ h => .inl h, fun _ _ h => h⟩
theorem Bar.setNew {S : Nat → Prop} {w w' : World} {b o : Nat} {x : Value} (h : Bar S w w') (hb : w.heap.size ≤ b) : Bar S w (w'.setCell ⟨b, o, none⟩ x) :=
  h.trans (Bar.set (S := fun k => k = b) _ _ rfl) fun k hk e => by omega
end Go.Proofs.YtfkdcconmecaoaaDoor

/- The rows of the reference's matcher. -/
namespace Go.Proofs.YtfkdcconmecaoaaDoor
open Go.RowKit Go.Maps
set_option linter.unusedVariables false
set_option linter.unusedSimpArgs false

theorem bar_fz {S : Nat → Prop} {w w' : World} {g o : Nat} (hb : Bar S w w') (hn : ¬ S g) (hg : g < w.heap.size) (h : w.frozen? ⟨g, o, none⟩ = false) : w'.frozen? ⟨g, o, none⟩ = false := by
  have e : w'.heap[g]? = w.heap[g]? := hb.block g hg hn
  unfold World.frozen? at h ⊢
  simp only [e]; exact h
theorem step_bnm {ops : Array Oper} {o : Oper} {a : Act} {K : Act → World → Prop} {Q : Exit → Act → World → Prop} {E : Prop} (hgd : o.guard = none) (s x : Operand) (W : World) (B : Nat) (hB : B ≤ W.heap.size) (ov : Value) (l : List Bn) (y : Bn) (arr : Array Value)
    (ho : o.op = .call { callee := .builtin .append, args := #[s, x], argTypes := #[26, 26] })
    (hs : a.eval s = ov) (g0 : Nat) (hg0 : g0 = W.heap.size) (hx : a.eval x = .slice (some ⟨g0, 0, none⟩) 1 1) (harr : arr.toList = bnL1 y) (hown : OwnBn B W ov l) (hlen : l.length ≤ 1000000)
    (h : ∀ g c w', OwnBn B w' (.slice (some ⟨g, 0, none⟩) (l.length + 1) c) (l ++ [y]) → Bar (fun k => ov.ownBlock = some k) W w' → (∀ k, k < W.heap.size → (Value.slice (some ⟨g, 0, none⟩) (l.length + 1) c).ownBlock = some k → ov.ownBlock = some k) → K (a.put o.dst (.slice (some ⟨g, 0, none⟩) (l.length + 1) c)) w') :
    if Region.wanted o (yielded ops a.tmps) = true then Oper.wp Tryd.prog o a (W.alloc (.cells arr 40)) K Q else E := by
  subst hg0
  have hw : Region.wanted o (yielded ops a.tmps) = true := by simp [Region.wanted, hgd]
  rw [if_pos hw]
  obtain ⟨i0, hi, hz0, hz1, hz2⟩ := info_parts infoBq
  have hy1 : bnL [y] = bnL1 y := by simp [bnL]
  obtain ⟨v', w', hrun, r1, hgr, _, hmv⟩ := run_append_moved (P := Tryd.prog) (W.alloc (.cells arr 40)) B 26 o.type 40 i0 _ 8 80 Tryd.underlying26 hi hz0 hz1 hz2 rfl (by decide) ov l.length (bnL l) (World.ownsRow.alloc hown _) ⟨W.heap.size, 0, none⟩ 1 1 (bnL [y]) (bnLq_len [y]) (by
    intro j u hj
    have e : (⟨W.heap.size, 0, none⟩ : Addr).add j = ⟨W.heap.size, j, none⟩ := by simp [Addr.add]; try omega
    rw [e, World.cell?_alloc_at _ _ _ _ rfl, ← hj, hy1, ← harr, Array.getElem?_toList]) (bnLq_one [y]) (by unfold maxLen; omega) (by omega) (by simp; omega)
  unfold Oper.wp
  simp [execOp, ho, resolve, invoke, builtin, hs, hx, hrun, Result.andThen]
  have hO : OwnBn B w' v' (l ++ [y]) := by unfold OwnBn; rw [bnLq_app, List.length_append]; exact r1
  rcases hO.cases with ⟨_, h0⟩ | ⟨g, c, rfl, _⟩
  · simp at h0
  · rw [List.length_append, List.length_singleton] at hO ⊢
    refine h g c w' hO ((Bar.of_below (S := fun k => ov.ownBlock = some k) (below_alc W _)).trans (Bar.of_grown hgr) fun _ _ hs => hs) fun k hk hv => ?_
    rw [List.length_append, List.length_singleton] at hmv
    rcases hmv with h1 | ⟨k', h1, h2⟩
    · exact h1 ▸ hv
    · have e := hv.symm.trans h1
      have e := Option.some.inj e
      have h3 : (W.alloc (.cells arr 40)).heap.size = W.heap.size + 1 := by simp
      rw [h3] at h2
      exact absurd hk (by omega)
set_option maxHeartbeats 1000000 in
theorem rowBind_any (n a b c d t : Int) (w : World) :
    Calls Tryd.prog 86 #[.int .i64 n, .agg #[.int .i64 a, .int .i64 b, .int .i64 c, .int .i64 d], .int .i64 t] w fun e w' => e = .returned (.agg #[.int .i64 n, .bool true, .slice none 0 0, .int .i64 a, .int .i64 b, .int .i64 c, .int .i64 d, .int .i64 t]) ∧ Below w.heap.size w w' := by
  go_enter Tryd.func86, Tryd.ntmps86
  go_wp2_with fail
  refine bodyPost_ret (v := .agg #[.int .i64 n, .bool true, .slice none 0 0, .int .i64 a, .int .i64 b, .int .i64 c, .int .i64 d, .int .i64 t]) (by simp [results, Tryd.results86, go_sem]) rfl ⟨rfl, by (repeat' (first | with_reducible exact Below.refl _ _ | with_reducible assumption | with_reducible apply Below.setCell | with_reducible apply Below.alloc | with_reducible apply Below.drew | with_reducible apply below_drewN | with_reducible exact Nat.le_refl _ | (simp; done) | (simp; omega) | omega | exact Nat.le_refl _))⟩
def R4 (w : World) (b : Nat) (r : Rw) : Prop := b < w.heap.size ∧ w.cell? ⟨b, 0, none⟩ = some (.int .i64 r.a) ∧ w.cell? ⟨b, 1, none⟩ = some (.int .i64 r.b) ∧ w.cell? ⟨b, 2, none⟩ = some (.int .i64 r.c) ∧ w.cell? ⟨b, 3, none⟩ = some (.int .i64 r.d) ∧ ∀ o, w.frozen? ⟨b, o, none⟩ = false
theorem r4_lit (w : World) (T : TypeId) (g : Nat) (hg : g = w.heap.size) : R4 (w.alloc (.cells #[.int .i64 0, .int .i64 0, .int .i64 0, .int .i64 0] T)) g ⟨0, 0, 0, 0, 0⟩ := by
  subst hg
  exact ⟨by simp, by rw [World.cell?_alloc_at _ _ _ _ rfl]; rfl, by rw [World.cell?_alloc_at _ _ _ _ rfl]; rfl, by rw [World.cell?_alloc_at _ _ _ _ rfl]; rfl, by rw [World.cell?_alloc_at _ _ _ _ rfl]; rfl, fun o => by simp [go_sem]⟩
theorem R4.put {w : World} {b k o : Nat} {x : Value} {r : Rw} (h : R4 w b r) (hn : b ≠ k) : R4 (w.setCell ⟨k, o, none⟩ x) b r := by
  obtain ⟨h0, h1, h2, h3, h4, h5⟩ := h
  have e : ∀ i, (⟨k, o, none⟩ : Addr) ≠ ⟨b, i, none⟩ := fun i e => by injection e with e _ _; exact hn e.symm
  exact ⟨by simpa using h0, setO h1 (e _), setO h2 (e _), setO h3 (e _), setO h4 (e _), fun i => by rw [World.frozen?_setCell]; exact h5 i⟩
theorem R4.below {w w' : World} {b : Nat} {r : Rw} (h : R4 w b r) (hb : Below w.heap.size w w') : R4 w' b r := by
  obtain ⟨h0, h1, h2, h3, h4, h5⟩ := h
  exact ⟨by have := hb.size; omega, carry hb h0 h1, carry hb h0 h2, carry hb h0 h3, carry hb h0 h4, fun i => by rw [hb.frozen (p := ⟨b, i, none⟩) h0]; exact h5 i⟩
def rsK : Nat → Rw → Rw → Rw
  | 0, _, _ => ⟨0, 0, 0, 0, 0⟩
  | 1, s, g => ⟨s.a - g.a, 0, 0, 0, 0⟩
  | 2, s, g => ⟨s.a - g.a, s.b - g.b, 0, 0, 0⟩
  | 3, s, g => ⟨s.a - g.a, s.b - g.b, s.c - g.c, 0, 0⟩
  | _, s, g => ⟨s.a - g.a, s.b - g.b, s.c - g.c, s.d - g.d, 0⟩
theorem R4.step {w : World} {b k : Nat} {s g : Rw} (h : R4 w b (rsK k s g)) (hk : k < 4) : R4 (w.setCell ⟨b, k, none⟩ (.int .i64 ((if k = 0 then s.a else if k = 1 then s.b else if k = 2 then s.c else s.d) - (if k = 0 then g.a else if k = 1 then g.b else if k = 2 then g.c else g.d)))) b (rsK (k + 1) s g) := by
  obtain ⟨h0, h1, h2, h3, h4, h5⟩ := h
  have e : ∀ i, i ≠ k → (⟨b, k, none⟩ : Addr) ≠ ⟨b, i, none⟩ := fun i hi e => by injection e with _ e _; exact hi e.symm
  have hk4 : k = 0 ∨ k = 1 ∨ k = 2 ∨ k = 3 := by omega
  rcases hk4 with rfl | rfl | rfl | rfl
  · exact ⟨by simpa using h0, setS h1, setO h2 (e _ (by decide)), setO h3 (e _ (by decide)), setO h4 (e _ (by decide)), fun i => by rw [World.frozen?_setCell]; exact h5 i⟩
  · exact ⟨by simpa using h0, setO h1 (e _ (by decide)), setS h2, setO h3 (e _ (by decide)), setO h4 (e _ (by decide)), fun i => by rw [World.frozen?_setCell]; exact h5 i⟩
  · exact ⟨by simpa using h0, setO h1 (e _ (by decide)), setO h2 (e _ (by decide)), setS h3, setO h4 (e _ (by decide)), fun i => by rw [World.frozen?_setCell]; exact h5 i⟩
  · exact ⟨by simpa using h0, setO h1 (e _ (by decide)), setO h2 (e _ (by decide)), setO h3 (e _ (by decide)), setS h4, fun i => by rw [World.frozen?_setCell]; exact h5 i⟩
def geK (k : Nat) (s g : Rw) : Bool := ((decide (k < 1) || decide (g.a ≤ s.a)) && (decide (k < 2) || decide (g.b ≤ s.b))) && ((decide (k < 3) || decide (g.c ≤ s.c)) && (decide (k < 4) || decide (g.d ≤ s.d)))
theorem geK_zero (s g : Rw) : geK 0 s g = true := by simp [geK]
theorem geK_four (s g : Rw) : geK 4 s g = geR s g := by
  unfold geK geR
  rw [Bool.eq_iff_iff]
  simp [and_assoc]
theorem geK_succ (k : Nat) (hk : k < 4) (s g : Rw) : geK (k + 1) s g = (geK k s g && decide ((if k = 0 then g.a else if k = 1 then g.b else if k = 2 then g.c else g.d) ≤ (if k = 0 then s.a else if k = 1 then s.b else if k = 2 then s.c else s.d))) := by
  have hk4 : k = 0 ∨ k = 1 ∨ k = 2 ∨ k = 3 := by omega
  rcases hk4 with rfl | rfl | rfl | rfl <;> simp [geK, Bool.and_assoc]
/-- a bind alone in a block. -/
def Y8 (w : World) (k : Nat) (y : Bn) : Prop := k < w.heap.size ∧ w.cell? ⟨k, 0, none⟩ = some (.int .i64 y.v) ∧ w.cell? ⟨k, 1, none⟩ = some (.bool y.ir) ∧ w.cell? ⟨k, 2, none⟩ = some (.slice y.ad y.n y.c) ∧ w.cell? ⟨k, 3, none⟩ = some (.int .i64 y.r.a) ∧ w.cell? ⟨k, 4, none⟩ = some (.int .i64 y.r.b) ∧ w.cell? ⟨k, 5, none⟩ = some (.int .i64 y.r.c) ∧ w.cell? ⟨k, 6, none⟩ = some (.int .i64 y.r.d) ∧ w.cell? ⟨k, 7, none⟩ = some (.int .i64 y.r.t)
theorem y8_lit (w : World) (T : TypeId) (g : Nat) (y : Bn) (arr : Array Value) (hg : g = w.heap.size) (ha : arr.toList = bnL1 y) : Y8 (w.alloc (.cells arr T)) g y := by
  subst hg
  have e : ∀ j u, (bnL1 y)[j]? = some u → (w.alloc (.cells arr T)).cell? ⟨w.heap.size, j, none⟩ = some u := fun j u hj => by
    rw [World.cell?_alloc_at _ _ _ _ rfl, ← hj, ← ha, Array.getElem?_toList]
  exact ⟨by simp, e 0 _ rfl, e 1 _ rfl, e 2 _ rfl, e 3 _ rfl, e 4 _ rfl, e 5 _ rfl, e 6 _ rfl, e 7 _ rfl⟩
theorem Y8.below {w w' : World} {k : Nat} {y : Bn} (h : Y8 w k y) (hb : Below w.heap.size w w') : Y8 w' k y := by
  obtain ⟨h0, h1, h2, h3, h4, h5, h6, h7, h8⟩ := h
  exact ⟨by have := hb.size; omega, carry hb h0 h1, carry hb h0 h2, carry hb h0 h3, carry hb h0 h4, carry hb h0 h5, carry hb h0 h6, carry hb h0 h7, carry hb h0 h8⟩
theorem bnSl_at {w : World} {a : Option Addr} {n j : Nat} {xs : List Bn} (h : BnArg w a n xs) (hj : j < xs.length) : ∃ b off, a = some ⟨b, off, none⟩ ∧ BnAt w b off (xs.getD j bn0) j ∧ b < w.heap.size ∧ TyArg w (xs.getD j bn0).ad (xs.getD j bn0).n (xs.getD j bn0).ns := by
  obtain ⟨_, rfl | ⟨b, off, h1, h2, h3⟩⟩ := h
  · simp at hj
  · exact ⟨b, off, h1, (h2 j hj).1, h3, (h2 j hj).2.1⟩
def RmPost (B g : Nat) (v : Value) (ok : Bool) (xs : List Bn) (R : MS → Option MS) (N : Nat) (w : World) (e : Ending) (w' : World) : Prop :=
  e = .returned (.tuple #[]) ∧ ∃ v' ok' xs', RmI B g w' v' ok' xs' ∧ GoB g w w' v v' ∧ StepB R ok xs ok' xs' ∧ xs'.length ≤ xs.length + N
/-- the world of the row's first loop. -/
def RmL (g : Nat) (w wr : World) (v : Value) (okk : Bool) (G S : Rw) (k : Nat) : Prop :=
  Bar (fun k => k = g) w wr ∧ wr.cell? ⟨g, 0, none⟩ = some v ∧ wr.cell? ⟨g, 1, none⟩ = some (.bool okk) ∧ (∀ o, wr.frozen? ⟨g, o, none⟩ = false) ∧ RowAt wr w.heap.size G ∧ RowAt wr (w.heap.size + 1) S ∧ R4 wr (w.heap.size + 2) (rsK k S G)
theorem RmL.next {g : Nat} {w wr : World} {v : Value} {okk : Bool} {G S : Rw} {k : Nat} (h : RmL g w wr v okk G S k) (hg : g < w.heap.size) (hk : k < 4) {x : Value} (hx : x = .int .i64 ((if k = 0 then S.a else if k = 1 then S.b else if k = 2 then S.c else S.d) - (if k = 0 then G.a else if k = 1 then G.b else if k = 2 then G.c else G.d))) :
    ∃ X, (wr.setCell ⟨w.heap.size + 1 + 1, k, none⟩ x).drew = X ∧ X.cell? ⟨g, 1, none⟩ = some (.bool okk) ∧ X.frozen? ⟨g, 1, none⟩ = false ∧ X.cell? ⟨w.heap.size + 1 + 1, k, none⟩ = some x ∧ (w.heap.size + 1 + 1 < X.heap.size) ∧ Hid (∀ ok', RmL g w (X.setCell ⟨g, 1, none⟩ (.bool ok')) v ok' G S (k + 1)) := by
  obtain ⟨h0, h1, h2, h3, h4, h5, h6⟩ := h
  have hs := h0.size
  have hgw : g < wr.heap.size := by omega
  have ne : ∀ i j, (⟨w.heap.size + 2, i, none⟩ : Addr) ≠ ⟨g, j, none⟩ := fun i j e => by injection e with e _ _; omega
  obtain ⟨Y, hY⟩ : ∃ Y, wr.setCell ⟨w.heap.size + 1 + 1, k, none⟩ x = Y := ⟨_, rfl⟩
  have y0 : Bar (fun k => k = g) w Y := hY ▸ h0.setNew (by omega)
  have y1 : Y.cell? ⟨g, 0, none⟩ = some v := hY ▸ setO h1 (ne _ _)
  have y2 : Y.cell? ⟨g, 1, none⟩ = some (.bool okk) := hY ▸ setO h2 (ne _ _)
  have y3 : ∀ o, Y.frozen? ⟨g, o, none⟩ = false := fun o => by rw [← hY, World.frozen?_setCell]; exact h3 o
  have y4 : RowAt Y w.heap.size G := hY ▸ h4.put (by omega)
  have y5 : RowAt Y (w.heap.size + 1) S := hY ▸ h5.put (by omega)
  have y6 : R4 Y (w.heap.size + 2) (rsK (k + 1) S G) := by rw [← hY, hx]; exact h6.step hk
  have y7 : Y.cell? ⟨w.heap.size + 1 + 1, k, none⟩ = some x := by
    obtain ⟨_, a1, a2, a3, a4, _⟩ := h6
    have hk4 : k = 0 ∨ k = 1 ∨ k = 2 ∨ k = 3 := by omega
    rw [← hY]
    rcases hk4 with rfl | rfl | rfl | rfl
    · exact setS a1
    · exact setS a2
    · exact setS a3
    · exact setS a4
  clear h0 h1 h2 h3 h4 h5 h6
  have hd : Below Y.heap.size Y Y.drew := (Below.refl _ _).drew
  have hsY := y0.size
  have hgY : g < Y.heap.size := by omega
  have hrY := y6.1
  refine ⟨Y.drew, by rw [hY], carry hd hgY y2, by rw [hd.frozen (p := ⟨g, 1, none⟩) hgY]; exact y3 1, carry hd hrY y7, (y6.below hd).1, Lib.hid fun ok' => ⟨?_, ?_, ?_, ?_, ?_, ?_, ?_⟩⟩
  · exact (y0.next hd).trans (Bar.set (S := fun k => k = g) _ _ rfl) fun _ _ h => h
  · exact setO (carry hd hgY y1) (by intro e; injection e with _ e _; omega)
  · exact setS (carry hd hgY y2)
  · intro o; rw [World.frozen?_setCell, hd.frozen (p := ⟨g, o, none⟩) hgY]; exact y3 o
  · exact (y4.below hd).put (by omega)
  · exact (y5.below hd).put (by omega)
  · exact (y6.below hd).put (by omega)
set_option maxRecDepth 100000 in
set_option maxHeartbeats 8000000 in
theorem rmRow_any (B g : Nat) (a : Option Addr) (n c : Nat) (ok : Bool) (xs : List Bn) (ga gb gc gd gt sa sb sc sd st : Int) (w : World) (h : Hid (RmI B g w (.slice a n c) ok xs)) (hn : xs.length ≤ 100000) (hg : Rw.may ⟨ga, gb, gc, gd, gt⟩ = true) (hs : Rw.may ⟨sa, sb, sc, sd, st⟩ = true) :
    Calls Tryd.prog 68 #[.pointer (some ⟨g, 0, none⟩), .agg #[.int .i64 ga, .int .i64 gb, .int .i64 gc, .int .i64 gd, .int .i64 gt], .agg #[.int .i64 sa, .int .i64 sb, .int .i64 sc, .int .i64 sd, .int .i64 st]] w (RmPost B g (.slice a n c) ok xs (mtR ⟨ga, gb, gc, gd, gt⟩ ⟨sa, sb, sc, sd, st⟩) 1 w) := by
  have hin := fun (x0 x1 x2 x3 x4 y0 y1 y2 y3 y4 : Int) (W : World) => row_in 9997 x0 x1 x2 x3 x4 y0 y1 y2 y3 y4 W
  simp only [Nat.reduceAdd] at hin
  have hg := of_decide_eq_true (show mayR ga gb gc gd gt = true from hg)
  have hs := of_decide_eq_true (show mayR sa sb sc sd st = true from hs)
  have w0 : IntKind.i64.wrap (sa - ga) = sa - ga := IntWalk.i64_in _ (by omega)
  have w1 : IntKind.i64.wrap (sb - gb) = sb - gb := IntWalk.i64_in _ (by omega)
  have w2 : IntKind.i64.wrap (sc - gc) = sc - gc := IntWalk.i64_in _ (by omega)
  have w3 : IntKind.i64.wrap (sd - gd) = sd - gd := IntWalk.i64_in _ (by omega)
  have hgw : g < w.heap.size := by have h1 := h.out.gB; have h2 := h.out.hB; omega
  have hL0 : Hid (RmL g w (((w.alloc (.cells #[.int .i64 ga, .int .i64 gb, .int .i64 gc, .int .i64 gd, .int .i64 gt] 36)).alloc (.cells #[.int .i64 sa, .int .i64 sb, .int .i64 sc, .int .i64 sd, .int .i64 st] 36)).alloc (.cells #[.int .i64 0, .int .i64 0, .int .i64 0, .int .i64 0] 34)) (.slice a n c) ok ⟨ga, gb, gc, gd, gt⟩ ⟨sa, sb, sc, sd, st⟩ 0) := Lib.hid ⟨Bar.of_below (by (repeat' (first | with_reducible exact Below.refl _ _ | with_reducible assumption | with_reducible apply Below.setCell | with_reducible apply Below.alloc | with_reducible apply Below.drew | with_reducible apply below_drewN | with_reducible exact Nat.le_refl _ | (simp; done) | (simp; omega) | omega | exact Nat.le_refl _))), ((h.out.below (below_alc _ _)).below (below_alc _ _)).below (below_alc _ _) |>.c1, ((h.out.below (below_alc _ _)).below (below_alc _ _)).below (below_alc _ _) |>.c2, ((h.out.below (below_alc _ _)).below (below_alc _ _)).below (below_alc _ _) |>.f, RowAt.alloc _ (RowAt.alloc _ (row_lit _ _ _ ⟨ga, gb, gc, gd, gt⟩ rfl)), RowAt.alloc _ (row_lit _ _ _ ⟨sa, sb, sc, sd, st⟩ (by simp)), r4_lit _ _ _ (by simp)⟩
  go_enter Tryd.func68, Tryd.ntmps68
  go_wp2_with fail
  go_loopw [7] (fun i wr => ∃ (k : Nat) (z : Int) (okk : Bool), k ≤ 4 ∧ i = .int .i64 z ∧ z = k ∧ Hid (okk = (ok && geK k ⟨sa, sb, sc, sd, st⟩ ⟨ga, gb, gc, gd, gt⟩)) ∧ Hid (RmL g w wr (.slice a n c) okk ⟨ga, gb, gc, gd, gt⟩ ⟨sa, sb, sc, sd, st⟩ k)) (fun i _ => 4 - (intOf i).toNat)
  case atStart => exact ⟨0, 0, ok, by omega, rfl, rfl, Lib.hid (by rw [geK_zero, Bool.and_true]), hL0⟩
  case round =>
    obtain ⟨k, z, okk, hk, rfl, hz, hO, hL⟩ := hrel
    have hk5 : k = 0 ∨ k = 1 ∨ k = 2 ∨ k = 3 ∨ k = 4 := by omega
    rcases hk5 with rfl | rfl | rfl | rfl | rfl
    · obtain rfl : z = 0 := by omega
      clear hz
      have hG := geK_succ 0 (by omega) ⟨sa, sb, sc, sd, st⟩ ⟨ga, gb, gc, gd, gt⟩
      have hNx := hL.out.next hgw (by omega) (x := .int .i64 (sa - ga)) rfl
      obtain ⟨l0, l1, l2, l3, ⟨g0, g1, g2, g3, g4, g5⟩, ⟨s0, s1, s2, s3, s4, s5⟩, ⟨r0, r1, r2, r3, r4, r5⟩⟩ := hL.out
      simp only [rsK] at g1 g2 g3 g4 g5 s1 s2 s3 s4 s5 r1 r2 r3 r4
      have hG : Hid (geK 1 ⟨sa, sb, sc, sd, st⟩ ⟨ga, gb, gc, gd, gt⟩ = (geK 0 ⟨sa, sb, sc, sd, st⟩ ⟨ga, gb, gc, gd, gt⟩ && decide (ga ≤ sa))) := Lib.hid (by simpa using hG)
      rename_i hG0
      clear hG0
      have f0 := r5 0
      have hNx := Lib.hid hNx
      rename_i hNx0
      clear r5 l3 l0 hNx0 l1 l2
      go_wp2_with fail
      go_region
      obtain ⟨X, hX, c1, cf, cx, cs, hN⟩ := hNx.out
      rw [hX]
      clear hX g0 g1 g2 g3 g4 g5 s0 s1 s2 s3 s4 s5 r0 r1 r2 r3 r4 f0 hNx w0 w1 w2 w3 hin
      cases okk
      · go_wp2_with fail
        go_roundw
        case rel => exact ⟨1, 1, false, by omega, rfl, rfl, Lib.hid (by rw [hG.out, ← Bool.and_assoc, ← hO.out]; rfl), Lib.hid (hN.out _)⟩
        case measure => simp [intOf]
      · go_wp2_with fail
        go_roundw
        case rel => exact ⟨1, 1, decide (ga ≤ sa), by omega, rfl, rfl, Lib.hid (by rw [hG.out, ← Bool.and_assoc, ← hO.out, Bool.true_and]), Lib.hid (hN.out _)⟩
        case measure => simp [intOf]
    · obtain rfl : z = 1 := by omega
      clear hz
      have hG := geK_succ 1 (by omega) ⟨sa, sb, sc, sd, st⟩ ⟨ga, gb, gc, gd, gt⟩
      have hNx := hL.out.next hgw (by omega) (x := .int .i64 (sb - gb)) rfl
      obtain ⟨l0, l1, l2, l3, ⟨g0, g1, g2, g3, g4, g5⟩, ⟨s0, s1, s2, s3, s4, s5⟩, ⟨r0, r1, r2, r3, r4, r5⟩⟩ := hL.out
      simp only [rsK] at g1 g2 g3 g4 g5 s1 s2 s3 s4 s5 r1 r2 r3 r4
      have hG : Hid (geK 2 ⟨sa, sb, sc, sd, st⟩ ⟨ga, gb, gc, gd, gt⟩ = (geK 1 ⟨sa, sb, sc, sd, st⟩ ⟨ga, gb, gc, gd, gt⟩ && decide (gb ≤ sb))) := Lib.hid (by simpa using hG)
      rename_i hG0
      clear hG0
      have f0 := r5 1
      have hNx := Lib.hid hNx
      rename_i hNx0
      clear r5 l3 l0 hNx0 l1 l2
      go_wp2_with fail
      go_region
      obtain ⟨X, hX, c1, cf, cx, cs, hN⟩ := hNx.out
      rw [hX]
      clear hX g0 g1 g2 g3 g4 g5 s0 s1 s2 s3 s4 s5 r0 r1 r2 r3 r4 f0 hNx w0 w1 w2 w3 hin
      cases okk
      · go_wp2_with fail
        go_roundw
        case rel => exact ⟨2, 2, false, by omega, rfl, rfl, Lib.hid (by rw [hG.out, ← Bool.and_assoc, ← hO.out]; rfl), Lib.hid (hN.out _)⟩
        case measure => simp [intOf]
      · go_wp2_with fail
        go_roundw
        case rel => exact ⟨2, 2, decide (gb ≤ sb), by omega, rfl, rfl, Lib.hid (by rw [hG.out, ← Bool.and_assoc, ← hO.out, Bool.true_and]), Lib.hid (hN.out _)⟩
        case measure => simp [intOf]
    · obtain rfl : z = 2 := by omega
      clear hz
      have hG := geK_succ 2 (by omega) ⟨sa, sb, sc, sd, st⟩ ⟨ga, gb, gc, gd, gt⟩
      have hNx := hL.out.next hgw (by omega) (x := .int .i64 (sc - gc)) rfl
      obtain ⟨l0, l1, l2, l3, ⟨g0, g1, g2, g3, g4, g5⟩, ⟨s0, s1, s2, s3, s4, s5⟩, ⟨r0, r1, r2, r3, r4, r5⟩⟩ := hL.out
      simp only [rsK] at g1 g2 g3 g4 g5 s1 s2 s3 s4 s5 r1 r2 r3 r4
      have hG : Hid (geK 3 ⟨sa, sb, sc, sd, st⟩ ⟨ga, gb, gc, gd, gt⟩ = (geK 2 ⟨sa, sb, sc, sd, st⟩ ⟨ga, gb, gc, gd, gt⟩ && decide (gc ≤ sc))) := Lib.hid (by simpa using hG)
      rename_i hG0
      clear hG0
      have f0 := r5 2
      have hNx := Lib.hid hNx
      rename_i hNx0
      clear r5 l3 l0 hNx0 l1 l2
      go_wp2_with fail
      go_region
      obtain ⟨X, hX, c1, cf, cx, cs, hN⟩ := hNx.out
      rw [hX]
      clear hX g0 g1 g2 g3 g4 g5 s0 s1 s2 s3 s4 s5 r0 r1 r2 r3 r4 f0 hNx w0 w1 w2 w3 hin
      cases okk
      · go_wp2_with fail
        go_roundw
        case rel => exact ⟨3, 3, false, by omega, rfl, rfl, Lib.hid (by rw [hG.out, ← Bool.and_assoc, ← hO.out]; rfl), Lib.hid (hN.out _)⟩
        case measure => simp [intOf]
      · go_wp2_with fail
        go_roundw
        case rel => exact ⟨3, 3, decide (gc ≤ sc), by omega, rfl, rfl, Lib.hid (by rw [hG.out, ← Bool.and_assoc, ← hO.out, Bool.true_and]), Lib.hid (hN.out _)⟩
        case measure => simp [intOf]
    · obtain rfl : z = 3 := by omega
      clear hz
      have hG := geK_succ 3 (by omega) ⟨sa, sb, sc, sd, st⟩ ⟨ga, gb, gc, gd, gt⟩
      have hNx := hL.out.next hgw (by omega) (x := .int .i64 (sd - gd)) rfl
      obtain ⟨l0, l1, l2, l3, ⟨g0, g1, g2, g3, g4, g5⟩, ⟨s0, s1, s2, s3, s4, s5⟩, ⟨r0, r1, r2, r3, r4, r5⟩⟩ := hL.out
      simp only [rsK] at g1 g2 g3 g4 g5 s1 s2 s3 s4 s5 r1 r2 r3 r4
      have hG : Hid (geK 4 ⟨sa, sb, sc, sd, st⟩ ⟨ga, gb, gc, gd, gt⟩ = (geK 3 ⟨sa, sb, sc, sd, st⟩ ⟨ga, gb, gc, gd, gt⟩ && decide (gd ≤ sd))) := Lib.hid (by simpa using hG)
      rename_i hG0
      clear hG0
      have f0 := r5 3
      have hNx := Lib.hid hNx
      rename_i hNx0
      clear r5 l3 l0 hNx0 l1 l2
      go_wp2_with fail
      go_region
      obtain ⟨X, hX, c1, cf, cx, cs, hN⟩ := hNx.out
      rw [hX]
      clear hX g0 g1 g2 g3 g4 g5 s0 s1 s2 s3 s4 s5 r0 r1 r2 r3 r4 f0 hNx w0 w1 w2 w3 hin
      cases okk
      · go_wp2_with fail
        go_roundw
        case rel => exact ⟨4, 4, false, by omega, rfl, rfl, Lib.hid (by rw [hG.out, ← Bool.and_assoc, ← hO.out]; rfl), Lib.hid (hN.out _)⟩
        case measure => simp [intOf]
      · go_wp2_with fail
        go_roundw
        case rel => exact ⟨4, 4, decide (gd ≤ sd), by omega, rfl, rfl, Lib.hid (by rw [hG.out, ← Bool.and_assoc, ← hO.out, Bool.true_and]), Lib.hid (hN.out _)⟩
        case measure => simp [intOf]
    · obtain rfl : z = 4 := by omega
      clear hz
      have hO := Lib.hid (show okk = (ok && geR ⟨sa, sb, sc, sd, st⟩ ⟨ga, gb, gc, gd, gt⟩) from by rw [hO.out, geK_four])
      rename_i hO0
      clear hO0 w0 w1 w2 w3
      by_cases ht : gt < 0
      · have hSt := Lib.hid (step_neg (g := ⟨ga, gb, gc, gd, gt⟩) (s := ⟨sa, sb, sc, sd, st⟩) (ok := ok) (xs := xs) ht)
        obtain ⟨x, hx⟩ : ∃ x, rwQ ga gb gc gd gt sa sb sc sd st = x := ⟨_, rfl⟩
        have hSt := Lib.hid (show StepB (mtR ⟨ga, gb, gc, gd, gt⟩ ⟨sa, sb, sc, sd, st⟩) ok xs (okk && x) xs from by rw [hO.out, ← hx]; exact hSt.out)
        rename_i hSt0
        obtain ⟨l0, l1, l2, l3, ⟨g0, g1, g2, g3, g4, g5⟩, ⟨s0, s1, s2, s3, s4, s5⟩, _⟩ := hL.out
        simp only [] at g1 g2 g3 g4 g5 s1 s2 s3 s4 s5
        have f1 := l3 1
        have hM := Lib.hid fun (b : Bool) => (h.out.bar l0 l1 l2 l3).setOk (b := b)
        have hL0 := Lib.hid (GoB.bar1 (v := .slice a n c) l0)
        rename_i hL00
        clear hSt0 hO l0 l3 l1 hL hL00
        cases okk
        · go_wp2_with fail
          go_end0
          exact ⟨rfl, _, false, xs, (hM.out false).1, hL0.out.trans (hM.out false).2, hSt.out, by omega⟩
        · go_wp2_with fail
          go_end0
          exact ⟨rfl, _, x, xs, (hM.out x).1, hL0.out.trans (hM.out x).2, by simpa using hSt.out, by omega⟩
      · obtain ⟨l0, l1, l2, l3, ⟨g0, g1, g2, g3, g4, g5⟩, ⟨s0, s1, s2, s3, s4, s5⟩, ⟨r0, r1, r2, r3, r4, r5⟩⟩ := hL.out
        simp only [rsK] at g1 g2 g3 g4 g5 s1 s2 s3 s4 s5 r1 r2 r3 r4
        have hR := Lib.hid (h.out.bar l0 l1 l2 l3)
        have hGo := Lib.hid (GoB.bar1 (v := .slice a n c) l0)
        have hRA := Lib.hid (show RowAt wr w.heap.size ⟨ga, gb, gc, gd, gt⟩ from hL.out.2.2.2.2.1)
        clear l0 l1 l2 l3 r5 hL
        go_wp2_with fail
        clear g0 g1 g2 g3 g4 g5 s0 s1 s2 s3 s4 s5 r0 r1 r2 r3 r4
        refine (rowBind_any gt (sa - ga) (sb - gb) (sc - gc) (sd - gd) st _).mono ?_
        rintro e wb ⟨rfl, hb⟩
        have hR := Lib.hid ((hR.out.below hb).below (below_alc wb (.cells #[.int .i64 gt, .bool true, .slice none 0 0, .int .i64 (sa - ga), .int .i64 (sb - gb), .int .i64 (sc - gc), .int .i64 (sd - gd), .int .i64 st] 40)))
        have hGo := Lib.hid (hGo.out.trans (GoB.of_below (hb.alloc hb.size (.cells #[.int .i64 gt, .bool true, .slice none 0 0, .int .i64 (sa - ga), .int .i64 (sb - gb), .int .i64 (sc - gc), .int .i64 (sd - gd), .int .i64 st] 40))))
        have hY := Lib.hid (y8_lit wb 40 wb.heap.size ⟨gt, true, none, 0, 0, [], ⟨sa - ga, sb - gb, sc - gc, sd - gd, st⟩⟩ #[.int .i64 gt, .bool true, .slice none 0 0, .int .i64 (sa - ga), .int .i64 (sb - gb), .int .i64 (sc - gc), .int .i64 (sd - gd), .int .i64 st] rfl rfl)
        have hRA := Lib.hid ((hRA.out.below hb).alloc (.cells #[.int .i64 gt, .bool true, .slice none 0 0, .int .i64 (sa - ga), .int .i64 (sb - gb), .int .i64 (sc - gc), .int .i64 (sd - gd), .int .i64 st] 40))
        clear hb
        go_upto_region 10 with fail
        generalize hWb : (wb.alloc (.cells #[.int .i64 gt, .bool true, .slice none 0 0, .int .i64 (sa - ga), .int .i64 (sb - gb), .int .i64 (sc - gc), .int .i64 (sd - gd), .int .i64 st] 40)) = Wb at hR hGo hY hRA ⊢
        clear hWb
        generalize wb.heap.size = K at hY ⊢
        have hold := Lib.hid fun (j : Nat) (hf : fst xs true gt = some j) => step_old (g := ⟨ga, gb, gc, gd, gt⟩) (s := ⟨sa, sb, sc, sd, st⟩) (ok := ok) (xs := xs) (by show ¬ gt < 0; omega) hf
        have hnew := Lib.hid fun (hf : fst xs true gt = none) => step_new (g := ⟨ga, gb, gc, gd, gt⟩) (s := ⟨sa, sb, sc, sd, st⟩) (ok := ok) (xs := xs) (by show ¬ gt < 0; omega) hf
        have hnl : Hid (n = xs.length) := Lib.hid hR.out.arg.1
        go_wp2_with fail
        go_loopw [9] (fun i W => ∃ j : Nat, j ≤ xs.length ∧ i = .int .i64 j ∧ Hid (Below Wb.heap.size Wb W) ∧ Hid (noB xs true gt j)) (fun i _ => xs.length - (intOf i).toNat)
        case atStart => exact ⟨0, by omega, rfl, Lib.hid (Below.refl _ _), Lib.hid (fun i hi => by omega)⟩
        case round =>
          rename World => W
          obtain ⟨j, hj, rfl, hBW, hno⟩ := hrel
          have hRW := Lib.hid (hR.out.below hBW.out)
          have hYW := Lib.hid (hY.out.below hBW.out)
          have hGW := Lib.hid (hGo.out.trans (GoB.of_below (v := .slice a n c) hBW.out))
          have hdN := Lib.hid fun (m : Nat) => (show Below W.heap.size W (W.drewN m) from below_drewN (Below.refl _ _) m)
          have c1 := hRW.out.c1
          have c2 := hRW.out.c2
          have f1 := hRW.out.f 1
          have f0 := hRW.out.f 0
          obtain ⟨a0, a1, a2, a3, a4, a5⟩ := hRA.out.below hBW.out
          simp only [] at a1 a2 a3 a4 a5
          by_cases hlt : j < xs.length
          · obtain ⟨b, off, rfl, ⟨x0, x1, x2, x3, x4, x5, x6, x7⟩, hbl, _⟩ := bnSl_at hRW.out.arg hlt
            have hhit := Lib.hid fun (h : (xs.getD j bn0).ir = true ∧ (xs.getD j bn0).v = gt) => hold.out j (fst_at hlt hno.out h)
            have hmiss := Lib.hid fun (h : ¬ ((xs.getD j bn0).ir = true ∧ (xs.getD j bn0).v = gt)) => noB_succ hno.out h
            generalize xs.getD j bn0 = x at x0 x1 x2 x3 x4 x5 x6 x7 hhit hmiss
            have hlt' : (j : Int) < (n : Int) := by have := hnl.out; omega
            have hj0 : (0 : Int) ≤ (j : Int) := by omega
            obtain ⟨ir, hir⟩ : ∃ q, x.ir = q := ⟨_, rfl⟩
            rw [hir] at x1
            have hbW : b < W.heap.size := hbl
            cases ir
            · have hm := Lib.hid (hmiss.out (by rw [hir]; simp))
              clear hhit hmiss hir
              go_wp2_with fail
              go_quiet (fail)
              go_wp2_with fail
              go_roundw
              case rel => exact ⟨j + 1, by omega, by go_num, Lib.hid (below_drewN hBW.out _), hm⟩
              case measure => simp [intOf]; omega
            · by_cases hv : x.v = gt
              · have hs := Lib.hid (hhit.out ⟨hir, hv⟩)
                have hv' : (x.v == gt) = true := beq_iff_eq.2 hv
                obtain ⟨q, hq⟩ : ∃ q, rwQ x.r.a x.r.b x.r.c x.r.d x.r.t (sa - ga) (sb - gb) (sc - gc) (sd - gd) st = q := ⟨_, rfl⟩
                have hs := Lib.hid (show StepB (mtR ⟨ga, gb, gc, gd, gt⟩ ⟨sa, sb, sc, sd, st⟩) ok xs (okk && q) xs from by rw [hO.out, ← hq]; exact hs.out)
                obtain ⟨y0, y1, y2, y3, y4, y5, y6, y7, y8⟩ := hYW.out
                simp only [] at y4 y5 y6 y7 y8
                rename_i hs0
                clear hhit hmiss hir hs0 y1 y2 y3
                cases okk
                · go_wp2_with fail
                  go_quiet (fail)
                  go_wp2_with fail
                  go_region
                  go_wp2_with fail
                  go_end0
                  exact ⟨rfl, _, false, xs, (hRW.out.below (hdN.out _)).setOk.1, hGW.out.trans ((GoB.of_below (hdN.out _)).trans (hRW.out.below (hdN.out _)).setOk.2), hs.out, by omega⟩
                · go_wp2_with fail
                  go_quiet (fail)
                  go_wp2_with fail
                  go_region
                  go_wp2_with fail
                  go_end0
                  exact ⟨rfl, _, q, xs, (hRW.out.below (hdN.out _)).setOk.1, hGW.out.trans ((GoB.of_below (hdN.out _)).trans (hRW.out.below (hdN.out _)).setOk.2), by simpa using hs.out, by omega⟩
              · have hm := Lib.hid (hmiss.out (by rw [hir]; intro h; exact hv h.2))
                have hv' : (x.v == gt) = false := beq_eq_false_iff_ne.2 hv
                clear hhit hmiss hir
                go_wp2_with fail
                go_quiet (fail)
                go_wp2_with fail
                go_roundw
                case rel => exact ⟨j + 1, by omega, by go_num, Lib.hid (below_drewN hBW.out _), hm⟩
                case measure => simp [intOf]; omega
          · obtain rfl : j = xs.length := by omega
            have hs := Lib.hid (hnew.out (fst_noneq hno.out))
            have hs := Lib.hid (show StepB (mtR ⟨ga, gb, gc, gd, gt⟩ ⟨sa, sb, sc, sd, st⟩) ok xs okk (xs ++ [⟨gt, true, none, 0, 0, [], ⟨sa - ga, sb - gb, sc - gc, sd - gd, st⟩⟩]) from by rw [hO.out]; exact hs.out)
            rename_i hs0
            obtain ⟨y0, y1, y2, y3, y4, y5, y6, y7, y8⟩ := hYW.out
            simp only [] at y1 y2 y3 y4 y5 y6 y7 y8
            have hBd := Lib.hid (show B ≤ W.heap.size from hRW.out.hB)
            have hgW := hRW.out.gB
            have hgs : g < W.heap.size := by have := hBd.out; omega
            have hgn : g ≠ W.heap.size := by omega
            have hng : Hid (¬ (Value.slice a n c).ownBlock = some g) := Lib.hid (by intro hk; have h1 := (own_lt hRW.out.i g hk).1; omega)
            have hln := Lib.hid (show xs.length ≤ 1000000 by omega)
            have hlt2 : ¬ ((xs.length : Int) < (n : Int)) := by have := hnl.out; omega
            clear hs0 hold hnew a0 a1 a2 a3 a4 a5 hlt
            go_wp2_with fail
            go_region_law ((refine step_bnm rfl (.tmp 113) (.tmp 115) W.drew B (show B ≤ W.drew.heap.size from hBd.out) (.slice a n c) xs ⟨gt, true, none, 0, 0, [], ⟨sa - ga, sb - gb, sc - gc, sd - gd, st⟩⟩ _ rfl rfl _ (by simp) rfl rfl (show OwnBn B W.drew (.slice a n c) xs from hRW.out.i) hln.out ?_; intro g9 c9 w9 hO9 hB9 hA9; have q0 := Bar.cell hB9 (show W.drew.cell? ⟨g, 0, none⟩ = some (.slice a n c) from c1) hng.out; have q1 := bar_fz hB9 hng.out (show g < W.drew.heap.size from hgs) (show W.drew.frozen? ⟨g, 0, none⟩ = false from f0)))
            all_goals
              go_end0
              have hApp := (hRW.out.below ((Below.refl W.heap.size W).drew)).app hO9 hB9 hA9 ⟨OwnT.nil _ _, by unfold BtOk; exact ⟨by simp, fun h => by cases h⟩⟩
              exact ⟨rfl, _, okk, _, hApp.1, hGW.out.trans ((GoB.of_below ((Below.refl W.heap.size W).drew)).trans hApp.2), hs.out, by simp⟩
end Go.Proofs.YtfkdcconmecaoaaDoor

/- The walk of the reference's matcher. -/
namespace Go.Proofs.YtfkdcconmecaoaaDoor
open Go.RowKit Go.Maps
set_option linter.unusedVariables false
set_option linter.unusedSimpArgs false

def ndOf : TT → Nat → Ty
  | .base k, _ => bsT k
  | .var v, _ => vrT v
  | .fn a r b, p => fnT ((p + a.sz : Nat) - 1) ((p + a.sz + b.sz : Nat) - 1) r
theorem seg_nd {us : List Ty} {S : TT} {p : Nat} (h : SegAt us S p) : us.getD (p + S.sz - 1) ty0 = ndOf S p ∧ p + S.sz - 1 < us.length := by
  have h1 := h.1
  cases S with
  | base k =>
    have := h.2 0 (by unfold TT.sz; omega)
    unfold TT.sz at h1 ⊢
    exact ⟨this, by omega⟩
  | var v =>
    have := h.2 0 (by unfold TT.sz; omega)
    unfold TT.sz at h1 ⊢
    exact ⟨this, by omega⟩
  | fn a r b =>
    have hsz : (TT.fn a r b).sz = a.sz + b.sz + 1 := rfl
    rw [hsz] at h1 ⊢
    exact ⟨h.fn.2.2, by omega⟩
theorem nd_kd (S : TT) (p : Nat) (h : S.ok = true) : (ndOf S p).k = kdS S := by
  cases S <;> rfl
/-- behind the walk's first region: two nodes of its own. -/
def WkM (w : World) (x y : Ty) (p10 p11 : Value) (W : World) : Prop :=
  ∃ g1 g2, p10 = .pointer (some ⟨g1, 0, none⟩) ∧ p11 = .pointer (some ⟨g2, 0, none⟩) ∧ w.heap.size ≤ g1 ∧ w.heap.size ≤ g2 ∧ TnAt W g1 x ∧ TnAt W g2 y ∧ Below w.heap.size w W
theorem wkM_1 (w : World) (T : TypeId) (x y : Ty) (a1 a2 : Array Value) (h1 : a1.toList = tyL1 x) (h2 : a2.toList = tyL1 y) : WkM w x y (.pointer (some ⟨w.heap.size, 0, none⟩)) (.pointer (some ⟨w.heap.size + 1, 0, none⟩)) ((w.alloc (.cells a1 T)).alloc (.cells a2 T)).drew := by
  have hd : Below ((w.alloc (.cells a1 T)).alloc (.cells a2 T)).heap.size ((w.alloc (.cells a1 T)).alloc (.cells a2 T)) ((w.alloc (.cells a1 T)).alloc (.cells a2 T)).drew := (Below.refl _ _).drew
  refine ⟨_, _, rfl, rfl, Nat.le_refl _, Nat.le_succ _, ((TnAt.alc rfl h1).below (below_alc _ _)).below hd, (TnAt.alc (by simp) h2).below hd, (below_alc2 w _ _).drew⟩
theorem wkM_2 (w : World) (T : TypeId) (x y : Ty) (a1 a2 : Array Value) (h1 : a1.toList = tyL1 x) (h2 : a2.toList = tyL1 y) : WkM w x y (.pointer (some ⟨w.heap.size + 1, 0, none⟩)) (.pointer (some ⟨w.heap.size, 0, none⟩)) ((w.alloc (.cells a2 T)).alloc (.cells a1 T)).drew := by
  obtain ⟨g1, g2, e1, e2, h3, h4, h5, h6, h7⟩ := wkM_1 w T y x a2 a1 h2 h1
  exact ⟨g2, g1, e2, e1, h4, h3, h6, h5, h7⟩
theorem fl0_pos {T : TT} : 1 ≤ (fl 0 T).length := by rw [fl_len]; exact T.sz_pos
set_option maxRecDepth 100000 in
set_option maxHeartbeats 8000000 in
theorem rmWalk_var (B g : Nat) (bt off ct bs off' cs : Nat) (ts us : List Ty) (hbt : bt < B) (hbg : bt ≠ g) (hbs : bs < B) (hbg' : bs ≠ g) (hts : tyV ts = true) (hus : tyV us = true) (v : Int) (S : TT) (o p : Nat) (w : World) (a : Option Addr) (n c : Nat) (ok : Bool) (xs : List Bn)
    (hG : SegAt ts (.var v) o) (hS : SegAt us S p) (hok : S.ok = true) (hT : Hid (TySl w bt off ts)) (hU : Hid (TySl w bs off' us)) (h : Hid (RmI B g w (.slice a n c) ok xs)) (hn : xs.length ≤ 100000) :
    Calls Tryd.prog 38 #[.pointer (some ⟨g, 0, none⟩), .agg #[.slice (some ⟨bt, off, none⟩) ts.length ct], .int .i64 ((o + (TT.var v).sz - 1 : Nat) : Int), .agg #[.slice (some ⟨bs, off', none⟩) us.length cs], .int .i64 ((p + S.sz - 1 : Nat) : Int)] w (RmPost B g (.slice a n c) ok xs (mtT (.var v) S) 1 w) := by
  obtain ⟨hg1, hg2⟩ := seg_nd hG
  obtain ⟨hs1, hs2⟩ := seg_nd hS
  have hBw := h.out.hB
  have kP := Lib.hid fun (W : World) (hb : Below w.heap.size w W) => rpart_any bs off' cs us S p W (Lib.hid (hU.out.below hb (by omega))) (by have := hb.size; omega) hus hS hok
  have hA := hT.out _ hg2
  have hB := hU.out _ hs2
  rw [hg1] at hA
  rw [hs1] at hB
  have hS9 : Hid (S.sz ≤ 256) := Lib.hid (by have h1 := hS.1; have h2 := tyV_le hus; omega)
  have hlt := tyV_le hts
  have hlu := tyV_le hus
  generalize o + (TT.var v).sz - 1 = i at *
  generalize p + S.sz - 1 = j at *
  obtain ⟨y, hy⟩ : ∃ y, ndOf S p = y := ⟨_, rfl⟩
  rw [hy] at hB
  have hW0 := Lib.hid (below_alc2 w (.cells #[.slice (some ⟨bt, off, none⟩) ts.length ct] 24) (.cells #[.slice (some ⟨bs, off', none⟩) us.length cs] 24))
  have hX := Lib.hid (show BoxAt ((w.alloc (.cells #[.slice (some ⟨bt, off, none⟩) ts.length ct] 24)).alloc (.cells #[.slice (some ⟨bs, off', none⟩) us.length cs] 24)) w.heap.size (.slice (some ⟨bt, off, none⟩) ts.length ct) from BoxAt.alloc _ (box_lit _ _ _ _ rfl))
  have hY := Lib.hid (show BoxAt ((w.alloc (.cells #[.slice (some ⟨bt, off, none⟩) ts.length ct] 24)).alloc (.cells #[.slice (some ⟨bs, off', none⟩) us.length cs] 24)) (w.heap.size + 1) (.slice (some ⟨bs, off', none⟩) us.length cs) from box_lit _ _ _ _ (by simp))
  have hA := hA.below hW0.out (by omega)
  have hB := hB.below hW0.out (by omega)
  have hz : w.heap.size + 2 ≤ ((w.alloc (.cells #[.slice (some ⟨bt, off, none⟩) ts.length ct] 24)).alloc (.cells #[.slice (some ⟨bs, off', none⟩) us.length cs] 24)).heap.size := by simp
  obtain ⟨e0, e1, e2, e3, e4, e5, e6, e7, e8⟩ := hA
  obtain ⟨d0, d1, d2, d3, d4, d5, d6, d7, d8⟩ := hB
  simp only [ndOf, vrT] at e0 e1 e2 e3 e4 e5 e6 e7 e8
  have hi : (i : Int) < (ts.length : Int) := by omega
  have hi0 : (0 : Int) ≤ (i : Int) := by omega
  have hj : (j : Int) < (us.length : Int) := by omega
  have hj0 : (0 : Int) ≤ (j : Int) := by omega
  clear hg1 hg2 hs1 hs2 hy hG hS
  go_enter Tryd.func38, Tryd.ntmps38
  go_upto_region 1 with fail
  generalize hWe : ((w.alloc (.cells #[.slice (some ⟨bt, off, none⟩) ts.length ct] 24)).alloc (.cells #[.slice (some ⟨bs, off', none⟩) us.length cs] 24)) = W0 at *
  clear hWe
  obtain ⟨x0, x1⟩ := hX.out
  obtain ⟨y0, y1⟩ := hY.out
  have z1 : bt < W0.heap.size := by omega
  have z2 : bs < W0.heap.size := by omega
  have z3 : bt < W0.heap.size + 1 := by omega
  have z4 : bs < W0.heap.size + 1 := by omega
  have z5 : w.heap.size < W0.heap.size + 1 := by omega
  have z6 : w.heap.size + 1 < W0.heap.size + 1 := by omega
  go_cut [10, 11] (fun p10 p11 W => WkM W0 (vrT v) y p10 p11 W)
  case first =>
    go_region
    all_goals (go_wp2_with fail; go_meet)
    · exact wkM_1 _ _ _ _ _ _ rfl rfl
    · exact wkM_2 _ _ _ _ _ _ rfl rfl
  case rest =>
    rename World => Wc
    obtain ⟨g1, g2, rfl, rfl, hg1, hg2, hN1, hN2, hBc⟩ := hcut
    have hWc := Lib.hid (belT hW0.out hBc)
    have hXc := Lib.hid (hX.out.below hBc)
    have hYc := Lib.hid (hY.out.below hBc)
    have hN1 := Lib.hid hN1
    rename_i hN10
    clear hN10 hN2 x0 x1 y0 y1 e0 e1 e2 e3 e4 e5 e6 e7 e8 d0 d1 d2 d3 d4 d5 d6 d7 d8 z1 z2 z3 z4 z5 z6 hX hY hBc
    obtain ⟨n0, n1, n2, _⟩ := hN1.out
    obtain ⟨y0, y1⟩ := hYc.out
    simp only [vrT] at n1 n2
    go_wp2_with fail
    clear n0 n1 n2 y0 y1
    refine (kP.out _ hWc.out).mono ?_
    rintro e w3 ⟨v3, rfl, hv3, hb3⟩
    obtain ⟨a3, m3, c3, rfl⟩ := ownT_sl hv3
    have hb3' := Lib.hid (belA (.cells #[.slice a3 m3 c3] 24) hb3)
    have hW3 := Lib.hid (belT hWc.out hb3'.out)
    have hN3 := Lib.hid (hN1.out.below hb3'.out)
    have hT3 := Lib.hid (show OwnT B (w3.alloc (.cells #[.slice a3 m3 c3] 24)) (.slice a3 m3 c3) (fl 0 S) from (ownT_le hv3 (by have h1 := hWc.out.size; omega)).below (below_alc w3 _))
    have hF3 := Lib.hid (box_lit w3 24 w3.heap.size (.slice a3 m3 c3) rfl)
    have hm3b : m3 ≤ 256 := by have h1 := hv3.arg.1; rw [fl_len] at h1; have := hS9.out; omega
    rename_i z0
    clear hv3 hb3 hXc hYc
    go_upto_region 4 with fail
    generalize hWq : (w3.alloc (.cells #[.slice a3 m3 c3] 24)) = W3 at hW3 hN3 hT3 hF3 ⊢
    clear hWq
    generalize w3.heap.size = K at hF3 ⊢
    have hR := Lib.hid (h.out.below hW3.out)
    have hGo := Lib.hid (GoB.of_below (g := g) (v := .slice a n c) hW3.out)
    have hnl : Hid (n = xs.length) := Lib.hid hR.out.arg.1
    go_wp2_with fail
    go_loopw [13] (fun i W => ∃ j : Nat, j ≤ xs.length ∧ i = .int .i64 j ∧ Hid (Below W3.heap.size W3 W) ∧ Hid (noB xs false v j)) (fun i _ => xs.length - (intOf i).toNat)
    case atStart => exact ⟨0, by omega, rfl, Lib.hid (Below.refl _ _), Lib.hid (fun i hi => by omega)⟩
    case round =>
      rename World => W
      obtain ⟨k, hk, rfl, hBW, hno⟩ := hrel
      have hRW := Lib.hid (hR.out.below hBW.out)
      have hTW := Lib.hid (hT3.out.below hBW.out)
      have hGW := Lib.hid (hGo.out.trans (GoB.of_below (v := .slice a n c) hBW.out))
      have hdN := Lib.hid fun (m : Nat) => (show Below W.heap.size W (W.drewN m) from below_drewN (Below.refl _ _) m)
      have c1 := hRW.out.c1
      have c2 := hRW.out.c2
      have f1 := hRW.out.f 1
      have f0 := hRW.out.f 0
      obtain ⟨n0, n1, n2, _⟩ := hN3.out.below hBW.out
      obtain ⟨q0, q1⟩ := hF3.out.below hBW.out
      simp only [vrT] at n1 n2
      by_cases hlt : k < xs.length
      · obtain ⟨b, offb, rfl, ⟨x0, x1, x2, x3, x4, x5, x6, x7⟩, hbl, hxa⟩ := bnSl_at hRW.out.arg hlt
        have hhit := Lib.hid fun (h : (xs.getD k bn0).ir = false ∧ (xs.getD k bn0).v = v) => step_var_old (S := S) (ok := ok) (xs := xs) hok (fst_at hlt hno.out h) ((hRW.out.t _ (getB_mem hlt)).2.2 h.1)
        have hmiss := Lib.hid fun (h : ¬ ((xs.getD k bn0).ir = false ∧ (xs.getD k bn0).v = v)) => noB_succ hno.out h
        have hbt' := Lib.hid (hRW.out.t _ (getB_mem hlt)).2
        have hxa := Lib.hid hxa
        generalize xs.getD k bn0 = x at x0 x1 x2 x3 x4 x5 x6 x7 hhit hmiss hbt' hxa
        have hlt' : (k : Int) < (n : Int) := by have := hnl.out; omega
        have hk0 : (0 : Int) ≤ (k : Int) := by omega
        obtain ⟨ir, hir⟩ : ∃ q, x.ir = q := ⟨_, rfl⟩
        rw [hir] at x1
        have hbW : b < W.heap.size := hbl
        cases ir
        · by_cases hv : x.v = v
          · have hs := Lib.hid (hhit.out ⟨hir, hv⟩)
            have hv' : (x.v == v) = true := beq_iff_eq.2 hv
            have hx1 : Hid (1 ≤ x.n ∧ x.n ≤ 256) := Lib.hid (by
              obtain ⟨T, _, hT⟩ := hbt'.out.2 hir
              refine ⟨?_, hbt'.out.1⟩
              rw [hxa.out.1, hT]; exact fl0_pos)
            have hx2 := Lib.hid (show x.n ≤ 140737488351232 by have := hx1.out; omega)
            have kS := Lib.hid fun (X : World) (hb : Below W.heap.size W X) => rsame_any x.ad a3 x.n m3 x.c c3 x.ns (fl 0 S) X (Lib.hid (hxa.out.below hb)) (Lib.hid (hTW.out.arg.below hb)) hx2.out hx1.out.1
            obtain ⟨qd, hqd⟩ : ∃ q, decide (x.ns = fl 0 S) = q := ⟨_, rfl⟩
            rw [hqd] at kS
            have hs := Lib.hid (show StepB (mtT (.var v) S) ok xs (ok && qd) xs from by rw [← hqd]; exact hs.out)
            rename_i hs0
            clear hhit hmiss hir hs0 hqd
            cases ok
            · go_wp2_with fail
              go_quiet (fail)
              go_wp2_with fail
              go_region
              go_wp2_with fail
              go_end0
              exact ⟨rfl, _, false, xs, (hRW.out.below (hdN.out _)).setOk.1, hGW.out.trans ((GoB.of_below (hdN.out _)).trans (hRW.out.below (hdN.out _)).setOk.2), hs.out, by omega⟩
            · go_wp2_with fail
              go_quiet (fail)
              go_wp2_with fail
              go_region_with ((go_at_call 67; refine (kS.out _ (by (repeat' (first | with_reducible exact Below.refl _ _ | with_reducible assumption | with_reducible apply Below.setCell | with_reducible apply Below.alloc | with_reducible apply Below.drew | with_reducible apply below_drewN | with_reducible exact Nat.le_refl _ | (simp; done) | (simp; omega) | omega | exact Nat.le_refl _)))).mono ?_; rintro e w8 ⟨rfl, hb8⟩; have hb9 := belT (show Below W.heap.size W _ from by (repeat' (first | with_reducible exact Below.refl _ _ | with_reducible assumption | with_reducible apply Below.setCell | with_reducible apply Below.alloc | with_reducible apply Below.drew | with_reducible apply below_drewN | with_reducible exact Nat.le_refl _ | (simp; done) | (simp; omega) | omega | exact Nat.le_refl _))) hb8; have hR8 := hRW.out.below hb9; have c3' := hR8.c2; have f3' := hR8.f 1))
              all_goals (go_wp2_with fail; go_end0; exact ⟨rfl, _, qd, xs, hR8.setOk.1, hGW.out.trans ((GoB.of_below hb9).trans hR8.setOk.2), by simpa using hs.out, by omega⟩)
          · have hm := Lib.hid (hmiss.out (by rw [hir]; intro h; exact hv h.2))
            have hv' : (x.v == v) = false := beq_eq_false_iff_ne.2 hv
            clear hhit hmiss hir
            go_wp2_with fail
            go_quiet (fail)
            go_wp2_with fail
            go_roundw
            case rel => exact ⟨k + 1, by omega, by go_num, Lib.hid (below_drewN hBW.out _), hm⟩
            case measure => simp [intOf]; omega
        · have hm := Lib.hid (hmiss.out (by rw [hir]; simp))
          clear hhit hmiss hir
          go_wp2_with fail
          go_quiet (fail)
          go_wp2_with fail
          go_roundw
          case rel => exact ⟨k + 1, by omega, by go_num, Lib.hid (below_drewN hBW.out _), hm⟩
          case measure => simp [intOf]; omega
      · obtain rfl : k = xs.length := by omega
        have hs := Lib.hid fun (y : Bn) (hy : y.v = v ∧ y.ir = false ∧ y.ns = fl 0 S) => step_var_new (ok := ok) (xs := xs) (y := y) hok (fst_noneq hno.out) hy
        have hBd := Lib.hid (show B ≤ W.heap.size from hRW.out.hB)
        have hgW := hRW.out.gB
        have hgs : g < W.heap.size := by have := hBd.out; omega
        have hgn : g ≠ W.heap.size := by omega
        have hng : Hid (¬ (Value.slice a n c).ownBlock = some g) := Lib.hid (by intro hk; have h1 := (own_lt hRW.out.i g hk).1; omega)
        have hln := Lib.hid (show xs.length ≤ 1000000 by omega)
        have hlt2 : ¬ ((xs.length : Int) < (n : Int)) := by have := hnl.out; omega
        clear hlt
        go_wp2_with fail
        go_region_law ((refine step_bnm rfl (.tmp 84) (.tmp 89) W.drew B (show B ≤ W.drew.heap.size from hBd.out) (.slice a n c) xs ⟨v, false, a3, m3, c3, fl 0 S, ⟨0, 0, 0, 0, 0⟩⟩ _ rfl rfl _ (by simp) rfl rfl (show OwnBn B W.drew (.slice a n c) xs from hRW.out.i) hln.out ?_; intro g9 c9 w9 hO9 hB9 hA9; have q0 := Bar.cell hB9 (show W.drew.cell? ⟨g, 0, none⟩ = some (.slice a n c) from c1) hng.out; have q1 := bar_fz hB9 hng.out (show g < W.drew.heap.size from hgs) (show W.drew.frozen? ⟨g, 0, none⟩ = false from f0)))
        all_goals
          go_wp2_with fail
          go_end0
          have hApp := (hRW.out.below ((Below.refl W.heap.size W).drew)).app hO9 hB9 hA9 ⟨hTW.out.below ((Below.refl W.heap.size W).drew), by unfold BtOk; exact ⟨hm3b, fun _ => ⟨S, hok, rfl⟩⟩⟩
          exact ⟨rfl, _, ok, _, hApp.1, hGW.out.trans ((GoB.of_below ((Below.refl W.heap.size W).drew)).trans hApp.2), hs.out _ ⟨rfl, rfl, rfl⟩, by simp⟩
end Go.Proofs.YtfkdcconmecaoaaDoor

/- The walk of the reference's matcher, whole. -/
namespace Go.Proofs.YtfkdcconmecaoaaDoor
open Go.RowKit Go.Maps
set_option linter.unusedVariables false
set_option linter.unusedSimpArgs false

theorem rmI_sl {B g : Nat} {w : World} {v : Value} {ok : Bool} {xs : List Bn} (h : RmI B g w v ok xs) : ∃ a n c, v = .slice a n c := by
  rcases h.i.cases with ⟨rfl, _⟩ | ⟨g, c, rfl, _⟩ <;> exact ⟨_, _, _, rfl⟩
theorem step_base_no {k : Int} {S : TT} {ok : Bool} {xs : List Bn} (h : k ≠ kdS S) : StepB (mtT (.base k) S) ok xs false xs := by
  unfold StepB mtT
  have : ¬ S = .base k := by rintro rfl; exact h rfl
  rw [if_neg this]
  cases ok <;> rfl
theorem step_base_yes {k : Int} {S : TT} {ok : Bool} {xs : List Bn} (h : S = .base k) : StepB (mtT (.base k) S) ok xs ok xs := by
  unfold StepB mtT
  rw [if_pos h]
  cases ok
  · rfl
  · exact ⟨rfl, rfl⟩
theorem step_fn_no {a b : TT} {r : Rw} {S : TT} {ok : Bool} {xs : List Bn} (h : 3 ≠ kdS S) : StepB (mtT (.fn a r b) S) ok xs false xs := by
  cases S with
  | base k => unfold StepB mtT; cases ok <;> rfl
  | var v => unfold StepB mtT; cases ok <;> rfl
  | fn a' r' b' => exact absurd rfl h
set_option maxRecDepth 100000 in
set_option maxHeartbeats 8000000 in
theorem rmWalk_any (B g : Nat) (bt off ct bs off' cs : Nat) (ts us : List Ty) (hbt : bt < B) (hbg : bt ≠ g) (hbs : bs < B) (hbg' : bs ≠ g) (hts : tyV ts = true) (hus : tyV us = true) : ∀ (G S : TT) (o p : Nat) (w : World) (a : Option Addr) (n c : Nat) (ok : Bool) (xs : List Bn),
    SegAt ts G o → SegAt us S p → G.ok = true → S.ok = true → Hid (TySl w bt off ts) → Hid (TySl w bs off' us) → Hid (RmI B g w (.slice a n c) ok xs) → xs.length + 2 * G.sz ≤ 90000 →
    Calls Tryd.prog 38 #[.pointer (some ⟨g, 0, none⟩), .agg #[.slice (some ⟨bt, off, none⟩) ts.length ct], .int .i64 ((o + G.sz - 1 : Nat) : Int), .agg #[.slice (some ⟨bs, off', none⟩) us.length cs], .int .i64 ((p + S.sz - 1 : Nat) : Int)] w (RmPost B g (.slice a n c) ok xs (mtT G S) (2 * G.sz) w) := by
  intro G
  induction G with
  | var v =>
    intro S o p w a n c ok xs hG hS hoG hoS hT hU h hn
    have hsz : (TT.var v).sz = 1 := rfl
    exact (rmWalk_var B g bt off ct bs off' cs ts us hbt hbg hbs hbg' hts hus v S o p w a n c ok xs hG hS hoS hT hU h (by omega)).mono fun e w' ⟨h1, v', ok', xs', h2, h3, h4, h5⟩ => ⟨h1, v', ok', xs', h2, h3, h4, by omega⟩
  | base k =>
    intro S o p w a n c ok xs hG hS hoG hoS hT hU h hn
    have hk : k = 0 ∨ k = 1 := by simpa [TT.ok] using hoG
    obtain ⟨hg1, hg2⟩ := seg_nd hG
    obtain ⟨hs1, hs2⟩ := seg_nd hS
    have hBw := h.out.hB
    have hA := hT.out _ hg2
    have hB := hU.out _ hs2
    rw [hg1] at hA
    rw [hs1] at hB
    have hlt := tyV_le hts
    have hlu := tyV_le hus
    have hkd := Lib.hid (nd_kd S p hoS)
    generalize o + (TT.base k).sz - 1 = i at hg1 hg2 hA ⊢
    generalize p + S.sz - 1 = j at hs1 hs2 hB ⊢
    obtain ⟨y, hy⟩ : ∃ y, ndOf S p = y := ⟨_, rfl⟩
    rw [hy] at hB hkd
    have hyS := Lib.hid hy
    have hW0 := Lib.hid (below_alc2 w (.cells #[.slice (some ⟨bt, off, none⟩) ts.length ct] 24) (.cells #[.slice (some ⟨bs, off', none⟩) us.length cs] 24))
    have hX := Lib.hid (show BoxAt ((w.alloc (.cells #[.slice (some ⟨bt, off, none⟩) ts.length ct] 24)).alloc (.cells #[.slice (some ⟨bs, off', none⟩) us.length cs] 24)) w.heap.size (.slice (some ⟨bt, off, none⟩) ts.length ct) from BoxAt.alloc _ (box_lit _ _ _ _ rfl))
    have hY := Lib.hid (show BoxAt ((w.alloc (.cells #[.slice (some ⟨bt, off, none⟩) ts.length ct] 24)).alloc (.cells #[.slice (some ⟨bs, off', none⟩) us.length cs] 24)) (w.heap.size + 1) (.slice (some ⟨bs, off', none⟩) us.length cs) from box_lit _ _ _ _ (by simp))
    have hA := hA.below hW0.out (by omega)
    have hB := hB.below hW0.out (by omega)
    have hz : w.heap.size + 2 ≤ ((w.alloc (.cells #[.slice (some ⟨bt, off, none⟩) ts.length ct] 24)).alloc (.cells #[.slice (some ⟨bs, off', none⟩) us.length cs] 24)).heap.size := by simp
    obtain ⟨e0, e1, e2, e3, e4, e5, e6, e7, e8⟩ := hA
    obtain ⟨d0, d1, d2, d3, d4, d5, d6, d7, d8⟩ := hB
    simp only [ndOf, bsT] at e0 e1 e2 e3 e4 e5 e6 e7 e8
    have hi : (i : Int) < (ts.length : Int) := by omega
    have hi0 : (0 : Int) ≤ (i : Int) := by omega
    have hj : (j : Int) < (us.length : Int) := by omega
    have hj0 : (0 : Int) ≤ (j : Int) := by omega
    clear hg1 hg2 hs1 hs2 hy
    go_enter Tryd.func38, Tryd.ntmps38
    go_upto_region 1 with fail
    generalize hWe : ((w.alloc (.cells #[.slice (some ⟨bt, off, none⟩) ts.length ct] 24)).alloc (.cells #[.slice (some ⟨bs, off', none⟩) us.length cs] 24)) = W0 at hW0 hX hY e0 e1 e2 e3 e4 e5 e6 e7 e8 d0 d1 d2 d3 d4 d5 d6 d7 d8 hz ⊢
    clear hWe
    obtain ⟨x0, x1⟩ := hX.out
    obtain ⟨y0, y1⟩ := hY.out
    have z1 : bt < W0.heap.size := by omega
    have z2 : bs < W0.heap.size := by omega
    have z3 : bt < W0.heap.size + 1 := by omega
    have z4 : bs < W0.heap.size + 1 := by omega
    have z5 : w.heap.size < W0.heap.size + 1 := by omega
    have z6 : w.heap.size + 1 < W0.heap.size + 1 := by omega
    go_cut [10, 11] (fun p10 p11 W => WkM W0 (bsT k) y p10 p11 W)
    case first =>
      go_region
      all_goals (go_wp2_with fail; go_meet)
      · exact wkM_1 _ _ _ _ _ _ rfl rfl
      · exact wkM_2 _ _ _ _ _ _ rfl rfl
    case rest =>
      rename World => Wc
      obtain ⟨g1, g2, rfl, rfl, hg1, hg2, hN1, hN2, hBc⟩ := hcut
      have hWc := Lib.hid (belT hW0.out hBc)
      have hXc := Lib.hid (hX.out.below hBc)
      have hYc := Lib.hid (hY.out.below hBc)
      have hN1 := Lib.hid hN1
      have hN2 := Lib.hid hN2
      have hg1 : Hid (w.heap.size ≤ g1) := Lib.hid (by omega)
      have hg2 : Hid (w.heap.size ≤ g2) := Lib.hid (by omega)
      rename_i hg10 hg20 hN10 hN20
      clear hN10 hN20 hg10 hg20 x0 x1 y0 y1 e0 e1 e2 e3 e4 e5 e6 e7 e8 d0 d1 d2 d3 d4 d5 d6 d7 d8 z1 z2 z3 z4 z5 z6 hX hY hBc hW0 hz hi hi0 hj hj0
      have hR := Lib.hid (h.out.below hWc.out)
      have hGo := Lib.hid (GoB.of_below (g := g) (v := .slice a n c) hWc.out)
      obtain ⟨n0, n1, n2, n3, n4, n5, n6, n7, n8, n9⟩ := hN1.out
      obtain ⟨m0, m1, m2, m3, m4, m5, m6, m7, m8, m9⟩ := hN2.out
      simp only [bsT] at n1 n2 n3 n4 n5 n6 n7 n8 n9
      have c2 := hR.out.c2
      have f1 := hR.out.f 1
      have hno := Lib.hid fun (h : k ≠ y.k) => step_base_no (S := S) (ok := ok) (xs := xs) (show k ≠ kdS S from by rw [← hkd.out]; exact h)
      have hyes := Lib.hid fun (h : k = y.k) => step_base_yes (S := S) (ok := ok) (xs := xs) (k := k) (by
        cases S with
        | base k' => rw [show k' = k from (h.trans hkd.out).symm]
        | var v => exact absurd (h.trans hkd.out) (by show ¬ k = 2; omega)
        | fn a r b => exact absurd (h.trans hkd.out) (by show ¬ k = 3; omega))
      have hk2 : (k == 2) = false := by rcases hk with rfl | rfl <;> rfl
      have hk3' : (k == 3) = false := by rcases hk with rfl | rfl <;> rfl
      clear hk hkd hG hS
      by_cases hk3 : k = y.k
      · have hs := Lib.hid (hyes.out hk3)
        have hne : (k == y.k) = true := beq_iff_eq.2 hk3
        clear hno hyes n2 n3 n4 n5 n6 n7 n8 n9 m2 m3 m4 m5 m6 m7 m8 m9
        cases ok
        all_goals
          go_wp2_with fail
          go_end0
          exact ⟨rfl, _, _, xs, hR.out, hGo.out, hs.out, by omega⟩
      · have hne : ((k : Int) == y.k) = false := beq_eq_false_iff_ne.2 hk3
        clear n2 n3 n4 n5 n6 n7 n8 n9 m2 m3 m4 m5 m6 m7 m8 m9
        go_wp2_with fail
        go_end0
        exact ⟨rfl, _, false, xs, hR.out.setOk.1, hGo.out.trans hR.out.setOk.2, hno.out hk3, by omega⟩
  | fn ga gr gb iha ihb =>
    intro S o p w a n c ok xs hG hS hoG hoS hT hU h hn
    obtain ⟨hg1, hg2⟩ := seg_nd hG
    obtain ⟨hs1, hs2⟩ := seg_nd hS
    have hBw := h.out.hB
    have hA := hT.out _ hg2
    have hB := hU.out _ hs2
    rw [hg1] at hA
    rw [hs1] at hB
    have hlt := tyV_le hts
    have hlu := tyV_le hus
    have hkd := Lib.hid (nd_kd S p hoS)
    generalize o + (TT.fn ga gr gb).sz - 1 = i at hg1 hg2 hA ⊢
    generalize p + S.sz - 1 = j at hs1 hs2 hB ⊢
    obtain ⟨y, hy⟩ : ∃ y, ndOf S p = y := ⟨_, rfl⟩
    rw [hy] at hB hkd
    have hyS := Lib.hid hy
    have hW0 := Lib.hid (below_alc2 w (.cells #[.slice (some ⟨bt, off, none⟩) ts.length ct] 24) (.cells #[.slice (some ⟨bs, off', none⟩) us.length cs] 24))
    have hX := Lib.hid (show BoxAt ((w.alloc (.cells #[.slice (some ⟨bt, off, none⟩) ts.length ct] 24)).alloc (.cells #[.slice (some ⟨bs, off', none⟩) us.length cs] 24)) w.heap.size (.slice (some ⟨bt, off, none⟩) ts.length ct) from BoxAt.alloc _ (box_lit _ _ _ _ rfl))
    have hY := Lib.hid (show BoxAt ((w.alloc (.cells #[.slice (some ⟨bt, off, none⟩) ts.length ct] 24)).alloc (.cells #[.slice (some ⟨bs, off', none⟩) us.length cs] 24)) (w.heap.size + 1) (.slice (some ⟨bs, off', none⟩) us.length cs) from box_lit _ _ _ _ (by simp))
    have hA := hA.below hW0.out (by omega)
    have hB := hB.below hW0.out (by omega)
    have hz : w.heap.size + 2 ≤ ((w.alloc (.cells #[.slice (some ⟨bt, off, none⟩) ts.length ct] 24)).alloc (.cells #[.slice (some ⟨bs, off', none⟩) us.length cs] 24)).heap.size := by simp
    obtain ⟨e0, e1, e2, e3, e4, e5, e6, e7, e8⟩ := hA
    obtain ⟨d0, d1, d2, d3, d4, d5, d6, d7, d8⟩ := hB
    simp only [ndOf, fnT] at e0 e1 e2 e3 e4 e5 e6 e7 e8
    have hi : (i : Int) < (ts.length : Int) := by omega
    have hi0 : (0 : Int) ≤ (i : Int) := by omega
    have hj : (j : Int) < (us.length : Int) := by omega
    have hj0 : (0 : Int) ≤ (j : Int) := by omega
    clear hg1 hg2 hs1 hs2 hy
    go_enter Tryd.func38, Tryd.ntmps38
    go_upto_region 1 with fail
    generalize hWe : ((w.alloc (.cells #[.slice (some ⟨bt, off, none⟩) ts.length ct] 24)).alloc (.cells #[.slice (some ⟨bs, off', none⟩) us.length cs] 24)) = W0 at hW0 hX hY e0 e1 e2 e3 e4 e5 e6 e7 e8 d0 d1 d2 d3 d4 d5 d6 d7 d8 hz ⊢
    clear hWe
    obtain ⟨x0, x1⟩ := hX.out
    obtain ⟨y0, y1⟩ := hY.out
    have z1 : bt < W0.heap.size := by omega
    have z2 : bs < W0.heap.size := by omega
    have z3 : bt < W0.heap.size + 1 := by omega
    have z4 : bs < W0.heap.size + 1 := by omega
    have z5 : w.heap.size < W0.heap.size + 1 := by omega
    have z6 : w.heap.size + 1 < W0.heap.size + 1 := by omega
    go_cut [10, 11] (fun p10 p11 W => WkM W0 (fnT ((o + ga.sz : Nat) - 1) ((o + ga.sz + gb.sz : Nat) - 1) gr) y p10 p11 W)
    case first =>
      go_region
      all_goals (go_wp2_with fail; go_meet)
      · exact wkM_1 _ _ _ _ _ _ rfl rfl
      · exact wkM_2 _ _ _ _ _ _ rfl rfl
    case rest =>
      rename World => Wc
      obtain ⟨g1, g2, rfl, rfl, hg1, hg2, hN1, hN2, hBc⟩ := hcut
      have hWc := Lib.hid (belT hW0.out hBc)
      have hXc := Lib.hid (hX.out.below hBc)
      have hYc := Lib.hid (hY.out.below hBc)
      have hN1 := Lib.hid hN1
      have hN2 := Lib.hid hN2
      have hg1 : Hid (w.heap.size ≤ g1) := Lib.hid (by omega)
      have hg2 : Hid (w.heap.size ≤ g2) := Lib.hid (by omega)
      rename_i hg10 hg20 hN10 hN20
      clear hN10 hN20 hg10 hg20 x0 x1 y0 y1 e0 e1 e2 e3 e4 e5 e6 e7 e8 d0 d1 d2 d3 d4 d5 d6 d7 d8 z1 z2 z3 z4 z5 z6 hX hY hBc hW0 hz hi hi0 hj hj0
      have hR := Lib.hid (h.out.below hWc.out)
      have hGo := Lib.hid (GoB.of_below (g := g) (v := .slice a n c) hWc.out)
      obtain ⟨n0, n1, n2, n3, n4, n5, n6, n7, n8, n9⟩ := hN1.out
      obtain ⟨m0, m1, m2, m3, m4, m5, m6, m7, m8, m9⟩ := hN2.out
      simp only [fnT] at n1 n2 n3 n4 n5 n6 n7 n8 n9
      have c2 := hR.out.c2
      have f1 := hR.out.f 1
      by_cases hk3 : (3 : Int) = y.k
      · obtain ⟨sa, sr, sb, rfl⟩ : ∃ a r b, S = .fn a r b := by
          cases S with
          | base k =>
            have hk0 : k = 0 ∨ k = 1 := by simpa [TT.ok] using hoS
            exact absurd (hk3.trans hkd.out) (by show ¬ 3 = k; omega)
          | var v => exact absurd (hk3.trans hkd.out) (by show ¬ (3 : Int) = 2; omega)
          | fn a r b => exact ⟨a, r, b, rfl⟩
        obtain rfl : fnT ((p + sa.sz : Nat) - 1) ((p + sa.sz + sb.sz : Nat) - 1) sr = y := hyS.out
        unfold TT.ok at hoG hoS
        simp only [Bool.and_eq_true] at hoG hoS
        have e1 : ((o + ga.sz : Nat) : Int) - 1 = ((o + ga.sz - 1 : Nat) : Int) := by have := ga.sz_pos; omega
        have e2 : ((o + ga.sz + gb.sz : Nat) : Int) - 1 = ((o + ga.sz + gb.sz - 1 : Nat) : Int) := by have := gb.sz_pos; omega
        have e3 : ((p + sa.sz : Nat) : Int) - 1 = ((p + sa.sz - 1 : Nat) : Int) := by have := sa.sz_pos; omega
        have e4 : ((p + sa.sz + sb.sz : Nat) : Int) - 1 = ((p + sa.sz + sb.sz - 1 : Nat) : Int) := by have := sb.sz_pos; omega
        have hszG : (TT.fn ga gr gb).sz = ga.sz + gb.sz + 1 := rfl
        rw [hszG] at hn
        have hgap := ga.sz_pos
        rw [e1, e2] at hN1
        rw [e3, e4] at hN2
        have hbtw : bt < w.heap.size := by omega
        have hbsw : bs < w.heap.size := by omega
        have kA := Lib.hid (iha sa o p Wc a n c true xs hG.fn.1 hS.fn.1 hoG.1.1 hoS.1.1 (Lib.hid (hT.out.below hWc.out hbtw)) (Lib.hid (hU.out.below hWc.out hbsw)))
        have kR := Lib.hid fun (W : World) (a1 : Option Addr) (n1 c1 : Nat) (ok1 : Bool) (xs1 : List Bn) (h1 : RmI B g W (.slice a1 n1 c1) ok1 xs1) (hl : xs1.length ≤ 100000) => rmRow_any B g a1 n1 c1 ok1 xs1 gr.a gr.b gr.c gr.d gr.t sr.a sr.b sr.c sr.d sr.t W (Lib.hid h1) hl hoG.1.2 hoS.1.2
        have kB := Lib.hid fun (W : World) (a1 : Option Addr) (n1 c1 : Nat) (ok1 : Bool) (xs1 : List Bn) (h1 : RmI B g W (.slice a1 n1 c1) ok1 xs1) (h2 : TySl W bt off ts) (h3 : TySl W bs off' us) (hl : xs1.length + 2 * gb.sz ≤ 90000) => ihb sb (o + ga.sz) (p + sa.sz) W a1 n1 c1 ok1 xs1 hG.fn.2.1 hS.fn.2.1 hoG.2 hoS.2 (Lib.hid h2) (Lib.hid h3) (Lib.hid h1) hl
        generalize o + ga.sz - 1 = A1 at hN1 kA
        generalize o + ga.sz + gb.sz - 1 = A2 at hN1 kB
        generalize p + sa.sz - 1 = A3 at hN2 kA
        generalize p + sa.sz + sb.sz - 1 = A4 at hN2 kB
        have hTc := Lib.hid (hT.out.below hWc.out hbtw)
        have hUc := Lib.hid (hU.out.below hWc.out hbsw)
        have hmt : Hid (mtT (.fn ga gr gb) (.fn sa sr sb) = fun m => ((mtT ga sa m).bind (mtR gr sr)).bind (mtT gb sb)) := Lib.hid (by funext m; rfl)
        have hlo1 := Lib.hid fun (W : World) (v1 : Value) (ok1 : Bool) (xs1 : List Bn) (h1 : RmI B g W v1 ok1 xs1) => h1.low hbt hbg
        have hlo2 := Lib.hid fun (W : World) (v1 : Value) (ok1 : Bool) (xs1 : List Bn) (h1 : RmI B g W v1 ok1 xs1) => h1.low hbs hbg'
        have hsg1 := Lib.hid (show g1 < Wc.heap.size from hN1.out.1)
        have hsg2 := Lib.hid (show g2 < Wc.heap.size from hN2.out.1)
        have hxw := Lib.hid (show w.heap.size < Wc.heap.size from hXc.out.1)
        have hyw := Lib.hid (show w.heap.size + 1 < Wc.heap.size from hYc.out.1)
        clear e1 e2 e3 e4 hG hS hoG hoS iha ihb hk3 hkd hyS n0 n1 n2 n3 n4 n5 n6 n7 n8 n9 m0 m1 m2 m3 m4 m5 m6 m7 m8 m9 hT hU hlt hlu
        obtain ⟨n0, n1, n2, n3, n4, n5, n6, n7, n8, n9⟩ := hN1.out
        obtain ⟨m0, m1, m2, m3, m4, m5, m6, m7, m8, m9⟩ := hN2.out
        simp only [fnT] at n1 n2 n3 n4 n5 n6 n7 n8 n9 m1 m2 m3 m4 m5 m6 m7 m8 m9
        cases ok
        · go_wp2_with fail
          go_end0
          exact ⟨rfl, _, false, xs, hR.out, hGo.out, rfl, by omega⟩
        · obtain ⟨x0, x1⟩ := hXc.out
          obtain ⟨y0, y1⟩ := hYc.out
          have kA1 := Lib.hid (kA.out hR (by omega))
          go_wp2_with fail
          clear x0 x1 y0 y1 n0 n1 n2 n3 n4 n5 n6 n7 n8 n9 m0 m1 m2 m3 m4 m5 m6 m7 m8 m9 c2 f1
          refine kA1.out.mono ?_
          rintro e w1 ⟨rfl, v1, ok1, xs1, h1, hG1, hS1, hl1⟩
          obtain ⟨a1, n1, c1, rfl⟩ := rmI_sl h1
          have hF0 : ∀ k, w.heap.size ≤ k → ¬ (k = g ∨ (Value.slice a n c).ownBlock = some k) := fun k hk => h.out.fresh hk
          have hN1 := Lib.hid (hN1.out.bar hG1.bar (hF0 _ hg1.out))
          have hN2 := Lib.hid (hN2.out.bar hG1.bar (hF0 _ hg2.out))
          have hX1 := Lib.hid (hXc.out.bar hG1.bar (hF0 _ (Nat.le_refl _)))
          have hY1 := Lib.hid (hYc.out.bar hG1.bar (hF0 _ (by omega)))
          have hT1 := Lib.hid (hTc.out.bar hG1.bar (hlo1.out _ _ _ _ hR.out))
          have hU1 := Lib.hid (hUc.out.bar hG1.bar (hlo2.out _ _ _ _ hR.out))
          have hF1 : Hid (∀ k, w.heap.size ≤ k → k < Wc.heap.size → ¬ (k = g ∨ (Value.slice a1 n1 c1).ownBlock = some k)) := Lib.hid fun k hk hk2 hh => hF0 k hk (hh.imp id (hG1.away k hk2))
          have h1 := Lib.hid h1; have hG1 := Lib.hid hG1; have hS1 := Lib.hid hS1
          rename_i zh1 zG1 zS1
          clear zh1 zG1 zS1 hF0 hXc hYc hTc hUc
          obtain ⟨n0, n1, n2, n3, n4, n5, n6, n7, n8, n9⟩ := hN1.out
          obtain ⟨m0, m1, m2, m3, m4, m5, m6, m7, m8, m9⟩ := hN2.out
          simp only [fnT] at n1 n2 n3 n4 n5 n6 n7 n8 n9 m1 m2 m3 m4 m5 m6 m7 m8 m9
          go_wp2_with fail
          clear n0 n1 n2 n3 n4 n5 n6 n7 n8 n9 m0 m1 m2 m3 m4 m5 m6 m7 m8 m9
          refine (kR.out _ _ _ _ _ _ h1.out (by omega)).mono ?_
          rintro e w2 ⟨rfl, v2, ok2, xs2, h2, hG2, hS2, hl2⟩
          obtain ⟨a2, n2, c2, rfl⟩ := rmI_sl h2
          have hN1 := Lib.hid (hN1.out.bar hG2.bar (hF1.out _ hg1.out hsg1.out))
          have hN2 := Lib.hid (hN2.out.bar hG2.bar (hF1.out _ hg2.out hsg2.out))
          have hX2 := Lib.hid (hX1.out.bar hG2.bar (hF1.out _ (Nat.le_refl _) hxw.out))
          have hY2 := Lib.hid (hY1.out.bar hG2.bar (hF1.out _ (by omega) hyw.out))
          have hT2 := Lib.hid (hT1.out.bar hG2.bar (hlo1.out _ _ _ _ h1.out))
          have hU2 := Lib.hid (hU1.out.bar hG2.bar (hlo2.out _ _ _ _ h1.out))
          have h2 := Lib.hid h2; have hG2 := Lib.hid hG2; have hS2 := Lib.hid hS2
          rename_i zh1 zG1 zS1
          clear zh1 zG1 zS1 hX1 hY1 hT1 hU1
          obtain ⟨n0, n1, n2', n3, n4, n5, n6, n7, n8, n9⟩ := hN1.out
          obtain ⟨m0, m1, m2, m3, m4, m5, m6, m7, m8, m9⟩ := hN2.out
          obtain ⟨x0, x1⟩ := hX2.out
          obtain ⟨y0, y1⟩ := hY2.out
          simp only [fnT] at n1 n2' n3 n4 n5 n6 n7 n8 n9 m1 m2 m3 m4 m5 m6 m7 m8 m9
          go_wp2_with fail
          clear n0 n1 n2' n3 n4 n5 n6 n7 n8 n9 m0 m1 m2 m3 m4 m5 m6 m7 m8 m9 x0 x1 y0 y1
          refine (kB.out _ _ _ _ _ _ h2.out hT2.out hU2.out (by omega)).mono ?_
          rintro e w3 ⟨rfl, v3, ok3, xs3, h3, hG3, hS3, hl3⟩
          have hF := Lib.hid (And.intro h3 (And.intro (hGo.out.trans (hG1.out.trans (hG2.out.trans hG3))) (show StepB (mtT (.fn ga gr gb) (.fn sa sr sb)) true xs ok3 xs3 from by rw [hmt.out]; exact (hS1.out.trans hS2.out).trans hS3)))
          clear h3 hG3 hS3
          go_wp2_with fail
          go_end0
          exact ⟨rfl, _, ok3, xs3, hF.out.1, hF.out.2.1, hF.out.2.2, by omega⟩
      · have hno := Lib.hid fun (h : (3 : Int) ≠ y.k) => step_fn_no (a := ga) (b := gb) (r := gr) (S := S) (ok := ok) (xs := xs) (show 3 ≠ kdS S from by rw [← hkd.out]; exact h)
        clear hkd
        have hne : ((3 : Int) == y.k) = false := beq_eq_false_iff_ne.2 hk3
        clear n2 n3 n4 n5 n6 n7 n8 n9 m2 m3 m4 m5 m6 m7 m8 m9
        go_wp2_with fail
        go_end0
        exact ⟨rfl, _, false, xs, hR.out.setOk.1, hGo.out.trans hR.out.setOk.2, hno.out hk3, by omega⟩
end Go.Proofs.YtfkdcconmecaoaaDoor

/- The reference's Instance. -/
namespace Go.Proofs.YtfkdcconmecaoaaDoor
open Go.RowKit Go.Maps
set_option linter.unusedVariables false
set_option linter.unusedSimpArgs false

theorem rmI_new (w : World) (T : TypeId) : RmI (w.heap.size + 1) w.heap.size (w.alloc (.cells #[.slice none 0 0, .bool true] T)) (.slice none 0 0) true [] :=
  ⟨by rw [World.cell?_alloc_at _ _ _ _ rfl]; rfl, by rw [World.cell?_alloc_at _ _ _ _ rfl]; rfl, fun o => by simp [go_sem], OwnBn.nil _ _, (fun _ h => by cases h), by omega, by simp⟩
theorem step_inst {G S : TT} {ok' : Bool} {xs' : List Bn} (h : StepB (mtT G S) true [] ok' xs') : ok' = instT G S := by
  have e : msB [] = MS.none := rfl
  unfold StepB at h
  rw [e] at h
  unfold instT
  simp only [if_true] at h
  cases hm : mtT G S MS.none with
  | none => rw [hm] at h; exact h
  | some m => rw [hm] at h; exact h.1
set_option maxRecDepth 100000 in
set_option maxHeartbeats 8000000 in
theorem rinstance_any (a1 a2 : Option Addr) (n1 n2 c1 c2 : Nat) (ts us : List Ty) (w : World) (h : Hid (TyArg w a1 n1 ts)) (h2 : Hid (TyArg w a2 n2 us)) (hl : n1 ≤ 140737488351232) (hl2 : n2 ≤ 140737488351232) :
    Calls Tryd.prog 15 #[.agg #[.slice a1 n1 c1], .agg #[.slice a2 n2 c2]] w fun e w' => e = .returned (.tuple #[.bool (instV ts us), .int .i64 (instE ts us)]) ∧ Below w.heap.size w w' := by
  have kM := Lib.hid fun (W : World) (hb : Below w.heap.size w W) => rTyMay_any a1 n1 c1 ts W (Lib.hid (h.out.below hb)) hl
  have kN := Lib.hid fun (W : World) (hb : Below w.heap.size w W) => rTyMay_any a2 n2 c2 us W (Lib.hid (h2.out.below hb)) hl2
  have hX := Lib.hid (show BoxAt ((w.alloc (.cells #[.slice a1 n1 c1] 24)).alloc (.cells #[.slice a2 n2 c2] 24)) w.heap.size (.slice a1 n1 c1) from BoxAt.alloc _ (box_lit _ _ _ _ rfl))
  have hY := Lib.hid (show BoxAt ((w.alloc (.cells #[.slice a1 n1 c1] 24)).alloc (.cells #[.slice a2 n2 c2] 24)) (w.heap.size + 1) (.slice a2 n2 c2) from box_lit _ _ _ _ (by simp))
  cases htv : tyV ts
  · have hv : Hid (instV ts us = false ∧ instE ts us = 1100) := Lib.hid (by unfold instV instE; rw [htv]; exact ⟨rfl, rfl⟩)
    rw [htv] at kM
    clear htv h h2 kN hY
    go_enter Tryd.func15, Tryd.ntmps15
    go_wp2_with fail
    refine (kM.out _ (below_alc2 w _ _)).mono ?_
    rintro e w1 ⟨rfl, hb1⟩
    have hB := Lib.hid (belT (below_alc2 w _ _) hb1)
    clear hb1
    go_wp2_with fail
    go_ret2
    exact ⟨by rw [hv.out.1, hv.out.2]; rfl, hB.out⟩
  cases huv : tyV us
  · have hv : Hid (instV ts us = false ∧ instE ts us = 1100) := Lib.hid (by unfold instV instE; rw [htv, huv]; exact ⟨rfl, rfl⟩)
    rw [htv] at kM
    rw [huv] at kN
    clear htv huv h h2
    go_enter Tryd.func15, Tryd.ntmps15
    go_wp2_with fail
    refine (kM.out _ (below_alc2 w _ _)).mono ?_
    rintro e w1 ⟨rfl, hb1⟩
    have hB := belT (below_alc2 w (.cells #[.slice a1 n1 c1] 24) (.cells #[.slice a2 n2 c2] 24)) hb1
    obtain ⟨x0, x1⟩ := hY.out.below hb1
    clear hb1
    go_wp2_with fail
    refine (kN.out _ hB).mono ?_
    rintro e w2 ⟨rfl, hb2⟩
    go_wp2_with fail
    go_ret2
    exact ⟨by rw [hv.out.1, hv.out.2]; rfl, belT hB hb2⟩
  · have hto := tyV_of htv
    have hto2 := tyV_of huv
    have hv : Hid (instV ts us = instT (treeOf ts) (treeOf us) ∧ instE ts us = 0) := Lib.hid (by unfold instV instE; rw [htv, huv]; exact ⟨rfl, rfl⟩)
    obtain ⟨rfl, _⟩ := h.out
    obtain ⟨rfl, _⟩ := h2.out
    obtain ⟨b, off, rfl, hA4, hA5⟩ := tyArg_some h.out htv
    obtain ⟨b', off', rfl, hA6, hA7⟩ := tyArg_some h2.out huv
    have kT := Lib.hid fun (g : Nat) (W : World) (hg : w.heap.size ≤ g) (hb : Below w.heap.size w W) (hm : RmI (g + 1) g W (.slice none 0 0) true []) =>
      (show Calls Tryd.prog 38 #[.pointer (some ⟨g, 0, none⟩), .agg #[.slice (some ⟨b, off, none⟩) ts.length c1], .int .i64 ((ts.length : Int) - 1), .agg #[.slice (some ⟨b', off', none⟩) us.length c2], .int .i64 ((us.length : Int) - 1)] W (RmPost (g + 1) g (.slice none 0 0) true [] (mtT (treeOf ts) (treeOf us)) (2 * (treeOf ts).sz) W) from by
        have := rmWalk_any (g + 1) g b off c1 b' off' c2 ts us (by omega) (by omega) (by omega) (by omega) htv huv (treeOf ts) (treeOf us) 0 0 W none 0 0 true [] (segAt_whole htv) (segAt_whole huv) hto.1 hto2.1 (Lib.hid (hA4.below hb hA5)) (Lib.hid (hA6.below hb hA7)) (Lib.hid hm) (by have := hto.2.2.2.1; simp; omega)
        rw [show ((0 + (treeOf ts).sz - 1 : Nat) : Int) = (ts.length : Int) - 1 by have h1 := hto.2.2.1; have h2 := (treeOf ts).sz_pos; omega, show ((0 + (treeOf us).sz - 1 : Nat) : Int) = (us.length : Int) - 1 by have h1 := hto2.2.2.1; have h2 := (treeOf us).sz_pos; omega] at this
        exact this)
    have hst := Lib.hid fun (ok' : Bool) (xs' : List Bn) (H : StepB (mtT (treeOf ts) (treeOf us)) true [] ok' xs') => step_inst H
    rw [htv] at kM
    rw [huv] at kN
    unfold RmPost at kT
    generalize mtT (treeOf ts) (treeOf us) = RR at kT hst
    generalize 2 * (treeOf ts).sz = NN at kT
    generalize instT (treeOf ts) (treeOf us) = Q at hst hv
    clear htv huv hto hto2 h h2 hA4 hA6
    go_enter Tryd.func15, Tryd.ntmps15
    go_wp2_with fail
    refine (kM.out _ (below_alc2 w _ _)).mono ?_
    rintro e w1 ⟨rfl, hb1⟩
    have hB := belT (below_alc2 w (.cells #[.slice (some ⟨b, off, none⟩) ts.length c1] 24) (.cells #[.slice (some ⟨b', off', none⟩) us.length c2] 24)) hb1
    have hX := Lib.hid (hX.out.below hb1)
    have hY := Lib.hid (hY.out.below hb1)
    obtain ⟨x0, x1⟩ := hY.out
    clear hb1
    go_wp2_with fail
    refine (kN.out _ hB).mono ?_
    rintro e w2 ⟨rfl, hb2⟩
    have hX := Lib.hid (hX.out.below hb2)
    have hY := Lib.hid (hY.out.below hb2)
    have hB2 := Lib.hid (belT hB hb2)
    clear hb2 x0 x1 hB
    obtain ⟨x0, x1⟩ := hX.out
    obtain ⟨y0, y1⟩ := hY.out
    have z1 : w.heap.size < w2.heap.size + 1 := by omega
    have z2 : w.heap.size + 1 < w2.heap.size + 1 := by omega
    have hM := Lib.hid (rmI_new w2 78)
    have hB3 := Lib.hid (belA (.cells #[.slice none 0 0, .bool true] 78) hB2.out)
    have hz2 := Lib.hid hB2.out.size
    go_wp2_with fail
    clear x0 x1 y0 y1 z1 z2
    refine (kT.out w2.heap.size _ hz2.out hB3.out hM.out).mono ?_
    rintro e w3 ⟨rfl, v3, ok3, xs3, h3, hG3, hS3, _⟩
    have hq := hst.out _ _ hS3
    subst hq
    have hF := Lib.hid (hB3.out.trans (hG3.bar.below (by have := hB3.out.size; omega) (by
      intro k hk
      rcases hk with rfl | hk
      · exact hz2.out
      · simp [Value.ownBlock] at hk)))
    have c2' := h3.c2
    have hsz := Lib.hid h3.hB
    clear h3 hG3 hS3
    go_wp2_with fail
    go_ret2
    exact ⟨by rw [hv.out.1, hv.out.2]; rfl, hF.out⟩
end Go.Proofs.YtfkdcconmecaoaaDoor
