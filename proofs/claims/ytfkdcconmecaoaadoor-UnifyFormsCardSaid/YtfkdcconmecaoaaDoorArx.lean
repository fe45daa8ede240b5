/- The reference's Arrow. -/
import Derived.Test.YtfkdcconmecaoaaDoorVrC
import Derived.Test.YtfkdcconmecaoaaDoorTyS
import Derived.Test.YtfkdcconmecaoaaDoorSbH
import Derived.Test.YtfkdcconmecaoaaDoorRcA
/- The reference's Arrow. -/
namespace Go.Proofs.YtfkdcconmecaoaaDoor
open Go.RowKit
set_option linter.unusedVariables false
set_option linter.unusedSimpArgs false

/-- a function's nodes. -/
def arwL (us : List Ty) (r : Rw) (bs : List Ty) : List Ty := us ++ bs.map (shT us.length) ++ [fnT ((us.length : Int) - 1) (((us.length + bs.length : Nat) : Int) - 1) r]
/-- the memory that Arrow has of its own. -/
def ArW (w : World) (r : Rw) (a1 : Option Addr) (n1 c1 : Nat) (a2 : Option Addr) (n2 c2 : Nat) (W : World) : Prop :=
  w.heap.size + 3 < W.heap.size ∧ W.cell? ⟨w.heap.size, 0, none⟩ = some (.slice a1 n1 c1) ∧ RowAt W (w.heap.size + 1) r ∧ W.cell? ⟨w.heap.size + 1 + 1, 0, none⟩ = some (.slice a2 n2 c2) ∧ W.cell? ⟨w.heap.size + 1 + 1 + 1, 0, none⟩ = some (.slice none 0 0) ∧ W.frozen? ⟨w.heap.size + 1 + 1 + 1, 0, none⟩ = false ∧ Below w.heap.size w W
theorem ArW.below {w W W' : World} {r : Rw} {a1 a2 : Option Addr} {n1 c1 n2 c2 : Nat} (h : ArW w r a1 n1 c1 a2 n2 c2 W) (hb : Below W.heap.size W W') : ArW w r a1 n1 c1 a2 n2 c2 W' := by
  obtain ⟨h0, h1, h2, h3, h4, h5, h6⟩ := h
  exact ⟨by have := hb.size; omega, carry hb (by omega) h1, h2.below hb, carry hb (by omega) h3, carry hb (by omega) h4, by rw [hb.frozen (p := ⟨w.heap.size + 1 + 1 + 1, 0, none⟩) (show w.heap.size + 1 + 1 + 1 < W.heap.size by omega)]; exact h5, belT h6 hb⟩
theorem arW_mk (w : World) (r : Rw) (a1 : Option Addr) (n1 c1 : Nat) (a2 : Option Addr) (n2 c2 : Nat) : ArW w r a1 n1 c1 a2 n2 c2 ((((w.alloc (.cells #[.slice a1 n1 c1] 24)).alloc (.cells #[.int .i64 r.a, .int .i64 r.b, .int .i64 r.c, .int .i64 r.d, .int .i64 r.t] 36)).alloc (.cells #[.slice a2 n2 c2] 24)).alloc (.cells #[.slice none 0 0] 24)) :=
  ⟨by simp, (BoxAt.alloc _ (BoxAt.alloc _ (BoxAt.alloc _ (box_lit w _ _ _ rfl)))).2, RowAt.alloc _ (RowAt.alloc _ (row_lit (w.alloc _) _ _ r (by simp))), (BoxAt.alloc _ (box_lit ((w.alloc _).alloc _) _ _ _ (by simp))).2, (box_lit (((w.alloc _).alloc _).alloc _) _ _ _ (by simp)).2, by simp [go_sem], belA _ (belA _ (below_alc2 w _ _))⟩
def ArPost (us : List Ty) (r : Rw) (bs : List Ty) (w : World) (e : Ending) (w' : World) : Prop := ∃ v, e = .returned (.agg #[v]) ∧ OwnT w.heap.size w' v (arwL us r bs) ∧ Below w.heap.size w w'
set_option maxRecDepth 100000 in
set_option maxHeartbeats 8000000 in
theorem arrow_any (a1 : Option Addr) (n1 c1 : Nat) (r : Rw) (a2 : Option Addr) (n2 c2 : Nat) (us bs : List Ty) (w : World) (h1 : Hid (TyArg w a1 n1 us)) (h2 : Hid (TyArg w a2 n2 bs)) (ha0 : us ≠ []) (ha : tyV us = true) (hb : tyV bs = true) :
    Calls Tryd.prog 40 #[.agg #[.slice a1 n1 c1], rwV r, .agg #[.slice a2 n2 c2]] w (ArPost us r bs w) := by
  have hla := tyV_le ha
  have hlb := tyV_le hb
  have hch := Lib.hid fun (m : Nat) (hm : m < bs.length) (h3 : (bs.getD m ty0).k = 3) => tyV_child hb hm h3
  obtain ⟨rfl, hA1⟩ := h1.out
  obtain ⟨rfl, hA2⟩ := h2.out
  obtain ⟨b1, off1, rfl, hS1, hb1⟩ := Or.resolve_left hA1 ha0
  obtain ⟨b2, off2, rfl, hS2, hb2⟩ : ∃ b off, a2 = some ⟨b, off, none⟩ ∧ TySl w b off bs ∧ b < w.heap.size := by
    rcases hA2 with h0 | h0
    · rw [h0] at hlb; simp at hlb
    · exact h0
  have hS2 := Lib.hid hS2
  have hW0 := Lib.hid (arW_mk w r (some ⟨b1, off1, none⟩) us.length c1 (some ⟨b2, off2, none⟩) bs.length c2)
  obtain ⟨i0, hi, hz0, hz1, hz2⟩ := info_parts infoTy
  have hown0 := Lib.hid (OwnT.fresh ((((w.alloc (.cells #[.slice (some ⟨b1, off1, none⟩) us.length c1] 24)).alloc (.cells #[.int .i64 r.a, .int .i64 r.b, .int .i64 r.c, .int .i64 r.d, .int .i64 r.t] 36)).alloc (.cells #[.slice (some ⟨b2, off2, none⟩) bs.length c2] 24)).alloc (.cells #[.slice none 0 0] 24)))
  have hnews : Hid (∀ j u, (tyL us)[j]? = some u → (((((w.alloc (.cells #[.slice (some ⟨b1, off1, none⟩) us.length c1] 24)).alloc (.cells #[.int .i64 r.a, .int .i64 r.b, .int .i64 r.c, .int .i64 r.d, .int .i64 r.t] 36)).alloc (.cells #[.slice (some ⟨b2, off2, none⟩) bs.length c2] 24)).alloc (.cells #[.slice none 0 0] 24)).alloc (.cells #[] 38)).cell? ((⟨b1, off1, none⟩ : Addr).add j) = some u) := Lib.hid (by
    intro j u hj
    have e : (⟨b1, off1, none⟩ : Addr).add j = ⟨b1, off1 + j, none⟩ := by simp [Addr.add]; try omega
    rw [e]
    have := tySl_get (hS1.below (belA (.cells #[] 38) hW0.out.2.2.2.2.2.2) hb1) j u hj
    exact this)
  unfold rwV
  clear hA1 hA2 ha hb
  go_enter Tryd.func40, Tryd.ntmps40
  go_upto_region 2 with fail
  obtain ⟨W0, hW0e⟩ : ∃ W, ((((w.alloc (.cells #[.slice (some ⟨b1, off1, none⟩) us.length c1] 24)).alloc (.cells #[.int .i64 r.a, .int .i64 r.b, .int .i64 r.c, .int .i64 r.d, .int .i64 r.t] 36)).alloc (.cells #[.slice (some ⟨b2, off2, none⟩) bs.length c2] 24)).alloc (.cells #[.slice none 0 0] 24)) = W := ⟨_, rfl⟩
  rw [hW0e] at hW0 hown0 hnews ⊢
  clear hW0e
  obtain ⟨x0, x1, ⟨x2, x3, x4, x5, x6, x7⟩, x8, x9, x10, x11⟩ := hW0.out
  have z0 : w.heap.size < W0.heap.size := by omega
  have z1 : w.heap.size < W0.heap.size + 1 := by omega
  have z2 : w.heap.size + 1 < W0.heap.size := by omega
  have z3 : w.heap.size + 1 < W0.heap.size + 1 := by omega
  have z4 : w.heap.size + 1 + 1 < W0.heap.size := by omega
  have z5 : w.heap.size + 1 + 1 < W0.heap.size + 1 := by omega
  have z6 : w.heap.size + 1 + 1 + 1 < W0.heap.size := by omega
  have z7 : w.heap.size + 1 + 1 + 1 < W0.heap.size + 1 := by omega
  go_wp2_with (at_builtin; refine wpList_append_own _ rfl (.tmp 14) (.tmp 16) 22 rfl W0.heap.size 38 i0 (.agg #[.int .i64 0, .int .i64 0, .int .i64 0, .int .i64 0, .int .i64 0, .int .i64 0, .int .i64 0, .int .i64 0, .int .i64 0]) 9 72 Tryd.underlying22 hi hz0 hz1 hz2 rfl (by decide) _ 0 [] rfl hown0.out ⟨b1, off1, none⟩ us.length c1 (tyL us) rfl (tyL_len us) hnews.out (tyL_one us) (by unfold maxLen; omega) (by omega) (by simp) ?_)
  intro v' w1 hown1 hgr _
  (try rw [Nat.zero_add, List.nil_append] at hown1)
  have hB1 : Hid (Below W0.heap.size W0 w1) := Lib.hid (((Below.refl _ _).alloc (Nat.le_refl _) _).grown hgr (by simp) (by intro k hk; simp [Value.ownBlock] at hk; omega))
  have hown1' := Lib.hid (show OwnT W0.heap.size w1 v' us from hown1)
  have hA1 := Lib.hid (hW0.out.below hB1.out)
  clear hown1 hgr z0 z1 z2 z3 z4 z5 z6 z7 x0 x1 x2 x3 x4 x5 x6 x7 x8 x9 x10 x11
  obtain ⟨x0, x1, ⟨x2, x3, x4, x5, x6, x7⟩, x8, x9, x10, x11⟩ := hA1.out
  go_wp2_with fail
  clear x0 x1 x2 x3 x4 x5 x6 x7 x8 x9 x10 x11
  go_loopw [8, 9] (fun v i W => ∃ m : Nat, m ≤ bs.length ∧ i = .int .i64 m ∧ Hid (OwnT W0.heap.size W v (us ++ (bs.take m).map (shT us.length)) ∧ Below W0.heap.size W0 W)) (fun _ i _ => bs.length - (intOf i).toNat)
  case atStart => exact ⟨0, by omega, rfl, Lib.hid ⟨by rw [List.take_zero, List.map_nil, List.append_nil]; exact hown1'.out, hB1.out⟩⟩
  case round =>
    rename World => W
    obtain ⟨m, hm, rfl, hJ⟩ := hrel
    have hAW := Lib.hid (hW0.out.below hJ.out.2)
    obtain ⟨x0, x1, ⟨x2, x3, x4, x5, x6, x7⟩, x8, x9, x10, x11⟩ := hAW.out
    have hsW := hJ.out.2.size
    have z0 : w.heap.size < W.heap.size := by omega
    have z1 : w.heap.size < W.heap.size + 1 := by omega
    have z2 : w.heap.size + 1 < W.heap.size := by omega
    have z3 : w.heap.size + 1 < W.heap.size + 1 := by omega
    have z4 : w.heap.size + 1 + 1 < W.heap.size := by omega
    have z5 : w.heap.size + 1 + 1 < W.heap.size + 1 := by omega
    have z6 : w.heap.size + 1 + 1 + 1 < W.heap.size := by omega
    have z7 : w.heap.size + 1 + 1 + 1 < W.heap.size + 1 := by omega
    have hOl : (us ++ (bs.take m).map (shT us.length)).length = us.length + m := by rw [List.length_append, List.length_map, List.length_take]; omega
    obtain ⟨va, vn, vc, hveq⟩ := ownT_sl hJ.out.1
    subst hveq
    have hvn : vn = us.length + m := by rw [← hOl]; exact hJ.out.1.arg.1
    subst hvn
    obtain ⟨L, hL⟩ : ∃ L, us ++ (bs.take m).map (shT us.length) = L := ⟨_, rfl⟩
    have hJ1 := Lib.hid hJ.out.1
    have hJ2 := Lib.hid hJ.out.2
    rw [hL] at hJ1 hOl
    have hL2 := Lib.hid hL
    clear hL hJ
    by_cases hmy : m < bs.length
    · have hN := hS2.out.below x11 hb2 m hmy
      have hc3 := hch.out m hmy
      have htk2 := Lib.hid (take_map (shT us.length) bs ty0 hmy)
      generalize bs.getD m ty0 = y at hN hc3 htk2
      obtain ⟨y0, y1, y2, y3, y4, y5, y6, y7, y8⟩ := hN
      have hmy' : (m : Int) < (bs.length : Int) := by omega
      have hm0 : (0 : Int) ≤ (m : Int) := by omega
      have hybs : b2 < W.heap.size := by omega
      by_cases hy3 : y.k = 3
      · obtain ⟨ha0', ha1', hb0', hb1'⟩ := hc3 hy3
        have hsh : Hid (shT us.length y = ⟨3, y.v, y.a + us.length, y.b + us.length, y.c0, y.c1, y.c2, y.c3, y.t⟩) := Lib.hid (by unfold shT; rw [if_pos hy3, ← hy3])
        rw [hy3] at y0
        clear hc3
        go_wp2_with (at_builtin; refine op_tyh rfl (.tmp 43) (.tmp 45) _ W W0.heap.size hsW (by (repeat' (first | with_reducible exact Below.refl _ _ | with_reducible assumption | with_reducible apply Below.setCell | with_reducible apply Below.alloc | with_reducible apply Below.drew | with_reducible apply below_drewN | with_reducible exact Nat.le_refl _ | (simp; done) | (simp; omega) | omega | exact Nat.le_refl _))) _ L ⟨3, y.v, y.a + us.length, y.b + us.length, y.c0, y.c1, y.c2, y.c3, y.t⟩ _ rfl rfl _ (by first | (simp; done) | (simp; omega)) rfl rfl hJ1.out (by omega) ?_)
        intro g3 c3 w3 hO3 hBar3 hM3
        have hJ3 : Hid (OwnT W0.heap.size w3 (.slice (some ⟨g3, 0, none⟩) (us.length + m + 1) c3) (us ++ (bs.take (m + 1)).map (shT us.length)) ∧ Below W0.heap.size W0 w3) := Lib.hid ⟨by rw [htk2.out, hsh.out, ← List.append_assoc, hL2.out]; (first | exact hO3 | (rw [hOl] at hO3; exact hO3)), hJ2.out.trans (bar_belO hBar3 hJ1.out hsW)⟩
        clear hO3 hBar3 hM3
        (try rw [hOl])
        go_wp2_with fail
        go_roundw
        case rel => exact ⟨m + 1, by omega, by go_num, hJ3⟩
        case measure => simp [intOf]; omega
      · have hsh : Hid (shT us.length y = y) := Lib.hid (by unfold shT; rw [if_neg hy3])
        have hy4 : (y.k == 3) = false := beq_eq_false_iff_ne.2 hy3
        clear hc3 hy3
        go_wp2_with (at_builtin; refine op_tyh rfl (.tmp 43) (.tmp 45) _ W W0.heap.size hsW (by (repeat' (first | with_reducible exact Below.refl _ _ | with_reducible assumption | with_reducible apply Below.setCell | with_reducible apply Below.alloc | with_reducible apply Below.drew | with_reducible apply below_drewN | with_reducible exact Nat.le_refl _ | (simp; done) | (simp; omega) | omega | exact Nat.le_refl _))) _ L y _ rfl rfl _ (by first | (simp; done) | (simp; omega)) rfl rfl hJ1.out (by omega) ?_)
        intro g3 c3 w3 hO3 hBar3 hM3
        have hJ3 : Hid (OwnT W0.heap.size w3 (.slice (some ⟨g3, 0, none⟩) (us.length + m + 1) c3) (us ++ (bs.take (m + 1)).map (shT us.length)) ∧ Below W0.heap.size W0 w3) := Lib.hid ⟨by rw [htk2.out, hsh.out, ← List.append_assoc, hL2.out]; (first | exact hO3 | (rw [hOl] at hO3; exact hO3)), hJ2.out.trans (bar_belO hBar3 hJ1.out hsW)⟩
        clear hO3 hBar3 hM3
        (try rw [hOl])
        go_wp2_with fail
        go_roundw
        case rel => exact ⟨m + 1, by omega, by go_num, hJ3⟩
        case measure => simp [intOf]; omega
    · obtain rfl : m = bs.length := by omega
      have hLf : Hid (L = us ++ bs.map (shT us.length)) := Lib.hid (by rw [← hL2.out, List.take_length])
      go_wp2_with (at_builtin; refine op_tyh rfl (.tmp 47) (.tmp 58) _ W W0.heap.size hsW (by (repeat' (first | with_reducible exact Below.refl _ _ | with_reducible assumption | with_reducible apply Below.setCell | with_reducible apply Below.alloc | with_reducible apply Below.drew | with_reducible apply below_drewN | with_reducible exact Nat.le_refl _ | (simp; done) | (simp; omega) | omega | exact Nat.le_refl _))) _ L (fnT ((us.length : Int) - 1) (((us.length + bs.length : Nat) : Int) - 1) r) _ rfl rfl _ (by first | (simp; done) | (simp; omega)) rfl (by first | rfl | simp [tyL1, fnT]) hJ1.out (by omega) ?_)
      intro g3 c3 w3 hO3 hBar3 hM3
      have hB3 := Lib.hid (hJ2.out.trans (bar_belO hBar3 hJ1.out hsW))
      have hO3' : Hid (OwnT W0.heap.size w3 (.slice (some ⟨g3, 0, none⟩) (L.length + 1) c3) (arwL us r bs)) := Lib.hid (by unfold arwL; rw [← hLf.out]; rw [show L.length + 1 = us.length + bs.length + 1 from by omega]; (first | exact hO3 | (rw [Int.natCast_add]; exact hO3)))
      clear hO3 hBar3 hM3 x0 x1 x2 x3 x4 x5 x6 x7 x8 x9 x10 x11
      have hA3 := Lib.hid (hW0.out.below hB3.out)
      obtain ⟨x0, x1, x2, x8, x9, x10, x11⟩ := hA3.out
      have hw0 := hW0.out.1
      have x12 : w.heap.size + 1 + 1 + 1 < w3.heap.size := by omega
      go_wp2_with fail
      refine bodyPost_ret (v := .agg #[.slice (some ⟨g3, 0, none⟩) (us.length + bs.length + 1) c3]) (by simp [results, Tryd.results40, go_sem, x10, setS x9]) rfl ⟨_, rfl, ownT_le (ownT_put (by first | exact hO3'.out | (have e := hO3'.out; rw [hOl] at e; exact e)) (by omega)) (by omega), x11.setCell (by show w.heap.size ≤ w.heap.size + 1 + 1 + 1; omega) _⟩
end Go.Proofs.YtfkdcconmecaoaaDoor

/- Layer 10's v and fun. -/
namespace Go.Proofs.YtfkdcconmecaoaaDoor
open Go.RowKit
set_option linter.unusedVariables false
set_option linter.unusedSimpArgs false

theorem v10_any (k : Int) (w : World) : Calls Tryd.prog 16 #[.int .i64 k] w fun e w' => ∃ g, w.heap.size ≤ g ∧ e = .returned (.agg #[.slice (some ⟨g, 0, none⟩) 1 1]) ∧ TyArg w' (some ⟨g, 0, none⟩) 1 [vrT k] ∧ Below w.heap.size w w' := by
  go_enter Tryd.func16, Tryd.ntmps16
  go_wp2_with fail
  refine bodyPost_ret (v := .agg #[.slice (some ⟨w.heap.size + 1, 0, none⟩) 1 1]) ?_ rfl ⟨w.heap.size + 1, by omega, rfl, ?_, by (repeat' (first | with_reducible exact Below.refl _ _ | with_reducible assumption | with_reducible apply Below.setCell | with_reducible apply Below.alloc | with_reducible apply Below.drew | with_reducible apply below_drewN | with_reducible exact Nat.le_refl _ | (simp; done) | (simp; omega) | omega | exact Nat.le_refl _))⟩
  · have x := (BoxAt.alloc (.cells #[.int .i64 2, .int .i64 k, .int .i64 0, .int .i64 0, .int .i64 0, .int .i64 0, .int .i64 0, .int .i64 0, .int .i64 0] 38) (box_lit w 24 w.heap.size (.slice (some ⟨w.heap.size + 1, 0, none⟩) 1 1) rfl)).2
    simp [results, Tryd.results16, go_sem, x]
  · exact tyArg_lit _ _ _ _ _ _ (by simp) rfl rfl
set_option maxRecDepth 100000 in
set_option maxHeartbeats 8000000 in
theorem fun10_any (a1 : Option Addr) (n1 c1 : Nat) (r : Rw) (a2 : Option Addr) (n2 c2 : Nat) (us bs : List Ty) (w : World) (h1 : Hid (TyArg w a1 n1 us)) (h2 : Hid (TyArg w a2 n2 bs)) (ha0 : us ≠ []) (ha : tyV us = true) (hb : tyV bs = true) :
    Calls Tryd.prog 18 #[.agg #[.slice a1 n1 c1], .agg #[.int .i64 r.a, .int .i64 r.b, .int .i64 r.c, .int .i64 r.d, .int .i64 r.t], .agg #[.slice a2 n2 c2]] w (ArPost us r bs w) := by
  have hW0 := Lib.hid (arW_mk w r a1 n1 c1 a2 n2 c2)
  have kA := Lib.hid fun (W : World) (hW : Below w.heap.size w W) => arrow_any a1 n1 c1 r a2 n2 c2 us bs W (Lib.hid (h1.out.below hW)) (Lib.hid (h2.out.below hW)) ha0 ha hb
  go_enter Tryd.func18, Tryd.ntmps18
  go_upto_region 1 with fail
  obtain ⟨W0, hW0e⟩ : ∃ W, ((((w.alloc (.cells #[.slice a1 n1 c1] 24)).alloc (.cells #[.int .i64 r.a, .int .i64 r.b, .int .i64 r.c, .int .i64 r.d, .int .i64 r.t] 36)).alloc (.cells #[.slice a2 n2 c2] 24)).alloc (.cells #[.slice none 0 0] 24)) = W := ⟨_, rfl⟩
  rw [hW0e] at hW0 ⊢
  clear hW0e
  obtain ⟨x0, x1, ⟨x2, x3, x4, x5, x6, x7⟩, x8, x9, x10, x11⟩ := hW0.out
  go_wp2_with fail
  clear x0 x1 x2 x3 x4 x5 x6 x7 x8 x9 x10 x11
  refine (kA.out _ hW0.out.2.2.2.2.2.2).mono ?_
  rintro e w1 ⟨v, rfl, hv, hb1⟩
  obtain ⟨a3, n3, c3, rfl⟩ := ownT_sl hv
  have hW1 := Lib.hid (hW0.out.below hb1)
  have hv' := Lib.hid hv
  have hs1 := hb1.size
  clear hv
  obtain ⟨x0, x1, ⟨x2, x3, x4, x5, x6, x7⟩, x8, x9, x10, x11⟩ := hW1.out
  have hw0 := hW0.out.1
  go_wp2_with fail
  refine bodyPost_ret (v := .agg #[.slice a3 n3 c3]) (by simp [results, Tryd.results18, go_sem, x10, setS x9]) rfl ⟨_, rfl, ownT_le (ownT_put hv'.out (by omega)) (by omega), x11.setCell (by show w.heap.size ≤ w.heap.size + 1 + 1 + 1; omega) _⟩
end Go.Proofs.YtfkdcconmecaoaaDoor
