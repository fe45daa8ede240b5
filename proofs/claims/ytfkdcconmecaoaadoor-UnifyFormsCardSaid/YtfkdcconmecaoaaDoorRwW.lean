/- Rows of effects: Unify, of rows whose counts may be too great. -/
import Derived.Test.YtfkdcconmecaoaaDoorRwD
import Derived.Deep.RegionHeld3
import Derived.Deep.DeepCutAuto
import Derived.Lib.SmallJoins
namespace Go.Proofs.YtfkdcconmecaoaaDoor
open Go.RowKit
set_option linter.unusedVariables false
set_option linter.unusedSimpArgs false

def mayW (a b c d t : Int) : Bool := decide (0 ≤ a ∧ a ≤ 64 ∧ 0 ≤ b ∧ b ≤ 64 ∧ 0 ≤ c ∧ c ≤ 64 ∧ 0 ≤ d ∧ d ≤ 64 ∧ -1 ≤ t ∧ t < 4096)
set_option maxHeartbeats 1000000 in
set_option maxRecDepth 100000 in
theorem more_exW (a b c d t a' b' c' d' t' : Int) (w : World) (h : mayW a b c d t = true) (h' : mayW a' b' c' d' t' = true) :
    Calls Tryd.prog 115 #[rowV a b c d t, rowV a' b' c' d' t'] w fun e w' => e = .returned (.agg #[.int .i64 (mxz (a - a')), .int .i64 (mxz (b - b')), .int .i64 (mxz (c - c')), .int .i64 (mxz (d - d'))]) ∧ ∃ nq : Nat, w' = ((((w.alloc (.cells #[.int .i64 a, .int .i64 b, .int .i64 c, .int .i64 d, .int .i64 t] 36)).alloc (.cells #[.int .i64 a', .int .i64 b', .int .i64 c', .int .i64 d', .int .i64 t'] 36)).alloc (.cells #[.int .i64 (mxz (a - a')), .int .i64 (mxz (b - b')), .int .i64 (mxz (c - c')), .int .i64 (mxz (d - d'))] 193)).alloc (.cells #[.int .i64 (mxz (a - a')), .int .i64 (mxz (b - b')), .int .i64 (mxz (c - c')), .int .i64 (mxz (d - d'))] 193)).drewN nq := by
  have hm := of_decide_eq_true h
  have hm' := of_decide_eq_true h'
  clear h h'
  rw [show rowV a b c d t = .agg #[.int .i64 a, .int .i64 b, .int .i64 c, .int .i64 d, .int .i64 t] from rfl, show rowV a' b' c' d' t' = .agg #[.int .i64 a', .int .i64 b', .int .i64 c', .int .i64 d', .int .i64 t'] from rfl]
  go_enter Tryd.func115, Tryd.ntmps115
  go_wp2_with fail
  go_loopw [7] (fun i wr => (i = .int .i64 0 ∧ ∃ nq : Nat, wr = ((((w.alloc (.cells #[.int .i64 a, .int .i64 b, .int .i64 c, .int .i64 d, .int .i64 t] 36)).alloc (.cells #[.int .i64 a', .int .i64 b', .int .i64 c', .int .i64 d', .int .i64 t'] 36)).alloc (.cells #[.int .i64 0, .int .i64 0, .int .i64 0, .int .i64 0] 193)).alloc (.cells #[.int .i64 0, .int .i64 0, .int .i64 0, .int .i64 0] 193)).drewN nq) ∨ (i = .int .i64 1 ∧ ∃ nq : Nat, wr = ((((w.alloc (.cells #[.int .i64 a, .int .i64 b, .int .i64 c, .int .i64 d, .int .i64 t] 36)).alloc (.cells #[.int .i64 a', .int .i64 b', .int .i64 c', .int .i64 d', .int .i64 t'] 36)).alloc (.cells #[.int .i64 0, .int .i64 0, .int .i64 0, .int .i64 0] 193)).alloc (.cells #[.int .i64 (mxz (a - a')), .int .i64 0, .int .i64 0, .int .i64 0] 193)).drewN nq) ∨ (i = .int .i64 2 ∧ ∃ nq : Nat, wr = ((((w.alloc (.cells #[.int .i64 a, .int .i64 b, .int .i64 c, .int .i64 d, .int .i64 t] 36)).alloc (.cells #[.int .i64 a', .int .i64 b', .int .i64 c', .int .i64 d', .int .i64 t'] 36)).alloc (.cells #[.int .i64 0, .int .i64 0, .int .i64 0, .int .i64 0] 193)).alloc (.cells #[.int .i64 (mxz (a - a')), .int .i64 (mxz (b - b')), .int .i64 0, .int .i64 0] 193)).drewN nq) ∨ (i = .int .i64 3 ∧ ∃ nq : Nat, wr = ((((w.alloc (.cells #[.int .i64 a, .int .i64 b, .int .i64 c, .int .i64 d, .int .i64 t] 36)).alloc (.cells #[.int .i64 a', .int .i64 b', .int .i64 c', .int .i64 d', .int .i64 t'] 36)).alloc (.cells #[.int .i64 0, .int .i64 0, .int .i64 0, .int .i64 0] 193)).alloc (.cells #[.int .i64 (mxz (a - a')), .int .i64 (mxz (b - b')), .int .i64 (mxz (c - c')), .int .i64 0] 193)).drewN nq) ∨ (i = .int .i64 4 ∧ ∃ nq : Nat, wr = ((((w.alloc (.cells #[.int .i64 a, .int .i64 b, .int .i64 c, .int .i64 d, .int .i64 t] 36)).alloc (.cells #[.int .i64 a', .int .i64 b', .int .i64 c', .int .i64 d', .int .i64 t'] 36)).alloc (.cells #[.int .i64 0, .int .i64 0, .int .i64 0, .int .i64 0] 193)).alloc (.cells #[.int .i64 (mxz (a - a')), .int .i64 (mxz (b - b')), .int .i64 (mxz (c - c')), .int .i64 (mxz (d - d'))] 193)).drewN nq)) (fun i _ => 4 - (intOf i).toNat)
  case atStart => exact .inl ⟨rfl, 0, rfl⟩
  case round =>
    rcases hrel with ⟨rfl, nq, rfl⟩ | ⟨rfl, nq, rfl⟩ | ⟨rfl, nq, rfl⟩ | ⟨rfl, nq, rfl⟩ | ⟨rfl, nq, rfl⟩
    · go_wp2_with fail
      go_region
      go_wp2_with fail
      go_roundw
      case rel =>
        refine .inr (.inl ⟨rfl, nq + 1, ?_⟩)
        rw [setCell_drewN_at _ _ _ _ _ _ _ (by simp)]
        rfl
      case measure => simp [intOf]
    · go_wp2_with fail
      go_region
      go_wp2_with fail
      go_roundw
      case rel =>
        refine .inr (.inr (.inl ⟨rfl, nq + 1, ?_⟩))
        rw [setCell_drewN_at _ _ _ _ _ _ _ (by simp)]
        rfl
      case measure => simp [intOf]
    · go_wp2_with fail
      go_region
      go_wp2_with fail
      go_roundw
      case rel =>
        refine .inr (.inr (.inr (.inl ⟨rfl, nq + 1, ?_⟩)))
        rw [setCell_drewN_at _ _ _ _ _ _ _ (by simp)]
        rfl
      case measure => simp [intOf]
    · go_wp2_with fail
      go_region
      go_wp2_with fail
      go_roundw
      case rel =>
        refine .inr (.inr (.inr (.inr (⟨rfl, nq + 1, ?_⟩))))
        rw [setCell_drewN_at _ _ _ _ _ _ _ (by simp)]
        rfl
      case measure => simp [intOf]
    · go_wp2_with fail
      refine bodyPost_ret (v := .agg #[.int .i64 (mxz (a - a')), .int .i64 (mxz (b - b')), .int .i64 (mxz (c - c')), .int .i64 (mxz (d - d'))]) (by simp [results, Tryd.results115, go_sem, *]) rfl ?_
      refine ⟨rfl, nq, ?_⟩
      rw [setCell_mid _ _ _ _ _ _ _ _ (by simp), setCell_mid _ _ _ _ _ _ _ _ (by simp), setCell_mid _ _ _ _ _ _ _ _ (by simp), setCell_mid _ _ _ _ _ _ _ _ (by simp)]
      rfl

theorem more_agW (a b c d t a' b' c' d' t' p1 p2 p3 p4 : Int) (w : World) (h : mayW a b c d t = true) (h' : mayW a' b' c' d' t' = true) (hp : mxz (a - a') = p1 ∧ mxz (b - b') = p2 ∧ mxz (c - c') = p3 ∧ mxz (d - d') = p4) :
    Calls Tryd.prog 115 #[.agg #[.int .i64 a, .int .i64 b, .int .i64 c, .int .i64 d, .int .i64 t], .agg #[.int .i64 a', .int .i64 b', .int .i64 c', .int .i64 d', .int .i64 t']] w fun e w' => e = .returned (.agg #[.int .i64 p1, .int .i64 p2, .int .i64 p3, .int .i64 p4]) ∧ ∃ nq : Nat, w' = ((((w.alloc (.cells #[.int .i64 a, .int .i64 b, .int .i64 c, .int .i64 d, .int .i64 t] 36)).alloc (.cells #[.int .i64 a', .int .i64 b', .int .i64 c', .int .i64 d', .int .i64 t'] 36)).alloc (.cells #[.int .i64 p1, .int .i64 p2, .int .i64 p3, .int .i64 p4] 193)).alloc (.cells #[.int .i64 p1, .int .i64 p2, .int .i64 p3, .int .i64 p4] 193)).drewN nq := by
  obtain ⟨rfl, rfl, rfl, rfl⟩ := hp
  exact more_exW a b c d t a' b' c' d' t' w h h'

set_option maxHeartbeats 4000000 in
set_option maxRecDepth 100000 in
theorem unify_tryW (a b c d t a' b' c' d' t' fresh : Int) (u : Option (List Bd)) (w : World) (h : mayW a b c d t = true) (h' : mayW a' b' c' d' t' = true) (p1 p2 p3 p4 q1 q2 q3 q4 : Int)
    (hPQ : Hid (mxz (a - a') = p1 ∧ mxz (b - b') = p2 ∧ mxz (c - c') = p3 ∧ mxz (d - d') = p4 ∧ mxz (a' - a) = q1 ∧ mxz (b' - b) = q2 ∧ mxz (c' - c) = q3 ∧ mxz (d' - d) = q4)) (hu' : Hid (uniT p1 p2 p3 p4 q1 q2 q3 q4 t t' fresh = u)) :
    Calls Tryd.prog 110 #[.agg #[.int .i64 a, .int .i64 b, .int .i64 c, .int .i64 d, .int .i64 t], .agg #[.int .i64 a', .int .i64 b', .int .i64 c', .int .i64 d', .int .i64 t'], .int .i64 fresh] w
      (UniPost u w) := by
  have hh := Lib.hid h
  have hh' := Lib.hid h'
  clear h h'
  have hP := Lib.hid (show mxz (a - a') = p1 ∧ mxz (b - b') = p2 ∧ mxz (c - c') = p3 ∧ mxz (d - d') = p4 from ⟨hPQ.out.1, hPQ.out.2.1, hPQ.out.2.2.1, hPQ.out.2.2.2.1⟩)
  have hQ := Lib.hid (show mxz (a' - a) = q1 ∧ mxz (b' - b) = q2 ∧ mxz (c' - c) = q3 ∧ mxz (d' - d) = q4 from hPQ.out.2.2.2.2)
  go_enter Tryd.func110, Tryd.ntmps110
  go_upto_region 1 with fail
  go_cut [8, 9] (fun s8 s9 wx => TwoPost w [.int .i64 a, .int .i64 b, .int .i64 c, .int .i64 d, .int .i64 t] [.int .i64 a', .int .i64 b', .int .i64 c', .int .i64 d', .int .i64 t'] [.int .i64 p1, .int .i64 p2, .int .i64 p3, .int .i64 p4] [.int .i64 q1, .int .i64 q2, .int .i64 q3, .int .i64 q4] s8 s9 wx)
  case first =>
    go_region_held3 (fun w' => w'.cell? ⟨w.heap.size, 0, none⟩ = some (.int .i64 a) ∧ w'.cell? ⟨w.heap.size, 1, none⟩ = some (.int .i64 b) ∧ w'.cell? ⟨w.heap.size, 2, none⟩ = some (.int .i64 c) ∧ w'.cell? ⟨w.heap.size, 3, none⟩ = some (.int .i64 d) ∧ w'.cell? ⟨w.heap.size, 4, none⟩ = some (.int .i64 t) ∧ w'.cell? ⟨w.heap.size + 1, 0, none⟩ = some (.int .i64 a') ∧ w'.cell? ⟨w.heap.size + 1, 1, none⟩ = some (.int .i64 b') ∧ w'.cell? ⟨w.heap.size + 1, 2, none⟩ = some (.int .i64 c') ∧ w'.cell? ⟨w.heap.size + 1, 3, none⟩ = some (.int .i64 d') ∧ w'.cell? ⟨w.heap.size + 1, 4, none⟩ = some (.int .i64 t'))
      (exact uniS_of (by (repeat' (first | with_reducible exact Below.refl _ _ | with_reducible assumption | with_reducible apply Below.setCell | with_reducible apply Below.alloc | with_reducible apply Below.drew | with_reducible apply below_drewN | with_reducible exact Nat.le_refl _ | (simp; done) | (simp; omega) | omega | exact Nat.le_refl _))))
      ((go_at_call 115; (first | (with_reducible refine (more_agW a b c d t a' b' c' d' t' p1 p2 p3 p4 _ hh.out hh'.out hP.out).mono ?_) | (with_reducible refine (more_agW a' b' c' d' t' a b c d t q1 q2 q3 q4 _ hh'.out hh.out hQ.out).mono ?_)); rintro e w1 ⟨rfl, nq, rfl⟩))
    all_goals (go_wp2_with fail; go_meet; (try simp only [setCell_drewN', alloc_drewN']); (try simp [World.setCell_alloc_past, World.setCell_alloc_at]); with_reducible refine two_fin (by (repeat' (first | with_reducible exact Below.refl _ _ | with_reducible assumption | with_reducible apply Below.setCell | with_reducible apply Below.alloc | with_reducible apply Below.drew | with_reducible apply below_drewN | with_reducible exact Nat.le_refl _ | (simp; done) | (simp; omega) | omega | exact Nat.le_refl _))) (by omega) (by omega) (by first | omega | (simp [size_drewN]; done) | (simp [size_drewN]; omega)) (by first | omega | (simp [size_drewN]; done) | (simp [size_drewN]; omega)) (by simp [cell_drewN, World.cell?_alloc_past, World.cell?_alloc_at]) (by simp [cell_drewN, World.cell?_alloc_past, World.cell?_alloc_at]))
  case rest =>
    obtain ⟨g, h, rfl, rfl, hg0, hg1, hh0, hh1, hbel, hsz, hA, hB, hPc, hQc⟩ := hcut
    have a4 := hA 4 _ rfl
    have b4 := hB 4 _ rfl
    have pp0 := hPc 0 _ rfl
    have pp1 := hPc 1 _ rfl
    have pp2 := hPc 2 _ rfl
    have pp3 := hPc 3 _ rfl
    have qq0 := hQc 0 _ rfl
    have qq1 := hQc 1 _ rfl
    have qq2 := hQc 2 _ rfl
    have qq3 := hQc 3 _ rfl
    clear hA hB hPc hQc
    have hsz' : w.heap.size < wc.heap.size := by omega
    have hm := of_decide_eq_true hh.out
    have hm' := of_decide_eq_true hh'.out
    have ht1 : -1 ≤ t ∧ -1 ≤ t' := by omega
    clear hm hm'
    have hz : ∀ (x0 x1 x2 x3 : Int) (W : World), (Op.equalIn 10000 193 (.agg #[.int .i64 x0, .int .i64 x1, .int .i64 x2, .int .i64 x3]) (.agg #[.int .i64 0, .int .i64 0, .int .i64 0, .int .i64 0])).run Tryd.prog W = .ok (zro x0 x1 x2 x3) W := fun x0 x1 x2 x3 W => arr_in 9998 193 Tryd.underlying193 W x0 x1 x2 x3 0 0 0 0
    cases hzp : zro p1 p2 p3 p4 <;> cases hzq : zro q1 q2 q3 q4
    · have hp := Lib.hid hzp
      have hq := Lib.hid hzq
      by_cases hte : t = t'
      · have hut : Hid (u = if zro p1 p2 p3 p4 && zro q1 q2 q3 q4 then some [] else none) := Lib.hid (by
          rw [← hu'.out]; unfold uniT; rw [if_pos hte, hp.out, hq.out]
          first
            | (rw [if_pos (by have := zro_iff.1 hp.out; have := zro_iff.1 hq.out; omega)]; rfl)
            | (rw [if_neg (by first | (have := zro_no hp.out; omega) | (have := zro_no hq.out; omega))]; rfl))
        have htb : (t == t') = true := by simpa using hte
        subst hte
        go_wp2_with fail
        go_quiet (fail)
        go_wp2_with fail
        go_ret2
        refine uni_none (by rw [hut.out, hp.out, hq.out]; rfl) (by (repeat' (first | with_reducible exact Below.refl _ _ | with_reducible assumption | with_reducible apply Below.setCell | with_reducible apply Below.alloc | with_reducible apply Below.drew | with_reducible apply below_drewN | with_reducible exact Nat.le_refl _ | (simp; done) | (simp; omega) | omega | exact Nat.le_refl _)))
      have htb : (t == t') = false := by simpa using hte
      by_cases h0 : t' < 0
      · have hut : Hid (u = none) := Lib.hid (by
          rw [← hu'.out]; unfold uniT
          rw [if_neg hte, if_pos (by have := zro_no hp.out; omega)])
        go_wp2_with fail
        go_ret2
        exact uni_none (b := false) (by rw [hut.out]; rfl) (by (repeat' (first | with_reducible exact Below.refl _ _ | with_reducible assumption | with_reducible apply Below.setCell | with_reducible apply Below.alloc | with_reducible apply Below.drew | with_reducible apply below_drewN | with_reducible exact Nat.le_refl _ | (simp; done) | (simp; omega) | omega | exact Nat.le_refl _)))
      by_cases h1 : t < 0
      · have hut : Hid (u = none) := Lib.hid (by
          rw [← hu'.out]; unfold uniT
          rw [if_neg hte, if_pos (by have := zro_no hq.out; omega)])
        go_wp2_with fail
        go_ret2
        exact uni_none (b := false) (by rw [hut.out]; rfl) (by (repeat' (first | with_reducible exact Below.refl _ _ | with_reducible assumption | with_reducible apply Below.setCell | with_reducible apply Below.alloc | with_reducible apply Below.drew | with_reducible apply below_drewN | with_reducible exact Nat.le_refl _ | (simp; done) | (simp; omega) | omega | exact Nat.le_refl _)))
      · have hut : Hid (u = some [⟨t, q1, q2, q3, q4, fresh⟩, ⟨t', p1, p2, p3, p4, fresh⟩]) := Lib.hid (by
          rw [← hu'.out]; unfold uniT
          rw [if_neg hte, if_neg (by omega), if_neg (by have := zro_no hp.out; omega), if_neg (by have := zro_no hq.out; omega)])
        go_wp2_with fail
        go_region_held3 (fun W => W.cell? ⟨w.heap.size, 4, none⟩ = some (.int .i64 t) ∧ W.cell? ⟨w.heap.size + 1, 4, none⟩ = some (.int .i64 t') ∧ W.cell? ⟨g, 0, none⟩ = some (.int .i64 p1) ∧ W.cell? ⟨g, 1, none⟩ = some (.int .i64 p2) ∧ W.cell? ⟨g, 2, none⟩ = some (.int .i64 p3) ∧ W.cell? ⟨g, 3, none⟩ = some (.int .i64 p4) ∧ W.cell? ⟨h, 0, none⟩ = some (.int .i64 q1) ∧ W.cell? ⟨h, 1, none⟩ = some (.int .i64 q2) ∧ W.cell? ⟨h, 2, none⟩ = some (.int .i64 q3) ∧ W.cell? ⟨h, 3, none⟩ = some (.int .i64 q4) ∧ KeepG w g h W)
          (first | exact uniG_step (by assumption) hb9 | exact uniG_step (by assumption) (Joins.below_alloc1 _ _) | exact uniG_step ⟨a4, b4, pp0, pp1, pp2, pp3, qq0, qq1, qq2, qq3, hbel, hsz, hg1, hh1⟩ ((Below.refl _ _).alloc (Nat.le_refl _) _).drew)
          ((go_at_call 116; refine (bind_any _ _ _ _ _ _ _).mono ?_; rintro e w9 ⟨rfl, hb9⟩))
        go_wp2_with fail
        go_ret2
        refine (show UniPost u w _ _ from ?_)
        rw [hut.out]
        refine uni_two (belT (belT ?_ (by assumption)) hb9) _
        (repeat' (first | with_reducible exact Below.refl _ _ | with_reducible assumption | with_reducible apply Below.setCell | with_reducible apply Below.alloc | with_reducible apply Below.drew | with_reducible apply below_drewN | with_reducible exact Nat.le_refl _ | (simp; done) | (simp; omega) | omega | exact Nat.le_refl _))
    · have hp := Lib.hid hzp
      have hq := Lib.hid hzq
      by_cases hte : t = t'
      · have hut : Hid (u = if zro p1 p2 p3 p4 && zro q1 q2 q3 q4 then some [] else none) := Lib.hid (by
          rw [← hu'.out]; unfold uniT; rw [if_pos hte, hp.out, hq.out]
          first
            | (rw [if_pos (by have := zro_iff.1 hp.out; have := zro_iff.1 hq.out; omega)]; rfl)
            | (rw [if_neg (by first | (have := zro_no hp.out; omega) | (have := zro_no hq.out; omega))]; rfl))
        have htb : (t == t') = true := by simpa using hte
        subst hte
        go_wp2_with fail
        go_quiet (fail)
        go_wp2_with fail
        go_ret2
        refine uni_none (by rw [hut.out, hp.out, hq.out]; rfl) (by (repeat' (first | with_reducible exact Below.refl _ _ | with_reducible assumption | with_reducible apply Below.setCell | with_reducible apply Below.alloc | with_reducible apply Below.drew | with_reducible apply below_drewN | with_reducible exact Nat.le_refl _ | (simp; done) | (simp; omega) | omega | exact Nat.le_refl _)))
      have htb : (t == t') = false := by simpa using hte
      by_cases h0 : t' < 0
      · have hut : Hid (u = none) := Lib.hid (by
          rw [← hu'.out]; unfold uniT
          rw [if_neg hte, if_pos (by have := zro_no hp.out; omega)])
        go_wp2_with fail
        go_ret2
        exact uni_none (b := false) (by rw [hut.out]; rfl) (by (repeat' (first | with_reducible exact Below.refl _ _ | with_reducible assumption | with_reducible apply Below.setCell | with_reducible apply Below.alloc | with_reducible apply Below.drew | with_reducible apply below_drewN | with_reducible exact Nat.le_refl _ | (simp; done) | (simp; omega) | omega | exact Nat.le_refl _)))
      by_cases h1 : t < 0
      · have hut : Hid (u = some [⟨t', p1, p2, p3, p4, t⟩]) := Lib.hid (by
          rw [← hu'.out]; unfold uniT
          rw [if_neg hte, if_neg (by have := zro_iff.1 hq.out; omega), if_neg (by omega), if_pos (.inl h1)])
        go_wp2_with fail
        refine (bind_any _ _ _ _ _ _ _).mono ?_
        rintro e w2 ⟨rfl, hb2⟩
        have hb2' : Below w.heap.size w w2 := belT (by (repeat' (first | with_reducible exact Below.refl _ _ | with_reducible assumption | with_reducible apply Below.setCell | with_reducible apply Below.alloc | with_reducible apply Below.drew | with_reducible apply below_drewN | with_reducible exact Nat.le_refl _ | (simp; done) | (simp; omega) | omega | exact Nat.le_refl _))) hb2
        clear hb2
        go_wp2_with fail
        go_ret2
        exact (show UniPost u w _ _ by rw [hut.out]; exact uni_one hb2' _)
      · have hut : Hid (u = some [⟨t', p1, p2, p3, p4, t⟩]) := Lib.hid (by
          rw [← hu'.out]; unfold uniT
          rw [if_neg hte, if_neg (by omega), if_neg (by have := zro_no hp.out; omega), if_pos (.inr (zro_iff.1 hq.out))])
        go_wp2_with fail
        refine (bind_any _ _ _ _ _ _ _).mono ?_
        rintro e w2 ⟨rfl, hb2⟩
        have hb2' : Below w.heap.size w w2 := belT (by (repeat' (first | with_reducible exact Below.refl _ _ | with_reducible assumption | with_reducible apply Below.setCell | with_reducible apply Below.alloc | with_reducible apply Below.drew | with_reducible apply below_drewN | with_reducible exact Nat.le_refl _ | (simp; done) | (simp; omega) | omega | exact Nat.le_refl _))) hb2
        clear hb2
        go_wp2_with fail
        go_ret2
        exact (show UniPost u w _ _ by rw [hut.out]; exact uni_one hb2' _)
    · have hp := Lib.hid hzp
      have hq := Lib.hid hzq
      by_cases hte : t = t'
      · have hut : Hid (u = if zro p1 p2 p3 p4 && zro q1 q2 q3 q4 then some [] else none) := Lib.hid (by
          rw [← hu'.out]; unfold uniT; rw [if_pos hte, hp.out, hq.out]
          first
            | (rw [if_pos (by have := zro_iff.1 hp.out; have := zro_iff.1 hq.out; omega)]; rfl)
            | (rw [if_neg (by first | (have := zro_no hp.out; omega) | (have := zro_no hq.out; omega))]; rfl))
        have htb : (t == t') = true := by simpa using hte
        subst hte
        go_wp2_with fail
        go_quiet (fail)
        go_wp2_with fail
        go_ret2
        refine uni_none (by rw [hut.out, hp.out, hq.out]; rfl) (by (repeat' (first | with_reducible exact Below.refl _ _ | with_reducible assumption | with_reducible apply Below.setCell | with_reducible apply Below.alloc | with_reducible apply Below.drew | with_reducible apply below_drewN | with_reducible exact Nat.le_refl _ | (simp; done) | (simp; omega) | omega | exact Nat.le_refl _)))
      have htb : (t == t') = false := by simpa using hte
      by_cases h0 : t' < 0
      · have hut : Hid (u = some [⟨t, q1, q2, q3, q4, t'⟩]) := Lib.hid (by
          rw [← hu'.out]; unfold uniT
          rw [if_neg hte, if_neg (by have := zro_iff.1 hp.out; omega), if_pos (.inl h0)])
        go_wp2_with fail
        refine (bind_any _ _ _ _ _ _ _).mono ?_
        rintro e w2 ⟨rfl, hb2⟩
        have hb2' : Below w.heap.size w w2 := belT (by (repeat' (first | with_reducible exact Below.refl _ _ | with_reducible assumption | with_reducible apply Below.setCell | with_reducible apply Below.alloc | with_reducible apply Below.drew | with_reducible apply below_drewN | with_reducible exact Nat.le_refl _ | (simp; done) | (simp; omega) | omega | exact Nat.le_refl _))) hb2
        clear hb2
        go_wp2_with fail
        go_ret2
        exact (show UniPost u w _ _ by rw [hut.out]; exact uni_one hb2' _)
      by_cases h1 : t < 0
      · have hut : Hid (u = none) := Lib.hid (by
          rw [← hu'.out]; unfold uniT
          rw [if_neg hte, if_pos (by have := zro_no hq.out; omega)])
        go_wp2_with fail
        go_ret2
        exact uni_none (b := false) (by rw [hut.out]; rfl) (by (repeat' (first | with_reducible exact Below.refl _ _ | with_reducible assumption | with_reducible apply Below.setCell | with_reducible apply Below.alloc | with_reducible apply Below.drew | with_reducible apply below_drewN | with_reducible exact Nat.le_refl _ | (simp; done) | (simp; omega) | omega | exact Nat.le_refl _)))
      · have hut : Hid (u = some [⟨t, q1, q2, q3, q4, t'⟩]) := Lib.hid (by
          rw [← hu'.out]; unfold uniT
          rw [if_neg hte, if_neg (by omega), if_pos (.inr ⟨by omega, zro_iff.1 hp.out⟩)])
        go_wp2_with fail
        refine (bind_any _ _ _ _ _ _ _).mono ?_
        rintro e w2 ⟨rfl, hb2⟩
        have hb2' : Below w.heap.size w w2 := belT (by (repeat' (first | with_reducible exact Below.refl _ _ | with_reducible assumption | with_reducible apply Below.setCell | with_reducible apply Below.alloc | with_reducible apply Below.drew | with_reducible apply below_drewN | with_reducible exact Nat.le_refl _ | (simp; done) | (simp; omega) | omega | exact Nat.le_refl _))) hb2
        clear hb2
        go_wp2_with fail
        go_ret2
        exact (show UniPost u w _ _ by rw [hut.out]; exact uni_one hb2' _)
    · have hp := Lib.hid hzp
      have hq := Lib.hid hzq
      by_cases hte : t = t'
      · have hut : Hid (u = if zro p1 p2 p3 p4 && zro q1 q2 q3 q4 then some [] else none) := Lib.hid (by
          rw [← hu'.out]; unfold uniT; rw [if_pos hte, hp.out, hq.out]
          first
            | (rw [if_pos (by have := zro_iff.1 hp.out; have := zro_iff.1 hq.out; omega)]; rfl)
            | (rw [if_neg (by first | (have := zro_no hp.out; omega) | (have := zro_no hq.out; omega))]; rfl))
        have htb : (t == t') = true := by simpa using hte
        subst hte
        go_wp2_with fail
        go_quiet (fail)
        go_wp2_with fail
        go_ret2
        refine uni_none (by rw [hut.out, hp.out, hq.out]; rfl) (by (repeat' (first | with_reducible exact Below.refl _ _ | with_reducible assumption | with_reducible apply Below.setCell | with_reducible apply Below.alloc | with_reducible apply Below.drew | with_reducible apply below_drewN | with_reducible exact Nat.le_refl _ | (simp; done) | (simp; omega) | omega | exact Nat.le_refl _)))
      have htb : (t == t') = false := by simpa using hte
      by_cases h0 : t' < 0
      · have hut : Hid (u = some [⟨t, q1, q2, q3, q4, t'⟩]) := Lib.hid (by
          rw [← hu'.out]; unfold uniT
          rw [if_neg hte, if_neg (by have := zro_iff.1 hp.out; omega), if_pos (.inl h0)])
        go_wp2_with fail
        refine (bind_any _ _ _ _ _ _ _).mono ?_
        rintro e w2 ⟨rfl, hb2⟩
        have hb2' : Below w.heap.size w w2 := belT (by (repeat' (first | with_reducible exact Below.refl _ _ | with_reducible assumption | with_reducible apply Below.setCell | with_reducible apply Below.alloc | with_reducible apply Below.drew | with_reducible apply below_drewN | with_reducible exact Nat.le_refl _ | (simp; done) | (simp; omega) | omega | exact Nat.le_refl _))) hb2
        clear hb2
        go_wp2_with fail
        go_ret2
        exact (show UniPost u w _ _ by rw [hut.out]; exact uni_one hb2' _)
      by_cases h1 : t < 0
      · have hut : Hid (u = some [⟨t', p1, p2, p3, p4, t⟩]) := Lib.hid (by
          rw [← hu'.out]; unfold uniT
          rw [if_neg hte, if_neg (by have := zro_iff.1 hq.out; omega), if_neg (by omega), if_pos (.inl h1)])
        go_wp2_with fail
        refine (bind_any _ _ _ _ _ _ _).mono ?_
        rintro e w2 ⟨rfl, hb2⟩
        have hb2' : Below w.heap.size w w2 := belT (by (repeat' (first | with_reducible exact Below.refl _ _ | with_reducible assumption | with_reducible apply Below.setCell | with_reducible apply Below.alloc | with_reducible apply Below.drew | with_reducible apply below_drewN | with_reducible exact Nat.le_refl _ | (simp; done) | (simp; omega) | omega | exact Nat.le_refl _))) hb2
        clear hb2
        go_wp2_with fail
        go_ret2
        exact (show UniPost u w _ _ by rw [hut.out]; exact uni_one hb2' _)
      · have hut : Hid (u = some [⟨t, q1, q2, q3, q4, t'⟩]) := Lib.hid (by
          rw [← hu'.out]; unfold uniT
          rw [if_neg hte, if_neg (by omega), if_pos (.inr ⟨by omega, zro_iff.1 hp.out⟩)])
        go_wp2_with fail
        refine (bind_any _ _ _ _ _ _ _).mono ?_
        rintro e w2 ⟨rfl, hb2⟩
        have hb2' : Below w.heap.size w w2 := belT (by (repeat' (first | with_reducible exact Below.refl _ _ | with_reducible assumption | with_reducible apply Below.setCell | with_reducible apply Below.alloc | with_reducible apply Below.drew | with_reducible apply below_drewN | with_reducible exact Nat.le_refl _ | (simp; done) | (simp; omega) | omega | exact Nat.le_refl _))) hb2
        clear hb2
        go_wp2_with fail
        go_ret2
        exact (show UniPost u w _ _ by rw [hut.out]; exact uni_one hb2' _)
theorem unify_anyW (a b c d t a' b' c' d' t' fresh : Int) (w : World) (h : mayW a b c d t = true) (h' : mayW a' b' c' d' t' = true) :
    Calls Tryd.prog 110 #[.agg #[.int .i64 a, .int .i64 b, .int .i64 c, .int .i64 d, .int .i64 t], .agg #[.int .i64 a', .int .i64 b', .int .i64 c', .int .i64 d', .int .i64 t'], .int .i64 fresh] w
      (UniPost (uniT (mxz (a - a')) (mxz (b - b')) (mxz (c - c')) (mxz (d - d')) (mxz (a' - a)) (mxz (b' - b)) (mxz (c' - c)) (mxz (d' - d)) t t' fresh) w) :=
  unify_tryW a b c d t a' b' c' d' t' fresh _ w h h' _ _ _ _ _ _ _ _ (Lib.hid ⟨rfl, rfl, rfl, rfl, rfl, rfl, rfl, rfl⟩) (Lib.hid rfl)
end Go.Proofs.YtfkdcconmecaoaaDoor
