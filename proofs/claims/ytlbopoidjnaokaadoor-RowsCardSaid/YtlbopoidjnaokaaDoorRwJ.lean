/- Rows of effects: Unify of both, its binds in memory that may be written. -/
import Derived.Test.YtlbopoidjnaokaaDoorRwE
namespace Go.Proofs.YtlbopoidjnaokaaDoor
open Go.RowKit
set_option linter.unusedVariables false
set_option linter.unusedSimpArgs false

/-- a slice of row binds in new memory: none, one or two of them. -/
def BdsJs (B : Nat) (w : World) (v : Value) (l : List Bd) : Prop :=
  (v = .slice none 0 0 ∧ l = []) ∨ ∃ g, B ≤ g ∧ (g < w.heap.size ∧ ∀ o, w.frozen? ⟨g, o, none⟩ = false) ∧ v = .slice (some ⟨g, 0, none⟩) l.length l.length ∧ ∀ i, i < l.length → BdAt w g i (l.getD i ⟨0, 0, 0, 0, 0, 0⟩)
def UniPostJ (o : Option (List Bd)) (w : World) (e : Ending) (w' : World) : Prop :=
  ∃ v, e = .returned (.tuple #[v, .bool o.isSome]) ∧ BdsJs w.heap.size w' v (o.getD []) ∧ Below w.heap.size w w'


/-- one bind in new memory. -/
theorem uni_oneJ {w W : World} {v a b c d t : Int} (hb : Below w.heap.size w W) (T : TypeId) :
    UniPostJ (some [⟨v, a, b, c, d, t⟩]) w (.returned (.tuple #[.slice (some ⟨W.heap.size, 0, none⟩) 1 1, .bool true])) (W.alloc (.cells #[.int .i64 v, .bool true, .slice none 0 0, .int .i64 a, .int .i64 b, .int .i64 c, .int .i64 d, .int .i64 t] T)) := by
  refine ⟨_, rfl, .inr ⟨W.heap.size, hb.size, ⟨by simp, fun o => by simp [go_sem]⟩, rfl, ?_⟩, hb.alloc hb.size _⟩
  intro i hi
  have : i = 0 := by simp at hi; omega
  subst this
  unfold BdAt
  simp
theorem uni_twoJ {w W : World} {v a b c d t v' a' b' c' d' t' : Int} (hb : Below w.heap.size w W) (T : TypeId) :
    UniPostJ (some [⟨v, a, b, c, d, t⟩, ⟨v', a', b', c', d', t'⟩]) w (.returned (.tuple #[.slice (some ⟨W.heap.size, 0, none⟩) 2 2, .bool true])) (W.alloc (.cells #[.int .i64 v, .bool true, .slice none 0 0, .int .i64 a, .int .i64 b, .int .i64 c, .int .i64 d, .int .i64 t, .int .i64 v', .bool true, .slice none 0 0, .int .i64 a', .int .i64 b', .int .i64 c', .int .i64 d', .int .i64 t'] T)) := by
  refine ⟨_, rfl, .inr ⟨W.heap.size, hb.size, ⟨by simp, fun o => by simp [go_sem]⟩, rfl, ?_⟩, hb.alloc hb.size _⟩
  intro i hi
  have : i = 0 ∨ i = 1 := by simp at hi; omega
  rcases this with rfl | rfl
  · unfold BdAt; simp
  · unfold BdAt; simp
theorem uni_noneJ {w W : World} {o : Option (List Bd)} {b : Bool} (ho : o = if b then some [] else none) (hb : Below w.heap.size w W) : UniPostJ o w (.returned (.tuple #[.slice none 0 0, .bool b])) W := by
  subst ho
  cases b
  · exact ⟨_, rfl, .inl ⟨rfl, rfl⟩, hb⟩
  · exact ⟨_, rfl, .inl ⟨rfl, rfl⟩, hb⟩

set_option maxHeartbeats 4000000 in
set_option maxRecDepth 100000 in
theorem unify_tryJ (a b c d t a' b' c' d' t' fresh : Int) (u : Option (List Bd)) (w : World) (h : mayR a b c d t = true) (h' : mayR a' b' c' d' t' = true) (p1 p2 p3 p4 q1 q2 q3 q4 : Int)
    (hPQ : Hid (mxz (a - a') = p1 ∧ mxz (b - b') = p2 ∧ mxz (c - c') = p3 ∧ mxz (d - d') = p4 ∧ mxz (a' - a) = q1 ∧ mxz (b' - b) = q2 ∧ mxz (c' - c) = q3 ∧ mxz (d' - d) = q4)) (hu' : Hid (uniT p1 p2 p3 p4 q1 q2 q3 q4 t t' fresh = u)) :
    Calls Tryd.prog 24 #[.agg #[.int .i64 a, .int .i64 b, .int .i64 c, .int .i64 d, .int .i64 t], .agg #[.int .i64 a', .int .i64 b', .int .i64 c', .int .i64 d', .int .i64 t'], .int .i64 fresh] w
      (UniPostJ u w) := by
  have hh := Lib.hid h
  have hh' := Lib.hid h'
  clear h h'
  have hP := Lib.hid (show mxz (a - a') = p1 ∧ mxz (b - b') = p2 ∧ mxz (c - c') = p3 ∧ mxz (d - d') = p4 from ⟨hPQ.out.1, hPQ.out.2.1, hPQ.out.2.2.1, hPQ.out.2.2.2.1⟩)
  have hQ := Lib.hid (show mxz (a' - a) = q1 ∧ mxz (b' - b) = q2 ∧ mxz (c' - c) = q3 ∧ mxz (d' - d) = q4 from hPQ.out.2.2.2.2)
  go_enter Tryd.func24, Tryd.ntmps24
  go_upto_region 1 with fail
  go_cut [8, 9] (fun s8 s9 wx => TwoPost w [.int .i64 a, .int .i64 b, .int .i64 c, .int .i64 d, .int .i64 t] [.int .i64 a', .int .i64 b', .int .i64 c', .int .i64 d', .int .i64 t'] [.int .i64 p1, .int .i64 p2, .int .i64 p3, .int .i64 p4] [.int .i64 q1, .int .i64 q2, .int .i64 q3, .int .i64 q4] s8 s9 wx)
  case first =>
    go_region_held3 (fun w' => w'.cell? ⟨w.heap.size, 0, none⟩ = some (.int .i64 a) ∧ w'.cell? ⟨w.heap.size, 1, none⟩ = some (.int .i64 b) ∧ w'.cell? ⟨w.heap.size, 2, none⟩ = some (.int .i64 c) ∧ w'.cell? ⟨w.heap.size, 3, none⟩ = some (.int .i64 d) ∧ w'.cell? ⟨w.heap.size, 4, none⟩ = some (.int .i64 t) ∧ w'.cell? ⟨w.heap.size + 1, 0, none⟩ = some (.int .i64 a') ∧ w'.cell? ⟨w.heap.size + 1, 1, none⟩ = some (.int .i64 b') ∧ w'.cell? ⟨w.heap.size + 1, 2, none⟩ = some (.int .i64 c') ∧ w'.cell? ⟨w.heap.size + 1, 3, none⟩ = some (.int .i64 d') ∧ w'.cell? ⟨w.heap.size + 1, 4, none⟩ = some (.int .i64 t'))
      (exact uniS_of (by (repeat' (first | with_reducible exact Below.refl _ _ | with_reducible assumption | with_reducible apply Below.setCell | with_reducible apply Below.alloc | with_reducible apply Below.drew | with_reducible apply below_drewN | with_reducible exact Nat.le_refl _ | (simp; done) | (simp; omega) | omega | exact Nat.le_refl _))))
      ((go_at_call 31; (first | (with_reducible refine (more_ag a b c d t a' b' c' d' t' p1 p2 p3 p4 _ hh.out hh'.out hP.out).mono ?_) | (with_reducible refine (more_ag a' b' c' d' t' a b c d t q1 q2 q3 q4 _ hh'.out hh.out hQ.out).mono ?_)); rintro e w1 ⟨rfl, nq, rfl⟩))
    all_goals (go_wp2_with fail; go_meet; (try simp only [setCell_drewN', alloc_drewN']); (try simp [World.setCell_alloc_past, World.setCell_alloc_at]); with_reducible refine two_fin (by (repeat' (first | with_reducible exact Below.refl _ _ | with_reducible assumption | with_reducible apply Below.setCell | with_reducible apply Below.alloc | with_reducible apply Below.drew | with_reducible apply below_drewN | with_reducible exact Nat.le_refl _ | (simp; done) | (simp; omega) | omega | exact Nat.le_refl _))) (by omega) (by omega) (by first | omega | (simp [size_drewN]; done) | (simp [size_drewN]; omega)) (by first | omega | (simp [size_drewN]; done) | (simp [size_drewN]; omega)) (by simp [cell_drewN, World.cell?_alloc_past, World.cell?_alloc_at]) (by simp [cell_drewN, World.cell?_alloc_past, World.cell?_alloc_at]))
  case rest =>
    obtain ⟨g, h, rfl, rfl, hg0, hg1, hh0, hh1, hbel, hsz, hA, hB, hPc, hQc⟩ := hcut
    have a4 := hA 4 _ rfl
    have b4 := hB 4 _ rfl
    have pp0 := hPc 0 _ rfl
    have pp1 := hPc 1 _ rfl
    have pp2 := hPc 2 _ rfl
    have pp3 := hPc 3 _ rfl
    have qq0 := hQc 0 _ rfl
    have qq1 := hQc 1 _ rfl
    have qq2 := hQc 2 _ rfl
    have qq3 := hQc 3 _ rfl
    clear hA hB hPc hQc
    have hsz' : w.heap.size < wc.heap.size := by omega
    have hm := of_decide_eq_true hh.out
    have hm' := of_decide_eq_true hh'.out
    have ht1 : -1 ≤ t ∧ -1 ≤ t' := by omega
    clear hm hm'
    have hz : ∀ (x0 x1 x2 x3 : Int) (W : World), (Op.equalIn 10000 70 (.agg #[.int .i64 x0, .int .i64 x1, .int .i64 x2, .int .i64 x3]) (.agg #[.int .i64 0, .int .i64 0, .int .i64 0, .int .i64 0])).run Tryd.prog W = .ok (zro x0 x1 x2 x3) W := fun x0 x1 x2 x3 W => arr_in 9998 70 Tryd.underlying70 W x0 x1 x2 x3 0 0 0 0
    cases hzp : zro p1 p2 p3 p4 <;> cases hzq : zro q1 q2 q3 q4
    · have hp := Lib.hid hzp
      have hq := Lib.hid hzq
      by_cases hte : t = t'
      · have hut : Hid (u = if zro p1 p2 p3 p4 && zro q1 q2 q3 q4 then some [] else none) := Lib.hid (by
          rw [← hu'.out]; unfold uniT; rw [if_pos hte, hp.out, hq.out]
          first
            | (rw [if_pos (by have := zro_iff.1 hp.out; have := zro_iff.1 hq.out; omega)]; rfl)
            | (rw [if_neg (by first | (have := zro_no hp.out; omega) | (have := zro_no hq.out; omega))]; rfl))
        have htb : (t == t') = true := by simpa using hte
        subst hte
        go_wp2_with fail
        go_quiet (fail)
        go_wp2_with fail
        go_ret2
        refine uni_noneJ (by rw [hut.out, hp.out, hq.out]; rfl) (by (repeat' (first | with_reducible exact Below.refl _ _ | with_reducible assumption | with_reducible apply Below.setCell | with_reducible apply Below.alloc | with_reducible apply Below.drew | with_reducible apply below_drewN | with_reducible exact Nat.le_refl _ | (simp; done) | (simp; omega) | omega | exact Nat.le_refl _)))
      have htb : (t == t') = false := by simpa using hte
      by_cases h0 : t' < 0
      · have hut : Hid (u = none) := Lib.hid (by
          rw [← hu'.out]; unfold uniT
          rw [if_neg hte, if_pos (by have := zro_no hp.out; omega)])
        go_wp2_with fail
        go_ret2
        exact uni_noneJ (b := false) (by rw [hut.out]; rfl) (by (repeat' (first | with_reducible exact Below.refl _ _ | with_reducible assumption | with_reducible apply Below.setCell | with_reducible apply Below.alloc | with_reducible apply Below.drew | with_reducible apply below_drewN | with_reducible exact Nat.le_refl _ | (simp; done) | (simp; omega) | omega | exact Nat.le_refl _)))
      by_cases h1 : t < 0
      · have hut : Hid (u = none) := Lib.hid (by
          rw [← hu'.out]; unfold uniT
          rw [if_neg hte, if_pos (by have := zro_no hq.out; omega)])
        go_wp2_with fail
        go_ret2
        exact uni_noneJ (b := false) (by rw [hut.out]; rfl) (by (repeat' (first | with_reducible exact Below.refl _ _ | with_reducible assumption | with_reducible apply Below.setCell | with_reducible apply Below.alloc | with_reducible apply Below.drew | with_reducible apply below_drewN | with_reducible exact Nat.le_refl _ | (simp; done) | (simp; omega) | omega | exact Nat.le_refl _)))
      · have hut : Hid (u = some [⟨t, q1, q2, q3, q4, fresh⟩, ⟨t', p1, p2, p3, p4, fresh⟩]) := Lib.hid (by
          rw [← hu'.out]; unfold uniT
          rw [if_neg hte, if_neg (by omega), if_neg (by have := zro_no hp.out; omega), if_neg (by have := zro_no hq.out; omega)])
        go_wp2_with fail
        go_region_held3 (fun W => W.cell? ⟨w.heap.size, 4, none⟩ = some (.int .i64 t) ∧ W.cell? ⟨w.heap.size + 1, 4, none⟩ = some (.int .i64 t') ∧ W.cell? ⟨g, 0, none⟩ = some (.int .i64 p1) ∧ W.cell? ⟨g, 1, none⟩ = some (.int .i64 p2) ∧ W.cell? ⟨g, 2, none⟩ = some (.int .i64 p3) ∧ W.cell? ⟨g, 3, none⟩ = some (.int .i64 p4) ∧ W.cell? ⟨h, 0, none⟩ = some (.int .i64 q1) ∧ W.cell? ⟨h, 1, none⟩ = some (.int .i64 q2) ∧ W.cell? ⟨h, 2, none⟩ = some (.int .i64 q3) ∧ W.cell? ⟨h, 3, none⟩ = some (.int .i64 q4) ∧ KeepG w g h W)
          (first | exact uniG_step (by assumption) hb9 | exact uniG_step (by assumption) (Joins.below_alloc1 _ _) | exact uniG_step ⟨a4, b4, pp0, pp1, pp2, pp3, qq0, qq1, qq2, qq3, hbel, hsz, hg1, hh1⟩ ((Below.refl _ _).alloc (Nat.le_refl _) _).drew)
          ((go_at_call 32; refine (bind_any _ _ _ _ _ _ _).mono ?_; rintro e w9 ⟨rfl, hb9⟩))
        go_wp2_with fail
        go_ret2
        refine (show UniPostJ u w _ _ from ?_)
        rw [hut.out]
        refine uni_twoJ (belT (belT ?_ (by assumption)) hb9) _
        (repeat' (first | with_reducible exact Below.refl _ _ | with_reducible assumption | with_reducible apply Below.setCell | with_reducible apply Below.alloc | with_reducible apply Below.drew | with_reducible apply below_drewN | with_reducible exact Nat.le_refl _ | (simp; done) | (simp; omega) | omega | exact Nat.le_refl _))
    · have hp := Lib.hid hzp
      have hq := Lib.hid hzq
      by_cases hte : t = t'
      · have hut : Hid (u = if zro p1 p2 p3 p4 && zro q1 q2 q3 q4 then some [] else none) := Lib.hid (by
          rw [← hu'.out]; unfold uniT; rw [if_pos hte, hp.out, hq.out]
          first
            | (rw [if_pos (by have := zro_iff.1 hp.out; have := zro_iff.1 hq.out; omega)]; rfl)
            | (rw [if_neg (by first | (have := zro_no hp.out; omega) | (have := zro_no hq.out; omega))]; rfl))
        have htb : (t == t') = true := by simpa using hte
        subst hte
        go_wp2_with fail
        go_quiet (fail)
        go_wp2_with fail
        go_ret2
        refine uni_noneJ (by rw [hut.out, hp.out, hq.out]; rfl) (by (repeat' (first | with_reducible exact Below.refl _ _ | with_reducible assumption | with_reducible apply Below.setCell | with_reducible apply Below.alloc | with_reducible apply Below.drew | with_reducible apply below_drewN | with_reducible exact Nat.le_refl _ | (simp; done) | (simp; omega) | omega | exact Nat.le_refl _)))
      have htb : (t == t') = false := by simpa using hte
      by_cases h0 : t' < 0
      · have hut : Hid (u = none) := Lib.hid (by
          rw [← hu'.out]; unfold uniT
          rw [if_neg hte, if_pos (by have := zro_no hp.out; omega)])
        go_wp2_with fail
        go_ret2
        exact uni_noneJ (b := false) (by rw [hut.out]; rfl) (by (repeat' (first | with_reducible exact Below.refl _ _ | with_reducible assumption | with_reducible apply Below.setCell | with_reducible apply Below.alloc | with_reducible apply Below.drew | with_reducible apply below_drewN | with_reducible exact Nat.le_refl _ | (simp; done) | (simp; omega) | omega | exact Nat.le_refl _)))
      by_cases h1 : t < 0
      · have hut : Hid (u = some [⟨t', p1, p2, p3, p4, t⟩]) := Lib.hid (by
          rw [← hu'.out]; unfold uniT
          rw [if_neg hte, if_neg (by have := zro_iff.1 hq.out; omega), if_neg (by omega), if_pos (.inl h1)])
        go_wp2_with fail
        refine (bind_any _ _ _ _ _ _ _).mono ?_
        rintro e w2 ⟨rfl, hb2⟩
        have hb2' : Below w.heap.size w w2 := belT (by (repeat' (first | with_reducible exact Below.refl _ _ | with_reducible assumption | with_reducible apply Below.setCell | with_reducible apply Below.alloc | with_reducible apply Below.drew | with_reducible apply below_drewN | with_reducible exact Nat.le_refl _ | (simp; done) | (simp; omega) | omega | exact Nat.le_refl _))) hb2
        clear hb2
        go_wp2_with fail
        go_ret2
        exact (show UniPostJ u w _ _ by rw [hut.out]; exact uni_oneJ hb2' _)
      · have hut : Hid (u = some [⟨t', p1, p2, p3, p4, t⟩]) := Lib.hid (by
          rw [← hu'.out]; unfold uniT
          rw [if_neg hte, if_neg (by omega), if_neg (by have := zro_no hp.out; omega), if_pos (.inr (zro_iff.1 hq.out))])
        go_wp2_with fail
        refine (bind_any _ _ _ _ _ _ _).mono ?_
        rintro e w2 ⟨rfl, hb2⟩
        have hb2' : Below w.heap.size w w2 := belT (by (repeat' (first | with_reducible exact Below.refl _ _ | with_reducible assumption | with_reducible apply Below.setCell | with_reducible apply Below.alloc | with_reducible apply Below.drew | with_reducible apply below_drewN | with_reducible exact Nat.le_refl _ | (simp; done) | (simp; omega) | omega | exact Nat.le_refl _))) hb2
        clear hb2
        go_wp2_with fail
        go_ret2
        exact (show UniPostJ u w _ _ by rw [hut.out]; exact uni_oneJ hb2' _)
    · have hp := Lib.hid hzp
      have hq := Lib.hid hzq
      by_cases hte : t = t'
      · have hut : Hid (u = if zro p1 p2 p3 p4 && zro q1 q2 q3 q4 then some [] else none) := Lib.hid (by
          rw [← hu'.out]; unfold uniT; rw [if_pos hte, hp.out, hq.out]
          first
            | (rw [if_pos (by have := zro_iff.1 hp.out; have := zro_iff.1 hq.out; omega)]; rfl)
            | (rw [if_neg (by first | (have := zro_no hp.out; omega) | (have := zro_no hq.out; omega))]; rfl))
        have htb : (t == t') = true := by simpa using hte
        subst hte
        go_wp2_with fail
        go_quiet (fail)
        go_wp2_with fail
        go_ret2
        refine uni_noneJ (by rw [hut.out, hp.out, hq.out]; rfl) (by (repeat' (first | with_reducible exact Below.refl _ _ | with_reducible assumption | with_reducible apply Below.setCell | with_reducible apply Below.alloc | with_reducible apply Below.drew | with_reducible apply below_drewN | with_reducible exact Nat.le_refl _ | (simp; done) | (simp; omega) | omega | exact Nat.le_refl _)))
      have htb : (t == t') = false := by simpa using hte
      by_cases h0 : t' < 0
      · have hut : Hid (u = some [⟨t, q1, q2, q3, q4, t'⟩]) := Lib.hid (by
          rw [← hu'.out]; unfold uniT
          rw [if_neg hte, if_neg (by have := zro_iff.1 hp.out; omega), if_pos (.inl h0)])
        go_wp2_with fail
        refine (bind_any _ _ _ _ _ _ _).mono ?_
        rintro e w2 ⟨rfl, hb2⟩
        have hb2' : Below w.heap.size w w2 := belT (by (repeat' (first | with_reducible exact Below.refl _ _ | with_reducible assumption | with_reducible apply Below.setCell | with_reducible apply Below.alloc | with_reducible apply Below.drew | with_reducible apply below_drewN | with_reducible exact Nat.le_refl _ | (simp; done) | (simp; omega) | omega | exact Nat.le_refl _))) hb2
        clear hb2
        go_wp2_with fail
        go_ret2
        exact (show UniPostJ u w _ _ by rw [hut.out]; exact uni_oneJ hb2' _)
      by_cases h1 : t < 0
      · have hut : Hid (u = none) := Lib.hid (by
          rw [← hu'.out]; unfold uniT
          rw [if_neg hte, if_pos (by have := zro_no hq.out; omega)])
        go_wp2_with fail
        go_ret2
        exact uni_noneJ (b := false) (by rw [hut.out]; rfl) (by (repeat' (first | with_reducible exact Below.refl _ _ | with_reducible assumption | with_reducible apply Below.setCell | with_reducible apply Below.alloc | with_reducible apply Below.drew | with_reducible apply below_drewN | with_reducible exact Nat.le_refl _ | (simp; done) | (simp; omega) | omega | exact Nat.le_refl _)))
      · have hut : Hid (u = some [⟨t, q1, q2, q3, q4, t'⟩]) := Lib.hid (by
          rw [← hu'.out]; unfold uniT
          rw [if_neg hte, if_neg (by omega), if_pos (.inr ⟨by omega, zro_iff.1 hp.out⟩)])
        go_wp2_with fail
        refine (bind_any _ _ _ _ _ _ _).mono ?_
        rintro e w2 ⟨rfl, hb2⟩
        have hb2' : Below w.heap.size w w2 := belT (by (repeat' (first | with_reducible exact Below.refl _ _ | with_reducible assumption | with_reducible apply Below.setCell | with_reducible apply Below.alloc | with_reducible apply Below.drew | with_reducible apply below_drewN | with_reducible exact Nat.le_refl _ | (simp; done) | (simp; omega) | omega | exact Nat.le_refl _))) hb2
        clear hb2
        go_wp2_with fail
        go_ret2
        exact (show UniPostJ u w _ _ by rw [hut.out]; exact uni_oneJ hb2' _)
    · have hp := Lib.hid hzp
      have hq := Lib.hid hzq
      by_cases hte : t = t'
      · have hut : Hid (u = if zro p1 p2 p3 p4 && zro q1 q2 q3 q4 then some [] else none) := Lib.hid (by
          rw [← hu'.out]; unfold uniT; rw [if_pos hte, hp.out, hq.out]
          first
            | (rw [if_pos (by have := zro_iff.1 hp.out; have := zro_iff.1 hq.out; omega)]; rfl)
            | (rw [if_neg (by first | (have := zro_no hp.out; omega) | (have := zro_no hq.out; omega))]; rfl))
        have htb : (t == t') = true := by simpa using hte
        subst hte
        go_wp2_with fail
        go_quiet (fail)
        go_wp2_with fail
        go_ret2
        refine uni_noneJ (by rw [hut.out, hp.out, hq.out]; rfl) (by (repeat' (first | with_reducible exact Below.refl _ _ | with_reducible assumption | with_reducible apply Below.setCell | with_reducible apply Below.alloc | with_reducible apply Below.drew | with_reducible apply below_drewN | with_reducible exact Nat.le_refl _ | (simp; done) | (simp; omega) | omega | exact Nat.le_refl _)))
      have htb : (t == t') = false := by simpa using hte
      by_cases h0 : t' < 0
      · have hut : Hid (u = some [⟨t, q1, q2, q3, q4, t'⟩]) := Lib.hid (by
          rw [← hu'.out]; unfold uniT
          rw [if_neg hte, if_neg (by have := zro_iff.1 hp.out; omega), if_pos (.inl h0)])
        go_wp2_with fail
        refine (bind_any _ _ _ _ _ _ _).mono ?_
        rintro e w2 ⟨rfl, hb2⟩
        have hb2' : Below w.heap.size w w2 := belT (by (repeat' (first | with_reducible exact Below.refl _ _ | with_reducible assumption | with_reducible apply Below.setCell | with_reducible apply Below.alloc | with_reducible apply Below.drew | with_reducible apply below_drewN | with_reducible exact Nat.le_refl _ | (simp; done) | (simp; omega) | omega | exact Nat.le_refl _))) hb2
        clear hb2
        go_wp2_with fail
        go_ret2
        exact (show UniPostJ u w _ _ by rw [hut.out]; exact uni_oneJ hb2' _)
      by_cases h1 : t < 0
      · have hut : Hid (u = some [⟨t', p1, p2, p3, p4, t⟩]) := Lib.hid (by
          rw [← hu'.out]; unfold uniT
          rw [if_neg hte, if_neg (by have := zro_iff.1 hq.out; omega), if_neg (by omega), if_pos (.inl h1)])
        go_wp2_with fail
        refine (bind_any _ _ _ _ _ _ _).mono ?_
        rintro e w2 ⟨rfl, hb2⟩
        have hb2' : Below w.heap.size w w2 := belT (by (repeat' (first | with_reducible exact Below.refl _ _ | with_reducible assumption | with_reducible apply Below.setCell | with_reducible apply Below.alloc | with_reducible apply Below.drew | with_reducible apply below_drewN | with_reducible exact Nat.le_refl _ | (simp; done) | (simp; omega) | omega | exact Nat.le_refl _))) hb2
        clear hb2
        go_wp2_with fail
        go_ret2
        exact (show UniPostJ u w _ _ by rw [hut.out]; exact uni_oneJ hb2' _)
      · have hut : Hid (u = some [⟨t, q1, q2, q3, q4, t'⟩]) := Lib.hid (by
          rw [← hu'.out]; unfold uniT
          rw [if_neg hte, if_neg (by omega), if_pos (.inr ⟨by omega, zro_iff.1 hp.out⟩)])
        go_wp2_with fail
        refine (bind_any _ _ _ _ _ _ _).mono ?_
        rintro e w2 ⟨rfl, hb2⟩
        have hb2' : Below w.heap.size w w2 := belT (by (repeat' (first | with_reducible exact Below.refl _ _ | with_reducible assumption | with_reducible apply Below.setCell | with_reducible apply Below.alloc | with_reducible apply Below.drew | with_reducible apply below_drewN | with_reducible exact Nat.le_refl _ | (simp; done) | (simp; omega) | omega | exact Nat.le_refl _))) hb2
        clear hb2
        go_wp2_with fail
        go_ret2
        exact (show UniPostJ u w _ _ by rw [hut.out]; exact uni_oneJ hb2' _)
theorem unify_anyJ (a b c d t a' b' c' d' t' fresh : Int) (w : World) (h : mayR a b c d t = true) (h' : mayR a' b' c' d' t' = true) :
    Calls Tryd.prog 24 #[.agg #[.int .i64 a, .int .i64 b, .int .i64 c, .int .i64 d, .int .i64 t], .agg #[.int .i64 a', .int .i64 b', .int .i64 c', .int .i64 d', .int .i64 t'], .int .i64 fresh] w
      (UniPostJ (uniT (mxz (a - a')) (mxz (b - b')) (mxz (c - c')) (mxz (d - d')) (mxz (a' - a)) (mxz (b' - b)) (mxz (c' - c)) (mxz (d' - d)) t t' fresh) w) :=
  unify_tryJ a b c d t a' b' c' d' t' fresh _ w h h' _ _ _ _ _ _ _ _ (Lib.hid ⟨rfl, rfl, rfl, rfl, rfl, rfl, rfl, rfl⟩) (Lib.hid rfl)
/-- a slice of row binds in new memory, and an error. -/
def RuPostJ (l : List Bd) (er : Int) (w : World) (e : Ending) (w' : World) : Prop := ∃ v, e = .returned (.tuple #[v, .int .i64 er]) ∧ BdsJs w.heap.size w' v l ∧ Below w.heap.size w w'
theorem ruPostJ_nil {er : Int} {w W : World} {l : List Bd} (hl : l = []) (hb : Below w.heap.size w W) {er' : Int} (he : er' = er) : RuPostJ l er w (.returned (.tuple #[.slice none 0 0, .int .i64 er'])) W := by
  subst hl; subst he; exact ⟨_, rfl, .inl ⟨rfl, rfl⟩, hb⟩
theorem bdsJs_le {B B' : Nat} {w : World} {v : Value} {l : List Bd} (h : BdsJs B w v l) (hb : B' ≤ B) : BdsJs B' w v l := by
  rcases h with h | ⟨g, h1, h2, h3, h4⟩
  · exact .inl h
  · exact .inr ⟨g, by omega, h2, h3, h4⟩
theorem BdsJs.is {B : Nat} {w : World} {v : Value} {l : List Bd} (h : BdsJs B w v l) : BdsIs B w v l := by
  rcases h with h | ⟨g, h1, h2, h3, h4⟩
  · exact .inl h
  · exact .inr ⟨g, h1, h2.1, h3, h4⟩
set_option maxHeartbeats 1000000 in
set_option maxRecDepth 100000 in
theorem rowUnify_anyJ (a b c d t a' b' c' d' t' fresh : Int) (w : World) :
    Calls Tryd.prog 9 #[.agg #[.int .i64 a, .int .i64 b, .int .i64 c, .int .i64 d, .int .i64 t], .agg #[.int .i64 a', .int .i64 b', .int .i64 c', .int .i64 d', .int .i64 t'], .int .i64 fresh] w
      (RuPostJ (ruL a b c d t a' b' c' d' t' fresh) (ruE a b c d t a' b' c' d' t' fresh) w) := by
  cases hA : mayR a b c d t
  · have hno := Lib.hid (ru_no (fresh := fresh) (show ruOk a b c d t a' b' c' d' t' fresh = false by unfold ruOk; rw [hA]; rfl))
    have hA' := Lib.hid hA; clear hA
    go_enter Tryd.func9, Tryd.ntmps9
    go_wp2_with fail
    refine (rowsMay_any _ _ _ _ _ _).mono ?_
    rintro e w1 ⟨rfl, hb1⟩
    rw [hA'.out]
    go_wp2_with fail
    go_ret2
    exact ruPostJ_nil hno.out.1 (belT (by (repeat' (first | with_reducible exact Below.refl _ _ | with_reducible assumption | with_reducible apply Below.setCell | with_reducible apply Below.alloc | with_reducible apply Below.drew | with_reducible apply below_drewN | with_reducible exact Nat.le_refl _ | (simp; done) | (simp; omega) | omega | exact Nat.le_refl _))) hb1) hno.out.2.symm
  cases hB : mayR a' b' c' d' t'
  · have hno := Lib.hid (ru_no (fresh := fresh) (show ruOk a b c d t a' b' c' d' t' fresh = false by unfold ruOk; rw [hB]; simp))
    have hA' := Lib.hid hA; clear hA
    have hB' := Lib.hid hB; clear hB
    go_enter Tryd.func9, Tryd.ntmps9
    go_wp2_with fail
    refine (rowsMay_any _ _ _ _ _ _).mono ?_
    rintro e w1 ⟨rfl, hb1⟩
    rw [hA'.out]
    obtain ⟨hc1, hf1⟩ := bcell hb1
    have hz1_0 : w.heap.size < w1.heap.size := by have := hb1.size; (try simp at this); omega
    have hz1_1 : w.heap.size + 1 < w1.heap.size := by have := hb1.size; (try simp at this); omega
    have hcl1_0_0 : w1.cell? ⟨w.heap.size, 0, none⟩ = some (.int .i64 a) := by rw [hc1 _ _ (by simp; try omega)]; simp
    have hfl1_0_0 : w1.frozen? ⟨w.heap.size, 0, none⟩ = false := by rw [hf1 _ _ (by simp; try omega)]; simp
    have hcl1_0_1 : w1.cell? ⟨w.heap.size, 1, none⟩ = some (.int .i64 b) := by rw [hc1 _ _ (by simp; try omega)]; simp
    have hfl1_0_1 : w1.frozen? ⟨w.heap.size, 1, none⟩ = false := by rw [hf1 _ _ (by simp; try omega)]; simp
    have hcl1_0_2 : w1.cell? ⟨w.heap.size, 2, none⟩ = some (.int .i64 c) := by rw [hc1 _ _ (by simp; try omega)]; simp
    have hfl1_0_2 : w1.frozen? ⟨w.heap.size, 2, none⟩ = false := by rw [hf1 _ _ (by simp; try omega)]; simp
    have hcl1_0_3 : w1.cell? ⟨w.heap.size, 3, none⟩ = some (.int .i64 d) := by rw [hc1 _ _ (by simp; try omega)]; simp
    have hfl1_0_3 : w1.frozen? ⟨w.heap.size, 3, none⟩ = false := by rw [hf1 _ _ (by simp; try omega)]; simp
    have hcl1_0_4 : w1.cell? ⟨w.heap.size, 4, none⟩ = some (.int .i64 t) := by rw [hc1 _ _ (by simp; try omega)]; simp
    have hfl1_0_4 : w1.frozen? ⟨w.heap.size, 4, none⟩ = false := by rw [hf1 _ _ (by simp; try omega)]; simp
    have hcl1_1_0 : w1.cell? ⟨w.heap.size + 1, 0, none⟩ = some (.int .i64 a') := by rw [hc1 _ _ (by simp; try omega)]; simp
    have hfl1_1_0 : w1.frozen? ⟨w.heap.size + 1, 0, none⟩ = false := by rw [hf1 _ _ (by simp; try omega)]; simp
    have hcl1_1_1 : w1.cell? ⟨w.heap.size + 1, 1, none⟩ = some (.int .i64 b') := by rw [hc1 _ _ (by simp; try omega)]; simp
    have hfl1_1_1 : w1.frozen? ⟨w.heap.size + 1, 1, none⟩ = false := by rw [hf1 _ _ (by simp; try omega)]; simp
    have hcl1_1_2 : w1.cell? ⟨w.heap.size + 1, 2, none⟩ = some (.int .i64 c') := by rw [hc1 _ _ (by simp; try omega)]; simp
    have hfl1_1_2 : w1.frozen? ⟨w.heap.size + 1, 2, none⟩ = false := by rw [hf1 _ _ (by simp; try omega)]; simp
    have hcl1_1_3 : w1.cell? ⟨w.heap.size + 1, 3, none⟩ = some (.int .i64 d') := by rw [hc1 _ _ (by simp; try omega)]; simp
    have hfl1_1_3 : w1.frozen? ⟨w.heap.size + 1, 3, none⟩ = false := by rw [hf1 _ _ (by simp; try omega)]; simp
    have hcl1_1_4 : w1.cell? ⟨w.heap.size + 1, 4, none⟩ = some (.int .i64 t') := by rw [hc1 _ _ (by simp; try omega)]; simp
    have hfl1_1_4 : w1.frozen? ⟨w.heap.size + 1, 4, none⟩ = false := by rw [hf1 _ _ (by simp; try omega)]; simp
    clear hc1 hf1
    go_wp2_with fail
    refine (rowsMay_any _ _ _ _ _ _).mono ?_
    rintro e w2 ⟨rfl, hb2⟩
    rw [hB'.out]
    go_wp2_with fail
    go_ret2
    exact ruPostJ_nil hno.out.1 (belT (belT (by (repeat' (first | with_reducible exact Below.refl _ _ | with_reducible assumption | with_reducible apply Below.setCell | with_reducible apply Below.alloc | with_reducible apply Below.drew | with_reducible apply below_drewN | with_reducible exact Nat.le_refl _ | (simp; done) | (simp; omega) | omega | exact Nat.le_refl _))) hb1) hb2) hno.out.2.symm
  have hbool := hA
  have hA' := Lib.hid hA; clear hA hbool
  have hB' := Lib.hid hB; clear hB
  by_cases hf : 0 ≤ fresh ∧ fresh < 4096 ∧ t < fresh ∧ t' < fresh
  · have hyes := Lib.hid (ru_yes (show ruOk a b c d t a' b' c' d' t' fresh = true by unfold ruOk; rw [hA'.out, hB'.out, decide_eq_true hf]; rfl))
    obtain ⟨hf0, hf1, hf2, hf3⟩ := hf
    obtain ⟨u, hu⟩ : ∃ u, uniR a b c d t a' b' c' d' t' fresh = u := ⟨_, rfl⟩
    have hcu := Lib.hid (fun (W : World) => unify_tryJ a b c d t a' b' c' d' t' fresh u W hA'.out hB'.out _ _ _ _ _ _ _ _ (Lib.hid ⟨rfl, rfl, rfl, rfl, rfl, rfl, rfl, rfl⟩) (Lib.hid hu))
    have hu' := Lib.hid hu; clear hu
    go_enter Tryd.func9, Tryd.ntmps9
    go_wp2_with fail
    refine (rowsMay_any _ _ _ _ _ _).mono ?_
    rintro e w1 ⟨rfl, hb1⟩
    rw [hA'.out]
    obtain ⟨hc1, hf1⟩ := bcell hb1
    have hz1_0 : w.heap.size < w1.heap.size := by have := hb1.size; (try simp at this); omega
    have hz1_1 : w.heap.size + 1 < w1.heap.size := by have := hb1.size; (try simp at this); omega
    have hcl1_0_0 : w1.cell? ⟨w.heap.size, 0, none⟩ = some (.int .i64 a) := by rw [hc1 _ _ (by simp; try omega)]; simp
    have hfl1_0_0 : w1.frozen? ⟨w.heap.size, 0, none⟩ = false := by rw [hf1 _ _ (by simp; try omega)]; simp
    have hcl1_0_1 : w1.cell? ⟨w.heap.size, 1, none⟩ = some (.int .i64 b) := by rw [hc1 _ _ (by simp; try omega)]; simp
    have hfl1_0_1 : w1.frozen? ⟨w.heap.size, 1, none⟩ = false := by rw [hf1 _ _ (by simp; try omega)]; simp
    have hcl1_0_2 : w1.cell? ⟨w.heap.size, 2, none⟩ = some (.int .i64 c) := by rw [hc1 _ _ (by simp; try omega)]; simp
    have hfl1_0_2 : w1.frozen? ⟨w.heap.size, 2, none⟩ = false := by rw [hf1 _ _ (by simp; try omega)]; simp
    have hcl1_0_3 : w1.cell? ⟨w.heap.size, 3, none⟩ = some (.int .i64 d) := by rw [hc1 _ _ (by simp; try omega)]; simp
    have hfl1_0_3 : w1.frozen? ⟨w.heap.size, 3, none⟩ = false := by rw [hf1 _ _ (by simp; try omega)]; simp
    have hcl1_0_4 : w1.cell? ⟨w.heap.size, 4, none⟩ = some (.int .i64 t) := by rw [hc1 _ _ (by simp; try omega)]; simp
    have hfl1_0_4 : w1.frozen? ⟨w.heap.size, 4, none⟩ = false := by rw [hf1 _ _ (by simp; try omega)]; simp
    have hcl1_1_0 : w1.cell? ⟨w.heap.size + 1, 0, none⟩ = some (.int .i64 a') := by rw [hc1 _ _ (by simp; try omega)]; simp
    have hfl1_1_0 : w1.frozen? ⟨w.heap.size + 1, 0, none⟩ = false := by rw [hf1 _ _ (by simp; try omega)]; simp
    have hcl1_1_1 : w1.cell? ⟨w.heap.size + 1, 1, none⟩ = some (.int .i64 b') := by rw [hc1 _ _ (by simp; try omega)]; simp
    have hfl1_1_1 : w1.frozen? ⟨w.heap.size + 1, 1, none⟩ = false := by rw [hf1 _ _ (by simp; try omega)]; simp
    have hcl1_1_2 : w1.cell? ⟨w.heap.size + 1, 2, none⟩ = some (.int .i64 c') := by rw [hc1 _ _ (by simp; try omega)]; simp
    have hfl1_1_2 : w1.frozen? ⟨w.heap.size + 1, 2, none⟩ = false := by rw [hf1 _ _ (by simp; try omega)]; simp
    have hcl1_1_3 : w1.cell? ⟨w.heap.size + 1, 3, none⟩ = some (.int .i64 d') := by rw [hc1 _ _ (by simp; try omega)]; simp
    have hfl1_1_3 : w1.frozen? ⟨w.heap.size + 1, 3, none⟩ = false := by rw [hf1 _ _ (by simp; try omega)]; simp
    have hcl1_1_4 : w1.cell? ⟨w.heap.size + 1, 4, none⟩ = some (.int .i64 t') := by rw [hc1 _ _ (by simp; try omega)]; simp
    have hfl1_1_4 : w1.frozen? ⟨w.heap.size + 1, 4, none⟩ = false := by rw [hf1 _ _ (by simp; try omega)]; simp
    clear hc1 hf1
    go_wp2_with fail
    refine (rowsMay_any _ _ _ _ _ _).mono ?_
    rintro e w2 ⟨rfl, hb2⟩
    rw [hB'.out]
    have hz2_0 : w.heap.size < w2.heap.size := by have := hb2.size; omega
    have hz2_1 : w.heap.size + 1 < w2.heap.size := by have := hb2.size; omega
    have hk0 : ∀ o v, w1.cell? ⟨w.heap.size, o, none⟩ = some v → w2.cell? ⟨w.heap.size, o, none⟩ = some v := fun o v h => by rw [hb2.cell (p := ⟨w.heap.size, o, none⟩) hz1_0]; exact h
    have hk1 : ∀ o v, w1.cell? ⟨w.heap.size + 1, o, none⟩ = some v → w2.cell? ⟨w.heap.size + 1, o, none⟩ = some v := fun o v h => by rw [hb2.cell (p := ⟨w.heap.size + 1, o, none⟩) hz1_1]; exact h
    have g0 := hk0 _ _ hcl1_0_0; have g1 := hk0 _ _ hcl1_0_1; have g2 := hk0 _ _ hcl1_0_2; have g3 := hk0 _ _ hcl1_0_3; have g4 := hk0 _ _ hcl1_0_4
    have k0 := hk1 _ _ hcl1_1_0; have k1 := hk1 _ _ hcl1_1_1; have k2 := hk1 _ _ hcl1_1_2; have k3 := hk1 _ _ hcl1_1_3; have k4 := hk1 _ _ hcl1_1_4
    clear hk0 hk1
    go_wp2_with fail
    refine (hcu.out _).mono ?_
    rintro e w3 ⟨v, rfl, hbd, hb3⟩
    have hbw : Below w.heap.size w w3 := belT (belT (belT (by (repeat' (first | with_reducible exact Below.refl _ _ | with_reducible assumption | with_reducible apply Below.setCell | with_reducible apply Below.alloc | with_reducible apply Below.drew | with_reducible apply below_drewN | with_reducible exact Nat.le_refl _ | (simp; done) | (simp; omega) | omega | exact Nat.le_refl _))) hb1) hb2) hb3
    have hle : w.heap.size ≤ w2.heap.size := by omega
    have hbd' := Lib.hid (bdsJs_le hbd hle)
    clear hbd
    cases u with
    | none =>
      go_wp2_with fail
      go_ret2
      exact ruPostJ_nil (by rw [hyes.out.1, hu'.out]; rfl) hbw (by rw [hyes.out.2, hu'.out]; rfl)
    | some l =>
      go_wp2_with fail
      go_ret2
      exact ⟨v, tuple_v (by rw [hyes.out.2, hu'.out]; rfl), by rw [hyes.out.1, hu'.out]; exact hbd'.out, hbw⟩
  · have hno := Lib.hid (ru_no (show ruOk a b c d t a' b' c' d' t' fresh = false by unfold ruOk; rw [decide_eq_false hf]; simp))
    go_enter Tryd.func9, Tryd.ntmps9
    go_wp2_with fail
    refine (rowsMay_any _ _ _ _ _ _).mono ?_
    rintro e w1 ⟨rfl, hb1⟩
    rw [hA'.out]
    obtain ⟨hc1, hf1⟩ := bcell hb1
    have hz1_0 : w.heap.size < w1.heap.size := by have := hb1.size; (try simp at this); omega
    have hz1_1 : w.heap.size + 1 < w1.heap.size := by have := hb1.size; (try simp at this); omega
    have hcl1_0_0 : w1.cell? ⟨w.heap.size, 0, none⟩ = some (.int .i64 a) := by rw [hc1 _ _ (by simp; try omega)]; simp
    have hfl1_0_0 : w1.frozen? ⟨w.heap.size, 0, none⟩ = false := by rw [hf1 _ _ (by simp; try omega)]; simp
    have hcl1_0_1 : w1.cell? ⟨w.heap.size, 1, none⟩ = some (.int .i64 b) := by rw [hc1 _ _ (by simp; try omega)]; simp
    have hfl1_0_1 : w1.frozen? ⟨w.heap.size, 1, none⟩ = false := by rw [hf1 _ _ (by simp; try omega)]; simp
    have hcl1_0_2 : w1.cell? ⟨w.heap.size, 2, none⟩ = some (.int .i64 c) := by rw [hc1 _ _ (by simp; try omega)]; simp
    have hfl1_0_2 : w1.frozen? ⟨w.heap.size, 2, none⟩ = false := by rw [hf1 _ _ (by simp; try omega)]; simp
    have hcl1_0_3 : w1.cell? ⟨w.heap.size, 3, none⟩ = some (.int .i64 d) := by rw [hc1 _ _ (by simp; try omega)]; simp
    have hfl1_0_3 : w1.frozen? ⟨w.heap.size, 3, none⟩ = false := by rw [hf1 _ _ (by simp; try omega)]; simp
    have hcl1_0_4 : w1.cell? ⟨w.heap.size, 4, none⟩ = some (.int .i64 t) := by rw [hc1 _ _ (by simp; try omega)]; simp
    have hfl1_0_4 : w1.frozen? ⟨w.heap.size, 4, none⟩ = false := by rw [hf1 _ _ (by simp; try omega)]; simp
    have hcl1_1_0 : w1.cell? ⟨w.heap.size + 1, 0, none⟩ = some (.int .i64 a') := by rw [hc1 _ _ (by simp; try omega)]; simp
    have hfl1_1_0 : w1.frozen? ⟨w.heap.size + 1, 0, none⟩ = false := by rw [hf1 _ _ (by simp; try omega)]; simp
    have hcl1_1_1 : w1.cell? ⟨w.heap.size + 1, 1, none⟩ = some (.int .i64 b') := by rw [hc1 _ _ (by simp; try omega)]; simp
    have hfl1_1_1 : w1.frozen? ⟨w.heap.size + 1, 1, none⟩ = false := by rw [hf1 _ _ (by simp; try omega)]; simp
    have hcl1_1_2 : w1.cell? ⟨w.heap.size + 1, 2, none⟩ = some (.int .i64 c') := by rw [hc1 _ _ (by simp; try omega)]; simp
    have hfl1_1_2 : w1.frozen? ⟨w.heap.size + 1, 2, none⟩ = false := by rw [hf1 _ _ (by simp; try omega)]; simp
    have hcl1_1_3 : w1.cell? ⟨w.heap.size + 1, 3, none⟩ = some (.int .i64 d') := by rw [hc1 _ _ (by simp; try omega)]; simp
    have hfl1_1_3 : w1.frozen? ⟨w.heap.size + 1, 3, none⟩ = false := by rw [hf1 _ _ (by simp; try omega)]; simp
    have hcl1_1_4 : w1.cell? ⟨w.heap.size + 1, 4, none⟩ = some (.int .i64 t') := by rw [hc1 _ _ (by simp; try omega)]; simp
    have hfl1_1_4 : w1.frozen? ⟨w.heap.size + 1, 4, none⟩ = false := by rw [hf1 _ _ (by simp; try omega)]; simp
    clear hc1 hf1
    go_wp2_with fail
    refine (rowsMay_any _ _ _ _ _ _).mono ?_
    rintro e w2 ⟨rfl, hb2⟩
    rw [hB'.out]
    have g4 : w2.cell? ⟨w.heap.size, 4, none⟩ = some (.int .i64 t) := by rw [hb2.cell (p := ⟨w.heap.size, 4, none⟩) hz1_0]; exact hcl1_0_4
    have k4 : w2.cell? ⟨w.heap.size + 1, 4, none⟩ = some (.int .i64 t') := by rw [hb2.cell (p := ⟨w.heap.size + 1, 4, none⟩) hz1_1]; exact hcl1_1_4
    by_cases q0 : fresh < 0
    · go_wp2_with fail
      go_ret2
      exact ruPostJ_nil hno.out.1 (belT (belT (by (repeat' (first | with_reducible exact Below.refl _ _ | with_reducible assumption | with_reducible apply Below.setCell | with_reducible apply Below.alloc | with_reducible apply Below.drew | with_reducible apply below_drewN | with_reducible exact Nat.le_refl _ | (simp; done) | (simp; omega) | omega | exact Nat.le_refl _))) hb1) hb2) hno.out.2.symm
    by_cases q1 : 4096 ≤ fresh
    · go_wp2_with fail
      go_ret2
      exact ruPostJ_nil hno.out.1 (belT (belT (by (repeat' (first | with_reducible exact Below.refl _ _ | with_reducible assumption | with_reducible apply Below.setCell | with_reducible apply Below.alloc | with_reducible apply Below.drew | with_reducible apply below_drewN | with_reducible exact Nat.le_refl _ | (simp; done) | (simp; omega) | omega | exact Nat.le_refl _))) hb1) hb2) hno.out.2.symm
    by_cases q2 : fresh ≤ t
    · go_wp2_with fail
      go_ret2
      exact ruPostJ_nil hno.out.1 (belT (belT (by (repeat' (first | with_reducible exact Below.refl _ _ | with_reducible assumption | with_reducible apply Below.setCell | with_reducible apply Below.alloc | with_reducible apply Below.drew | with_reducible apply below_drewN | with_reducible exact Nat.le_refl _ | (simp; done) | (simp; omega) | omega | exact Nat.le_refl _))) hb1) hb2) hno.out.2.symm
    · have q3 : fresh ≤ t' := by omega
      go_wp2_with fail
      go_ret2
      exact ruPostJ_nil hno.out.1 (belT (belT (by (repeat' (first | with_reducible exact Below.refl _ _ | with_reducible assumption | with_reducible apply Below.setCell | with_reducible apply Below.alloc | with_reducible apply Below.drew | with_reducible apply below_drewN | with_reducible exact Nat.le_refl _ | (simp; done) | (simp; omega) | omega | exact Nat.le_refl _))) hb1) hb2) hno.out.2.symm
end Go.Proofs.YtlbopoidjnaokaaDoor
