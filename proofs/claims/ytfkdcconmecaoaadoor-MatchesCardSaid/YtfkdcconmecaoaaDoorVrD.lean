/- The reference's names of variables: at, kind, row, walkVars, VarsOf. -/
import Derived.Test.YtfkdcconmecaoaaDoorVrA
import Derived.Test.YtfkdcconmecaoaaDoorRcP
import Derived.Test.YtfkdcconmecaoaaDoorSbE
namespace Go.Proofs.YtfkdcconmecaoaaDoor
open Go.RowKit
set_option linter.unusedVariables false
set_option linter.unusedSimpArgs false

/-- where a number stands. -/
def posI (l : List Int) (v : Int) : Nat := (addI l v).findIdx (· == v)
theorem posI_at {l : List Int} {v : Int} {j : Nat} (hj : j < l.length) (h1 : hasI (l.take j) v = false) (h2 : l.getD j 0 = v) : posI l v = j ∧ addI l v = l := by
  have hm : hasI l v = true := (hasI_iff l v).2 (by rw [← h2, List.getD_eq_getElem?_getD, List.getElem?_eq_getElem hj]; exact List.getElem_mem hj)
  have e : addI l v = l := by unfold addI; rw [hm]; rfl
  refine ⟨?_, e⟩
  unfold posI
  rw [e, List.findIdx_eq hj]
  have e2 : l.getD j 0 = l[j] := by rw [List.getD_eq_getElem?_getD, List.getElem?_eq_getElem hj]; rfl
  refine ⟨by rw [← e2, h2]; simp, fun k hk => ?_⟩
  cases hq : (l[k] == v)
  · rfl
  · have : v ∈ l.take j := by
      rw [List.mem_take_iff_getElem]
      exact ⟨k, by omega, beq_iff_eq.1 hq⟩
    rw [(hasI_iff _ _).2 this] at h1; cases h1
theorem posI_new {l : List Int} {v : Int} (h : hasI l v = false) : posI l v = l.length ∧ addI l v = l ++ [v] := by
  have e : addI l v = l ++ [v] := by unfold addI; rw [h]; rfl
  refine ⟨?_, e⟩
  unfold posI
  rw [e, List.findIdx_eq (by simp)]
  refine ⟨by simp, fun k hk => ?_⟩
  rw [List.getElem_append_left hk]
  cases hq : (l[k] == v)
  · rfl
  · have : v ∈ l := by rw [← beq_iff_eq.1 hq]; exact List.getElem_mem hk
    rw [(hasI_iff _ _).2 this] at h; cases h
set_option maxRecDepth 100000 in
set_option maxHeartbeats 4000000 in
theorem rat_any (B : Nat) (v : Value) (l : List Int) (x : Int) (w : World) (h : Hid (OwnI B w v l)) (hB : B ≤ w.heap.size) (hl : l.length ≤ 100000) :
    Calls Tryd.prog 87 #[v, .int .i64 x] w fun e w' => ∃ v', e = .returned (.tuple #[v', .int .i64 (posI l x : Nat)]) ∧ OwnI B w' v' (addI l x) ∧ Bar (fun k => v.ownBlock = some k) w w' ∧ Moved w v v' := by
  obtain ⟨a, n, c, hv⟩ := ownI_sl h.out
  subst hv
  obtain ⟨hn, hA⟩ := h.out.arg
  subst hn
  obtain ⟨P, hP⟩ : ∃ p, posI l x = p := ⟨_, rfl⟩
  obtain ⟨R, hR⟩ : ∃ p, addI l x = p := ⟨_, rfl⟩
  have hfound := Lib.hid fun (j : Nat) hj h1 h2 => posI_at (l := l) (v := x) (j := j) hj h1 h2
  have hnew := Lib.hid fun h => posI_new (l := l) (v := x) h
  rw [hP, hR] at hfound hnew ⊢
  clear hP hR
  go_enter Tryd.func87, Tryd.ntmps87
  go_wp2_with fail
  go_loopw [6] (fun i wr => ∃ j : Nat, j ≤ l.length ∧ i = .int .i64 j ∧ wr = w ∧ Hid (hasI (l.take j) x = false)) (fun i _ => l.length - (intOf i).toNat)
  case atStart => exact ⟨0, by omega, rfl, rfl, Lib.hid rfl⟩
  case round =>
    obtain ⟨j, hj, rfl, hwr, hno⟩ := hrel
    subst hwr
    by_cases hlt : j < l.length
    · obtain ⟨b, off, rfl, hs, hb⟩ := isArg_at hA hlt
      have hc := hs j hlt
      have htk := Lib.hid (hasI_take hlt x)
      have hfin := Lib.hid (show l.getD j 0 = x → P = j ∧ R = l from fun e => hfound.out j hlt hno.out e)
      generalize l.getD j 0 = y at hc htk hfin
      have hlt' : (j : Int) < (l.length : Int) := by omega
      have hj0 : (0 : Int) ≤ (j : Int) := by omega
      clear hs hA
      cases hq : (y == x)
      · have hq2 := Lib.hid hq
        go_wp2_with fail
        go_roundw
        case rel => exact ⟨j + 1, by omega, by go_num, by first | rfl | trivial, Lib.hid (by rw [htk.out, hno.out, hq2.out]; rfl)⟩
        case measure => simp [intOf]; omega
      · obtain ⟨e1, e2⟩ := hfin.out (beq_iff_eq.1 hq)
        have e1 := Lib.hid e1
        have e2' := Lib.hid e2
        clear e2
        go_wp2_with fail
        go_ret2
        exact ⟨_, by rw [e1.out]; rfl, by rw [e2'.out]; exact h.out, Bar.refl _ _, Moved.refl _ _⟩
    · obtain ⟨e1, e2⟩ := hnew.out (by have := hno.out; rwa [List.take_of_length_le (by omega)] at this)
      have e1' := Lib.hid e1
      have e2' := Lib.hid e2
      clear e1 e2
      go_wp2_with (at_builtin; refine op_inh rfl (.tmp 21) (.tmp 23) _ wr B hB (by (repeat' (first | with_reducible exact Below.refl _ _ | with_reducible assumption | with_reducible apply Below.setCell | with_reducible apply Below.alloc | with_reducible apply Below.drew | with_reducible apply below_drewN | with_reducible exact Nat.le_refl _ | (simp; done) | (simp; omega) | omega | exact Nat.le_refl _))) _ l _ rfl rfl _ (by first | (simp; done) | (simp; omega)) rfl h.out (by omega) ?_)
      intro g3 c3 w3 hO3 hBar3 hM3
      have hO3' := Lib.hid hO3; have hBar3' := Lib.hid hBar3; have hM3' := Lib.hid hM3
      clear hO3 hBar3 hM3
      go_wp2_with fail
      go_ret2
      exact ⟨_, by rw [e1'.out]; first | rfl | simp | (congr 4; omega), by rw [e2'.out]; exact hO3'.out, hBar3'.out, hM3'.out⟩
set_option maxRecDepth 100000 in
set_option maxHeartbeats 4000000 in
theorem nkind_any (g B : Nat) (x : Int) (w : World) (v1 v2 : Value) (l1 l2 : List Int) (h : Hid (TwoI B g 0 g 1 w v1 v2 l1 l2)) (hl1 : l1.length ≤ 100000) (hl2 : l2.length ≤ 100000) :
    Calls Tryd.prog 70 #[.pointer (some ⟨g, 0, none⟩), .int .i64 x] w fun e w' => e = .returned (.int .i64 (posI l1 x : Nat)) ∧ ∃ v1' v2', TwoI B g 0 g 1 w' v1' v2' (addI l1 x) l2 ∧ GoV g g w w' v1 v2 v1' v2' := by
  have c0 := h.out.c1
  have f0 := h.out.f1 0
  have hB1 := h.out.B1; have hBw := h.out.hB
  have hg : g < w.heap.size := by omega
  obtain ⟨a, n, c, hv⟩ := ownI_sl h.out.i1
  have kA := Lib.hid (rat_any B v1 l1 x w (Lib.hid h.out.i1) hBw hl1)
  generalize posI l1 x = P at kA ⊢
  have hfin := Lib.hid fun (w' : World) (v' : Value) (hO : OwnI B w' v' (addI l1 x)) (hb : Bar (fun k => v1.ownBlock = some k) w w') (hm : Moved w v1 v') => h.out.app1 hO hb hm
  have hkeep := Lib.hid fun (w' : World) (hb : Bar (fun k => v1.ownBlock = some k) w w') => (show w'.cell? ⟨g, 0, none⟩ = some v1 ∧ w'.frozen? ⟨g, 0, none⟩ = false ∧ g < w'.heap.size from ⟨hb.cell h.out.c1 (fun e => by have : B ≤ g := (own_lt h.out.i1 _ e).1; omega), by rw [hb.frozen hg (fun e => by have : B ≤ g := (own_lt h.out.i1 _ e).1; omega)]; exact h.out.f1 0, by have := hb.size; omega⟩)
  subst hv
  generalize addI l1 x = R at kA hfin ⊢
  go_enter Tryd.func70, Tryd.ntmps70
  go_wp2_with fail
  refine kA.out.mono ?_
  rintro e w1 ⟨v', rfl, hO, hBar, hM⟩
  obtain ⟨k0, k1, k2⟩ := hkeep.out w1 hBar
  have hF := Lib.hid (hfin.out w1 v' hO hBar hM)
  obtain ⟨a', n', c', hve⟩ := ownI_sl hO
  subst hve
  clear hO hBar hM
  go_wp2_with fail
  go_ret
  exact ⟨rfl, _, _, hF.out.1, hF.out.2⟩
set_option maxRecDepth 100000 in
set_option maxHeartbeats 4000000 in
theorem nrow_any (g B : Nat) (x : Int) (w : World) (v1 v2 : Value) (l1 l2 : List Int) (h : Hid (TwoI B g 0 g 1 w v1 v2 l1 l2)) (hl1 : l1.length ≤ 100000) (hl2 : l2.length ≤ 100000) :
    Calls Tryd.prog 88 #[.pointer (some ⟨g, 0, none⟩), .int .i64 x] w fun e w' => e = .returned (.int .i64 (posI l2 x : Nat)) ∧ ∃ v1' v2', TwoI B g 0 g 1 w' v1' v2' l1 (addI l2 x) ∧ GoV g g w w' v1 v2 v1' v2' := by
  have c0 := h.out.c2
  have f0 := h.out.f2 1
  have hB1 := h.out.B1; have hBw := h.out.hB
  have hg : g < w.heap.size := by omega
  obtain ⟨a, n, c, hv⟩ := ownI_sl h.out.i2
  have kA := Lib.hid (rat_any B v2 l2 x w (Lib.hid h.out.i2) hBw hl2)
  generalize posI l2 x = P at kA ⊢
  have hfin := Lib.hid fun (w' : World) (v' : Value) (hO : OwnI B w' v' (addI l2 x)) (hb : Bar (fun k => v2.ownBlock = some k) w w') (hm : Moved w v2 v') => h.out.app2 hO hb hm
  have hkeep := Lib.hid fun (w' : World) (hb : Bar (fun k => v2.ownBlock = some k) w w') => (show w'.cell? ⟨g, 1, none⟩ = some v2 ∧ w'.frozen? ⟨g, 1, none⟩ = false ∧ g < w'.heap.size from ⟨hb.cell h.out.c2 (fun e => by have : B ≤ g := (own_lt h.out.i2 _ e).1; omega), by rw [hb.frozen hg (fun e => by have : B ≤ g := (own_lt h.out.i2 _ e).1; omega)]; exact h.out.f2 1, by have := hb.size; omega⟩)
  subst hv
  generalize addI l2 x = R at kA hfin ⊢
  go_enter Tryd.func88, Tryd.ntmps88
  go_wp2_with fail
  refine kA.out.mono ?_
  rintro e w1 ⟨v', rfl, hO, hBar, hM⟩
  obtain ⟨k0, k1, k2⟩ := hkeep.out w1 hBar
  have hF := Lib.hid (hfin.out w1 v' hO hBar hM)
  obtain ⟨a', n', c', hve⟩ := ownI_sl hO
  subst hve
  clear hO hBar hM
  go_wp2_with fail
  go_ret
  exact ⟨rfl, _, _, hF.out.1, hF.out.2⟩
end Go.Proofs.YtfkdcconmecaoaaDoor
