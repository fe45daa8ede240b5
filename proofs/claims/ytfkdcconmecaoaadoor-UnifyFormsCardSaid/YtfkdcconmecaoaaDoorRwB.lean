/- Rows of effects: With. -/
import Derived.Test.YtfkdcconmecaoaaDoorRwA
/- Rows of effects: With. -/
namespace Go.Proofs.YtfkdcconmecaoaaDoor
open Go.RowKit
set_option linter.unusedVariables false
set_option linter.unusedSimpArgs false

def rowV (a b c d t : Int) : Value := .agg #[.int .i64 a, .int .i64 b, .int .i64 c, .int .i64 d, .int .i64 t]
def cntAt (a b c d op : Int) : Int := if op = 0 then a else if op = 1 then b else if op = 2 then c else d
def withOk (a b c d t op : Int) : Bool := mayR a b c d t && decide (0 ≤ op ∧ op < 4) && decide (cntAt a b c d op ≠ 32)
def plus (x op k : Int) : Int := if op = k then x + 1 else x
/-- With's answer and its error. -/
def withV (a b c d t op : Int) : Value := if withOk a b c d t op then rowV (plus a op 0) (plus b op 1) (plus c op 2) (plus d op 3) t else rowV 0 0 0 0 0
def withE (a b c d t op : Int) : Int := if withOk a b c d t op then 0 else 800

theorem with_no {a b c d t op : Int} (h : withOk a b c d t op = false) : withV a b c d t op = rowV 0 0 0 0 0 ∧ withE a b c d t op = 800 := by
  unfold withV withE; rw [h]; exact ⟨rfl, rfl⟩

end Go.Proofs.YtfkdcconmecaoaaDoor

/- Rows of effects: more, bind, Unify. -/
namespace Go.Proofs.YtfkdcconmecaoaaDoor
open Go.RowKit
set_option linter.unusedVariables false
set_option linter.unusedSimpArgs false

theorem setCell_drewN_at (X : World) (c : Array Value) (T : TypeId) (n g i : Nat) (v : Value) (hg : g = X.heap.size) : ((X.alloc (.cells c T)).drewN n).setCell ⟨g, i, none⟩ v = (X.alloc (.cells (c.setIfInBounds i v) T)).drewN n := by
  show ((X.alloc (.cells c T)).setCell ⟨g, i, none⟩ v).drewN n = _
  rw [World.setCell_alloc_at _ _ _ _ _ hg]
theorem setCell_mid (X : World) (c : Array Value) (T : TypeId) (o : Obj) (n g i : Nat) (v : Value) (hg : g = X.heap.size) : (((X.alloc (.cells c T)).alloc o).drewN n).setCell ⟨g, i, none⟩ v = ((X.alloc (.cells (c.setIfInBounds i v) T)).alloc o).drewN n := by
  show (((X.alloc (.cells c T)).alloc o).setCell ⟨g, i, none⟩ v).drewN n = _
  rw [World.setCell_alloc_past _ _ _ _ (by subst hg; simp), World.setCell_alloc_at _ _ _ _ _ hg]
def mxz (x : Int) : Int := if x < 0 then 0 else x
set_option maxHeartbeats 1000000 in
set_option maxRecDepth 100000 in
theorem more_ex (a b c d t a' b' c' d' t' : Int) (w : World) (h : mayR a b c d t = true) (h' : mayR a' b' c' d' t' = true) :
    Calls Tryd.prog 115 #[rowV a b c d t, rowV a' b' c' d' t'] w fun e w' => e = .returned (.agg #[.int .i64 (mxz (a - a')), .int .i64 (mxz (b - b')), .int .i64 (mxz (c - c')), .int .i64 (mxz (d - d'))]) ∧ ∃ nq : Nat, w' = ((((w.alloc (.cells #[.int .i64 a, .int .i64 b, .int .i64 c, .int .i64 d, .int .i64 t] 36)).alloc (.cells #[.int .i64 a', .int .i64 b', .int .i64 c', .int .i64 d', .int .i64 t'] 36)).alloc (.cells #[.int .i64 (mxz (a - a')), .int .i64 (mxz (b - b')), .int .i64 (mxz (c - c')), .int .i64 (mxz (d - d'))] 193)).alloc (.cells #[.int .i64 (mxz (a - a')), .int .i64 (mxz (b - b')), .int .i64 (mxz (c - c')), .int .i64 (mxz (d - d'))] 193)).drewN nq := by
  have hm := of_decide_eq_true h
  have hm' := of_decide_eq_true h'
  clear h h'
  rw [show rowV a b c d t = .agg #[.int .i64 a, .int .i64 b, .int .i64 c, .int .i64 d, .int .i64 t] from rfl, show rowV a' b' c' d' t' = .agg #[.int .i64 a', .int .i64 b', .int .i64 c', .int .i64 d', .int .i64 t'] from rfl]
  go_enter Tryd.func115, Tryd.ntmps115
  go_wp2_with fail
  go_loopw [7] (fun i wr => (i = .int .i64 0 ∧ ∃ nq : Nat, wr = ((((w.alloc (.cells #[.int .i64 a, .int .i64 b, .int .i64 c, .int .i64 d, .int .i64 t] 36)).alloc (.cells #[.int .i64 a', .int .i64 b', .int .i64 c', .int .i64 d', .int .i64 t'] 36)).alloc (.cells #[.int .i64 0, .int .i64 0, .int .i64 0, .int .i64 0] 193)).alloc (.cells #[.int .i64 0, .int .i64 0, .int .i64 0, .int .i64 0] 193)).drewN nq) ∨ (i = .int .i64 1 ∧ ∃ nq : Nat, wr = ((((w.alloc (.cells #[.int .i64 a, .int .i64 b, .int .i64 c, .int .i64 d, .int .i64 t] 36)).alloc (.cells #[.int .i64 a', .int .i64 b', .int .i64 c', .int .i64 d', .int .i64 t'] 36)).alloc (.cells #[.int .i64 0, .int .i64 0, .int .i64 0, .int .i64 0] 193)).alloc (.cells #[.int .i64 (mxz (a - a')), .int .i64 0, .int .i64 0, .int .i64 0] 193)).drewN nq) ∨ (i = .int .i64 2 ∧ ∃ nq : Nat, wr = ((((w.alloc (.cells #[.int .i64 a, .int .i64 b, .int .i64 c, .int .i64 d, .int .i64 t] 36)).alloc (.cells #[.int .i64 a', .int .i64 b', .int .i64 c', .int .i64 d', .int .i64 t'] 36)).alloc (.cells #[.int .i64 0, .int .i64 0, .int .i64 0, .int .i64 0] 193)).alloc (.cells #[.int .i64 (mxz (a - a')), .int .i64 (mxz (b - b')), .int .i64 0, .int .i64 0] 193)).drewN nq) ∨ (i = .int .i64 3 ∧ ∃ nq : Nat, wr = ((((w.alloc (.cells #[.int .i64 a, .int .i64 b, .int .i64 c, .int .i64 d, .int .i64 t] 36)).alloc (.cells #[.int .i64 a', .int .i64 b', .int .i64 c', .int .i64 d', .int .i64 t'] 36)).alloc (.cells #[.int .i64 0, .int .i64 0, .int .i64 0, .int .i64 0] 193)).alloc (.cells #[.int .i64 (mxz (a - a')), .int .i64 (mxz (b - b')), .int .i64 (mxz (c - c')), .int .i64 0] 193)).drewN nq) ∨ (i = .int .i64 4 ∧ ∃ nq : Nat, wr = ((((w.alloc (.cells #[.int .i64 a, .int .i64 b, .int .i64 c, .int .i64 d, .int .i64 t] 36)).alloc (.cells #[.int .i64 a', .int .i64 b', .int .i64 c', .int .i64 d', .int .i64 t'] 36)).alloc (.cells #[.int .i64 0, .int .i64 0, .int .i64 0, .int .i64 0] 193)).alloc (.cells #[.int .i64 (mxz (a - a')), .int .i64 (mxz (b - b')), .int .i64 (mxz (c - c')), .int .i64 (mxz (d - d'))] 193)).drewN nq)) (fun i _ => 4 - (intOf i).toNat)
  case atStart => exact .inl ⟨rfl, 0, rfl⟩
  case round =>
    rcases hrel with ⟨rfl, nq, rfl⟩ | ⟨rfl, nq, rfl⟩ | ⟨rfl, nq, rfl⟩ | ⟨rfl, nq, rfl⟩ | ⟨rfl, nq, rfl⟩
    · go_wp2_with fail
      go_region
      go_wp2_with fail
      go_roundw
      case rel =>
        refine .inr (.inl ⟨rfl, nq + 1, ?_⟩)
        rw [setCell_drewN_at _ _ _ _ _ _ _ (by simp)]
        rfl
      case measure => simp [intOf]
    · go_wp2_with fail
      go_region
      go_wp2_with fail
      go_roundw
      case rel =>
        refine .inr (.inr (.inl ⟨rfl, nq + 1, ?_⟩))
        rw [setCell_drewN_at _ _ _ _ _ _ _ (by simp)]
        rfl
      case measure => simp [intOf]
    · go_wp2_with fail
      go_region
      go_wp2_with fail
      go_roundw
      case rel =>
        refine .inr (.inr (.inr (.inl ⟨rfl, nq + 1, ?_⟩)))
        rw [setCell_drewN_at _ _ _ _ _ _ _ (by simp)]
        rfl
      case measure => simp [intOf]
    · go_wp2_with fail
      go_region
      go_wp2_with fail
      go_roundw
      case rel =>
        refine .inr (.inr (.inr (.inr (⟨rfl, nq + 1, ?_⟩))))
        rw [setCell_drewN_at _ _ _ _ _ _ _ (by simp)]
        rfl
      case measure => simp [intOf]
    · go_wp2_with fail
      refine bodyPost_ret (v := .agg #[.int .i64 (mxz (a - a')), .int .i64 (mxz (b - b')), .int .i64 (mxz (c - c')), .int .i64 (mxz (d - d'))]) (by simp [results, Tryd.results115, go_sem, *]) rfl ?_
      refine ⟨rfl, nq, ?_⟩
      rw [setCell_mid _ _ _ _ _ _ _ _ (by simp), setCell_mid _ _ _ _ _ _ _ _ (by simp), setCell_mid _ _ _ _ _ _ _ _ (by simp), setCell_mid _ _ _ _ _ _ _ _ (by simp)]
      rfl

theorem more_ag (a b c d t a' b' c' d' t' p1 p2 p3 p4 : Int) (w : World) (h : mayR a b c d t = true) (h' : mayR a' b' c' d' t' = true) (hp : mxz (a - a') = p1 ∧ mxz (b - b') = p2 ∧ mxz (c - c') = p3 ∧ mxz (d - d') = p4) :
    Calls Tryd.prog 115 #[.agg #[.int .i64 a, .int .i64 b, .int .i64 c, .int .i64 d, .int .i64 t], .agg #[.int .i64 a', .int .i64 b', .int .i64 c', .int .i64 d', .int .i64 t']] w fun e w' => e = .returned (.agg #[.int .i64 p1, .int .i64 p2, .int .i64 p3, .int .i64 p4]) ∧ ∃ nq : Nat, w' = ((((w.alloc (.cells #[.int .i64 a, .int .i64 b, .int .i64 c, .int .i64 d, .int .i64 t] 36)).alloc (.cells #[.int .i64 a', .int .i64 b', .int .i64 c', .int .i64 d', .int .i64 t'] 36)).alloc (.cells #[.int .i64 p1, .int .i64 p2, .int .i64 p3, .int .i64 p4] 193)).alloc (.cells #[.int .i64 p1, .int .i64 p2, .int .i64 p3, .int .i64 p4] 193)).drewN nq := by
  obtain ⟨rfl, rfl, rfl, rfl⟩ := hp
  exact more_ex a b c d t a' b' c' d' t' w h h'

theorem more_any (a b c d t a' b' c' d' t' : Int) (w : World) (h : mayR a b c d t = true) (h' : mayR a' b' c' d' t' = true) :
    Calls Tryd.prog 115 #[rowV a b c d t, rowV a' b' c' d' t'] w fun e w' => e = .returned (.agg #[.int .i64 (mxz (a - a')), .int .i64 (mxz (b - b')), .int .i64 (mxz (c - c')), .int .i64 (mxz (d - d'))]) ∧ Below w.heap.size w w' :=
  (more_ex a b c d t a' b' c' d' t' w h h').mono fun e w' ⟨he, nq, hw⟩ => ⟨he, by subst hw; (repeat' (first | with_reducible exact Below.refl _ _ | with_reducible assumption | with_reducible apply Below.setCell | with_reducible apply Below.alloc | with_reducible apply Below.drew | with_reducible apply below_drewN | with_reducible exact Nat.le_refl _ | (simp; done) | (simp; omega) | omega | exact Nat.le_refl _))⟩

theorem bind_any (v a b c d t : Int) (w : World) :
    Calls Tryd.prog 116 #[.int .i64 v, .agg #[.int .i64 a, .int .i64 b, .int .i64 c, .int .i64 d], .int .i64 t] w fun e w' => e = .returned (.agg #[.int .i64 v, .bool true, .slice none 0 0, .int .i64 a, .int .i64 b, .int .i64 c, .int .i64 d, .int .i64 t]) ∧ Below w.heap.size w w' := by
  go_enter Tryd.func116, Tryd.ntmps116
  go_wp2_with fail
  exact bodyPost_ret (v := .agg #[.int .i64 v, .bool true, .slice none 0 0, .int .i64 a, .int .i64 b, .int .i64 c, .int .i64 d, .int .i64 t]) (by simp [results, Tryd.results116, go_sem, *]) rfl ⟨rfl, by (repeat' (first | with_reducible exact Below.refl _ _ | with_reducible assumption | with_reducible apply Below.setCell | with_reducible apply Below.alloc | with_reducible apply Below.drew | with_reducible apply below_drewN | with_reducible exact Nat.le_refl _ | (simp; done) | (simp; omega) | omega | exact Nat.le_refl _))⟩
theorem rbind_any (v a b c d t : Int) (w : World) :
    Calls Tryd.prog 86 #[.int .i64 v, .agg #[.int .i64 a, .int .i64 b, .int .i64 c, .int .i64 d], .int .i64 t] w fun e w' => e = .returned (.agg #[.int .i64 v, .bool true, .slice none 0 0, .int .i64 a, .int .i64 b, .int .i64 c, .int .i64 d, .int .i64 t]) ∧ Below w.heap.size w w' := by
  go_enter Tryd.func86, Tryd.ntmps86
  go_wp2_with fail
  exact bodyPost_ret (v := .agg #[.int .i64 v, .bool true, .slice none 0 0, .int .i64 a, .int .i64 b, .int .i64 c, .int .i64 d, .int .i64 t]) (by simp [results, Tryd.results86, go_sem, *]) rfl ⟨rfl, by (repeat' (first | with_reducible exact Below.refl _ _ | with_reducible assumption | with_reducible apply Below.setCell | with_reducible apply Below.alloc | with_reducible apply Below.drew | with_reducible apply below_drewN | with_reducible exact Nat.le_refl _ | (simp; done) | (simp; omega) | omega | exact Nat.le_refl _))⟩
end Go.Proofs.YtfkdcconmecaoaaDoor
