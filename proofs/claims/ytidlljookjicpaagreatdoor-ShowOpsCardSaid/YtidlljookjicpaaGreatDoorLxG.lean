/- Contract of package lex: Tokens. -/
import Derived.Test.YtidlljookjicpaaGreatDoorLxB
import Derived.Test.YtidlljookjicpaaGreatDoorAsA
namespace Go.Proofs.YtidlljookjicpaaGreatDoor
open Go.RowKit
set_option linter.unusedVariables false
set_option linter.unusedSimpArgs false

theorem set_old {W W0 : World} {t : Addr} {v old : Value} (hb : Below W.heap.size W W0) (ht : t.block < W.heap.size) (ho : W.cell? t = some old) : (W0.setCell t v).cell? t = some v := by
  have h : W0.cell? t = some old := by rw [hb.cell ht]; exact ho
  rw [World.cell?_setCell_same _ _ _ h]
theorem set_oth {W W0 : World} {t p : Addr} {v : Value} (hb : Below W.heap.size W W0) (hp : p.block < W.heap.size) (hne : t ≠ p) : (W0.setCell t v).cell? p = W.cell? p :=
  (World.cell?_setCell_other _ _ _ _ hne).trans (hb.cell hp)
theorem set_froz {W W0 : World} {t p : Addr} {v : Value} (hb : Below W.heap.size W W0) (hp : p.block < W.heap.size) : (W0.setCell t v).frozen? p = W.frozen? p := by
  rw [show (W0.setCell t v).frozen? p = W0.frozen? p from by simp [go_sem]]
  exact hb.frozen hp
theorem set_below {B : Nat} {w W W0 : World} {t : Addr} {v : Value} (h : Below B w W) (hb : Below W.heap.size W W0) (ht : B ≤ t.block) (hB : B ≤ W.heap.size) : Below B w (W0.setCell t v) :=
  (h.trans (hb.mono hB)).setCell ht _
theorem errTy_below {w w1 : World} (h : errTy w) (hb : Below w.heap.size w w1) : errTy w1 := by
  unfold errTy at *
  rw [hb.cell (p := ⟨0, 0, none⟩) (hgl h)]; exact h
def TokPost (R : List Tk × Int × Int) (w : World) (e : Ending) (w' : World) : Prop :=
  ∃ v, e = .returned (.tuple #[v, .int .i64 R.2.1, .int .i64 R.2.2]) ∧ OwnK w.heap.size w' v R.1 ∧ Below w.heap.size w w'
theorem tok_post {R : List Tk × Int × Int} {w w' : World} {v : Value} {a b : Int} (ha : a = R.2.1) (hb : b = R.2.2) (ho : OwnK w.heap.size w' v R.1) (hbl : Below w.heap.size w w') : TokPost R w (.returned (.tuple #[v, .int .i64 a, .int .i64 b])) w' := by
  subst ha hb; exact ⟨v, rfl, ho, hbl⟩

set_option maxRecDepth 100000 in
set_option maxHeartbeats 8000000 in
theorem tokens_any (s : ByteArray) (w : World) (hs : s.size ≤ 1125899906842624) (hg : errTy w) :
    Calls Tryz.prog 32 #[.string s] w (TokPost (lexR s) w) := by
  obtain ⟨R, hR⟩ : ∃ R, lexR s = R := ⟨_, rfl⟩
  have hsc := Lib.hid fun (W : World) => scan_any s W hs
  rw [hR] at hsc ⊢
  clear hR
  have hg' := Lib.hid hg
  have h0l := hgl hg
  clear hg
  go_enter Tryz.func32, Tryz.ntmps32
  go_wp2_with fail
  refine (hsc.out _).mono ?_
  rintro e w1 ⟨hb1, ⟨h0, h1, v, rfl, hown⟩ | ⟨hl, he, g, hg0, hg1, rfl, hc0, hc1⟩⟩
  · have h0' := Lib.hid h0; have h1' := Lib.hid h1; have ho := Lib.hid hown
    clear h0 h1 hown
    have hB := hb1.size
    go_wp2_with fail
    refine (as_nil _ _).mono ?_
    rintro e w' ⟨rfl, rfl⟩
    go_wp2_with fail
    go_ret3
    exact tok_post h1'.out.symm h0'.out.symm (World.ownsRow.alloc (World.ownsRow.alloc ho.out _) _) (by (repeat' (first | with_reducible exact Below.refl _ _ | with_reducible assumption | with_reducible apply Below.setCell | with_reducible apply Below.alloc | with_reducible apply Below.drew | with_reducible apply below_drewN | with_reducible exact Nat.le_refl _ | (simp; done) | (simp; omega) | omega | exact Nat.le_refl _)))
  · have hl' := Lib.hid hl
    have hB := hb1.size
    have hg1t : Hid (errTy w1) := Lib.hid (errTy_below hg'.out hb1)
    obtain ⟨er, her⟩ : ∃ x, R.2.2 = x := ⟨_, rfl⟩
    obtain ⟨pl, hpl⟩ : ∃ x, R.2.1 = x := ⟨_, rfl⟩
    rw [her] at hc1
    rw [hpl] at hc0
    have her' := Lib.hid her; have hpl' := Lib.hid hpl
    clear hl he her hpl
    go_wp2_with fail
    refine (as_hit ⟨g, 0, none⟩ ⟨w1.heap.size, 0, none⟩ (.pointer none) _ (errTy_below hg1t.out (by (repeat' (first | with_reducible exact Below.refl _ _ | with_reducible assumption | with_reducible apply Below.setCell | with_reducible apply Below.alloc | with_reducible apply Below.drew | with_reducible apply below_drewN | with_reducible exact Nat.le_refl _ | (simp; done) | (simp; omega) | omega | exact Nat.le_refl _)))) (by simp) (by simp)).mono ?_
    rintro e w2' ⟨rfl, W0, hW0, hw2⟩
    have p0 : w2'.cell? ⟨w1.heap.size, 0, none⟩ = some (.pointer (some ⟨g, 0, none⟩)) := by rw [hw2]; exact set_old hW0 (by first | (simp; done) | (simp; omega)) (by simp; rfl)
    have p1 : w2'.cell? ⟨w1.heap.size + 1, 0, none⟩ = some (.int .i64 0) := by rw [hw2, set_oth hW0 (by first | (simp; done) | (simp; omega)) (by simp)]; simp
    have p2 : w2'.frozen? ⟨w1.heap.size + 1, 0, none⟩ = false := by rw [hw2, set_froz hW0 (by first | (simp; done) | (simp; omega))]; simp
    have hbel2 : Below w1.heap.size w1 w2' := by rw [hw2]; exact set_below (by (repeat' (first | with_reducible exact Below.refl _ _ | with_reducible assumption | with_reducible apply Below.setCell | with_reducible apply Below.alloc | with_reducible apply Below.drew | with_reducible apply below_drewN | with_reducible exact Nat.le_refl _ | (simp; done) | (simp; omega) | omega | exact Nat.le_refl _))) hW0 (by first | (simp; done) | (simp; omega)) (by first | (simp; done) | (simp; omega))
    have hz2 : w1.heap.size + 1 < w2'.heap.size := by rw [hw2]; have := hW0.size; simp at this ⊢; omega
    clear hw2 hW0
    have q0 := carry hbel2 hg1 hc0
    have q1 := carry hbel2 hg1 hc1
    clear hc0 hc1
    have hg2t : Hid (errTy w2') := Lib.hid (errTy_below hg1t.out hbel2)
    go_wp2_with fail
    refine (as_wrap g er ⟨w1.heap.size + 1, 0, none⟩ (.int .i64 0) _ hg2t.out q1 p1 p2).mono ?_
    rintro e w3' ⟨rfl, W0, hW0, hw3⟩
    have r0 : w3'.cell? ⟨w1.heap.size, 0, none⟩ = some (.pointer (some ⟨g, 0, none⟩)) := by rw [hw3, set_oth hW0 (by show w1.heap.size < _; omega) (by simp)]; exact p0
    have r1 : w3'.cell? ⟨w1.heap.size + 1, 0, none⟩ = some (.int .i64 er) := by rw [hw3]; exact set_old hW0 hz2 p1
    have r2 : w3'.cell? ⟨g, 0, none⟩ = some (.int .i64 pl) := by rw [hw3, set_oth hW0 (by show g < _; omega) (by first | (simp; done) | (simp; omega))]; exact q0
    have hbel3 : Below w1.heap.size w1 w3' := by rw [hw3]; exact set_below hbel2 hW0 (by simp) (by omega)
    clear hw3 hW0 p0 p1 p2 q0 q1
    have hbel : Below w.heap.size w w3' := belT hb1 hbel3
    go_wp2_with fail
    go_region
    all_goals
      go_wp2_with fail
      go_ret3
      exact tok_post hpl'.out.symm her'.out.symm (by rw [hl'.out]; exact ownK_nil _ _) (by (repeat' (first | with_reducible exact Below.refl _ _ | with_reducible assumption | with_reducible apply Below.setCell | with_reducible apply Below.alloc | with_reducible apply Below.drew | with_reducible apply below_drewN | with_reducible exact Nat.le_refl _ | (simp; done) | (simp; omega) | omega | exact Nat.le_refl _)))
end Go.Proofs.YtidlljookjicpaaGreatDoor
