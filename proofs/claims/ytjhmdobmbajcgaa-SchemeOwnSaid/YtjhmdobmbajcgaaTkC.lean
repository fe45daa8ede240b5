/- scheme.Take. -/
import Derived.Test.YtjhmdobmbajcgaaTkB
import Derived.Test.YtjhmdobmbajcgaaIsA
namespace Go.Proofs.Ytjhmdobmbajcgaa
open Go.RowKit
set_option linter.unusedVariables false
set_option linter.unusedSimpArgs false

def TkPost (ks : List Int) (xs : List Tp) (ms : List Int) (rs : List Rw) (ts : List Ty) (w : World) (e : Ending) (w' : World) : Prop :=
  ∃ v, e = .returned (.tuple #[.agg #[v], .int .i64 (tkE ks xs ms rs ts)]) ∧ OwnT w.heap.size w' v (tkT ks xs ms rs ts) ∧ Below w.heap.size w w'
theorem tkE_bd (ks : List Int) (xs : List Tp) (ms : List Int) (rs : List Rw) (ts : List Ty) : 0 ≤ tkE ks xs ms rs ts ∧ tkE ks xs ms rs ts ≤ 1200 := by unfold tkE; split <;> omega
set_option maxRecDepth 100000 in
set_option maxHeartbeats 8000000 in
theorem take2_any (a1 : Option Addr) (n1 c1 : Nat) (a2 : Option Addr) (n2 c2 : Nat) (a3 : Option Addr) (n3 c3 : Nat) (a4 : Option Addr) (n4 c4 : Nat) (a5 : Option Addr) (n5 c5 : Nat) (ks ms : List Int) (ts : List Ty) (xs : List Tp) (rs : List Rw) (w : World)
    (h1 : Hid (IsArg w a1 n1 ks)) (h2 : Hid (IsArg w a2 n2 ms)) (h3 : Hid (TyArg w a3 n3 ts)) (h4 : Hid (TpArg w a4 n4 xs)) (h5 : Hid (RwArg w a5 n5 rs)) (hw1 : Hid (∀ x ∈ ks, (Lit.int .i64 x).wf = true)) (hw2 : Hid (∀ x ∈ ms, (Lit.int .i64 x).wf = true))
    (hl1 : n1 ≤ 140737488351232) (hl2 : n2 ≤ 140737488351232) (hl3 : n3 ≤ 140737488351232) (hl4 : n4 ≤ 140737488351232) (hl5 : n5 ≤ 140737488351232) :
    Calls Try.prog 26 #[.agg #[.slice a1 n1 c1, .slice a2 n2 c2, .slice a3 n3 c3], .slice a4 n4 c4, .slice a5 n5 c5] w (TkPost ks xs ms rs ts w) := by
  have kT := Lib.hid fun (W : World) (hb : Below w.heap.size w W) => take_any a1 n1 c1 a2 n2 c2 a3 n3 c3 a4 n4 c4 a5 n5 c5 ks ms ts xs rs W (Lib.hid (h1.out.below hb)) (Lib.hid (h2.out.below hb)) (Lib.hid (h3.out.below hb)) (Lib.hid (h4.out.below hb)) (Lib.hid (h5.out.below hb)) hw1 hw2 hl1 hl2 hl3 hl4 hl5
  have hW0 := Lib.hid (tkW_mk w a1 n1 c1 a2 n2 c2 a3 n3 c3 56 25)
  have hno := Lib.hid fun (W : World) (h : (tkOk ks xs ms rs && decide (subE (tkB ks xs ms rs) ts = 0)) = false) (hW : Below w.heap.size w W) => (show TkPost ks xs ms rs ts w (.returned (.tuple #[.agg #[.slice none 0 0], .int .i64 1200])) W from by
    refine ⟨.slice none 0 0, by unfold tkE; rw [h]; rfl, ?_, hW⟩
    have e : tkT ks xs ms rs ts = [] := by
      unfold tkT
      cases hq : tkOk ks xs ms rs
      · rfl
      · rw [hq, Bool.true_and, decide_eq_false_iff_not] at h
        exact (subE_nil h).1
    rw [e]; exact OwnT.nil _ _)
  have hyes := Lib.hid fun (W : World) (v : Value) (hk : tkOk ks xs ms rs = true) (hz : subE (tkB ks xs ms rs) ts = 0) (hv : OwnT w.heap.size W v (subT (tkB ks xs ms rs) ts)) (hW : Below w.heap.size w W) => (show TkPost ks xs ms rs ts w (.returned (.tuple #[.agg #[v], .int .i64 0])) W from
    ⟨v, by unfold tkE; rw [hk, decide_eq_true hz]; rfl, by unfold tkT; rw [hk]; exact hv, hW⟩)
  go_enter Try.func26, Try.ntmps26
  go_wp2_with fail
  refine (kT.out _ (below_alc2 w _ _)).mono ?_
  rintro e w1 ⟨hb1, hp⟩
  have hW1 := Lib.hid (hW0.out.below hb1)
  have hsz := hb1.size
  simp at hsz
  clear hb1 kT
  obtain ⟨x0, x1, x2, x3, x4, x5, x6⟩ := hW1.out
  have y1 : w.heap.size + 1 < w1.heap.size + 1 := by omega
  cases hk : tkOk ks xs ms rs
  · rw [hk] at hp
    simp only [Bool.false_eq_true, if_false] at hp
    obtain ⟨r, rfl, g, rfl, hg, hgl⟩ := hp
    have hn := Lib.hid fun (W : World) => hno.out W (by rw [hk]; rfl)
    have hg1 := carry (below_alc w1 (.cells #[.slice none 0 0] 25)) hgl hg
    have kI := Lib.hid (is_ref g .nilIface 1200 1200 _ hg1 true rfl)
    clear hno hyes hk
    go_wp2_with fail
    refine kI.out.mono ?_
    rintro e w2 ⟨rfl, rfl⟩
    go_wp2_with fail
    exact bodyPost_ret (v := .tuple #[.agg #[.slice none 0 0], .int .i64 1200]) (by simp [results, Try.results26, go_sem, x4, x0, y1]) rfl (hn.out _ (by (repeat' (first | with_reducible exact Below.refl _ _ | with_reducible assumption | with_reducible apply Below.setCell | with_reducible apply Below.alloc | with_reducible apply Below.drew | with_reducible apply below_drewN | with_reducible exact Nat.le_refl _ | (simp; done) | (simp; omega) | omega | exact Nat.le_refl _))))
  · rw [hk] at hp
    simp only [if_true] at hp
    by_cases hz : subE (tkB ks xs ms rs) ts = 0
    · rw [if_pos hz] at hp
      obtain ⟨v, rfl, hv⟩ := hp
      have hy := Lib.hid fun (W : World) (v : Value) => hyes.out W v hk hz
      have hv' := Lib.hid hv
      obtain ⟨ya, yn, yc, hye⟩ := ownT_sl hv
      subst hye
      clear hno hyes hk hz hv
      go_wp2_with fail
      refine (is_nil 1200 _).mono ?_
      rintro e w2 ⟨rfl, rfl⟩
      go_wp2_with fail
      refine (is_nil 900 _).mono ?_
      rintro e w2 ⟨rfl, rfl⟩
      go_wp2_with fail
      exact bodyPost_ret (v := .tuple #[.agg #[.slice ya yn yc], .int .i64 0]) (by simp [results, Try.results26, go_sem, x4, x0, y1]) rfl (hy.out _ _ (by first | exact ownT_le (OwnT.below (ownT_put hv'.out (show w.heap.size + 1 < ((w.alloc _).alloc _).heap.size by simp)) (below_alc _ _)) (by simp; omega) | exact ownT_le (ownT_put (OwnT.below hv'.out (below_alc _ _)) (show w.heap.size + 1 < ((w.alloc _).alloc _).heap.size by simp)) (by simp; omega)) (by (repeat' (first | with_reducible exact Below.refl _ _ | with_reducible assumption | with_reducible apply Below.setCell | with_reducible apply Below.alloc | with_reducible apply Below.drew | with_reducible apply below_drewN | with_reducible exact Nat.le_refl _ | (simp; done) | (simp; omega) | omega | exact Nat.le_refl _))))
    · rw [if_neg hz] at hp
      obtain ⟨r, rfl, g, rfl, hg, hgl⟩ := hp
      have hn := Lib.hid fun (W : World) => hno.out W (by rw [hk, decide_eq_false hz]; rfl)
      have hg1 := carry (below_alc w1 (.cells #[.slice none 0 0] 25)) hgl hg
      have kI := Lib.hid (is_ref g .nilIface 900 1200 _ hg1 false rfl)
      have kI2 := Lib.hid (is_ref g .nilIface 900 900 _ hg1 true rfl)
      clear hno hyes hk hz
      go_wp2_with fail
      refine kI.out.mono ?_
      rintro e w2 ⟨rfl, rfl⟩
      go_wp2_with fail
      refine kI2.out.mono ?_
      rintro e w2 ⟨rfl, rfl⟩
      go_wp2_with fail
      exact bodyPost_ret (v := .tuple #[.agg #[.slice none 0 0], .int .i64 1200]) (by simp [results, Try.results26, go_sem, x4, x0, y1]) rfl (hn.out _ (by (repeat' (first | with_reducible exact Below.refl _ _ | with_reducible assumption | with_reducible apply Below.setCell | with_reducible apply Below.alloc | with_reducible apply Below.drew | with_reducible apply below_drewN | with_reducible exact Nat.le_refl _ | (simp; done) | (simp; omega) | omega | exact Nat.le_refl _))))
end Go.Proofs.Ytjhmdobmbajcgaa
