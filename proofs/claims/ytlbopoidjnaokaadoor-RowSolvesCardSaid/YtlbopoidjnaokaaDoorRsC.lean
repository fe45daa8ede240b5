/- Both rows under the binds of row.Unify, where the rows are not refused: they are one. -/
import Derived.Test.YtlbopoidjnaokaaDoorRsA
import Derived.Test.YtlbopoidjnaokaaDoorRsB
namespace Go.Proofs.YtlbopoidjnaokaaDoor
open Go.RowKit
set_option linter.unusedVariables false
def UPost (x0 x1 x2 x3 x4 : Int) (w : World) (e : Ending) (w' : World) : Prop := e = .returned (.agg #[.int .i64 x0, .int .i64 x1, .int .i64 x2, .int .i64 x3, .int .i64 x4]) ∧ ∃ nq : Nat, w' = ((w.alloc (.cells #[.int .i64 x0, .int .i64 x1, .int .i64 x2, .int .i64 x3, .int .i64 x4] 24)).alloc (.cells #[.int .i64 x0, .int .i64 x1, .int .i64 x2, .int .i64 x3, .int .i64 x4] 24)).drewN nq
theorem upost_eq {x0 x1 x2 x3 x4 y0 y1 y2 y3 y4 : Int} {w : World} {e : Ending} {w' : World} (h : UPost x0 x1 x2 x3 x4 w e w') (h0 : x0 = y0) (h1 : x1 = y1) (h2 : x2 = y2) (h3 : x3 = y3) (h4 : x4 = y4) : UPost y0 y1 y2 y3 y4 w e w' := by
  subst h0 h1 h2 h3 h4; exact h
/-- what stands between Unify and the end. -/
def UForm (w4 : World) (v : Value) (a b c d t a' b' c' d' t' : Int) (n : Nat) (ad : Option Addr) (x0 x1 x2 x3 x4 : Int) : Prop :=
  v = .slice ad n n ∧ n ≤ 2 ∧ (n = 0 → a = a' ∧ b = b' ∧ c = c' ∧ d = d' ∧ t = t') ∧
    (∀ W, Below w4.heap.size w4 W → Calls Tryd.prog 21 #[v, .agg #[.int .i64 a, .int .i64 b, .int .i64 c, .int .i64 d, .int .i64 t]] W (UPost x0 x1 x2 x3 x4 W)) ∧
    (∀ W, Below w4.heap.size w4 W → Calls Tryd.prog 21 #[v, .agg #[.int .i64 a', .int .i64 b', .int .i64 c', .int .i64 d', .int .i64 t']] W (UPost x0 x1 x2 x3 x4 W))
theorem und_forms {a b c d t a' b' c' d' t' : Int} {w4 : World} {B : Nat} {v : Value} {L : List Bd} (hr : refB a b c d t a' b' c' d' t' = false) (hm : mayR a b c d t = true) (hm' : mayR a' b' c' d' t' = true)
    (hL : (uniR a b c d t a' b' c' d' t' 4095).getD [] = L) (hbd : BdsIs B w4 v L) :
    ∃ n ad x0 x1 x2 x3 x4, UForm w4 v a b c d t a' b' c' d' t' n ad x0 x1 x2 x3 x4 := by
  have q : sm5 a b c d := by have := of_decide_eq_true hm; unfold sm5; omega
  have q' : sm5 a' b' c' d' := by have := of_decide_eq_true hm'; unfold sm5; omega
  rcases uni_forms (f := 4095) hr with ⟨h0, h1, h2, h3, h4, hu⟩ | ⟨hne, l1, l2, l3, l4, hu⟩ | ⟨hne, l1, l2, l3, l4, hu⟩ | ⟨hne, hu⟩
  · subst h0 h1 h2 h3 h4
    rw [hu] at hL
    obtain rfl : L = [] := hL.symm
    obtain ⟨ad, rfl⟩ : ∃ ad, v = .slice ad 0 0 := by
      rcases bds_nil hbd with rfl | ⟨g, rfl⟩
      · exact ⟨_, rfl⟩
      · exact ⟨_, rfl⟩
    exact ⟨0, ad, a, b, c, d, t, rfl, by omega, fun _ => ⟨rfl, rfl, rfl, rfl, rfl⟩, fun W _ => under0 _ _ _ _ _ _ _, fun W _ => under0 _ _ _ _ _ _ _⟩
  · rw [hu] at hL
    obtain rfl : L = [⟨t, a' - a, b' - b, c' - c, d' - d, t'⟩] := hL.symm
    have hq : sm5 (a' - a) (b' - b) (c' - c) (d' - d) := by unfold sm5 at *; omega
    obtain ⟨g, hg0, hg1, rfl, hbat⟩ := bds_one hbd
    refine ⟨1, _, a', b', c', d', t', rfl, by omega, fun h => by omega, fun W hW => ?_, fun W hW => ?_⟩
    · obtain ⟨g2, _, hg2, he, hbat2⟩ := bds_one (bdsIs_below hbd hW)
      obtain rfl : g = g2 := by simpa using he
      exact (under1_0 g _ a b c d t W hg2 hbat2 q hq (by simp)).mono fun e w' h => upost_eq h (by show a + (a' - a) = a'; omega) (by show b + (b' - b) = b'; omega) (by show c + (c' - c) = c'; omega) (by show d + (d' - d) = d'; omega) rfl
    · obtain ⟨g2, _, hg2, he, hbat2⟩ := bds_one (bdsIs_below hbd hW)
      obtain rfl : g = g2 := by simpa using he
      exact (under1_1 g _ a' b' c' d' t' W hg2 hbat2 q' (by simpa using hne)).mono fun e w' h => h
  · rw [hu] at hL
    obtain rfl : L = [⟨t', a - a', b - b', c - c', d - d', t⟩] := hL.symm
    have hq : sm5 (a - a') (b - b') (c - c') (d - d') := by unfold sm5 at *; omega
    obtain ⟨g, hg0, hg1, rfl, hbat⟩ := bds_one hbd
    refine ⟨1, _, a, b, c, d, t, rfl, by omega, fun h => by omega, fun W hW => ?_, fun W hW => ?_⟩
    · obtain ⟨g2, _, hg2, he, hbat2⟩ := bds_one (bdsIs_below hbd hW)
      obtain rfl : g = g2 := by simpa using he
      exact (under1_1 g _ a b c d t W hg2 hbat2 q (by simpa using Ne.symm hne)).mono fun e w' h => h
    · obtain ⟨g2, _, hg2, he, hbat2⟩ := bds_one (bdsIs_below hbd hW)
      obtain rfl : g = g2 := by simpa using he
      exact (under1_0 g _ a' b' c' d' t' W hg2 hbat2 q' hq (by simp)).mono fun e w' h => upost_eq h (by show a' + (a - a') = a; omega) (by show b' + (b - b') = b; omega) (by show c' + (c - c') = c; omega) (by show d' + (d - d') = d; omega) rfl
  · rw [hu] at hL
    obtain rfl : L = [⟨t, mxz (a' - a), mxz (b' - b), mxz (c' - c), mxz (d' - d), 4095⟩, ⟨t', mxz (a - a'), mxz (b - b'), mxz (c - c'), mxz (d - d'), 4095⟩] := hL.symm
    have hq : sm5 (mxz (a' - a)) (mxz (b' - b)) (mxz (c' - c)) (mxz (d' - d)) := by
      unfold sm5 at *
      have := mxz_bd (x := a') (y := a) (by omega) (by omega); have := mxz_bd (x := b') (y := b) (by omega) (by omega); have := mxz_bd (x := c') (y := c) (by omega) (by omega); have := mxz_bd (x := d') (y := d) (by omega) (by omega); omega
    have hq' : sm5 (mxz (a - a')) (mxz (b - b')) (mxz (c - c')) (mxz (d - d')) := by
      unfold sm5 at *
      have := mxz_bd (x := a) (y := a') (by omega) (by omega); have := mxz_bd (x := b) (y := b') (by omega) (by omega); have := mxz_bd (x := c) (y := c') (by omega) (by omega); have := mxz_bd (x := d) (y := d') (by omega) (by omega); omega
    obtain ⟨g, hg0, hg1, rfl, hb0, hb1⟩ := bds_two hbd
    refine ⟨2, _, max a a', max b b', max c c', max d d', 4095, rfl, by omega, fun h => by omega, fun W hW => ?_, fun W hW => ?_⟩
    · obtain ⟨g2, _, hg2, he, hb2, hb3⟩ := bds_two (bdsIs_below hbd hW)
      obtain rfl : g = g2 := by simpa using he
      exact (under2_0 g _ _ a b c d t W hg2 hb2 hb3 q hq (by simp)).mono fun e w' h => upost_eq h (mxz_add a a') (mxz_add b b') (mxz_add c c') (mxz_add d d') rfl
    · obtain ⟨g2, _, hg2, he, hb2, hb3⟩ := bds_two (bdsIs_below hbd hW)
      obtain rfl : g = g2 := by simpa using he
      exact (under2_1 g _ _ a' b' c' d' t' W hg2 hb2 hb3 q' hq' (by simpa using hne) (by simp)).mono fun e w' h => upost_eq h ((mxz_add a' a).trans (Int.max_comm a' a)) ((mxz_add b' b).trans (Int.max_comm b' b)) ((mxz_add c' c).trans (Int.max_comm c' c)) ((mxz_add d' d).trans (Int.max_comm d' d)) rfl
end Go.Proofs.YtlbopoidjnaokaaDoor
