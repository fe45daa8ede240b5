/- Types that two unifications make: of one text. -/
import Derived.Test.YtfkdcconmecaoaaDoorUwP
import Derived.Test.YtfkdcconmecaoaaDoorTxA
namespace Go.Proofs.YtfkdcconmecaoaaDoor
set_option linter.unusedVariables false
set_option linter.unusedSimpArgs false

/-- both ways give types of one text. -/
theorem swap_text {f : Int} {ta tb : List Ty} {s t : US} {xs ys : List Bn} (h1 : UnRes f ta tb (.ok s)) (h2 : UnRes f tb ta (.ok t)) (hx : BnL xs s.made) (hy : BnL ys t.made) (e1 : subE xs ta = 0) (e2 : subE ys ta = 0) : txV (subT xs ta) = txV (subT ys ta) := by
  have u1 := unRes_ok h1
  have u2 := unRes_ok h2
  obtain ⟨v1, q1⟩ := us_may hx u1.inv e1
  obtain ⟨v2, q2⟩ := us_may hy u2.inv e2
  have o1 := us_ok hx u1.inv e1
  have o2 := us_ok hy u2.inv e2
  have b := both_iff o1 o2
  have i1 := swap_two h1 h2
  have i2 : instT (underU t (treeOf ta)) (underU s (treeOf ta)) = true := by
    rcases swap_one h1 h2 with h | ⟨t', h, ht⟩
    · cases h
    · injection h with h; subst h; exact ht
  rw [i1, i2] at b
  have b := of_decide_eq_true b.symm
  unfold txV
  rw [v1, v2, q1, q2, b]
end Go.Proofs.YtfkdcconmecaoaaDoor
