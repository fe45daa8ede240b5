/- What PlaceTells asks: the texts of its seven results. -/
import Derived.Test.YtilhpclnligpaaaDoorPlG
namespace Go.Proofs.YtilhpclnligpaaaDoor
open Go.RowKit
set_option linter.unusedVariables false

theorem ba_ext {a b : ByteArray} (h : a.data.toList = b.data.toList) : a = b := by
  obtain ⟨x⟩ := a; obtain ⟨y⟩ := b
  exact congrArg ByteArray.mk (Array.ext' h)
theorem ok0 (s : ByteArray) (a k n k' n' : Int) (h : mayO k n = true) (h' : mayO k' n' = true) : tellOk s 0 a k n k' n' = true := by unfold tellOk; rw [h, h']; rfl
theorem pt0 (d : Int) (h0 : 0 ≤ d) (h1 : d ≤ 1023) (mi : ByteArray) (hmi : mi ++ ⟨(Lib.itoa d).toArray⟩ = ⟨(Lib.itoa (-d)).toArray⟩) :
    tellV ⟨#[97, 98, 10, 99, 100]⟩ 0 0 ⟨#[105, 110, 116]⟩ 0 d 0 (-d) = ⟨#[105, 110, 116, 32, 61, 32]⟩ ++ ⟨(Lib.itoa d).toArray⟩ ++ ⟨#[32, 124, 32]⟩ ++ mi ++ ⟨(Lib.itoa d).toArray⟩ ∧ tellE ⟨#[97, 98, 10, 99, 100]⟩ 0 0 0 d 0 (-d) = 0 := by
  have h := tell_yes (ty := ⟨#[105, 110, 116]⟩) (ok0 ⟨#[97, 98, 10, 99, 100]⟩ 0 0 d 0 (-d) (decide_eq_true (by omega)) (decide_eq_true (by omega)))
  refine ⟨?_, h.2⟩
  rw [h.1]
  unfold tellB
  rw [if_pos rfl, show outB 0 d = ⟨(Lib.itoa d).toArray⟩ from rfl, show outB 0 (-d) = ⟨(Lib.itoa (-d)).toArray⟩ from rfl, ← hmi]
  apply ba_ext
  simp
theorem ptC (s ty want : ByteArray) (k n k' n' : Int) (h : mayO k n = true) (h' : mayO k' n' = true) (hw : ty ++ ⟨#[32, 61, 32]⟩ ++ outB k n ++ ⟨#[32, 124, 32]⟩ ++ outB k' n' = want) :
    tellV s 0 0 ty k n k' n' = want ∧ tellE s 0 0 k n k' n' = 0 := by
  have h := tell_yes (ty := ty) (ok0 s 0 k n k' n' h h')
  refine ⟨?_, h.2⟩
  rw [h.1]
  unfold tellB
  rw [if_pos rfl]; exact hw
theorem ptE (s ty pre : ByteArray) (d a : Int) (h0 : 0 ≤ d) (l c : Int) (hok : plOk s a = true) (hl : lnV s a = l) (hc : clV s a = c) (hp : (⟨(Lib.itoa l).toArray⟩ : ByteArray) ++ ⟨#[58]⟩ ++ ⟨(Lib.itoa c).toArray⟩ ++ ⟨#[58, 32, 101, 114, 114, 111, 114, 32]⟩ = pre) :
    tellV s (1 + d) a ty 0 0 0 0 = pre ++ ⟨(Lib.itoa (1 + d)).toArray⟩ ∧ tellE s (1 + d) a 0 0 0 0 = 0 := by
  have hk : tellOk s (1 + d) a 0 0 0 0 = true := by
    unfold tellOk; rw [hok, decide_eq_true (by omega : 0 ≤ 1 + d), show mayO 0 0 = true from by decide]; simp
  have h := tell_yes (ty := ty) hk
  refine ⟨?_, h.2⟩
  rw [h.1]
  unfold tellB
  rw [if_neg (by omega), hl, hc, ← hp]
theorem it3 : Lib.itoa 3 = [51] := by show Lib.decDigits 3 = _; rw [dd1 3 (by decide)]; decide
theorem pt1 : tellV ⟨#[97, 98, 10, 99, 100]⟩ 0 0 ⟨#[98, 111, 111, 108]⟩ 1 0 1 1 = ⟨#[98, 111, 111, 108, 32, 61, 32, 102, 97, 108, 115, 101, 32, 124, 32, 116, 114, 117, 101]⟩ ∧ tellE ⟨#[97, 98, 10, 99, 100]⟩ 0 0 1 0 1 1 = 0 := ptC _ _ _ _ _ _ _ (by decide) (by decide) (by decide +kernel)
theorem pt2 : tellV ⟨#[97, 98, 10, 99, 100]⟩ 0 0 ⟨#[116]⟩ 2 0 4 0 = ⟨#[116, 32, 61, 32, 102, 117, 110, 99, 116, 105, 111, 110, 32, 124, 32, 102, 117, 101, 108]⟩ ∧ tellE ⟨#[97, 98, 10, 99, 100]⟩ 0 0 2 0 4 0 = 0 := ptC _ _ _ _ _ _ _ (by decide) (by decide) (by decide +kernel)
theorem pt3 : tellV ⟨#[97, 98, 10, 99, 100]⟩ 0 0 ⟨#[]⟩ 5 0 3 1 = ⟨#[32, 61, 32, 115, 116, 117, 99, 107, 32, 124, 32, 102, 97, 117, 108, 116, 32, 49]⟩ ∧ tellE ⟨#[97, 98, 10, 99, 100]⟩ 0 0 5 0 3 1 = 0 := ptC _ _ _ _ _ _ _ (by decide) (by decide) (by
  rw [show outB 3 1 = ⟨#[102, 97, 117, 108, 116, 32]⟩ ++ ⟨#[49]⟩ from by unfold outB; rw [if_neg (by decide), if_neg (by decide), if_neg (by decide), if_pos rfl, it1]]; decide +kernel)
theorem pt4 (d : Int) (h0 : 0 ≤ d) : tellV ⟨#[97, 98, 10, 99, 100]⟩ (1 + d) 0 ⟨#[]⟩ 0 0 0 0 = ⟨#[49, 58, 49, 58, 32, 101, 114, 114, 111, 114, 32]⟩ ++ ⟨(Lib.itoa (1 + d)).toArray⟩ ∧ tellE ⟨#[97, 98, 10, 99, 100]⟩ (1 + d) 0 0 0 0 0 = 0 :=
  ptE _ _ _ d 0 h0 1 1 (by decide +kernel) (by decide +kernel) (by decide +kernel) (by rw [it1]; decide +kernel)
theorem pt5 (d : Int) (h0 : 0 ≤ d) : tellV ⟨#[97, 98, 10, 99, 100]⟩ (1 + d) 3 ⟨#[105, 110, 116]⟩ 0 0 0 0 = ⟨#[50, 58, 49, 58, 32, 101, 114, 114, 111, 114, 32]⟩ ++ ⟨(Lib.itoa (1 + d)).toArray⟩ ∧ tellE ⟨#[97, 98, 10, 99, 100]⟩ (1 + d) 3 0 0 0 0 = 0 :=
  ptE _ _ _ d 3 h0 2 1 (by decide +kernel) (by decide +kernel) (by decide +kernel) (by rw [it1, it2]; decide +kernel)
theorem pt6 (d : Int) (h0 : 0 ≤ d) : tellV ⟨#[97, 98, 10, 99, 100]⟩ (1 + d) 5 ⟨#[]⟩ 0 0 0 0 = ⟨#[50, 58, 51, 58, 32, 101, 114, 114, 111, 114, 32]⟩ ++ ⟨(Lib.itoa (1 + d)).toArray⟩ ∧ tellE ⟨#[97, 98, 10, 99, 100]⟩ (1 + d) 5 0 0 0 0 = 0 :=
  ptE _ _ _ d 5 h0 2 3 (by decide +kernel) (by decide +kernel) (by decide +kernel) (by rw [it3, it2]; decide +kernel)
theorem min_itoa (d : Int) (h0 : 0 ≤ d) : ∃ mi : ByteArray, mi ++ ⟨(Lib.itoa d).toArray⟩ = ⟨(Lib.itoa (-d)).toArray⟩ ∧ mi = if d = 0 then ⟨#[]⟩ else ⟨#[45]⟩ := by
  refine ⟨_, ?_, rfl⟩
  by_cases h : d = 0
  · rw [if_pos h, h]; apply ba_ext; simp
  · rw [if_neg h]
    have := neg_itoa (-d) (by omega)
    rwa [Int.neg_neg] at this
end Go.Proofs.YtilhpclnligpaaaDoor
