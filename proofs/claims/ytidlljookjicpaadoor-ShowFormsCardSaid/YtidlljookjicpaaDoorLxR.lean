/- Contracts of the reference of layer 2: Valid, letters, Keyword, sign, number. -/
import Derived.Test.YtidlljookjicpaaDoorLxK
import Derived.Laws.DeepStrings4
namespace Go.Proofs.YtidlljookjicpaaDoor
open Go.RowKit
set_option linter.unusedVariables false
set_option linter.unusedSimpArgs false

def letB : List UInt8 → Bool
  | [] => false
  | c :: t => isL c && t.all isN
theorem letB_cons (c : UInt8) (t : List UInt8) : letB (c :: t) = (isL c && t.all isN) := rfl
def wds : List UInt8 := [32, 102, 117, 110, 32, 108, 101, 116, 32, 114, 101, 99, 32, 105, 110, 32, 105, 102, 32, 116, 104, 101, 110, 32, 101, 108, 115, 101, 32, 104, 97, 110, 100, 108, 101, 32, 119, 105, 116, 104, 32, 114, 101, 116, 117, 114, 110, 32, 101, 110, 100, 32, 100, 111, 32, 111, 112, 32, 116, 114, 117, 101, 32, 102, 97, 108, 115, 101, 32, 105, 110, 116, 32, 98, 111, 111, 108, 32]
theorem wds_in : ∀ i < 78, ∀ n < 78, i + n + 2 ≤ 78 → (wds.drop i).take (n + 2) = 32 :: ((wds.drop (i + 1)).take n ++ [32]) → letB ((wds.drop (i + 1)).take n) = true → kwB ((wds.drop (i + 1)).take n) = true := by decide +kernel
theorem wds_has : ∀ k ∈ kwL, letB k = true ∧ ∃ i < 78, i + k.length + 2 ≤ 78 ∧ (wds.drop i).take (k.length + 2) = 32 :: (k ++ [32]) := by decide +kernel
theorem kw_let {l : List UInt8} (h : kwB l = true) : letB l = true ∧ ∃ i < 78, i + l.length + 2 ≤ 78 ∧ (wds.drop i).take (l.length + 2) = 32 :: (l ++ [32]) := wds_has l (by unfold kwB at h; exact List.contains_iff_mem.1 h)
theorem kw_hit {l : List UInt8} {i : Nat} (hl : letB l = true) (hi : i + l.length + 2 ≤ 78) (h : (wds.drop i).take (l.length + 2) = 32 :: (l ++ [32])) : kwB l = true := by
  have e : (wds.drop (i + 1)).take l.length = l := by
    have h1 : (wds.drop i).drop 1 = wds.drop (i + 1) := by rw [List.drop_drop]
    have h2 := congrArg (fun x => (x.drop 1).take l.length) h
    simp only [List.drop_succ_cons, List.drop_zero] at h2
    rw [List.take_left'  rfl] at h2
    rw [List.drop_take, h1, List.take_take] at h2
    rw [show min l.length (l.length + 2 - 1) = l.length by omega] at h2
    exact h2
  have := wds_in i (by omega) l.length (by omega) hi (by rw [e]; exact h) (by rw [e]; exact hl)
  rw [e] at this; exact this

theorem wd_list (s : ByteArray) : ((⟨#[32]⟩ : ByteArray) ++ s ++ ⟨#[32]⟩).data.toList = 32 :: (s.data.toList ++ [32]) := by
  simp
def sgB (c : UInt8) : Bool := signL.contains c
theorem sg_dec (c : UInt8) : sgB c = decide ((c.toNat : Int) = 40 ∨ (c.toNat : Int) = 41 ∨ (c.toNat : Int) = 61 ∨ (c.toNat : Int) = 43 ∨ (c.toNat : Int) = 45 ∨ (c.toNat : Int) = 42 ∨ (c.toNat : Int) = 47 ∨ (c.toNat : Int) = 60 ∨ (c.toNat : Int) = 59 ∨ (c.toNat : Int) = 58) := by
  unfold sgB; rw [sg_eq, Bool.eq_iff_iff]; simp
end Go.Proofs.YtidlljookjicpaaDoor
