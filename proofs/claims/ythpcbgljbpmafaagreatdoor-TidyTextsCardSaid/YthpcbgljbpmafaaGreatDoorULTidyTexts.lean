/- TidyTexts holds for every number. No condition but that the listed package variable holds what the program's text lays. -/
import Derived.Test.YthpcbgljbpmafaaGreatDoorU47
import Derived.Test.YthpcbgljbpmafaaGreatDoorU13
import Derived.Test.YthpcbgljbpmafaaGreatDoorU36
import Derived.Test.YthpcbgljbpmafaaGreatDoorU17
import Derived.Test.YthpcbgljbpmafaaGreatDoorU37
import Derived.Test.YthpcbgljbpmafaaGreatDoorCards
import Derived.Test.YthpcbgljbpmafaaGreatDoorTie
import Derived.WalkKit
import Derived.ProofKit
import Derived.Deep.DeepHandedRow
namespace Go.Proofs.YthpcbgljbpmafaaGreatDoor
section
open Go.ChangeShapes Go.WideShapes Go.ChangeAt Go.RowKit
variable {H : Type} {enc : TypeId × Value → H} {P : Program} {w : World} {base : Nat} {sp : Nat → Bool} {held : Bool}
set_option linter.unusedVariables false
theorem bd_i64 {n : Int} (h : (Lit.int .i64 n).wf = true) : -9223372036854775808 ≤ n ∧ n ≤ 9223372036854775807 := by simpa [Lit.wf, IntKind.min, IntKind.max, IntKind.signed, IntKind.bits] using h
end
end Go.Proofs.YthpcbgljbpmafaaGreatDoor
namespace Go.Proofs.YthpcbgljbpmafaaGreatDoor.tidyTexts
open Go.ChangeShapes Go.WideShapes Go.ChangeAt Go.RowKit
open Go.ChangeMaps (open_string shut_string)
set_option linter.unusedVariables false
set_option linter.unusedSimpArgs false

theorem tabs {W : World} (h : laidMetH Tryz.prog Rows.tidyTextsRow.laid W) : Hid (errTy W) := Lib.hid (errTy_of h (.head _))
def loS : List (List UInt8) := [[49, 32, 43, 32, 50, 32, 42, 32, 51], [49, 32, 45, 32, 50], [49, 32, 47, 32, 48], [55, 32, 47, 32, 50], [49, 32, 60, 32, 50], [105, 102, 32, 49, 32, 61, 61, 32, 49, 32, 116, 104, 101, 110, 32, 53, 32, 101, 108, 115, 101, 32, 54], [105, 102, 32, 49, 32, 61, 61, 32, 50, 32, 116, 104, 101, 110, 32, 53, 32, 101, 108, 115, 101, 32, 54], [102, 117, 110, 32, 120, 32, 45, 62, 32, 105, 102, 32, 116, 114, 117, 101, 32, 116, 104, 101, 110, 32, 120, 32, 101, 108, 115, 101, 32, 49, 32, 47, 32, 48], [102, 117, 110, 32, 120, 32, 45, 62, 32, 105, 102, 32, 120, 32, 116, 104, 101, 110, 32, 49, 32, 43, 32, 49, 32, 101, 108, 115, 101, 32, 50, 32, 43, 32, 50], [108, 101, 116, 32, 121, 32, 61, 32, 50, 32, 43, 32, 51, 32, 105, 110, 32, 121, 32, 42, 32, 40, 52, 32, 45, 32, 49, 41], [49, 48, 55, 51, 55, 52, 49, 56, 50, 51, 32, 43, 32, 49], [105, 102, 32, 116, 114, 117, 101, 32, 116, 104, 101, 110, 32, 105, 102, 32, 102, 97, 108, 115, 101, 32, 116, 104, 101, 110, 32, 49, 32, 101, 108, 115, 101, 32, 50, 32, 101, 108, 115, 101, 32, 51], [40, 49, 32, 43, 32, 49, 41, 32, 61, 61, 32, 40, 51, 32, 45, 32, 49, 41], [50, 32, 45, 32, 49, 32, 45, 32, 49]]
def tiS : List (List UInt8) := [[55], [49, 32, 45, 32, 50], [49, 32, 47, 32, 48], [51], [116, 114, 117, 101], [53], [54], [102, 117, 110, 32, 120, 32, 45, 62, 32, 120], [102, 117, 110, 32, 120, 32, 45, 62, 32, 105, 102, 32, 120, 32, 116, 104, 101, 110, 32, 50, 32, 101, 108, 115, 101, 32, 52], [108, 101, 116, 32, 121, 32, 61, 32, 53, 32, 105, 110, 32, 121, 32, 42, 32, 51], [49, 48, 55, 51, 55, 52, 49, 56, 50, 51, 32, 43, 32, 49], [50], [116, 114, 117, 101], [48]]
def rdC (s : List UInt8) : Option (List Nd) := match parseV (bs s) with
  | .ok a => (match resVC a.1 a.2 with
    | .ok ss => some ss
    | .error _ => none)
  | .error _ => none
def chk (m : Nat) : Bool := match rdC (loS.getD m []), rdC (tiS.getD m []) with
  | some p, some q => rowE (td p (p.length - 1) []) q
  | _, _ => false
theorem chk_all : ∀ m < 14, chk m = true := by decide +kernel
theorem len_all : ∀ m < 14, (loS.getD m []).length ≤ 100 ∧ (tiS.getD m []).length ≤ 100 := by decide
theorem rdC_ok {s : List UInt8} {ss : List Nd} (h : rdC s = some ss) : ∃ os ns, parseV (bs s) = .ok (os, ns) ∧ resV os ns = .ok ss := by
  unfold rdC at h
  split at h
  · rename_i a ha
    split at h
    · rename_i st hs
      injection h with h
      subst h
      exact ⟨a.1, a.2, ha, by rw [resV_c]; exact hs⟩
    · cases h
  · cases h
theorem facts (m : Nat) (hm : m < 14) : ∃ os ns ss os' ns' ss', parseV (bs (loS.getD m [])) = .ok (os, ns) ∧ resV os ns = .ok ss ∧ parseV (bs (tiS.getD m [])) = .ok (os', ns') ∧ resV os' ns' = .ok ss' ∧ sameV ndS (td ss (ss.length - 1) []) ss' = true := by
  have h := chk_all m hm
  unfold chk at h
  split at h
  · rename_i p q hp hq
    obtain ⟨os, ns, h1, h2⟩ := rdC_ok hp
    obtain ⟨os', ns', h3, h4⟩ := rdC_ok hq
    exact ⟨os, ns, p, os', ns', q, h1, h2, h3, h4, sameS_l h⟩
  · cases h
set_option maxRecDepth 100000 in
set_option maxHeartbeats 8000000 in
theorem walk (a0 : Int) (w : World) (b0 : -9223372036854775808 ≤ a0 ∧ a0 ≤ 9223372036854775807) (hg : Hid (errTy w)) :
    Calls Tryz.prog 4 #[.int .i64 a0] w fun e w' => e = .returned (.bool true) ∧ Below w.heap.size w w' := by
  obtain ⟨mi, hm0, hm1, he⟩ := umod_int a0 14 (by omega) (by omega)
  obtain ⟨m, rfl⟩ := Int.eq_ofNat_of_zero_le hm0
  have hm : m < 14 := by omega
  obtain ⟨os, ns, ss, os', ns', ss', hp, hr, hp2, hr2, hsame⟩ := facts m hm
  have hsz : (bs (loS.getD m [])).size ≤ 100 := by simpa [bs, ByteArray.size] using (len_all m hm).1
  have hsz2 : (bs (tiS.getD m [])).size ≤ 100 := by simpa [bs, ByteArray.size] using (len_all m hm).2
  obtain ⟨x, hx⟩ : ∃ x, bs (loS.getD m []) = x := ⟨_, rfl⟩
  obtain ⟨y, hy⟩ : ∃ y, bs (tiS.getD m []) = y := ⟨_, rfl⟩
  rw [hx] at hsz hp
  rw [hy] at hsz2 hp2
  have hx' := Lib.hid hx; have hy' := Lib.hid hy
  clear hx hy
  obtain ⟨-, hm1', -⟩ := shape_ok hr
  obtain ⟨-, hm2', -⟩ := shape_ok hr2
  have hs1 := smay_len hm1'
  have hs2 := smay_len hm2'
  obtain ⟨hl1, hl2⟩ := hs1
  obtain ⟨hl3, hl4⟩ := hs2
  have kA := Lib.hid (awake25_any w hg)
  have kP := Lib.hid fun (W : World) => rread_any x os ns ss W (by omega) (Lib.hid hp) (Lib.hid hr)
  have kQ := Lib.hid fun (W : World) => rread_any y os' ns' ss' W (by omega) (Lib.hid hp2) (Lib.hid hr2)
  have hoz := (parse_k hp).oz
  have kT := Lib.hid fun (W : World) (hb : Below w.heap.size w W) (a a2 : Option Addr) (c c2 : Nat) (h1 : OArg W a os.length os) (h2 : NArg W a2 ss.length ss) => (tidy_any a a2 os.length c ss.length c2 os ss W (Lib.hid h1) (Lib.hid hoz) (by omega) (Lib.hid h2) (Lib.hid (smay_sz hm1')) (by omega) (Lib.hid (errTy_below hg.out hb))).mono fun e w' h => td_ok h hm1'
  have hTl : (td ss (ss.length - 1) []).length ≤ 600 := by
    have hT := tre_may hm1'
    have := td_le hT (ss.length - 1) (by have := hT.len.1; omega) []
    have := hT.len.1
    simp only [List.length_nil] at *
    omega
  generalize td ss (ss.length - 1) [] = q at kT hsame hTl
  have hsame := Lib.hid hsame
  have hoz := Lib.hid hoz
  clear hp hr hp2 hr2 hm1' hm2'
  go_enter Tryz.func4, Tryz.ntmps4
  go_wp2_with fail
  refine kA.out.mono ?_
  rintro e w1 ⟨rfl, hb1⟩
  have hB1 := Lib.hid hb1
  clear kA hb1
  have hc : (w1.alloc (.cells #[.string ⟨#[49, 32, 43, 32, 50, 32, 42, 32, 51]⟩, .string ⟨#[49, 32, 45, 32, 50]⟩, .string ⟨#[49, 32, 47, 32, 48]⟩, .string ⟨#[55, 32, 47, 32, 50]⟩, .string ⟨#[49, 32, 60, 32, 50]⟩, .string ⟨#[105, 102, 32, 49, 32, 61, 61, 32, 49, 32, 116, 104, 101, 110, 32, 53, 32, 101, 108, 115, 101, 32, 54]⟩, .string ⟨#[105, 102, 32, 49, 32, 61, 61, 32, 50, 32, 116, 104, 101, 110, 32, 53, 32, 101, 108, 115, 101, 32, 54]⟩, .string ⟨#[102, 117, 110, 32, 120, 32, 45, 62, 32, 105, 102, 32, 116, 114, 117, 101, 32, 116, 104, 101, 110, 32, 120, 32, 101, 108, 115, 101, 32, 49, 32, 47, 32, 48]⟩, .string ⟨#[102, 117, 110, 32, 120, 32, 45, 62, 32, 105, 102, 32, 120, 32, 116, 104, 101, 110, 32, 49, 32, 43, 32, 49, 32, 101, 108, 115, 101, 32, 50, 32, 43, 32, 50]⟩, .string ⟨#[108, 101, 116, 32, 121, 32, 61, 32, 50, 32, 43, 32, 51, 32, 105, 110, 32, 121, 32, 42, 32, 40, 52, 32, 45, 32, 49, 41]⟩, .string ⟨#[49, 48, 55, 51, 55, 52, 49, 56, 50, 51, 32, 43, 32, 49]⟩, .string ⟨#[105, 102, 32, 116, 114, 117, 101, 32, 116, 104, 101, 110, 32, 105, 102, 32, 102, 97, 108, 115, 101, 32, 116, 104, 101, 110, 32, 49, 32, 101, 108, 115, 101, 32, 50, 32, 101, 108, 115, 101, 32, 51]⟩, .string ⟨#[40, 49, 32, 43, 32, 49, 41, 32, 61, 61, 32, 40, 51, 32, 45, 32, 49, 41]⟩, .string ⟨#[50, 32, 45, 32, 49, 32, 45, 32, 49]⟩] 9)).cell? ⟨w1.heap.size, m, none⟩ = some (.string x) := by
    rw [World.cell?_alloc_at _ _ _ _ (by rfl), ← hx'.out]
    have hcs : m = 0 ∨ m = 1 ∨ m = 2 ∨ m = 3 ∨ m = 4 ∨ m = 5 ∨ m = 6 ∨ m = 7 ∨ m = 8 ∨ m = 9 ∨ m = 10 ∨ m = 11 ∨ m = 12 ∨ m = 13 := (by omega); rcases hcs with rfl | rfl | rfl | rfl | rfl | rfl | rfl | rfl | rfl | rfl | rfl | rfl | rfl | rfl <;> rfl
  obtain ⟨W1, hW1⟩ : ∃ W, w1.alloc (.cells #[.string ⟨#[49, 32, 43, 32, 50, 32, 42, 32, 51]⟩, .string ⟨#[49, 32, 45, 32, 50]⟩, .string ⟨#[49, 32, 47, 32, 48]⟩, .string ⟨#[55, 32, 47, 32, 50]⟩, .string ⟨#[49, 32, 60, 32, 50]⟩, .string ⟨#[105, 102, 32, 49, 32, 61, 61, 32, 49, 32, 116, 104, 101, 110, 32, 53, 32, 101, 108, 115, 101, 32, 54]⟩, .string ⟨#[105, 102, 32, 49, 32, 61, 61, 32, 50, 32, 116, 104, 101, 110, 32, 53, 32, 101, 108, 115, 101, 32, 54]⟩, .string ⟨#[102, 117, 110, 32, 120, 32, 45, 62, 32, 105, 102, 32, 116, 114, 117, 101, 32, 116, 104, 101, 110, 32, 120, 32, 101, 108, 115, 101, 32, 49, 32, 47, 32, 48]⟩, .string ⟨#[102, 117, 110, 32, 120, 32, 45, 62, 32, 105, 102, 32, 120, 32, 116, 104, 101, 110, 32, 49, 32, 43, 32, 49, 32, 101, 108, 115, 101, 32, 50, 32, 43, 32, 50]⟩, .string ⟨#[108, 101, 116, 32, 121, 32, 61, 32, 50, 32, 43, 32, 51, 32, 105, 110, 32, 121, 32, 42, 32, 40, 52, 32, 45, 32, 49, 41]⟩, .string ⟨#[49, 48, 55, 51, 55, 52, 49, 56, 50, 51, 32, 43, 32, 49]⟩, .string ⟨#[105, 102, 32, 116, 114, 117, 101, 32, 116, 104, 101, 110, 32, 105, 102, 32, 102, 97, 108, 115, 101, 32, 116, 104, 101, 110, 32, 49, 32, 101, 108, 115, 101, 32, 50, 32, 101, 108, 115, 101, 32, 51]⟩, .string ⟨#[40, 49, 32, 43, 32, 49, 41, 32, 61, 61, 32, 40, 51, 32, 45, 32, 49, 41]⟩, .string ⟨#[50, 32, 45, 32, 49, 32, 45, 32, 49]⟩] 9) = W := ⟨_, rfl⟩
  have hd : (W1.alloc (.cells #[.string ⟨#[55]⟩, .string ⟨#[49, 32, 45, 32, 50]⟩, .string ⟨#[49, 32, 47, 32, 48]⟩, .string ⟨#[51]⟩, .string ⟨#[116, 114, 117, 101]⟩, .string ⟨#[53]⟩, .string ⟨#[54]⟩, .string ⟨#[102, 117, 110, 32, 120, 32, 45, 62, 32, 120]⟩, .string ⟨#[102, 117, 110, 32, 120, 32, 45, 62, 32, 105, 102, 32, 120, 32, 116, 104, 101, 110, 32, 50, 32, 101, 108, 115, 101, 32, 52]⟩, .string ⟨#[108, 101, 116, 32, 121, 32, 61, 32, 53, 32, 105, 110, 32, 121, 32, 42, 32, 51]⟩, .string ⟨#[49, 48, 55, 51, 55, 52, 49, 56, 50, 51, 32, 43, 32, 49]⟩, .string ⟨#[50]⟩, .string ⟨#[116, 114, 117, 101]⟩, .string ⟨#[48]⟩] 9)).cell? ⟨W1.heap.size, m, none⟩ = some (.string y) := by
    rw [World.cell?_alloc_at _ _ _ _ (by rfl), ← hy'.out]
    have hcs : m = 0 ∨ m = 1 ∨ m = 2 ∨ m = 3 ∨ m = 4 ∨ m = 5 ∨ m = 6 ∨ m = 7 ∨ m = 8 ∨ m = 9 ∨ m = 10 ∨ m = 11 ∨ m = 12 ∨ m = 13 := (by omega); rcases hcs with rfl | rfl | rfl | rfl | rfl | rfl | rfl | rfl | rfl | rfl | rfl | rfl | rfl | rfl <;> rfl
  rw [hW1] at hc
  have hWb : Below w1.heap.size w1 W1 := by rw [← hW1]; exact below_alc _ _
  have hWs : W1.heap.size = w1.heap.size + 1 := by rw [← hW1]; simp
  go_upto_region 4 with fail
  try rw [hW1]
  go_upto_region 5 with fail
  obtain ⟨W2, hW2⟩ : ∃ W, W1.alloc (.cells #[.string ⟨#[55]⟩, .string ⟨#[49, 32, 45, 32, 50]⟩, .string ⟨#[49, 32, 47, 32, 48]⟩, .string ⟨#[51]⟩, .string ⟨#[116, 114, 117, 101]⟩, .string ⟨#[53]⟩, .string ⟨#[54]⟩, .string ⟨#[102, 117, 110, 32, 120, 32, 45, 62, 32, 120]⟩, .string ⟨#[102, 117, 110, 32, 120, 32, 45, 62, 32, 105, 102, 32, 120, 32, 116, 104, 101, 110, 32, 50, 32, 101, 108, 115, 101, 32, 52]⟩, .string ⟨#[108, 101, 116, 32, 121, 32, 61, 32, 53, 32, 105, 110, 32, 121, 32, 42, 32, 51]⟩, .string ⟨#[49, 48, 55, 51, 55, 52, 49, 56, 50, 51, 32, 43, 32, 49]⟩, .string ⟨#[50]⟩, .string ⟨#[116, 114, 117, 101]⟩, .string ⟨#[48]⟩] 9) = W := ⟨_, rfl⟩
  rw [hW2] at hd ⊢
  have hb2 : Below W1.heap.size W1 W2 := by rw [← hW2]; exact below_alc _ _
  have hl2' : W1.heap.size < W2.heap.size := by rw [← hW2]; simp
  have hc := carry hb2 (by omega) hc
  clear hW1 hW2
  have hB2 := Lib.hid (belT hB1.out (belT hWb hb2))
  rw [hWs] at hd
  have hl2w : w1.heap.size + 1 < W2.heap.size := by omega
  clear hWb hb2 hWs hB1 hl2'
  have hmi : (m : Int) < 14 := by omega
  go_wp2_with fail
  refine (kP.out W2).mono ?_
  rintro e w3 ⟨ao, co, N, cn, rfl, hb3, hO3, -, hN3⟩
  have hd := carry hb3 hl2w hd
  have hB3 := Lib.hid (belT hB2.out hb3)
  have hl3 : w1.heap.size + 1 < w3.heap.size := Nat.lt_of_lt_of_le hl2w hb3.size
  have hO3 := Lib.hid hO3
  have hN3 := Lib.hid hN3
  clear hb3 hc kP
  go_wp2_with fail
  refine (kQ.out _).mono ?_
  rintro e w4 ⟨ao4, co4, N4, cn4, rfl, hb4, -, -, hN4⟩
  have q0 : w4.cell? ⟨w3.heap.size, 0, none⟩ = some (.slice ao os.length co) := carry hb4 (by simp) (by simp [go_sem])
  have q1 : w4.cell? ⟨w3.heap.size, 1, none⟩ = some (.slice (some ⟨N, 0, none⟩) ss.length cn) := carry hb4 (by simp) (by simp [go_sem])
  have hb4' := belT (show Below w3.heap.size w3 _ from by (repeat' (first | with_reducible exact Below.refl _ _ | with_reducible assumption | with_reducible apply Below.setCell | with_reducible apply Below.alloc | with_reducible apply Below.drew | with_reducible apply below_drewN | with_reducible exact Nat.le_refl _ | (simp; done) | (simp; omega) | omega | exact Nat.le_refl _))) hb4
  have hO3 := Lib.hid (hO3.out.below hb4')
  have hN3 := Lib.hid (hN3.out.below hb4')
  have hN4 := Lib.hid hN4
  have hB4 := Lib.hid (belT hB3.out hb4')
  have hl4 : w3.heap.size < w4.heap.size := Nat.lt_of_lt_of_le (by simp) hb4.size
  clear hb4 kQ hd hb4' hB3
  go_wp2_with fail
  refine (kT.out _ (belT hB4.out (below_alc _ _)) ao _ co cn (hO3.out.below (below_alc _ _)) (hN3.out.below (below_alc _ _))).mono ?_
  rintro e w5 ⟨a5, c5, a6, c6, rfl, hb5, -, hq5⟩
  have p1 : w5.cell? ⟨w4.heap.size, 1, none⟩ = some (.slice (some ⟨N4, 0, none⟩) ss'.length cn4) := carry hb5 (by simp) (by simp [go_sem])
  have hb5' := belT (show Below w4.heap.size w4 _ from by (repeat' (first | with_reducible exact Below.refl _ _ | with_reducible assumption | with_reducible apply Below.setCell | with_reducible apply Below.alloc | with_reducible apply Below.drew | with_reducible apply below_drewN | with_reducible exact Nat.le_refl _ | (simp; done) | (simp; omega) | omega | exact Nat.le_refl _))) hb5
  have hN5 := Lib.hid (hN4.out.below hb5')
  have hQ5 := Lib.hid hq5.arg
  have hB5 := Lib.hid (belT hB4.out hb5')
  have hl5 : w4.heap.size < w5.heap.size := Nat.lt_of_lt_of_le (by simp) hb5.size
  have kS := Lib.hid fun (W : World) (hb : Below w5.heap.size w5 W) => rSame_any a6 (some ⟨N4, 0, none⟩) q.length ss'.length c6 cn4 q ss' W (Lib.hid (hQ5.out.below hb)) (Lib.hid (hN5.out.below hb)) (by omega)
  simp only [hsame.out] at kS
  clear hb5 hb5' kT hO3 hN3 q0 q1 hB4 hq5
  go_wp2_with ((go_at_call 11; refine (num_any _ _ (by omega) (by omega)).mono ?_; rintro e w' ⟨rfl, rfl⟩))
  refine (kS.out _ (by (repeat' (first | with_reducible exact Below.refl _ _ | with_reducible assumption | with_reducible apply Below.setCell | with_reducible apply Below.alloc | with_reducible apply Below.drew | with_reducible apply below_drewN | with_reducible exact Nat.le_refl _ | (simp; done) | (simp; omega) | omega | exact Nat.le_refl _)))).mono ?_
  rintro e w6 ⟨rfl, hb6⟩
  have hb6' := belT (show Below w5.heap.size w5 _ from by (repeat' (first | with_reducible exact Below.refl _ _ | with_reducible assumption | with_reducible apply Below.setCell | with_reducible apply Below.alloc | with_reducible apply Below.drew | with_reducible apply below_drewN | with_reducible exact Nat.le_refl _ | (simp; done) | (simp; omega) | omega | exact Nat.le_refl _))) hb6
  have hB6 := Lib.hid (belT hB5.out hb6')
  clear hb6 hb6' kS p1
  go_wp2_with fail
  go_ret
  exact ⟨rfl, hB6.out⟩
theorem own : ownKnob Tryz.prog.godebug = none := by kernel_rfl
theorem laidOut : laidOutB Tryz.prog = true := by kernel_rfl
set_option maxRecDepth 100000 in
theorem contract (H : Type) (enc : TypeId × Value → H) (W : World) (base : Nat) (args : Array Value) (ds gs : List (DataW H)) (before : List MemPlace)
    (hval0 : ∀ (j : Nat) t v, Tryz.f4.params[j]? = some t → args[j]? = some v → Value.okWide Tryz.prog W .any base t v)
    (hW : DataW.Whole enc Tryz.prog Tryz.f4.params.toList Rows.tidyTextsSpec.vars false W args.toList ds gs before)
    (hsz0 : (DataW.weightsEach Tryz.prog (Tryz.f4.params.toList ++ Rows.tidyTextsSpec.plain.varTypes Tryz.prog) (ds ++ gs)).all (· ≤ reachBytes) = true)
    (hL : laidMetH Tryz.prog Rows.tidyTextsRow.laid W)
    : Calls Tryz.prog 4 args W fun e W' => ∃ v, e = .returned v ∧ Rows.tidyTextsSpec.post enc Tryz.prog Tryz.f4 false true false false W args v W' := by
  have hval : ∀ (j : Nat) t v, Tryz.f4.params[j]? = some t → args[j]? = some v → Value.okWide Tryz.prog W .any base t v := hval0
  have hsz : (DataW.weightsEach Tryz.prog (Tryz.f4.params.toList ++ Rows.tidyTextsSpec.plain.varTypes Tryz.prog) (ds ++ gs)).all (· ≤ reachBytes) = true := hsz0
  have hW' := hW
  obtain ⟨p, q, hA0, hV, rfl, hfz, hnd⟩ := hW
  have hA : DataW.TrodAll enc Tryz.prog W 0 (fun _ => true) true Tryz.f4.params.toList args.toList ds p := hA0
  rw [Tryz.params4] at hA hval hsz
  obtain ⟨v0, vs0, d0, ds0, p0, q0, hargs, rfl, rfl, h0, r0⟩ := trodAll_cons hA
  obtain ⟨rfl, rfl, rfl⟩ := trodAll_nil r0
  obtain rfl : args = #[v0] := by cases args; simp_all
  obtain ⟨rfl, rfl⟩ := trodVars_none hV
  have k0 := h0
  have lt0 : ∀ x ∈ p0, x.block < W.heap.size := by obtain ⟨m, hm⟩ := k0; exact DataW.trod_lt m _ _ _ hm
  obtain ⟨a0, rfl, rfl, rfl, m0⟩ := open_int Tryz.underlying3 (hval 0 3 v0 rfl rfl) h0
  clear hA0 hval0
  refine (walk a0 W (bd_i64 m0) (tabs hL)).mono fun e W' ⟨he, bel⟩ => ?_
  subst he
  exact ⟨_, rfl, _, _, _, [], _, [], hW', trodAll_mk1 (shut_bool Tryz.underlying4 _), (trodAll_cons_mk (Below.trod laidOut (by kernel_rfl) (of_decide_eq_true (by kernel_rfl)) k0 bel lt0) trodAll_mk0), rfl, bel.frame _, fun h => by cases h⟩
theorem laid_met (os : Os) : laidMetH Tryz.prog Rows.tidyTextsRow.laid ((handleWorld os).forCall (fun _ _ => 0) ⟨#[], #[.int .i64 0], []⟩).memory := laidMetH_of_parts (laidMet_nil _ _) (by kernel_rfl)
theorem reads (os : Os) {H : Type} (enc : TypeId × Value → H) : ∃ places, DataW.whole enc Tryz.prog ((handleWorld os).forCall (fun _ _ => 0) ⟨#[], #[.int .i64 0], []⟩).memory Tryz.f4.params.toList Rows.tidyTextsSpec.vars false #[(.int .i64 0 : Value)].toList 8 = some ([.lit (.int .i64 0)], [], places) := ⟨[], by kernel_rfl⟩
set_option maxRecDepth 100000 in
theorem lifted (os : Os) (started : os.Started) (H : Type) (enc : TypeId × Value → H) (F : Stop.Interp) :
    ReturnsInHanded {} Tryz.checked os 4 .any ((OpenSpec.ofChange Rows.tidyTextsSpec).preRow enc Tryz.prog Tryz.f4 Rows.tidyTextsRow.domain false Rows.tidyTextsRow.laid) (((OpenSpec.ofChange Rows.tidyTextsSpec).at F).post enc Tryz.prog Tryz.f4 false true false false) := by
  obtain ⟨places, hx⟩ := reads os enc
  refine returnsInHanded_of_row (C := Tryz.checked) (s := (OpenSpec.ofChange Rows.tidyTextsSpec)) own started (by kernel_rfl) Tryz.func4
    (witness_row_at (enc := enc) (C := Tryz.checked) false (handleWorld os) #[.int .i64 0] rfl (by kernel_rfl) (by kernel_rfl) (by kernel_rfl)
      (OpenSpec.preRow_of_cond 8 hx (by kernel_rfl) (fun k hk => by cases hk) (by kernel_rfl) (laid_met os))) ?_
  intro W base args ds gs before hval hW _ hcnd hsz hL _ _
  exact contract H enc W base args ds gs before hval hW hsz  hL
theorem said : Rows.TidyTextsSaid :=
  OpenClaim.holds_of_cond 4 Tryz.f4 rfl rfl rfl rfl rfl rfl rfl ⟨rfl, rfl, rfl, rfl, rfl⟩ rfl rfl rfl rfl rfl (by kernel_rfl) Tryz.func4 (by kernel_rfl)
    (of_decide_eq_true (by kernel_rfl)) (by unfold Func.isWrapper; first | (rw [if_pos (by decide +kernel)]; kernel_rfl) | (rw [if_neg (by decide +kernel)]; exact ⟨rfl, rfl⟩))
    (fun os started H enc _ F => by rw [OpenClaim.pre_eq_preRow]; exact lifted os started H enc F)
theorem plain (f : FuncId) (fn : Func) (hf : Tryz.pinned.checked.prog.funcNamed "trammel/trammellaw25.TidyTexts" = some f) (hfn : Tryz.pinned.checked.prog.funcs[f]? = some fn) :
    true = Tryz.pinned.checked.prog.looks [] ∧ ∀ (j : Nat) t, fn.params[j]? = some t → Tryz.pinned.checked.prog.wantsStandIn t = false := by
  obtain rfl : f = 4 := Option.some.inj ((show Tryz.prog.funcNamed "trammel/trammellaw25.TidyTexts" = some 4 by kernel_rfl).symm.trans hf) |>.symm
  obtain rfl : fn = Tryz.f4 := (Option.some.inj (Tryz.func4.symm.trans hfn)).symm
  refine ⟨by kernel_rfl, fun j t ht => ?_⟩
  rw [Tryz.params4] at ht
  have hm := Array.mem_of_getElem? ht
  have hm2 : t ∈ ([3] : List Nat) := by simpa using hm
  simp only [List.mem_cons, List.not_mem_nil, or_false] at hm2
  subst hm2; exact (show Tryz.prog.wantsStandIn 3 = false by kernel_rfl)
theorem proved : Rows.TidyTextsCardSaid :=
  Claim7.holds_tied_plain_at .later [] _ _ _ _ said (fun _ h => by cases h) (by kernel_rfl) (fun _ h => by cases h) tidyTexts_row_tie rfl ⟨rfl, rfl⟩ (by kernel_rfl) rfl plain (by kernel_rfl)
end Go.Proofs.YthpcbgljbpmafaaGreatDoor.tidyTexts
