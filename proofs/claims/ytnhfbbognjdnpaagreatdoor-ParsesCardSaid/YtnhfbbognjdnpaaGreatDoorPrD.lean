/- Layer 4's awake. -/
import Derived.Test.YtnhfbbognjdnpaaGreatDoorPrB
import Derived.Test.YtnhfbbognjdnpaaGreatDoorNdCo
import Derived.Test.YtnhfbbognjdnpaaGreatDoorPrg
namespace Go.Proofs.YtnhfbbognjdnpaaGreatDoor
open Go.RowKit
set_option linter.unusedVariables false
set_option linter.unusedSimpArgs false

def aw4O : List Or := [⟨⟨#[97]⟩, 0, 1⟩]
def aw4N : List Nd := [⟨0, 0, 0, 0, 0, ⟨#[120]⟩, ⟨#[]⟩, ⟨#[]⟩, ⟨#[]⟩, 29⟩, ⟨1, 0, 0, 0, 2, ⟨#[]⟩, ⟨#[]⟩, ⟨#[]⟩, ⟨#[]⟩, 33⟩, ⟨0, 0, 0, 0, 0, ⟨#[121]⟩, ⟨#[]⟩, ⟨#[]⟩, ⟨#[]⟩, 37⟩, ⟨8, 1, 2, 0, 2, ⟨#[]⟩, ⟨#[]⟩, ⟨#[]⟩, ⟨#[]⟩, 35⟩, ⟨8, 0, 3, 0, 0, ⟨#[]⟩, ⟨#[]⟩, ⟨#[]⟩, ⟨#[]⟩, 31⟩, ⟨3, 4, 0, 0, 0, ⟨#[]⟩, ⟨#[120]⟩, ⟨#[]⟩, ⟨#[]⟩, 20⟩]
theorem oarg_alloc (W : World) (arr : Array Value) (ts : List Or) (h : arr.toList = orL ts) (n : Nat) (hn : n = ts.length) : OArg (W.alloc (.cells arr 57)) (some ⟨W.heap.size, 0, none⟩) n ts := by
  refine ⟨hn, .inr ⟨W.heap.size, 0, rfl, orSl_of fun j u hj => ?_, by simp⟩⟩
  rw [Nat.zero_add, World.cell?_alloc_at _ _ _ _ rfl, ← hj, ← h, Array.getElem?_toList]
theorem pv1 : parseV ⟨#[111, 112, 32, 97, 32, 58, 32, 105, 110, 116, 32, 45, 62, 32, 98, 111, 111, 108, 59, 32, 102, 117, 110, 32, 120, 32, 45, 62, 32, 120, 32, 43, 32, 50, 32, 42, 32, 121]⟩ = .ok (aw4O, aw4N) := by kernel_rfl
theorem pv2 : parseV ⟨#[102, 117, 110, 32, 120, 32, 45, 62]⟩ = .error (403, 8) := by kernel_rfl
theorem pv3 : parseV ⟨#[120, 32, 36]⟩ = .error (400, 2) := by kernel_rfl
theorem pv4 : parseV ⟨#[40, 120]⟩ = .error (403, 2) := by kernel_rfl
set_option maxRecDepth 100000 in
set_option maxHeartbeats 8000000 in
theorem awake4_any (w : World) (hg : Hid (errTy w)) : Calls Tryz.prog 9 #[] w fun e w' => e = .returned (.bool true) ∧ Below w.heap.size w w' := by
  go_enter Tryz.func9, Tryz.ntmps9
  go_wp2_with fail
  refine (Parse_any ⟨#[111, 112, 32, 97, 32, 58, 32, 105, 110, 116, 32, 45, 62, 32, 98, 111, 111, 108, 59, 32, 102, 117, 110, 32, 120, 32, 45, 62, 32, 120, 32, 43, 32, 50, 32, 42, 32, 121]⟩ w (by decide) hg).mono ?_
  intro e w1 hpost
  obtain ⟨a, c, a2, c2, rfl, hb, ho, hn⟩ := prp_ok hpost pv1
  have hO := Lib.hid (show OArg w1 a 1 aw4O from ho.arg)
  have hN := Lib.hid (show NArg w1 a2 6 aw4N from hn.arg)
  have hB := Lib.hid hb
  clear hpost ho hn hb
  simp only [show aw4O.length = 1 from rfl, show aw4N.length = 6 from rfl]
  go_wp2_with fail
  obtain ⟨w2, hw2⟩ : ∃ W, w1.alloc (.cells #[.slice a 1 c, .slice a2 6 c2] 25) = W := ⟨_, rfl⟩
  have hb2 : Below w1.heap.size w1 w2 := by rw [← hw2]; exact below_alc _ _
  have p0 : w2.cell? ⟨w1.heap.size, 0, none⟩ = some (.slice a 1 c) := by rw [← hw2, World.cell?_alloc_at _ _ _ _ rfl]; rfl
  have p1 : w2.cell? ⟨w1.heap.size, 1, none⟩ = some (.slice a2 6 c2) := by rw [← hw2, World.cell?_alloc_at _ _ _ _ rfl]; rfl
  have hl2 : w1.heap.size < w2.heap.size := by rw [← hw2]; simp
  rw [hw2]
  clear hw2
  have hB2 := Lib.hid (belT hB.out hb2)
  have hO2 := Lib.hid (hO.out.below hb2)
  have hN2 := Lib.hid (hN.out.below hb2)
  clear hb2 hO hN hB
  refine (Parse_any ⟨#[102, 117, 110, 32, 120, 32, 45, 62]⟩ w2 (by decide) (Lib.hid (errTy_below hg.out hB2.out))).mono ?_
  intro e w3 hpost
  obtain ⟨rfl, hb⟩ := prp_no hpost pv2
  have p0 := carry hb hl2 p0
  have p1 := carry hb hl2 p1
  have hl3 : w1.heap.size < w3.heap.size := Nat.lt_of_lt_of_le hl2 hb.size
  have hB3 := Lib.hid (belT hB2.out hb)
  have hO3 := Lib.hid (hO2.out.below hb)
  have hN3 := Lib.hid (hN2.out.below hb)
  clear hpost hb hO2 hN2 hB2 hl2
  go_wp2_with fail
  obtain ⟨w4, hw⟩ : ∃ W, w3.alloc (.cells #[.slice none 0 0, .slice none 0 0] 25) = W := ⟨_, rfl⟩
  have hb : Below w3.heap.size w3 w4 := by rw [← hw]; exact below_alc _ _
  rw [hw]
  clear hw
  have p0 := carry hb hl3 p0
  have p1 := carry hb hl3 p1
  have hl4 : w1.heap.size < w4.heap.size := Nat.lt_of_lt_of_le hl3 hb.size
  have hB4 := Lib.hid (belT hB3.out hb)
  have hO4 := Lib.hid (hO3.out.below hb)
  have hN4 := Lib.hid (hN3.out.below hb)
  clear hb hO3 hN3 hB3 hl3
  refine (Parse_any ⟨#[120, 32, 36]⟩ w4 (by decide) (Lib.hid (errTy_below hg.out hB4.out))).mono ?_
  intro e w5 hpost
  obtain ⟨rfl, hb⟩ := prp_no hpost pv3
  have p0 := carry hb hl4 p0
  have p1 := carry hb hl4 p1
  have hl5 : w1.heap.size < w5.heap.size := Nat.lt_of_lt_of_le hl4 hb.size
  have hB5 := Lib.hid (belT hB4.out hb)
  have hO5 := Lib.hid (hO4.out.below hb)
  have hN5 := Lib.hid (hN4.out.below hb)
  clear hpost hb hO4 hN4 hB4 hl4
  go_wp2_with fail
  obtain ⟨w6, hw⟩ : ∃ W, w5.alloc (.cells #[.slice none 0 0, .slice none 0 0] 25) = W := ⟨_, rfl⟩
  have hb : Below w5.heap.size w5 w6 := by rw [← hw]; exact below_alc _ _
  rw [hw]
  clear hw
  have p0 := carry hb hl5 p0
  have p1 := carry hb hl5 p1
  have hl6 : w1.heap.size < w6.heap.size := Nat.lt_of_lt_of_le hl5 hb.size
  have hB6 := Lib.hid (belT hB5.out hb)
  have hO6 := Lib.hid (hO5.out.below hb)
  have hN6 := Lib.hid (hN5.out.below hb)
  clear hb hO5 hN5 hB5 hl5
  refine (Parse_any ⟨#[40, 120]⟩ w6 (by decide) (Lib.hid (errTy_below hg.out hB6.out))).mono ?_
  intro e w7 hpost
  obtain ⟨rfl, hb⟩ := prp_no hpost pv4
  have p0 := carry hb hl6 p0
  have p1 := carry hb hl6 p1
  have hl7 : w1.heap.size < w7.heap.size := Nat.lt_of_lt_of_le hl6 hb.size
  have hB7 := Lib.hid (belT hB6.out hb)
  have hO7 := Lib.hid (hO6.out.below hb)
  have hN7 := Lib.hid (hN6.out.below hb)
  clear hpost hb hO6 hN6 hB6 hl6
  go_upto_region 5 with fail
  obtain ⟨w8, hw⟩ : ∃ W, w7.alloc (.cells #[.slice none 0 0, .slice none 0 0] 25) = W := ⟨_, rfl⟩
  have hb : Below w7.heap.size w7 w8 := by rw [← hw]; exact below_alc _ _
  rw [hw]
  clear hw
  have p0 := carry hb hl7 p0
  have p1 := carry hb hl7 p1
  have hl8 : w1.heap.size < w8.heap.size := Nat.lt_of_lt_of_le hl7 hb.size
  have hB8 := Lib.hid (belT hB7.out hb)
  have hO8 := Lib.hid (hO7.out.below hb)
  have hN8 := Lib.hid (hN7.out.below hb)
  clear hb hO7 hN7 hB7 hl7
  have hb := below_alc w8 (.cells #[.string ⟨#[97]⟩, .int .i64 0, .int .i64 1] 57)
  have kS := Lib.hid (sameOps_any a _ 1 1 c 1 aw4O aw4O _ (Lib.hid (hO8.out.below hb)) (Lib.hid (oarg_alloc w8 #[.string ⟨#[97]⟩, .int .i64 0, .int .i64 1] aw4O rfl 1 rfl)) (by omega))
  rw [sameVO_self] at kS
  have hb := Lib.hid hb
  have kN := Lib.hid fun (W : World) (h : Below w8.heap.size w8 W) => sameNodes_any a2 _ 6 6 c2 6 aw4N aw4N _ (Lib.hid (hN8.out.below (belT h (below_alc W _)))) (Lib.hid (narg_alloc W #[.int .i64 0, .int .i64 0, .int .i64 0, .int .i64 0, .int .i64 0, .string ⟨#[120]⟩, .string ⟨#[]⟩, .string ⟨#[]⟩, .string ⟨#[]⟩, .int .i64 29, .int .i64 1, .int .i64 0, .int .i64 0, .int .i64 0, .int .i64 2, .string ⟨#[]⟩, .string ⟨#[]⟩, .string ⟨#[]⟩, .string ⟨#[]⟩, .int .i64 33, .int .i64 0, .int .i64 0, .int .i64 0, .int .i64 0, .int .i64 0, .string ⟨#[121]⟩, .string ⟨#[]⟩, .string ⟨#[]⟩, .string ⟨#[]⟩, .int .i64 37, .int .i64 8, .int .i64 1, .int .i64 2, .int .i64 0, .int .i64 2, .string ⟨#[]⟩, .string ⟨#[]⟩, .string ⟨#[]⟩, .string ⟨#[]⟩, .int .i64 35, .int .i64 8, .int .i64 0, .int .i64 3, .int .i64 0, .int .i64 0, .string ⟨#[]⟩, .string ⟨#[]⟩, .string ⟨#[]⟩, .string ⟨#[]⟩, .int .i64 31, .int .i64 3, .int .i64 4, .int .i64 0, .int .i64 0, .int .i64 0, .string ⟨#[]⟩, .string ⟨#[120]⟩, .string ⟨#[]⟩, .string ⟨#[]⟩, .int .i64 20] aw4N rfl 6 rfl)) (by omega)
  simp only [sameV_self ndE_self] at kN
  have kN' : Hid (∀ (W : World), Below w8.heap.size w8 W → _) := kN
  go_wp2_with fail
  refine kS.out.mono ?_
  rintro e wu ⟨rfl, hbu⟩
  have hb := Lib.hid (belT hb.out hbu)
  clear hbu kS
  have p0 := carry hb.out hl8 p0
  have p1 := carry hb.out hl8 p1
  have hlu : w1.heap.size < wu.heap.size := Nat.lt_of_lt_of_le hl8 hb.out.size
  go_wp2_with fail
  refine (kN.out _ hb.out).mono ?_
  rintro e wv ⟨rfl, hbv⟩
  have hB := Lib.hid (belT hB8.out (belT hb.out (belT (below_alc wu _) hbv)))
  clear hbv kN kN' hb hO8 hN8
  go_wp2_with ((go_at_call 7; refine (num_any _ _ (by omega) (by omega)).mono ?_; rintro e w' ⟨rfl, rfl⟩))
  go_ret
  exact ⟨rfl, hB.out⟩
end Go.Proofs.YtnhfbbognjdnpaaGreatDoor
