/- awake of layer 18. -/
import Derived.Test.YtglbaboboonmhaaDoorDiE
import Derived.Test.YtglbaboboonmhaaDoorDiC
namespace Go.Proofs.YtglbaboboonmhaaDoor
open Go.RowKit
set_option linter.unusedVariables false
set_option linter.unusedSimpArgs false

set_option maxRecDepth 100000 in
set_option maxHeartbeats 4000000 in
theorem awake18_any (w : World) (hg : Hid (errTy w)) : Calls Tryd.prog 8 #[] w fun e w' => e = .returned (.bool true) ∧ Below w.heap.size w w' := by
  have hsz := Lib.hid di_sz
  have k5 := Lib.hid fun (g : Nat) (W : World) (h : Hid (NArg W (some ⟨g, 0, none⟩) 6 diN)) (hg : Hid (errTy W)) => tDirect_any (some ⟨g, 0, none⟩) 6 6 diN 5 W h hsz (by omega) hg
  rw [di_5] at k5
  have k2 := Lib.hid fun (g : Nat) (W : World) (h : Hid (NArg W (some ⟨g, 0, none⟩) 6 diN)) (hg : Hid (errTy W)) => tDirect_any (some ⟨g, 0, none⟩) 6 6 diN 2 W h hsz (by omega) hg
  rw [di_2] at k2
  have k6 := Lib.hid fun (g : Nat) (W : World) (h : Hid (NArg W (some ⟨g, 0, none⟩) 6 diN)) (hg : Hid (errTy W)) => tDirect_any (some ⟨g, 0, none⟩) 6 6 diN 6 W h hsz (by omega) hg
  rw [di_6] at k6
  have h0l := hgl hg.out
  go_enter Tryd.func8, Tryd.ntmps8
  go_wp2_with fail
  have hN0 := Lib.hid (narg_alloc w #[.int .i64 0, .int .i64 0, .int .i64 0, .int .i64 0, .int .i64 0, .string ⟨#[]⟩, .string ⟨#[]⟩, .string ⟨#[]⟩, .string ⟨#[]⟩, .int .i64 0, .int .i64 0, .int .i64 0, .int .i64 0, .int .i64 0, .int .i64 0, .string ⟨#[]⟩, .string ⟨#[]⟩, .string ⟨#[]⟩, .string ⟨#[]⟩, .int .i64 0, .int .i64 4, .int .i64 0, .int .i64 1, .int .i64 0, .int .i64 0, .string ⟨#[]⟩, .string ⟨#[]⟩, .string ⟨#[]⟩, .string ⟨#[]⟩, .int .i64 0, .int .i64 3, .int .i64 2, .int .i64 0, .int .i64 0, .int .i64 0, .string ⟨#[]⟩, .string ⟨#[]⟩, .string ⟨#[]⟩, .string ⟨#[]⟩, .int .i64 0, .int .i64 1, .int .i64 0, .int .i64 0, .int .i64 0, .int .i64 0, .string ⟨#[]⟩, .string ⟨#[]⟩, .string ⟨#[]⟩, .string ⟨#[]⟩, .int .i64 0, .int .i64 5, .int .i64 3, .int .i64 4, .int .i64 0, .int .i64 0, .string ⟨#[]⟩, .string ⟨#[]⟩, .string ⟨#[]⟩, .string ⟨#[]⟩, .int .i64 0] diN rfl 6 rfl)
  refine (k5.out _ _ hN0 (Lib.hid (errTy_below hg.out (by (repeat' (first | with_reducible exact Below.refl _ _ | with_reducible assumption | with_reducible apply Below.setCell | with_reducible apply Below.alloc | with_reducible apply Below.drew | with_reducible apply below_drewN | with_reducible exact Nat.le_refl _ | (simp; done) | (simp; omega) | omega | exact Nat.le_refl _)))))).mono ?_
  rintro e w1 ⟨rfl, hb1⟩
  have hN1 := Lib.hid (hN0.out.below hb1)
  have hB1 := Lib.hid (belT (show Below w.heap.size w _ from by (repeat' (first | with_reducible exact Below.refl _ _ | with_reducible assumption | with_reducible apply Below.setCell | with_reducible apply Below.alloc | with_reducible apply Below.drew | with_reducible apply below_drewN | with_reducible exact Nat.le_refl _ | (simp; done) | (simp; omega) | omega | exact Nat.le_refl _))) hb1)
  have hg1 := Lib.hid (errTy_below hg.out hB1.out)
  clear hb1
  go_wp2_with fail
  refine (k2.out _ _ hN1 hg1).mono ?_
  rintro e w2 ⟨rfl, hb2⟩
  have hN2 := Lib.hid (hN1.out.below hb2)
  have hB2 := Lib.hid (belT hB1.out hb2)
  have hg2 := Lib.hid (errTy_below hg.out hB2.out)
  clear hb2
  go_wp2_with fail
  refine (k6.out _ _ hN2 hg2).mono ?_
  rintro e w3 ⟨rfl, hb3⟩
  have hB3 := Lib.hid (belT hB2.out hb3)
  clear hb3
  go_wp2_with ((go_at_call 7; refine (num_any _ _ (by omega) (by omega)).mono ?_; rintro e w' ⟨rfl, rfl⟩))
  go_ret
  exact ⟨rfl, hB3.out⟩
end Go.Proofs.YtglbaboboonmhaaDoor
