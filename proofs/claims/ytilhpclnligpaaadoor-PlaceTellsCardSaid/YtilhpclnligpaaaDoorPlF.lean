/- awake of layer 24. -/
import Derived.Test.YtilhpclnligpaaaDoorPlE
namespace Go.Proofs.YtilhpclnligpaaaDoor
open Go.RowKit
set_option linter.unusedVariables false

theorem dd1 (u : Nat) (h : u < 10) : Lib.decDigits u = [UInt8.ofNat (48 + u)] := by rw [Lib.decDigits, dif_pos h]
theorem dd2 (u : Nat) (h : ¬ u < 10) : Lib.decDigits u = Lib.decDigits (u / 10) ++ [UInt8.ofNat (48 + u % 10)] := by
  conv => lhs; rw [Lib.decDigits, dif_neg h]
theorem it402 : Lib.itoa 402 = [52, 48, 50] := by
  show Lib.decDigits 402 = _
  rw [dd2 402 (by decide), dd2 40 (by decide), dd1 4 (by decide)]; decide
theorem it2 : Lib.itoa 2 = [50] := by show Lib.decDigits 2 = _; rw [dd1 2 (by decide)]; decide
theorem it1 : Lib.itoa 1 = [49] := by show Lib.decDigits 1 = _; rw [dd1 1 (by decide)]; decide
theorem itm7 : Lib.itoa (-7) = [45, 55] := by show 45 :: Lib.decDigits 7 = _; rw [dd1 7 (by decide)]; decide
theorem aw1 : tellV ⟨#[97, 98, 10, 99, 100]⟩ 402 4 ⟨#[]⟩ 0 0 0 0 = ⟨#[50, 58, 50, 58, 32, 101, 114, 114, 111, 114, 32, 52, 48, 50]⟩ ∧ tellE ⟨#[97, 98, 10, 99, 100]⟩ 402 4 0 0 0 0 = 0 := by
  have h : tellOk ⟨#[97, 98, 10, 99, 100]⟩ 402 4 0 0 0 0 = true := by decide +kernel
  rw [(tell_yes (ty := ⟨#[]⟩) h).1, (tell_yes (ty := ⟨#[]⟩) h).2]
  refine ⟨?_, rfl⟩
  unfold tellB
  rw [if_neg (by decide), show lnV ⟨#[97, 98, 10, 99, 100]⟩ 4 = 2 from by decide +kernel, show clV ⟨#[97, 98, 10, 99, 100]⟩ 4 = 2 from by decide +kernel, it2, it402]
  decide +kernel
theorem aw2 : tellV ⟨#[]⟩ 0 0 ⟨#[105, 110, 116]⟩ 0 (-7) 3 1 = ⟨#[105, 110, 116, 32, 61, 32, 45, 55, 32, 124, 32, 102, 97, 117, 108, 116, 32, 49]⟩ ∧ tellE ⟨#[]⟩ 0 0 0 (-7) 3 1 = 0 := by
  have h : tellOk ⟨#[]⟩ 0 0 0 (-7) 3 1 = true := by decide +kernel
  rw [(tell_yes (ty := ⟨#[105, 110, 116]⟩) h).1, (tell_yes (ty := ⟨#[105, 110, 116]⟩) h).2]
  refine ⟨?_, rfl⟩
  unfold tellB
  rw [if_pos rfl, show outB 0 (-7) = ⟨#[45, 55]⟩ from by unfold outB; rw [if_pos rfl, itm7], show outB 3 1 = ⟨#[102, 97, 117, 108, 116, 32]⟩ ++ ⟨#[49]⟩ from by unfold outB; rw [if_neg (by decide), if_neg (by decide), if_neg (by decide), if_pos rfl, it1]]
  decide +kernel
theorem aw3 : tellV ⟨#[]⟩ 402 1 ⟨#[]⟩ 0 0 0 0 = ⟨#[]⟩ ∧ tellE ⟨#[]⟩ 402 1 0 0 0 0 = 2400 := tell_no (by decide +kernel)

set_option maxRecDepth 100000 in
set_option maxHeartbeats 1000000 in
theorem awake_any (w : World) (ht : Hid (TabW w)) : Calls Tryd.prog 13 #[] w fun e w' => e = .returned (.bool true) ∧ Below w.heap.size w w' := by
  go_enter Tryd.func13, Tryd.ntmps13
  go_wp2_with fail
  refine (line_any _ _ _ (by decide)).mono ?_
  rintro e w' ⟨rfl, rfl⟩
  rw [show lnV _ _ = 2 from by decide +kernel, show clV _ _ = 2 from by decide +kernel, show plE _ _ = 0 from by decide +kernel]
  go_wp2_with fail
  refine (line_any _ _ _ (by decide)).mono ?_
  rintro e w' ⟨rfl, rfl⟩
  rw [show lnV _ _ = 0 from by decide +kernel, show clV _ _ = 0 from by decide +kernel, show plE _ _ = 2400 from by decide +kernel]
  go_wp2_with fail
  refine (tell_any _ _ _ _ _ _ _ _ _ (by decide) (by decide) ht (by decide)).mono ?_
  rintro e w1 ⟨rfl, hb1⟩
  rw [aw1.1, aw1.2]
  have ht1 : Hid (TabW w1) := Lib.hid (tab_keep ht.out hb1 (Nat.le_refl _))
  go_wp2_with fail
  refine (tell_any _ _ _ _ _ _ _ _ _ (by decide) (by decide) ht1 (by decide)).mono ?_
  rintro e w2 ⟨rfl, hb2⟩
  rw [aw2.1, aw2.2]
  have ht2 : Hid (TabW w2) := Lib.hid (tab_keep ht1.out hb2 (Nat.le_refl _))
  go_wp2_with fail
  refine (tell_any _ _ _ _ _ _ _ _ _ (by decide) (by decide) ht2 (by decide)).mono ?_
  rintro e w3 ⟨rfl, hb3⟩
  rw [aw3.1, aw3.2]
  go_wp2_with (go_at_call 12; refine (num_any _ _ (by omega) (by omega)).mono ?_; rintro e w' ⟨rfl, rfl⟩)
  go_ret
  exact ⟨rfl, belT (belT hb1 hb2) hb3⟩
end Go.Proofs.YtilhpclnligpaaaDoor
