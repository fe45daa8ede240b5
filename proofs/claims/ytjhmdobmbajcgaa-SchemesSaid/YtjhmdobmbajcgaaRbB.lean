/- The reference's BindsMay. -/
import Derived.Test.YtjhmdobmbajcgaaTyS
import Derived.Test.YtjhmdobmbajcgaaSbC
namespace Go.Proofs.Ytjhmdobmbajcgaa
open Go.RowKit Go.Maps
set_option linter.unusedVariables false
set_option linter.unusedSimpArgs false

set_option maxHeartbeats 1000000 in
theorem rbinds_nil (a : Option Addr) (c : Nat) (w : World) : Calls Try.prog 47 #[.slice a 0 c] w fun e w' => e = .returned (.bool true) ∧ Below w.heap.size w w' := by
  go_enter Try.func47, Try.ntmps47
  go_wp2_with fail
  go_loopw [3] (fun i wr => i = .int .i64 0 ∧ wr = w) (fun _ _ => 0)
  case atStart => exact ⟨rfl, rfl⟩
  case round =>
    obtain ⟨rfl, rfl⟩ := hrel
    go_wp2_with fail
    go_ret
    exact ⟨rfl, Below.refl _ _⟩
set_option maxRecDepth 100000 in
set_option maxHeartbeats 4000000 in
theorem rbinds_sl (b off cp : Nat) (xs : List Bn) (w : World) (h : Hid (BnSl w b off xs)) (hbs : b < w.heap.size) (hl : xs.length ≤ 140737488351232) :
    Calls Try.prog 47 #[.slice (some ⟨b, off, none⟩) xs.length cp] w fun e w' => e = .returned (.bool (bsV xs)) ∧ Below w.heap.size w w' := by
  by_cases h1 : 4096 < xs.length
  · have hv := Lib.hid (bs_len xs h1)
    go_enter Try.func47, Try.ntmps47
    go_wp2_with fail
    go_ret
    exact ⟨ret_b hv.out.symm, by (repeat' (first | with_reducible exact Below.refl _ _ | with_reducible assumption | with_reducible apply Below.setCell | with_reducible apply Below.alloc | with_reducible apply Below.drew | with_reducible apply below_drewN | with_reducible exact Nat.le_refl _ | (simp; done) | (simp; omega) | omega | exact Nat.le_refl _))⟩
  have hfin : Hid (∀ j, j < xs.length → (xs.getD j bn0).ok = false → bsV xs = false) := Lib.hid (bs_node xs)
  have hokv : Hid (xs.all Bn.ok = true → bsV xs = true) := Lib.hid (bs_all xs (by omega))
  have hin := fun (x0 x1 x2 x3 x4 y0 y1 y2 y3 y4 : Int) (W : World) => row_in 9997 x0 x1 x2 x3 x4 y0 y1 y2 y3 y4 W
  simp only [Nat.reduceAdd] at hin
  go_enter Try.func47, Try.ntmps47
  go_wp2_with fail
  go_loopw [3] (fun i wr => ∃ j : Nat, j ≤ xs.length ∧ i = .int .i64 j ∧ Below w.heap.size w wr ∧ Hid ((xs.take j).all Bn.ok = true)) (fun i _ => xs.length - (intOf i).toNat)
  case atStart => exact ⟨0, by omega, rfl, by (repeat' (first | with_reducible exact Below.refl _ _ | with_reducible assumption | with_reducible apply Below.setCell | with_reducible apply Below.alloc | with_reducible apply Below.drew | with_reducible apply below_drewN | with_reducible exact Nat.le_refl _ | (simp; done) | (simp; omega) | omega | exact Nat.le_refl _)), Lib.hid rfl⟩
  case round =>
    obtain ⟨j, hj, rfl, hbw, hall⟩ := hrel
    by_cases hlt : j < xs.length
    · have hT := h.out.below hbw hbs j hlt
      have htk : Hid ((xs.take (j + 1)).all Bn.ok = ((xs.take j).all Bn.ok && (xs.getD j bn0).ok)) := Lib.hid (allT_take xs bn0 Bn.ok j hlt)
      have hfj : Hid ((xs.getD j bn0).ok = false → bsV xs = false) := Lib.hid (hfin.out j hlt)
      generalize xs.getD j bn0 = x at hT htk hfj
      obtain ⟨⟨e0, e1, e2, e3, e4, e5, e6, e7⟩, hA, hn⟩ := hT
      have hbr : b < wr.heap.size := by have := hbw.size; omega
      have hlt' : (j : Int) < (xs.length : Int) := by omega
      have hj0 : (0 : Int) ≤ (j : Int) := by omega
      have kT := Lib.hid fun (W : World) (hb : Below wr.heap.size wr W) => rTyMay_any x.ad x.n x.c x.ns W (Lib.hid (hA.below hb)) hn
      have kM := Lib.hid fun (W : World) => rRowMay_any x.r.a x.r.b x.r.c x.r.d x.r.t W
      obtain ⟨m, hm⟩ : ∃ m, mayR x.r.a x.r.b x.r.c x.r.d x.r.t = m := ⟨_, rfl⟩
      obtain ⟨q, hq⟩ : ∃ q, rwQ x.r.a x.r.b x.r.c x.r.d x.r.t 0 0 0 0 0 = q := ⟨_, rfl⟩
      obtain ⟨tv, htv⟩ : ∃ q, tyV x.ns = q := ⟨_, rfl⟩
      have hxo : Hid (x.ok = (decide (0 ≤ x.v ∧ x.v < 4096) && (if x.ir then decide (x.n = 0) && m else q && tv))) := Lib.hid (by unfold Bn.ok Rw.may; rw [hm, hq, htv])
      rw [hxo.out] at htk hfj
      rw [hm] at kM
      rw [htv] at kT
      have hbw' := Lib.hid hbw
      clear hm htv hA hbw hxo
      by_cases hv0 : x.v < 0
      · have hf := Lib.hid (hfj.out (by rw [decide_eq_false (by omega)]; rfl))
        go_wp2_with fail
        go_ret
        exact ⟨ret_b hf.out.symm, hbw'.out.alloc hbw'.out.size _⟩
      by_cases hv1 : 4096 ≤ x.v
      · have hf := Lib.hid (hfj.out (by rw [decide_eq_false (by omega)]; rfl))
        go_wp2_with fail
        go_ret
        exact ⟨ret_b hf.out.symm, hbw'.out.alloc hbw'.out.size _⟩
      rw [decide_eq_true (show 0 ≤ x.v ∧ x.v < 4096 by omega), Bool.true_and] at htk hfj
      obtain ⟨v, ir, ad, n, c, ns, ⟨ra, rb, rc, rd, rt⟩⟩ := x
      simp only [] at *
      cases ir
      · simp only [Bool.false_eq_true, if_false] at htk hfj
        cases q
        · have hf := Lib.hid (hfj.out rfl)
          go_wp2_with fail
          go_ret
          exact ⟨ret_b hf.out.symm, hbw'.out.alloc hbw'.out.size _⟩
        · rw [Bool.true_and] at htk hfj
          go_wp2_with fail
          refine (kT.out _ (below_alc wr _)).mono ?_
          rintro e w1 ⟨rfl, hb1⟩
          have hbw1 := Lib.hid (belT (hbw'.out.alloc hbw'.out.size _) hb1)
          clear hb1 e0 e1 e2 e3 e4 e5 e6 e7
          cases tv
          · have hf := Lib.hid (hfj.out rfl)
            go_wp2_with fail
            go_ret
            exact ⟨ret_b hf.out.symm, hbw1.out⟩
          go_wp2_with fail
          go_roundw
          case rel => exact ⟨j + 1, by omega, by go_num, hbw1.out, Lib.hid (by rw [htk.out, hall.out]; rfl)⟩
          case measure => simp [intOf]; omega
      · simp only [if_true] at htk hfj
        by_cases hn0 : n = 0
        · subst hn0
          rw [decide_eq_true rfl, Bool.true_and] at htk hfj
          go_wp2_with fail
          refine (kM.out _).mono ?_
          rintro e w1 ⟨rfl, hb1⟩
          have hbw1 := Lib.hid (belT (hbw'.out.alloc hbw'.out.size _) hb1)
          clear hb1 e0 e1 e2 e3 e4 e5 e6 e7
          cases m
          · have hf := Lib.hid (hfj.out rfl)
            go_wp2_with fail
            go_ret
            exact ⟨ret_b hf.out.symm, hbw1.out⟩
          go_wp2_with fail
          go_roundw
          case rel => exact ⟨j + 1, by omega, by go_num, hbw1.out, Lib.hid (by rw [htk.out, hall.out]; rfl)⟩
          case measure => simp [intOf]; omega
        · have hf := Lib.hid (hfj.out (by rw [decide_eq_false hn0]; rfl))
          have hn1 : (0 : Int) < (n : Int) := by omega
          go_wp2_with fail
          go_ret
          exact ⟨ret_b hf.out.symm, hbw'.out.alloc hbw'.out.size _⟩
    · have hval : Hid (bsV xs = true) := Lib.hid (hokv.out (by have := hall.out; rwa [List.take_of_length_le (by omega)] at this))
      go_wp2_with fail
      go_ret
      exact ⟨ret_b hval.out.symm, hbw⟩
theorem rbinds_any (a : Option Addr) (n c : Nat) (xs : List Bn) (w : World) (h : Hid (BnArg w a n xs)) (hl : n ≤ 140737488351232) :
    Calls Try.prog 47 #[.slice a n c] w fun e w' => e = .returned (.bool (bsV xs)) ∧ Below w.heap.size w w' := by
  obtain ⟨rfl, rfl | ⟨b, off, rfl, h1, h2⟩⟩ := h.out
  · exact rbinds_nil _ _ _
  · exact rbinds_sl b off c xs w (Lib.hid h1) h2 hl

end Go.Proofs.Ytjhmdobmbajcgaa
