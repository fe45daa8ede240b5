/- Shows holds for every program. No condition but that the listed package variables hold what the program's text lays. -/
import Derived.Test.YtidlljookjicpaaGreatDoorPwC
import Derived.Test.YtidlljookjicpaaGreatDoorPgA
import Derived.Test.YtidlljookjicpaaGreatDoorPwP
import Derived.Test.YtidlljookjicpaaGreatDoorRgT
import Derived.Test.YtidlljookjicpaaGreatDoorNdIn
import Derived.Test.YtidlljookjicpaaGreatDoorPrg
import Derived.Test.YtidlljookjicpaaGreatDoorPwH
import Derived.Test.YtidlljookjicpaaGreatDoorCards
import Derived.Test.YtidlljookjicpaaGreatDoorTie
import Derived.Test.YtidlljookjicpaaGreatDoorOpn
import Derived.Test.YtidlljookjicpaaGreatDoorHan
import Derived.WalkKit
import Derived.ProofKit
import Derived.Deep.DeepHandedRow
namespace Go.Proofs.YtidlljookjicpaaGreatDoor
open Go.RowKit
set_option linter.unusedVariables false
set_option linter.unusedSimpArgs false

theorem bscText_any (k : Int) (w : World) (hk : k = 0 ∨ k = 1) : Calls Tryz.prog 28 #[.int .i64 k] w fun e w' => e = .returned (.string (bs (bsT k))) ∧ w = w' := by
  rcases hk with rfl | rfl
  all_goals
    go_enter Tryz.func28, Tryz.ntmps28
    go_wp2_with fail
    go_ret
    exact ⟨rfl, rfl⟩
theorem opB_eq2 (s : List UInt8) (o : Or) : (((((((bs s ++ (⟨#[111, 112, 32]⟩ : ByteArray)) ++ o.nm) ++ ⟨#[32, 58, 32]⟩) ++ bs (bsT o.f)) ++ ⟨#[32, 45, 62, 32]⟩) ++ bs (bsT o.t)) ++ ⟨#[59, 32]⟩) = bs (s ++ opT o) := by
  apply ba_x
  simp [opT, bs]
set_option maxRecDepth 100000 in
set_option maxHeartbeats 2000000 in
theorem rPrint_any (a a2 : Option Addr) (n c n2 c2 : Nat) (os : List Or) (ts : List Nd) (T : PT) (w : World) (h : Hid (OArg w a n os)) (hsz : Hid (∀ t ∈ os, OrSz t)) (hl : n ≤ 140737488351232) (h2 : Hid (NArg w a2 n2 ts)) (hsz2 : Hid (∀ t ∈ ts, NdSz t)) (hl2 : n2 ≤ 140737488351232) (hT : mayV os ts = true → MayT os ts T) :
    Calls Tryz.prog 10 #[.agg #[.slice a n c, .slice a2 n2 c2]] w fun e w' => e = .returned (.tuple #[.string (prS (prV os ts T)), .int .i64 (prE (prV os ts T))]) ∧ Below w.heap.size w w' := by
  have kM := Lib.hid fun (W : World) (hb : Below w.heap.size w W) => rMay_any a a2 n c n2 c2 os ts W (Lib.hid (h.out.below hb)) hsz hl (Lib.hid (h2.out.below hb)) hsz2 hl2
  cases hm : mayV os ts
  · have hR := Lib.hid (show prV os ts T = none by unfold prV; rw [hm]; rfl)
    rw [hm] at kM
    generalize prV os ts T = R at hR ⊢
    clear hT hm
    go_enter Tryz.func10, Tryz.ntmps10
    go_wp2_with fail
    refine (kM.out _ (by (repeat' (first | with_reducible exact Below.refl _ _ | with_reducible assumption | with_reducible apply Below.setCell | with_reducible apply Below.alloc | with_reducible apply Below.drew | with_reducible apply below_drewN | with_reducible exact Nat.le_refl _ | (simp; done) | (simp; omega) | omega | exact Nat.le_refl _)))).mono ?_
    rintro e w1 ⟨rfl, hb1⟩
    have hB := Lib.hid (belT (show Below w.heap.size w _ from by (repeat' (first | with_reducible exact Below.refl _ _ | with_reducible assumption | with_reducible apply Below.setCell | with_reducible apply Below.alloc | with_reducible apply Below.drew | with_reducible apply below_drewN | with_reducible exact Nat.le_refl _ | (simp; done) | (simp; omega) | omega | exact Nat.le_refl _))) hb1)
    clear hb1
    go_wp2_with fail
    go_ret2
    exact ⟨by rw [hR.out]; rfl, hB.out⟩
  have hTT := Lib.hid (hT hm)
  rw [hm] at kM
  have hn1 := h.out.1
  have hn2 := h2.out.1
  have t1 := hTT.out.l1
  have t2 := hTT.out.l2
  have t3 := hTT.out.o4
  obtain ⟨b2, off2, rfl, hs2, hb2⟩ : ∃ b off, a2 = some ⟨b, off, none⟩ ∧ NdSl w b off ts ∧ b < w.heap.size := by
    rcases h2.out.2 with h0 | h0
    · rw [h0] at t1; cases t1
    · exact h0
  subst hn2
  have hs2 := Lib.hid hs2
  have ht4 := Lib.hid hTT.out.sz
  have hnH := Lib.hid hn1
  have hn4 : n ≤ 4 := by omega
  have hat : Hid (∀ j, j < n → ∃ b off, a = some ⟨b, off, none⟩ ∧ OrAt w b off (os.getD j or0) j ∧ b < w.heap.size) := Lib.hid fun j hj => by
    rcases h.out.2 with rfl | ⟨b, off, h1, h2, h3⟩
    · simp at hn1; omega
    · exact ⟨b, off, h1, h2 j (by omega), h3⟩
  have hRv := Lib.hid (show prV os ts T = outV os T by unfold prV; rw [hm]; rfl)
  generalize prV os ts T = Rv at hRv ⊢
  clear hm hn1 hT
  go_enter Tryz.func10, Tryz.ntmps10
  go_wp2_with fail
  have hP := Lib.hid (pg_lit w 25 w.heap.size rfl a (some ⟨b2, off2, none⟩) n c ts.length c2)
  have hbA : Below w.heap.size w (w.alloc (.cells #[.slice a n c, .slice (some ⟨b2, off2, none⟩) ts.length c2] 25)) := below_alc _ _
  generalize w.alloc (.cells #[.slice a n c, .slice (some ⟨b2, off2, none⟩) ts.length c2] 25) = wA at hP hbA ⊢
  refine (kM.out _ hbA).mono ?_
  rintro e w1 ⟨rfl, hb1⟩
  have hP := Lib.hid (hP.out.below hb1)
  have hB1 := Lib.hid (belT hbA hb1)
  clear hb1 hbA kM
  obtain ⟨hgl, hc0, hc1⟩ := hP.out
  go_wp2_with fail
  go_loopw [4, 5] (fun s i wr => ∃ (j : Nat) (x : ByteArray), j ≤ n ∧ i = .int .i64 j ∧ s = .string x ∧ Hid (x = bs (opsT (os.take j))) ∧ x.size ≤ j * 36 ∧ Below w1.heap.size w1 wr) (fun _ i _ => n - (intOf i).toNat)
  case atStart => exact ⟨0, ⟨#[]⟩, by omega, rfl, rfl, Lib.hid rfl, by decide, Below.refl _ _⟩
  case round =>
    obtain ⟨j, x, hj, rfl, rfl, hx, hxs, hbw⟩ := hrel
    have hP2 := Lib.hid (hP.out.below hbw)
    obtain ⟨hgl2, d0, d1⟩ := hP2.out
    by_cases hlt : j < n
    · obtain ⟨b, off, rfl, hA, hbs⟩ := hat.out j hlt
      have hsT := Lib.hid (opsT_succ (os := os) (j := j) (by rw [← hnH.out]; exact hlt))
      have hbw0 := Lib.hid (belT hB1.out hbw)
      have hT := hA.below hbw0.out hbs
      have hok := hTT.out.os _ (getO_mem (ts := os) (j := j) (by rw [← hnH.out]; exact hlt))
      have hol := Lib.hid (opT_len hok)
      generalize os.getD j or0 = o at hT hsT hol hok
      have hnmL := nm_len hok.1
      have zn : o.nm.size ≤ 16 := hnmL
      have zf : (bs (bsT o.f)).size ≤ 4 := by rw [bs_sizeL]; exact bsT_len _
      have zt : (bs (bsT o.t)).size ≤ 4 := by rw [bs_sizeL]; exact bsT_len _
      have k1 := Lib.hid fun (W : World) => bscText_any o.f W hok.2.1
      have k2 := Lib.hid fun (W : World) => bscText_any o.t W hok.2.2
      have hfin := Lib.hid (show (((((((x ++ (⟨#[111, 112, 32]⟩ : ByteArray)) ++ o.nm) ++ ⟨#[32, 58, 32]⟩) ++ bs (bsT o.f)) ++ ⟨#[32, 45, 62, 32]⟩) ++ bs (bsT o.t)) ++ ⟨#[59, 32]⟩) = bs (opsT (os.take (j + 1))) by rw [hx.out, opB_eq2, hsT.out])
      clear hok hnmL
      obtain ⟨e0, e1, e2⟩ := hT
      have hbr : b < wr.heap.size := by have := hbw0.out.size; omega
      have hlt' : (j : Int) < (n : Int) := by omega
      have hj0 : (0 : Int) ≤ (j : Int) := by omega
      go_upto_region 7 with fail
      refine wp_region_held_drew (S := fun W => W.cell? ⟨w.heap.size, 0, none⟩ = some (.slice (some ⟨b, off, none⟩) n c) ∧ W.cell? ⟨b, off + j * 3, none⟩ = some (.string o.nm) ∧ W.cell? ⟨b, off + j * 3 + 1, none⟩ = some (.int .i64 o.f) ∧ W.cell? ⟨b, off + j * 3 + 2, none⟩ = some (.int .i64 o.t) ∧ w.heap.size < W.heap.size ∧ b < W.heap.size) (by kernel_rfl) ⟨d0, e0, e1, e2, hgl2, hbr⟩ (fun hHeld => ?_)
      have hbd := Lib.hid (belT hbw (show Below wr.heap.size wr wr.drew from (Below.refl _ _).drew))
      clear d0 d1 e0 e1 e2 hgl2 hbr hP2 hbw hbw0 hx hol hgl
      generalize wr.drew = W2 at hHeld hbd ⊢
      refine rg_take 0 (some 18) (v := ?vp1) rfl rfl (by kernel_rfl) (by kernel_rfl) (by kernel_rfl) (fun _ _ _ h => h) (by rfl) ?hyp1 (by assumption) ?_
      case hyp1 => intro W hSW; (try dsimp only at hSW); go_simp; (try with_reducible rfl)
      try simp only [Act.put, List.setIfInBounds_toArray, List.set_cons_zero, List.set_cons_succ]
      refine rg_take 1 (some 19) (v := ?vp2) rfl rfl (by kernel_rfl) (by kernel_rfl) (by kernel_rfl) (fun _ _ _ h => h) (by rfl) ?hyp2 (by assumption) ?_
      case hyp2 => intro W hSW; (try dsimp only at hSW); go_simp; rw [if_neg (by omega)]
      try simp only [Act.put, List.setIfInBounds_toArray, List.set_cons_zero, List.set_cons_succ]
      refine rg_take 2 (some 20) (v := ?vp3) rfl rfl (by kernel_rfl) (by kernel_rfl) (by kernel_rfl) (fun _ _ _ h => h) (by rfl) ?hyp3 (by assumption) ?_
      case hyp3 => intro W hSW; (try dsimp only at hSW); go_simp; (try with_reducible rfl)
      try simp only [Act.put, List.setIfInBounds_toArray, List.set_cons_zero, List.set_cons_succ]
      refine rg_take 3 (some 21) (v := ?vp4) rfl rfl (by kernel_rfl) (by kernel_rfl) (by kernel_rfl) (fun _ _ _ h => h) (by rfl) ?hyp4 (by assumption) ?_
      case hyp4 => intro W hSW; (try dsimp only at hSW); go_simp; (try with_reducible rfl)
      try simp only [Act.put, List.setIfInBounds_toArray, List.set_cons_zero, List.set_cons_succ]
      refine rg_take 4 (some 22) (v := ?vp5) rfl rfl (by kernel_rfl) (by kernel_rfl) (by kernel_rfl) (fun _ _ _ h => h) (by rfl) ?hyp5 (by assumption) ?_
      case hyp5 => intro W hSW; (try dsimp only at hSW); go_simp; (try with_reducible rfl)
      try simp only [Act.put, List.setIfInBounds_toArray, List.set_cons_zero, List.set_cons_succ]
      refine rg_take 5 (some 23) (v := ?vp6) rfl rfl (by kernel_rfl) (by kernel_rfl) (by kernel_rfl) (fun _ _ _ h => h) (by rfl) ?hyp6 (by assumption) ?_
      case hyp6 => intro W hSW; (try dsimp only at hSW); go_simp; (try with_reducible rfl)
      try simp only [Act.put, List.setIfInBounds_toArray, List.set_cons_zero, List.set_cons_succ]
      refine rg_take 6 (some 24) (v := ?vp7) rfl rfl (by kernel_rfl) (by kernel_rfl) (by kernel_rfl) (fun _ _ _ h => h) (by rfl) ?hyp7 (by assumption) ?_
      case hyp7 => intro W hSW; (try dsimp only at hSW); go_simp; (try with_reducible rfl)
      try simp only [Act.put, List.setIfInBounds_toArray, List.set_cons_zero, List.set_cons_succ]
      refine rg_take 7 (some 25) (v := ?vp8) rfl rfl (by kernel_rfl) (by kernel_rfl) (by kernel_rfl) (fun _ _ _ h => h) (by rfl) ?hyp8 (by assumption) ?_
      case hyp8 => intro W hSW; (try dsimp only at hSW); go_simp; (try with_reducible rfl)
      try simp only [Act.put, List.setIfInBounds_toArray, List.set_cons_zero, List.set_cons_succ]
      refine rg_take 8 (some 26) (v := ?vp9) rfl rfl (by kernel_rfl) (by kernel_rfl) (by kernel_rfl) (fun _ _ _ h => h) (by rfl) ?hyp9 (by assumption) ?_
      case hyp9 => intro W hSW; (try dsimp only at hSW); go_simp; rw [if_neg (by omega)]
      try simp only [Act.put, List.setIfInBounds_toArray, List.set_cons_zero, List.set_cons_succ]
      refine rg_take 9 (some 27) (v := ?vp10) rfl rfl (by kernel_rfl) (by kernel_rfl) (by kernel_rfl) (fun _ _ _ h => h) (by rfl) ?hyp10 (by assumption) ?_
      case hyp10 => intro W hSW; (try dsimp only at hSW); go_simp; rw [if_neg (by omega)]
      try simp only [Act.put, List.setIfInBounds_toArray, List.set_cons_zero, List.set_cons_succ]
      refine rg_take 10 (some 28) (v := ?vp11) rfl rfl (by kernel_rfl) (by kernel_rfl) (by kernel_rfl) (fun _ _ _ h => h) (by rfl) ?hyp11 (by assumption) ?_
      case hyp11 => intro W hSW; (try dsimp only at hSW); go_simp; (try with_reducible rfl)
      try simp only [Act.put, List.setIfInBounds_toArray, List.set_cons_zero, List.set_cons_succ]
      refine rg_take 11 (some 29) (v := ?vp12) rfl rfl (by kernel_rfl) (by kernel_rfl) (by kernel_rfl) (fun _ _ _ h => h) (by rfl) ?hyp12 (by assumption) ?_
      case hyp12 => intro W hSW; (try dsimp only at hSW); go_simp; (try with_reducible rfl)
      try simp only [Act.put, List.setIfInBounds_toArray, List.set_cons_zero, List.set_cons_succ]
      refine rg_take 12 (some 30) (v := ?vp13) rfl rfl (by kernel_rfl) (by kernel_rfl) (by kernel_rfl) (fun _ _ _ h => h) (by rfl) ?hyp13 (by assumption) ?_
      case hyp13 => intro W hSW; (try dsimp only at hSW); go_simp; (try with_reducible rfl)
      try simp only [Act.put, List.setIfInBounds_toArray, List.set_cons_zero, List.set_cons_succ]
      refine rg_take 13 (some 31) (v := ?vp14) rfl rfl (by kernel_rfl) (by kernel_rfl) (by kernel_rfl) (fun _ _ _ h => h) (by rfl) ?hyp14 (by assumption) ?_
      case hyp14 => intro W hSW; (try dsimp only at hSW); go_simp; (try with_reducible rfl)
      try simp only [Act.put, List.setIfInBounds_toArray, List.set_cons_zero, List.set_cons_succ]
      refine rg_take 14 (some 32) (v := ?vp15) rfl rfl (by kernel_rfl) (by kernel_rfl) (by kernel_rfl) (fun _ _ _ h => h) (by rfl) ?hyp15 (by assumption) ?_
      case hyp15 => intro W hSW; (try dsimp only at hSW); go_simp; (try with_reducible rfl)
      try simp only [Act.put, List.setIfInBounds_toArray, List.set_cons_zero, List.set_cons_succ]
      refine rg_take 15 (some 33) (v := ?vp16) rfl rfl (by kernel_rfl) (by kernel_rfl) (by kernel_rfl) (fun _ _ _ h => h) (by rfl) ?hyp16 (by assumption) ?_
      case hyp16 => intro W hSW; (try dsimp only at hSW); go_simp; (try with_reducible rfl)
      try simp only [Act.put, List.setIfInBounds_toArray, List.set_cons_zero, List.set_cons_succ]
      refine rg_take 19 (some 37) (v := ?vp17) rfl rfl (by kernel_rfl) (by kernel_rfl) (by kernel_rfl) (fun _ _ _ h => h) (by rfl) ?hyp17 (by assumption) ?_
      case hyp17 => intro W hSW; (try dsimp only at hSW); go_simp; (try with_reducible rfl)
      try simp only [Act.put, List.setIfInBounds_toArray, List.set_cons_zero, List.set_cons_succ]
      refine rg_take 20 (some 38) (v := ?vp18) rfl rfl (by kernel_rfl) (by kernel_rfl) (by kernel_rfl) (fun _ _ _ h => h) (by rfl) ?hyp18 (by assumption) ?_
      case hyp18 => intro W hSW; (try dsimp only at hSW); go_simp; (try with_reducible rfl)
      try simp only [Act.put, List.setIfInBounds_toArray, List.set_cons_zero, List.set_cons_succ]
      refine rg_take 21 (some 39) (v := ?vp19) rfl rfl (by kernel_rfl) (by kernel_rfl) (by kernel_rfl) (fun _ _ _ h => h) (by rfl) ?hyp19 (by assumption) ?_
      case hyp19 => intro W hSW; (try dsimp only at hSW); go_simp; (try with_reducible rfl)
      try simp only [Act.put, List.setIfInBounds_toArray, List.set_cons_zero, List.set_cons_succ]
      refine rg_take 22 (some 40) (v := ?vp20) rfl rfl (by kernel_rfl) (by kernel_rfl) (by kernel_rfl) (fun _ _ _ h => h) (by rfl) ?hyp20 (by assumption) ?_
      case hyp20 => intro W hSW; (try dsimp only at hSW); go_simp; (try with_reducible rfl)
      try simp only [Act.put, List.setIfInBounds_toArray, List.set_cons_zero, List.set_cons_succ]
      refine rg_take 23 (some 41) (v := ?vp21) rfl rfl (by kernel_rfl) (by kernel_rfl) (by kernel_rfl) (fun _ _ _ h => h) (by rfl) ?hyp21 (by assumption) ?_
      case hyp21 => intro W hSW; (try dsimp only at hSW); go_simp; (try with_reducible rfl)
      try simp only [Act.put, List.setIfInBounds_toArray, List.set_cons_zero, List.set_cons_succ]
      refine rg_take 24 (some 42) (v := ?vp22) rfl rfl (by kernel_rfl) (by kernel_rfl) (by kernel_rfl) (fun _ _ _ h => h) (by rfl) ?hyp22 (by assumption) ?_
      case hyp22 => intro W hSW; (try dsimp only at hSW); go_simp; (try with_reducible rfl)
      try simp only [Act.put, List.setIfInBounds_toArray, List.set_cons_zero, List.set_cons_succ]
      refine rg_one 16 rfl (by kernel_rfl) (by rfl) (fun K hK => ?_)
      go_simp
      (go_at_call 28; refine (k1.out _).mono ?_; rintro e w3 ⟨rfl, rfl⟩)
      refine hK.out _ _ hHeld (fun hHeld16 => ?_)
      clear hK K hHeld
      try simp only [Act.put, List.setIfInBounds_toArray, List.set_cons_zero, List.set_cons_succ]
      refine rg_take 17 (some 35) (v := ?vp23) rfl rfl (by kernel_rfl) (by kernel_rfl) (by kernel_rfl) (fun _ _ _ h => h) (by rfl) ?hyp23 (by assumption) ?_
      case hyp23 => intro W hSW; (try dsimp only at hSW); go_simp; rw [if_neg (by omega)]
      try simp only [Act.put, List.setIfInBounds_toArray, List.set_cons_zero, List.set_cons_succ]
      refine rg_take 18 (some 36) (v := ?vp24) rfl rfl (by kernel_rfl) (by kernel_rfl) (by kernel_rfl) (fun _ _ _ h => h) (by rfl) ?hyp24 (by assumption) ?_
      case hyp24 => intro W hSW; (try dsimp only at hSW); go_simp; rw [if_neg (by omega)]
      try simp only [Act.put, List.setIfInBounds_toArray, List.set_cons_zero, List.set_cons_succ]
      refine rg_one 25 rfl (by kernel_rfl) (by rfl) (fun K hK => ?_)
      go_simp
      (go_at_call 28; refine (k2.out _).mono ?_; rintro e w3 ⟨rfl, rfl⟩)
      refine hK.out _ _ hHeld16 (fun hHeld25 => ?_)
      clear hK K hHeld16
      try simp only [Act.put, List.setIfInBounds_toArray, List.set_cons_zero, List.set_cons_succ]
      refine rg_take 26 (some 44) (v := ?vp25) rfl rfl (by kernel_rfl) (by kernel_rfl) (by kernel_rfl) (fun _ _ _ h => h) (by rfl) ?hyp25 (by assumption) ?_
      case hyp25 => intro W hSW; (try dsimp only at hSW); go_simp; rw [if_neg (by omega)]
      try simp only [Act.put, List.setIfInBounds_toArray, List.set_cons_zero, List.set_cons_succ]
      refine rg_take 27 (some 45) (v := ?vp26) rfl rfl (by kernel_rfl) (by kernel_rfl) (by kernel_rfl) (fun _ _ _ h => h) (by rfl) ?hyp26 (by assumption) ?_
      case hyp26 => intro W hSW; (try dsimp only at hSW); go_simp; rw [if_neg (by omega)]
      try simp only [Act.put, List.setIfInBounds_toArray, List.set_cons_zero, List.set_cons_succ]
      refine rg_take 28 (some 4) (v := ?vp27) rfl rfl (by kernel_rfl) (by kernel_rfl) (by kernel_rfl) (fun _ _ _ h => h) (by rfl) ?hyp27 (by assumption) ?_
      case hyp27 => intro W hSW; (try dsimp only at hSW); go_simp; (try with_reducible rfl)
      try simp only [Act.put, List.setIfInBounds_toArray, List.set_cons_zero, List.set_cons_succ]
      refine wpAnyH_done (by kernel_rfl) ?_ _
      clear hHeld25
      have hxz : (bs (opsT (os.take (j + 1)))).size ≤ (j + 1) * 36 := by
        rw [← hfin.out]; simp only [ByteArray.size_append, show (⟨#[111, 112, 32]⟩ : ByteArray).size = 3 from rfl, show (⟨#[32, 58, 32]⟩ : ByteArray).size = 3 from rfl, show (⟨#[32, 45, 62, 32]⟩ : ByteArray).size = 4 from rfl, show (⟨#[59, 32]⟩ : ByteArray).size = 2 from rfl]; omega
      rw [hfin.out]
      have hxx : Hid (bs (opsT (os.take (j + 1))) = bs (opsT (os.take (j + 1)))) := Lib.hid rfl
      generalize hY : bs (opsT (os.take (j + 1))) = y at hxz ⊢
      have hY := Lib.hid hY.symm
      clear hfin hxx hsT
      go_wp2_with fail
      go_round
      case rel => exact ⟨j + 1, y, by omega, by go_num, rfl, hY, hxz, hbd.out⟩
      case measure => simp [intOf]; omega
    · have hjn : ¬ (j : Int) < (n : Int) := by omega
      have hx := Lib.hid (show x = bs (opsT os) by
        have := hx.out
        rwa [List.take_of_length_le (by have := hnH.out; omega)] at this)
      have hsb := Lib.hid (hB1.out.size)
      have hbw0 := Lib.hid (belT hB1.out hbw)
      have hs1 : Hid (NdSl wr b2 off2 ts) := Lib.hid (hs2.out.below hbw0.out hb2)
      have kE := Lib.hid (show Calls Tryz.prog 29 #[.slice (some ⟨b2, off2, none⟩) ts.length c2, .int .i64 ((ts.length : Int) - 1)] wr (fun e w' => e = .returned (.tuple #[.string (bs T.tx), .int .i64 ((T.ins : Int) + 1)]) ∧ Below wr.heap.size wr w') from by
        have := rtext_any (bk := b2) (off := off2) (cp := c2) t2 T hTT.out.ok (ts.length - 1) wr hTT.out.at_ (by omega) hs1 (by have := hbw0.out.size; omega)
        rwa [show ((ts.length - 1 : Nat) : Int) = (ts.length : Int) - 1 by omega] at this)
      have htl := T.tx_len hTT.out.ok
      have hil := T.ins_le
      have hsz4 := ht4.out
      have zT : (bs T.tx).size ≤ 80000 := by rw [bs_sizeL]; omega
      have zI : T.ins ≤ 512 := by omega
      have hz : Hid (x ++ bs T.tx = bs (opsT os ++ T.tx)) := Lib.hid (by rw [hx.out, bz_app])
      have hsz : Hid ((x ++ bs T.tx).size = (opsT os ++ T.tx).length) := Lib.hid (by rw [hz.out, bs_sizeL])
      clear htl hil hsz4 hx hs1 hs2 hsb
      go_wp2_with fail
      refine kE.out.mono ?_
      rintro e w3 ⟨rfl, hb3⟩
      have hBw := Lib.hid (belT hbw0.out hb3)
      clear kE hb3 hbw0 hP2 hgl2 d0 d1 hbw
      by_cases hi40 : T.ins + 1 ≤ 40
      · have hi40' : ¬ ((40 : Int) < (T.ins : Int) + 1) := by omega
        by_cases h40 : (x ++ bs T.tx).size ≤ 4096
        · have hv : Hid (Rv = some (opsT os ++ T.tx)) := Lib.hid (by
            rw [hRv.out]; unfold outV
            rw [if_pos ⟨hi40, by rw [← hsz.out]; exact h40⟩])
          have hn40 : ¬ ((4096 : Int) < ((x ++ bs T.tx).size : Int)) := by omega
          rw [ByteArray.size_append] at hn40 h40
          clear hsz
          go_wp2_with fail
          go_ret2
          exact ⟨by rw [hv.out]; show _ = Ending.returned (.tuple #[.string (bs (opsT os ++ T.tx)), .int .i64 0]); rw [← hz.out]; rfl, hBw.out⟩
        · have hv : Hid (Rv = none) := Lib.hid (by
            rw [hRv.out]; unfold outV
            rw [if_neg (by rintro ⟨_, h⟩; rw [← hsz.out] at h; exact h40 h)])
          have hn40 : (4096 : Int) < ((x ++ bs T.tx).size : Int) := by omega
          rw [ByteArray.size_append] at hn40 h40
          clear hsz
          go_wp2_with fail
          go_ret2
          exact ⟨by rw [hv.out]; rfl, hBw.out⟩
      · have hi40' : (40 : Int) < (T.ins : Int) + 1 := by omega
        have hv : Hid (Rv = none) := Lib.hid (by
            rw [hRv.out]; unfold outV
            rw [if_neg (by rintro ⟨h, _⟩; exact hi40 h)])
        clear hsz
        go_wp2_with fail
        go_ret2
        exact ⟨by rw [hv.out]; rfl, hBw.out⟩
end Go.Proofs.YtidlljookjicpaaGreatDoor
namespace Go.Proofs.YtidlljookjicpaaGreatDoor.shows
open Go.ChangeShapes Go.WideShapes Go.ChangeAt Go.RowKit
open Go.ChangeMaps (open_string shut_string)
set_option linter.unusedVariables false
set_option linter.unusedSimpArgs false

theorem tabs {W : World} (h : laidMetH Tryz.prog Rows.showsRow.laid W) : Hid (errTy W ∧ TabW W) := mixed_of h (.tail _ (.tail _ (.tail _ (.head _)))) (.tail _ (.tail _ (.head _)))
set_option maxRecDepth 100000 in
set_option maxHeartbeats 4000000 in
theorem walk {H : Type} {enc : TypeId × Value → H} (p0 : Option Addr) (n0 c0 : Nat) (p1 : Option Addr) (n1 c1 : Nat) (w : World)
    (f0 : ∃ fuel y, DataW.trod enc Tryz.prog w 0 (fun _ => true) true fuel 22 [.slice p0 n0 c0] = some y ∧ ∀ x ∈ DataW.weights Tryz.prog 22 y.1, x ≤ reachBytes)
    (f1 : ∃ fuel y, DataW.trod enc Tryz.prog w 0 (fun _ => true) true fuel 23 [.slice p1 n1 c1] = some y ∧ ∀ x ∈ DataW.weights Tryz.prog 23 y.1, x ≤ reachBytes) (hgt : Hid (errTy w ∧ TabW w)) :
    Calls Tryz.prog 3 #[.agg #[.slice p0 n0 c0, .slice p1 n1 c1]] w fun e w' => e = .returned (.bool true) ∧ Below w.heap.size w w' := by
  have hg := Lib.hid hgt.out.1
  have hTb := Lib.hid hgt.out.2
  obtain ⟨_, _, t0, t0'⟩ := f0
  obtain ⟨_, hl0, os, hO, hOz⟩ := ops_open t0 t0'
  obtain ⟨_, _, t1, t1'⟩ := f1
  obtain ⟨_, hl1, ts, hN, hNz⟩ := nodes_open t1 t1'
  clear t0 t0' t1 t1' hgt
  have hO' := Lib.hid hO; have hN' := Lib.hid hN
  have hOz' := Lib.hid hOz; have hNz' := Lib.hid hNz
  clear hO hN hOz hNz
  obtain ⟨T, hT⟩ := mayT_ex os ts
  have hTab := Lib.hid fun (W : World) (hb : Below w.heap.size w W) => tab_keep hTb.out hb (Nat.le_refl _)
  have kL := Lib.hid fun (W : World) (hb : Below w.heap.size w W) => lendProgram_any p0 p1 n0 c0 n1 c1 os ts W (Lib.hid (hO'.out.below hb)) (Lib.hid (hN'.out.below hb)) hl0 hl1
  have k1 := Lib.hid fun (g c g' c' : Nat) (W : World) (h : Hid (OArg W (some ⟨g, 0, none⟩) n0 os)) (h' : Hid (NArg W (some ⟨g', 0, none⟩) n1 ts)) (hb : Below w.heap.size w W) => Print_any (some ⟨g, 0, none⟩) (some ⟨g', 0, none⟩) n0 c n1 c' os ts T W h hOz' (by omega) h' hNz' (by omega) (Lib.hid (errTy_below hg.out hb)) (Lib.hid (hTab.out W hb)) hT
  have k2 := Lib.hid fun (W : World) (hb : Below w.heap.size w W) => rPrint_any p0 p1 n0 c0 n1 c1 os ts T W (Lib.hid (hO'.out.below hb)) hOz' (by omega) (Lib.hid (hN'.out.below hb)) hNz' (by omega) hT
  obtain ⟨E0, E1⟩ := prE_bd (prV os ts T)
  generalize prS (prV os ts T) = x at k1 k2
  generalize prE (prV os ts T) = E at k1 k2 E0 E1
  clear hT
  go_enter Tryz.func3, Tryz.ntmps3
  go_wp2_with fail
  have hP := Lib.hid (pg_lit w 25 w.heap.size rfl p0 p1 n0 c0 n1 c1)
  have hbA := Lib.hid (below_alc w (.cells #[.slice p0 n0 c0, .slice p1 n1 c1] 25))
  generalize w.alloc (.cells #[.slice p0 n0 c0, .slice p1 n1 c1] 25) = wA at hP hbA ⊢
  refine (kL.out _ hbA.out).mono ?_
  rintro e w1 ⟨gO, cO, gN, cN, rfl, hXO, hXN, hb1⟩
  have hXO' := Lib.hid hXO; have hXN' := Lib.hid hXN
  have hP := Lib.hid (hP.out.below hb1)
  have hB1 := Lib.hid (belT hbA.out hb1)
  clear hb1 hXO hXN kL hbA
  obtain ⟨z0, d0, d1⟩ := hP.out
  go_wp2_with fail
  have hQ := Lib.hid (pg_lit w1 25 w1.heap.size rfl (some ⟨gO, 0, none⟩) (some ⟨gN, 0, none⟩) n0 cO n1 cN)
  have hb2 := Lib.hid (below_alc w1 (.cells #[.slice (some ⟨gO, 0, none⟩) n0 cO, .slice (some ⟨gN, 0, none⟩) n1 cN] 25))
  generalize w1.alloc (.cells #[.slice (some ⟨gO, 0, none⟩) n0 cO, .slice (some ⟨gN, 0, none⟩) n1 cN] 25) = w2 at hQ hb2 ⊢
  have hP := Lib.hid (hP.out.below hb2.out)
  have hXO := Lib.hid (hXO'.out.below hb2.out)
  have hXN := Lib.hid (hXN'.out.below hb2.out)
  have hB2 := Lib.hid (belT hB1.out hb2.out)
  clear hb2 d0 d1 z0
  refine (k1.out _ _ _ _ _ (Lib.hid hXO.out.arg) (Lib.hid hXN.out.arg) hB2.out).mono ?_
  rintro e w3 ⟨rfl, hb3⟩
  have hP := Lib.hid (hP.out.below hb3)
  have hQ := Lib.hid (hQ.out.below hb3)
  have hXO := Lib.hid (hXO.out.below hb3)
  have hXN := Lib.hid (hXN.out.below hb3)
  have hB3 := Lib.hid (belT hB2.out hb3)
  clear hb3 k1
  obtain ⟨z0, d0, d1⟩ := hP.out
  go_wp2_with fail
  refine (k2.out _ hB3.out).mono ?_
  rintro e w4 ⟨rfl, hb4⟩
  have hP := Lib.hid (hP.out.below hb4)
  have hQ := Lib.hid (hQ.out.below hb4)
  have hXO := Lib.hid (hXO.out.below hb4)
  have hXN := Lib.hid (hXN.out.below hb4)
  have hB4 := Lib.hid (belT hB3.out hb4)
  clear hb4 k2 d0 d1 z0
  obtain ⟨z0, d0, d1⟩ := hP.out
  obtain ⟨y0, g0, g1⟩ := hQ.out
  have hxx : (x.toList == x.toList) = true := beq_self_eq_true _
  go_wp2_with ((go_at_call 11; refine (num_any _ _ (by omega) (by omega)).mono ?_; rintro e w' ⟨rfl, rfl⟩))
  refine (keptProgram_any gO n0 cO gN n1 cN p0 p1 c0 c1 os ts w4 hXO (Lib.hid (hO'.out.below hB4.out)) hXN (Lib.hid (hN'.out.below hB4.out)) (by omega) (by omega)).mono ?_
  rintro e w7 ⟨rfl, hb7⟩
  have hB7 := Lib.hid (belT hB4.out hb7)
  go_wp2_with fail
  refine (awake5_any w7 (Lib.hid (errTy_below hg.out hB7.out)) (Lib.hid (hTab.out _ hB7.out))).mono ?_
  rintro e w8 ⟨rfl, hb8⟩
  have hB8 := Lib.hid (belT hB7.out hb8)
  go_wp2_with fail
  go_ret
  exact ⟨rfl, hB8.out⟩
theorem own : ownKnob Tryz.prog.godebug = none := by kernel_rfl
theorem laidOut : laidOutB Tryz.prog = true := by kernel_rfl
set_option maxRecDepth 100000 in
theorem contract (H : Type) (enc : TypeId × Value → H) (W : World) (base : Nat) (args : Array Value) (ds gs : List (DataW H)) (before : List MemPlace)
    (hval0 : ∀ (j : Nat) t v, Tryz.f3.params[j]? = some t → args[j]? = some v → Value.okWide Tryz.prog W .any base t v)
    (hW : DataW.Whole enc Tryz.prog Tryz.f3.params.toList Rows.showsSpec.vars false W args.toList ds gs before)
    (hsz0 : (DataW.weightsEach Tryz.prog (Tryz.f3.params.toList ++ Rows.showsSpec.plain.varTypes Tryz.prog) (ds ++ gs)).all (· ≤ reachBytes) = true)
    (hL : laidMetH Tryz.prog Rows.showsRow.laid W)
    : Calls Tryz.prog 3 args W fun e W' => ∃ v, e = .returned v ∧ Rows.showsSpec.post enc Tryz.prog Tryz.f3 false true false false W args v W' := by
  have hval : ∀ (j : Nat) t v, Tryz.f3.params[j]? = some t → args[j]? = some v → Value.okWide Tryz.prog W .any base t v := hval0
  have hsz : (DataW.weightsEach Tryz.prog (Tryz.f3.params.toList ++ Rows.showsSpec.plain.varTypes Tryz.prog) (ds ++ gs)).all (· ≤ reachBytes) = true := hsz0
  have hW' := hW
  obtain ⟨p, q, hA0, hV, rfl, hfz, hnd⟩ := hW
  have hA : DataW.TrodAll enc Tryz.prog W 0 (fun _ => true) true Tryz.f3.params.toList args.toList ds p := hA0
  rw [Tryz.params3] at hA hval hsz
  obtain ⟨v0, vs0, d0, ds0, p0, q0, hargs, rfl, rfl, h0, r0⟩ := trodAll_cons hA
  obtain ⟨rfl, rfl, rfl⟩ := trodAll_nil r0
  obtain rfl : args = #[v0] := by cases args; simp_all
  obtain ⟨rfl, rfl⟩ := trodVars_none hV
  have k0 := h0
  have lt0 : ∀ x ∈ p0, x.block < W.heap.size := by obtain ⟨m, hm⟩ := k0; exact DataW.trod_lt m _ _ _ hm
  obtain ⟨cs0_0, rfl, fit0_0⟩ := open_struct Tryz.underlying25 (f := 6) (by kernel_rfl : flat Tryz.prog 6 25 = some [.sl 22, .sl 23]) (hval 0 25 v0 rfl rfl) h0 (sized_of hsz (j := 0) (t := 25) rfl rfl)
  obtain ⟨_, cs0_1, rfl, ⟨a0_0, n0_0, c0_0, fu0_0, y0_0, rfl, f0_0, g0_0⟩, fit0_1⟩ := fit_i fit0_0
  obtain ⟨_, cs0_2, rfl, ⟨a0_1, n0_1, c0_1, fu0_1, y0_1, rfl, f0_1, g0_1⟩, fit0_2⟩ := fit_i fit0_1
  obtain rfl := fit_nil fit0_2
  clear hA0 hval0
  refine (walk a0_0 n0_0 c0_0 a0_1 n0_1 c0_1 W ⟨_, _, f0_0, g0_0⟩ ⟨_, _, f0_1, g0_1⟩ (tabs hL)).mono fun e W' ⟨he, bel⟩ => ?_
  subst he
  exact ⟨_, rfl, _, _, _, [], _, [], hW', trodAll_mk1 (shut_bool Tryz.underlying4 _), (trodAll_cons_mk (Below.trod laidOut (by kernel_rfl) (of_decide_eq_true (by kernel_rfl)) k0 bel lt0) trodAll_mk0), rfl, bel.frame _, fun h => by cases h⟩
noncomputable def mixWorld (os : Os) : World := { World.holding Tryz.prog os ⟨#[], #[], []⟩ with heap := (layAll Tryz.prog Rows.showsRow.laid (World.holding Tryz.prog os ⟨#[], #[], []⟩).heap).modify 0 fun | .cells _ t frozen => .cells #[.iface 138 (.agg #[.pointer (some ⟨4, 61, none⟩)])] t frozen | o => o }
theorem laid_met (os : Os) : laidMetH Tryz.prog Rows.showsRow.laid ((mixWorld os).forCall (fun _ _ => 0) ⟨#[], #[.agg #[.slice none 0 0, .slice none 0 0]], []⟩).memory := laidMetH_of_parts (laidMet_of_run' 8 (by kernel_rfl) (by kernel_rfl)) (by kernel_rfl)
theorem reads (os : Os) {H : Type} (enc : TypeId × Value → H) : ∃ places, DataW.whole enc Tryz.prog ((mixWorld os).forCall (fun _ _ => 0) ⟨#[], #[.agg #[.slice none 0 0, .slice none 0 0]], []⟩).memory Tryz.f3.params.toList Rows.showsSpec.vars false #[(.agg #[.slice none 0 0, .slice none 0 0] : Value)].toList 8 = some ([.agg [.nil, .nil]], [], places) := ⟨[], by kernel_rfl⟩
set_option maxRecDepth 100000 in
theorem lifted (os : Os) (started : os.Started) (H : Type) (enc : TypeId × Value → H) (F : Stop.Interp) :
    ReturnsInHanded {} Tryz.checked os 3 .any ((OpenSpec.ofChange Rows.showsSpec).preRow enc Tryz.prog Tryz.f3 Rows.showsRow.domain false Rows.showsRow.laid) (((OpenSpec.ofChange Rows.showsSpec).at F).post enc Tryz.prog Tryz.f3 false true false false) := by
  obtain ⟨places, hx⟩ := reads os enc
  refine returnsInHanded_of_row (C := Tryz.checked) (s := (OpenSpec.ofChange Rows.showsSpec)) own started (by kernel_rfl) Tryz.func3
    (witness_row_at (enc := enc) (C := Tryz.checked) false (mixWorld os) #[.agg #[.slice none 0 0, .slice none 0 0]] rfl (by kernel_rfl) (by kernel_rfl) (by kernel_rfl)
      (OpenSpec.preRow_of_cond 8 hx (by kernel_rfl) (fun k hk => by cases hk) (by kernel_rfl) (laid_met os))) ?_
  intro W base args ds gs before hval hW _ hcnd hsz hL _ _
  exact contract H enc W base args ds gs before hval hW hsz  hL
theorem said : Rows.ShowsSaid :=
  OpenClaim.holds_of_cond 3 Tryz.f3 rfl rfl rfl rfl rfl rfl rfl ⟨rfl, rfl, rfl, rfl, rfl⟩ rfl rfl rfl rfl rfl (by kernel_rfl) Tryz.func3 (by kernel_rfl)
    (of_decide_eq_true (by kernel_rfl)) (by unfold Func.isWrapper; first | (rw [if_pos (by decide +kernel)]; kernel_rfl) | (rw [if_neg (by decide +kernel)]; exact ⟨rfl, rfl⟩))
    (fun os started H enc _ F => by rw [OpenClaim.pre_eq_preRow]; exact lifted os started H enc F)
theorem plain (f : FuncId) (fn : Func) (hf : Tryz.pinned.checked.prog.funcNamed "trammel/trammellaw5.Shows" = some f) (hfn : Tryz.pinned.checked.prog.funcs[f]? = some fn) :
    true = Tryz.pinned.checked.prog.looks [] ∧ ∀ (j : Nat) t, fn.params[j]? = some t → Tryz.pinned.checked.prog.wantsStandIn t = false := by
  obtain rfl : f = 3 := Option.some.inj ((show Tryz.prog.funcNamed "trammel/trammellaw5.Shows" = some 3 by kernel_rfl).symm.trans hf) |>.symm
  obtain rfl : fn = Tryz.f3 := (Option.some.inj (Tryz.func3.symm.trans hfn)).symm
  refine ⟨by kernel_rfl, fun j t ht => ?_⟩
  rw [Tryz.params3] at ht
  have hm := Array.mem_of_getElem? ht
  have hm2 : t ∈ ([25] : List Nat) := by simpa using hm
  simp only [List.mem_cons, List.not_mem_nil, or_false] at hm2
  subst hm2; exact (show Tryz.prog.wantsStandIn 25 = false by kernel_rfl)
theorem proved : Rows.ShowsCardSaid :=
  Claim7.holds_tied_plain_at .later [] _ _ _ _ said (fun _ h => by cases h) (by kernel_rfl) (fun _ h => by cases h) shows_row_tie rfl ⟨rfl, rfl⟩ (by kernel_rfl) rfl plain (by kernel_rfl)
end Go.Proofs.YtidlljookjicpaaGreatDoor.shows
