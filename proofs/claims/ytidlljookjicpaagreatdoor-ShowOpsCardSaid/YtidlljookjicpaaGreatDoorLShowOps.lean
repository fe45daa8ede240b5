/- ShowOps holds for every row of operations and every number. No condition but that the listed package variables hold what the program's text lays. -/
import Derived.Test.YtidlljookjicpaaGreatDoorPwP
import Derived.Test.YtidlljookjicpaaGreatDoorPpA
import Derived.Test.YtidlljookjicpaaGreatDoorDec
import Derived.Test.YtidlljookjicpaaGreatDoorNdIn
import Derived.Test.YtidlljookjicpaaGreatDoorPrg
import Derived.Test.YtidlljookjicpaaGreatDoorPwH
import Derived.Test.YtidlljookjicpaaGreatDoorAid
import Derived.Deep.RegionWith
import Derived.Test.YtidlljookjicpaaGreatDoorRgT
import Derived.Test.YtidlljookjicpaaGreatDoorCards
import Derived.Test.YtidlljookjicpaaGreatDoorTie
import Derived.Test.YtidlljookjicpaaGreatDoorOpn
import Derived.Test.YtidlljookjicpaaGreatDoorHan
import Derived.WalkKit
import Derived.ProofKit
import Derived.Deep.DeepHandedRow
namespace Go.Proofs.YtidlljookjicpaaGreatDoor.showOps
open Go.ChangeShapes Go.WideShapes Go.ChangeAt Go.RowKit
open Go.ChangeMaps (open_string shut_string)
set_option linter.unusedVariables false
set_option linter.unusedSimpArgs false

theorem tabs {W : World} (h : laidMetH Tryz.prog Rows.showOpsRow.laid W) : Hid (errTy W ∧ TabW W) := mixed_of h (.tail _ (.tail _ (.tail _ (.head _)))) (.tail _ (.tail _ (.head _)))
def qO (i : Nat) (o : Or) : Or := ⟨(⟨#[113]⟩ : ByteArray) ++ bs (Lib.itoa (i : Int)), bits .and .i64 o.f 1, bits .and .i64 o.t 1⟩
def qL (os : List Or) (j : Nat) : List Or := (List.range j).map fun i => qO i (os.getD i or0)
theorem qL_succ (os : List Or) (j : Nat) : qL os (j + 1) = qL os j ++ [qO j (os.getD j or0)] := by simp [qL, List.range_succ]
theorem qL_len (os : List Or) (j : Nat) : (qL os j).length = j := by simp [qL]
theorem qO_ok (i : Nat) (h : i < 4) (o : Or) : orOk (qO i o) ∧ opOk (qO i o) = true ∧ OrSz (qO i o) := by
  have hf : (qO i o).f = 0 ∨ (qO i o).f = 1 := by show bits .and .i64 o.f 1 = 0 ∨ bits .and .i64 o.f 1 = 1; rw [and1]; omega
  have ht : (qO i o).t = 0 ∨ (qO i o).t = 1 := by show bits .and .i64 o.t 1 = 0 ∨ bits .and .i64 o.t 1 = 1; rw [and1]; omega
  have hn : nmB (qO i o).nm.data.toList = true := by
    show nmB ((⟨#[113]⟩ : ByteArray) ++ bs (Lib.itoa (i : Int))).data.toList = true
    rw [itoa_dig i (by omega)]
    have hcs : i = 0 ∨ i = 1 ∨ i = 2 ∨ i = 3 := by omega
    rcases hcs with rfl | rfl | rfl | rfl <;> decide +kernel
  refine ⟨⟨hn, hf, ht⟩, ?_, nm_sz hn⟩
  unfold opOk baseB
  rw [hn, decide_eq_true hf, decide_eq_true ht]; rfl
theorem qL_all (os : List Or) (j : Nat) (h : j ≤ 4) : ∀ o ∈ qL os j, orOk o ∧ opOk o = true ∧ OrSz o := by
  intro o ho
  obtain ⟨i, hi, rfl⟩ := List.mem_map.1 ho
  exact qO_ok i (by have := List.mem_range.1 hi; omega) _
def nI (v : Int) : Nd := ⟨1, 0, 0, 0, v, ⟨#[]⟩, ⟨#[]⟩, ⟨#[]⟩, ⟨#[]⟩, 0⟩
theorem nI_T (os : List Or) (j : Nat) (h : j ≤ 4) (v : Int) (h0 : 0 ≤ v) (h1 : v ≤ 1023) : MayT (qL os j) [nI v] (.int v) :=
  mayT_of (T := .int v) ⟨h0, by omega⟩ (fun o ho => (qL_all os j h o ho).1) (by rw [qL_len]; exact h) (by show 1 ≤ 512; omega) rfl
theorem nI_may (os : List Or) (j : Nat) (h : j ≤ 4) (v : Int) (h0 : 0 ≤ v) (h1 : v ≤ 1023) : mayV (qL os j) [nI v] = true := by
  unfold mayV
  rw [opsV_ok (by rw [qL_len]; exact h) (List.all_eq_true.2 fun o ho => (qL_all os j h o ho).2.1), tree_c]
  unfold treeC
  have hk : okC true (nI v) = true := by
    unfold okC nI
    simp only [plainC, numB, namedB, namesL]
    simp; omega
  have hb : bg (ksN [nI v]) 0 = 0 := bg_nil _ _ rfl
  simp [hk, hb]
theorem nI_pr (os : List Or) (j : Nat) (h : j ≤ 4) (v : Int) (h0 : 0 ≤ v) (h1 : v ≤ 1023) : prV (qL os j) [nI v] (.int v) = some (opsT (qL os j) ++ Lib.itoa v) ∧ (opsT (qL os j) ++ Lib.itoa v).length ≤ 200 := by
  have hl := opsT_len (os := qL os j) fun o ho => (qL_all os j h o ho).1
  rw [qL_len] at hl
  have hi := itoa_l30 h0 (by omega : v ≤ 1073741823)
  refine ⟨?_, by rw [List.length_append]; omega⟩
  unfold prV outV
  rw [nI_may os j h v h0 h1, if_pos rfl, if_pos ⟨by show 0 + 1 ≤ 40; omega, by show (opsT (qL os j) ++ Lib.itoa v).length ≤ _; rw [List.length_append]; omega⟩]
  rfl
section
variable {P : Program} {ops : Array Oper} {Q : Exit → Act → World → Prop} {md : Region.Mode} {S : World → Prop}
theorem rg_two (i j : Nat) {o p : Oper} {fuel : Nat} {listed : Array Bool} {a : Act} {w : World} (hi : ops[i]? = some o) (hj : ops[j]? = some p) (hr : Region.ready md ops listed = [i, j]) (hw : Region.wanted o (yielded ops a.tmps) = true) (hw' : Region.wanted p (yielded ops a.tmps) = true)
    (h : ∀ K' : Act → World → Prop, Shut (∀ a w, S w → (S w → wpAnyH P md ops Q S fuel (listed.setIfInBounds i true) a w) → K' a w) → Oper.wp P o a w K' Q)
    (h' : ∀ K' : Act → World → Prop, Shut (∀ a w, S w → (S w → wpAnyH P md ops Q S fuel (listed.setIfInBounds j true) a w) → K' a w) → Oper.wp P p a w K' Q) : wpAnyH P md ops Q S (fuel + 1) listed a w := by
  refine wpAnyH_ready hr (by simp) (AllReadyH.cons hi (fun K hK => ?_) (AllReadyH.cons hj (fun K hK => ?_) AllReadyH.nil))
  · rw [if_pos hw]; exact h K hK
  · rw [if_pos hw']; exact h' K hK
end
theorem opB_eq2 (s : List UInt8) (o : Or) : (((((((bs s ++ (⟨#[111, 112, 32]⟩ : ByteArray)) ++ o.nm) ++ ⟨#[32, 58, 32]⟩) ++ bs (bsT o.f)) ++ ⟨#[32, 45, 62, 32]⟩) ++ bs (bsT o.t)) ++ ⟨#[59, 32]⟩) = bs (s ++ opT o) := by
  apply ba_x
  simp [opT, bs]
set_option maxRecDepth 100000 in
set_option maxHeartbeats 4000000 in
theorem walk {H : Type} {enc : TypeId × Value → H} (p0 : Option Addr) (n0 c0 : Nat) (a1 : Int) (w : World)
    (f0 : ∃ fuel y, DataW.trod enc Tryz.prog w 0 (fun _ => true) true fuel 22 [.slice p0 n0 c0] = some y ∧ ∀ x ∈ DataW.weights Tryz.prog 22 y.1, x ≤ reachBytes)
    (b1 : -9223372036854775808 ≤ a1 ∧ a1 ≤ 9223372036854775807) (hgt : Hid (errTy w ∧ TabW w)) :
    Calls Tryz.prog 7 #[.slice p0 n0 c0, .int .i64 a1] w fun e w' => e = .returned (.bool true) ∧ Below w.heap.size w w' := by
  have hg := Lib.hid hgt.out.1
  have hTb := Lib.hid hgt.out.2
  obtain ⟨_, _, t0, t0'⟩ := f0
  obtain ⟨_, hl0, os, hO, hOz⟩ := ops_open t0 t0'
  clear t0 t0' hgt hOz
  have hO' := Lib.hid hO
  have hn0 := Lib.hid hO.1
  have hat : Hid (∀ j, j < n0 → ∃ b off, p0 = some ⟨b, off, none⟩ ∧ OrAt w b off (os.getD j or0) j ∧ b < w.heap.size) := Lib.hid fun j hj => by
    rcases hO.2 with h0 | ⟨b, off, h1, h2, h3⟩
    · have := hn0.out; rw [h0] at this; simp at this; omega
    · exact ⟨b, off, h1, h2 j (by have := hn0.out; omega), h3⟩
  clear hO
  obtain ⟨v, hv⟩ : ∃ v, bits .and .i64 a1 1023 = v := ⟨_, rfl⟩
  have hv0 : 0 ≤ v ∧ v ≤ 1023 := by rw [← hv, and1023]; omega
  obtain ⟨hv0, hv1⟩ := hv0
  have hTab := Lib.hid fun (W : World) (hb : Below w.heap.size w W) => tab_keep hTb.out hb (Nat.le_refl _)
  have hEr := Lib.hid fun (W : World) (hb : Below w.heap.size w W) => errTy_below hg.out hb
  have kA := Lib.hid (awake5_any w hg hTb)
  go_enter Tryz.func7, Tryz.ntmps7
  go_wp2_with fail
  refine kA.out.mono ?_
  rintro e w1 ⟨rfl, hb1⟩
  have hB1 := Lib.hid hb1
  clear hb1 kA
  go_wp2_with fail
  go_loopw [5, 6, 7] (fun pv sv iv wr => ∃ (j : Nat) (x : ByteArray), j ≤ n0 ∧ j ≤ 4 ∧ iv = .int .i64 j ∧ sv = .string x ∧ Hid (x = bs (opsT (qL os j))) ∧ x.size ≤ j * 36 ∧ Below w.heap.size w wr ∧ Hid (OwnO w.heap.size wr pv (qL os j))) (fun _ _ iv _ => n0 - (intOf iv).toNat)
  case atStart => exact ⟨0, ⟨#[]⟩, by omega, by omega, rfl, rfl, Lib.hid rfl, by decide, hB1.out, Lib.hid (OwnO.nil _ _)⟩
  case round =>
    obtain ⟨j, x, hj, hj4, rfl, rfl, hx, hxs, hbw, hown⟩ := hrel
    have hws := hbw.size
    by_cases hlt : j < n0 ∧ j < 4
    · obtain ⟨hlt, hlt4⟩ := hlt
      obtain ⟨b, off, rfl, hA, hbs⟩ := hat.out j hlt
      have hT := hA.below hbw hbs
      have hsT := Lib.hid (qL_succ os j)
      generalize os.getD j or0 = o at hT hsT
      obtain ⟨e0, e1, e2⟩ := hT
      have hbr : b < wr.heap.size := by omega
      have hlt' : (j : Int) < (n0 : Int) := by omega
      have hlt4' : (j : Int) < 4 := by omega
      have hj0 : (0 : Int) ≤ (j : Int) := by omega
      obtain ⟨qd, hqd⟩ : ∃ q, bs (Lib.itoa (j : Int)) = q := ⟨_, rfl⟩
      have kD := Lib.hid fun (W : World) (hW : Below wr.heap.size wr W) => (show Calls Tryz.prog 18 #[.int .i64 (j : Int)] W (fun e w' => e = .returned (.string qd) ∧ Below W.heap.size W w' ∧ w'.cell? ⟨b, off + j * 3 + 1, none⟩ = some (.int .i64 o.f) ∧ w'.cell? ⟨b, off + j * 3 + 2, none⟩ = some (.int .i64 o.t) ∧ b < w'.heap.size ∧ Below wr.heap.size wr w') from (dec_any (j : Int) W (by omega) (by omega)).mono fun e w' h => ⟨h.1.trans (by rw [← hqd]; rfl), h.2, carry (belT hW h.2) hbr e1, carry (belT hW h.2) hbr e2, Nat.lt_of_lt_of_le hbr (belT hW h.2).size, belT hW h.2⟩)
      have hdz : qd.size ≤ 4 := by rw [← hqd, itoa_dig j (by omega)]; show 1 ≤ 4; omega
      have hqH := Lib.hid hqd
      clear hqd
      obtain ⟨ao, na, ca, rfl, hob⟩ : ∃ ao na ca, _ = Value.slice ao na ca ∧ Hid (∀ k, (Value.slice ao na ca).ownBlock = some k → w.heap.size ≤ k ∧ k < wr.heap.size) := by
        rcases hown.out.cases with ⟨h1, _⟩ | ⟨g, c, h1, h2, h3, _⟩
        · exact ⟨_, _, _, h1, Lib.hid fun k hk => by simp [Value.ownBlock] at hk⟩
        · exact ⟨_, _, _, h1, Lib.hid fun k hk => by simp [Value.ownBlock] at hk; subst hk; exact ⟨h2, h3⟩⟩
      go_upto_region 8 with fail
      go_cut [8] (fun s8 W => ∃ g8, s8 = .pointer (some ⟨g8, 0, none⟩) ∧ BxO W g8 (qO j o) ∧ wr.heap.size ≤ g8 ∧ Below wr.heap.size wr W)
      case first =>
        refine wp_region_held_drew (S := fun W => Below wr.heap.size wr W) (by kernel_rfl) ((Below.refl _ _).drew) (fun hHeld => ?_)
        refine rg_take 0 (some 26) (v := ?va1) rfl rfl (by kernel_rfl) (by kernel_rfl) (by kernel_rfl) (fun _ _ _ h => h) (by rfl) ?hya1 (by assumption) ?_
        case hya1 => intro W hSW; (try dsimp only at hSW); go_simp; (try with_reducible rfl)
        try simp only [Act.put, List.setIfInBounds_toArray, List.set_cons_zero, List.set_cons_succ]
        refine rg_take 3 (some 29) (v := ?va2) rfl rfl (by kernel_rfl) (by kernel_rfl) (by kernel_rfl) (fun _ _ _ h => h) (by rfl) ?hya2 (by assumption) ?_
        case hya2 => intro W hSW; (try dsimp only at hSW); go_simp; (try with_reducible rfl)
        try simp only [Act.put, List.setIfInBounds_toArray, List.set_cons_zero, List.set_cons_succ]
        refine rg_take 4 (some 30) (v := ?va3) rfl rfl (by kernel_rfl) (by kernel_rfl) (by kernel_rfl) (fun _ _ _ h => h) (by rfl) ?hya3 (by assumption) ?_
        case hya3 => intro W hSW; (try dsimp only at hSW); go_simp; (try with_reducible rfl)
        try simp only [Act.put, List.setIfInBounds_toArray, List.set_cons_zero, List.set_cons_succ]
        refine rg_take 5 (some 31) (v := ?va4) rfl rfl (by kernel_rfl) (by kernel_rfl) (by kernel_rfl) (fun _ _ _ h => h) (by rfl) ?hya4 (by assumption) ?_
        case hya4 => intro W hSW; (try dsimp only at hSW); go_simp; (try with_reducible rfl)
        try simp only [Act.put, List.setIfInBounds_toArray, List.set_cons_zero, List.set_cons_succ]
        refine rg_take 6 (some 32) (v := ?va5) rfl rfl (by kernel_rfl) (by kernel_rfl) (by kernel_rfl) (fun _ _ _ h => h) (by rfl) ?hya5 (by assumption) ?_
        case hya5 => intro W hSW; (try dsimp only at hSW); go_simp; (try with_reducible rfl)
        try simp only [Act.put, List.setIfInBounds_toArray, List.set_cons_zero, List.set_cons_succ]
        refine rg_take 7 (some 33) (v := ?va6) rfl rfl (by kernel_rfl) (by kernel_rfl) (by kernel_rfl) (fun _ _ _ h => h) (by rfl) ?hya6 (by assumption) ?_
        case hya6 => intro W hSW; have c1 := carry hSW hbr e1; have c2 := carry hSW hbr e2; have c3 := Nat.lt_of_lt_of_le hbr hSW.size; go_simp; (try with_reducible rfl)
        try simp only [Act.put, List.setIfInBounds_toArray, List.set_cons_zero, List.set_cons_succ]
        refine rg_take 8 (some 34) (v := ?va7) rfl rfl (by kernel_rfl) (by kernel_rfl) (by kernel_rfl) (fun _ _ _ h => h) (by rfl) ?hya7 (by assumption) ?_
        case hya7 => intro W hSW; (try dsimp only at hSW); go_simp; (try with_reducible rfl)
        try simp only [Act.put, List.setIfInBounds_toArray, List.set_cons_zero, List.set_cons_succ]
        refine rg_take 9 (some 35) (v := ?va8) rfl rfl (by kernel_rfl) (by kernel_rfl) (by kernel_rfl) (fun _ _ _ h => h) (by rfl) ?hya8 (by assumption) ?_
        case hya8 => intro W hSW; (try dsimp only at hSW); go_simp; (try with_reducible rfl)
        try simp only [Act.put, List.setIfInBounds_toArray, List.set_cons_zero, List.set_cons_succ]
        refine rg_take 10 (some 36) (v := ?va9) rfl rfl (by kernel_rfl) (by kernel_rfl) (by kernel_rfl) (fun _ _ _ h => h) (by rfl) ?hya9 (by assumption) ?_
        case hya9 => intro W hSW; (try dsimp only at hSW); go_simp; (try with_reducible rfl)
        try simp only [Act.put, List.setIfInBounds_toArray, List.set_cons_zero, List.set_cons_succ]
        refine rg_take 11 (some 37) (v := ?va10) rfl rfl (by kernel_rfl) (by kernel_rfl) (by kernel_rfl) (fun _ _ _ h => h) (by rfl) ?hya10 (by assumption) ?_
        case hya10 => intro W hSW; (try dsimp only at hSW); go_simp; (try with_reducible rfl)
        try simp only [Act.put, List.setIfInBounds_toArray, List.set_cons_zero, List.set_cons_succ]
        refine rg_take 12 (some 38) (v := ?va11) rfl rfl (by kernel_rfl) (by kernel_rfl) (by kernel_rfl) (fun _ _ _ h => h) (by rfl) ?hya11 (by assumption) ?_
        case hya11 => intro W hSW; (try dsimp only at hSW); go_simp; (try with_reducible rfl)
        try simp only [Act.put, List.setIfInBounds_toArray, List.set_cons_zero, List.set_cons_succ]
        refine rg_take 13 (some 39) (v := ?va12) rfl rfl (by kernel_rfl) (by kernel_rfl) (by kernel_rfl) (fun _ _ _ h => h) (by rfl) ?hya12 (by assumption) ?_
        case hya12 => intro W hSW; have c1 := carry hSW hbr e1; have c2 := carry hSW hbr e2; have c3 := Nat.lt_of_lt_of_le hbr hSW.size; go_simp; (try with_reducible rfl)
        try simp only [Act.put, List.setIfInBounds_toArray, List.set_cons_zero, List.set_cons_succ]
        refine rg_take 14 (some 40) (v := ?va13) rfl rfl (by kernel_rfl) (by kernel_rfl) (by kernel_rfl) (fun _ _ _ h => h) (by rfl) ?hya13 (by assumption) ?_
        case hya13 => intro W hSW; (try dsimp only at hSW); go_simp; (try with_reducible rfl)
        try simp only [Act.put, List.setIfInBounds_toArray, List.set_cons_zero, List.set_cons_succ]
        refine rg_two 1 16 rfl rfl (by kernel_rfl) (by rfl) (by rfl) (fun K hK => ?callf) (fun K hK => ?allocf)
        case callf =>
          go_simp
          refine (kD.out _ ((Below.refl _ _).drew)).mono ?_
          rintro e wD ⟨rfl, hbD, -, -, -, hD4⟩
          refine hK.out _ _ hD4 (fun hH1 => ?_)
          clear hK K
          try simp only [Act.put, List.setIfInBounds_toArray, List.set_cons_zero, List.set_cons_succ]
          refine rg_take 2 (some 28) (v := ?vd1) rfl rfl (by kernel_rfl) (by kernel_rfl) (by kernel_rfl) (fun _ _ _ h => h) (by rfl) ?hyd1 (by assumption) ?_
          case hyd1 => intro W hSW; (try dsimp only at hSW); go_simp; rw [if_neg (by omega)]
          try simp only [Act.put, List.setIfInBounds_toArray, List.set_cons_zero, List.set_cons_succ]
          refine rg_take 15 (some 41) (v := ?vd2) rfl rfl (by kernel_rfl) (by kernel_rfl) (by kernel_rfl) (fun _ _ _ h => h) (by rfl) ?hyd2 (by assumption) ?_
          case hyd2 => intro W hSW; (try dsimp only at hSW); go_simp; (try with_reducible rfl)
          try simp only [Act.put, List.setIfInBounds_toArray, List.set_cons_zero, List.set_cons_succ]
          refine rg_one 16 rfl (by kernel_rfl) (by rfl) (fun K hK => ?_)
          go_simp
          refine hK.out _ _ (hH1.trans (show Below wr.heap.size wD _ from by have := hH1.size; (repeat' (first | with_reducible exact Below.refl _ _ | with_reducible assumption | with_reducible apply Below.setCell | with_reducible apply Below.alloc | with_reducible apply Below.drew | with_reducible apply below_drewN | with_reducible exact Nat.le_refl _ | (simp; done) | (simp; omega) | omega | exact Nat.le_refl _)))) (fun hH16 => ?_)
          clear hK K
          try simp only [Act.put, List.setIfInBounds_toArray, List.set_cons_zero, List.set_cons_succ]
          refine rg_one 17 rfl (by kernel_rfl) (by rfl) (fun K hK => ?_)
          go_simp
          refine hK.out _ _ (hH1.trans (show Below wr.heap.size wD _ from by have := hH1.size; (repeat' (first | with_reducible exact Below.refl _ _ | with_reducible assumption | with_reducible apply Below.setCell | with_reducible apply Below.alloc | with_reducible apply Below.drew | with_reducible apply below_drewN | with_reducible exact Nat.le_refl _ | (simp; done) | (simp; omega) | omega | exact Nat.le_refl _)))) (fun hH17 => ?_)
          clear hK K
          try simp only [Act.put, List.setIfInBounds_toArray, List.set_cons_zero, List.set_cons_succ]
          refine wpAnyH_done (by kernel_rfl) ?_ _
          go_wp2_with fail
          go_meet
          exact ⟨_, rfl, by rw [← hqH.out]; exact bxo_lit wD (qO j o), hH1.size, hH17⟩
        case allocf =>
          go_simp
          refine hK.out _ _ (show Below wr.heap.size wr _ from by (repeat' (first | with_reducible exact Below.refl _ _ | with_reducible assumption | with_reducible apply Below.setCell | with_reducible apply Below.alloc | with_reducible apply Below.drew | with_reducible apply below_drewN | with_reducible exact Nat.le_refl _ | (simp; done) | (simp; omega) | omega | exact Nat.le_refl _))) (fun hH16 => ?_)
          clear hK K
          try simp only [Act.put, List.setIfInBounds_toArray, List.set_cons_zero, List.set_cons_succ]
          have hzb : Hid (((wr.alloc (.cells #[.string ⟨#[]⟩, .int .i64 0, .int .i64 0] 48)).drew).heap[wr.heap.size]? = some (.cells #[.string ⟨#[]⟩, .int .i64 0, .int .i64 0] 48 (0, 0)) ∧ wr.heap.size < ((wr.alloc (.cells #[.string ⟨#[]⟩, .int .i64 0, .int .i64 0] 48)).drew).heap.size) := Lib.hid ⟨by show (wr.heap.push _)[wr.heap.size]? = _; rw [Array.getElem?_push_size], by show wr.heap.size < (wr.heap.push _).size; simp⟩
          generalize (wr.alloc (.cells #[.string ⟨#[]⟩, .int .i64 0, .int .i64 0] 48)).drew = WB at hH16 hzb ⊢
          refine rg_one 1 rfl (by kernel_rfl) (by rfl) (fun K hK => ?_)
          go_simp
          refine (kD.out _ hH16).mono ?_
          rintro e wD ⟨rfl, hbD, -, -, -, hD4⟩
          refine hK.out _ _ hD4 (fun hH1 => ?_)
          clear hK K
          try simp only [Act.put, List.setIfInBounds_toArray, List.set_cons_zero, List.set_cons_succ]
          refine rg_take 2 (some 28) (v := ?vf1) rfl rfl (by kernel_rfl) (by kernel_rfl) (by kernel_rfl) (fun _ _ _ h => h) (by rfl) ?hyf1 (by assumption) ?_
          case hyf1 => intro W hSW; (try dsimp only at hSW); go_simp; rw [if_neg (by omega)]
          try simp only [Act.put, List.setIfInBounds_toArray, List.set_cons_zero, List.set_cons_succ]
          refine rg_take 15 (some 41) (v := ?vf2) rfl rfl (by kernel_rfl) (by kernel_rfl) (by kernel_rfl) (fun _ _ _ h => h) (by rfl) ?hyf2 (by assumption) ?_
          case hyf2 => intro W hSW; (try dsimp only at hSW); go_simp; (try with_reducible rfl)
          try simp only [Act.put, List.setIfInBounds_toArray, List.set_cons_zero, List.set_cons_succ]
          have hb0 := (hbD.block wr.heap.size hzb.out.2).trans hzb.out.1
          have z0 : wD.cell? ⟨wr.heap.size, 0, none⟩ = some (.string ⟨#[]⟩) := (Lib.cell_of_heap hb0 0).trans rfl
          have z1 : wD.cell? ⟨wr.heap.size, 1, none⟩ = some (.int .i64 0) := (Lib.cell_of_heap hb0 1).trans rfl
          have z2 : wD.cell? ⟨wr.heap.size, 2, none⟩ = some (.int .i64 0) := (Lib.cell_of_heap hb0 2).trans rfl
          have zf : ∀ q, wD.frozen? ⟨wr.heap.size, q, none⟩ = false := fun q => Lib.frozen_of_heap hb0 q
          have zl : wr.heap.size < wD.heap.size := Nat.lt_of_lt_of_le hzb.out.2 hbD.size
          have hbx : Hid (BxO (((wD.setCell ⟨wr.heap.size, 0, none⟩ (.string ((⟨#[113]⟩ : ByteArray) ++ qd))).setCell ⟨wr.heap.size, 1, none⟩ (.int .i64 (bits .and .i64 o.f 1))).setCell ⟨wr.heap.size, 2, none⟩ (.int .i64 (bits .and .i64 o.t 1))) wr.heap.size (qO j o)) := Lib.hid (by
            rw [← hqH.out]; unfold BxO; simp [World.setCell, Array.getElem?_modify, hb0, qO])
          have hbs3 : Hid (Below wr.heap.size wr (((wD.setCell ⟨wr.heap.size, 0, none⟩ (.string ((⟨#[113]⟩ : ByteArray) ++ qd))).setCell ⟨wr.heap.size, 1, none⟩ (.int .i64 (bits .and .i64 o.f 1))).setCell ⟨wr.heap.size, 2, none⟩ (.int .i64 (bits .and .i64 o.t 1)))) := Lib.hid (hH1.trans (show Below wr.heap.size wD _ from by (repeat' (first | with_reducible exact Below.refl _ _ | with_reducible assumption | with_reducible apply Below.setCell | with_reducible apply Below.alloc | with_reducible apply Below.drew | with_reducible apply below_drewN | with_reducible exact Nat.le_refl _ | (simp; done) | (simp; omega) | omega | exact Nat.le_refl _))))
          clear hb0 hbD hzb
          refine rg_one 17 rfl (by kernel_rfl) (by rfl) (fun K hK => ?_)
          go_simp
          refine hK.out _ _ hbs3.out (fun hH17 => ?_)
          clear hK K
          try simp only [Act.put, List.setIfInBounds_toArray, List.set_cons_zero, List.set_cons_succ]
          refine wpAnyH_done (by kernel_rfl) ?_ _
          go_wp2_with fail
          go_meet
          exact ⟨_, rfl, hbx.out, Nat.le_refl _, hH17⟩
      case rest =>
      obtain ⟨g8, rfl, hbo, hg8, hbc⟩ := hcut
      rename World => wc
      have hbo := Lib.hid hbo
      have hbc := Lib.hid hbc
      have hown := Lib.hid (hown.out.below hbc.out)
      have hbw2 := Lib.hid (hbw.trans (hbc.out.mono hws))
      have hq := (qO_ok j hlt4 o).1
      have hqf := hq.2.1
      have hqt := hq.2.2
      have hqn : (qO j o).nm.size ≤ 16 := sz_nm hq.1
      have hol := Lib.hid (opT_len hq)
      have hlj := Lib.hid (qL_len os j)
      have hwc : w.heap.size ≤ wc.heap.size := by have := hbc.out.size; omega
      clear hbc hbw hws e0 e1 e2 hA hbs hbr kD hqH hdz hq
      generalize qO j o = u at hbo hsT hqf hqt hqn hol
      obtain ⟨k0, k1, k2, k3⟩ := hbo.out.cells
      have hg8w : g8 < wc.heap.size := k3
      go_wp2_with (at_builtin; refine op_orr rfl (.tmp 42) (.tmp 44) wc w.heap.size hwc _ (qL os j) [u] _ rfl rfl 1 rfl rfl rfl hown.out (by have := hlj.out; simp; omega) ?_; intro v' w4 hown4 hb4 _)
      have hbo4 : Hid (BxO w4 g8 u) := Lib.hid ((hb4.block g8 hg8w fun hk => by have := (hob.out _ hk).2; omega).trans hbo.out)
      have hB4 := Lib.hid (hbw2.out.trans (hb4.below hwc fun k hk => (hob.out _ hk).1))
      have hown4 := Lib.hid (show OwnO w.heap.size w4 v' (qL os (j + 1)) from by rw [hsT.out]; exact hown4)
      have hws4 : w.heap.size ≤ w4.heap.size := hB4.out.size
      have hfin := Lib.hid (show (((((((x ++ (⟨#[111, 112, 32]⟩ : ByteArray)) ++ u.nm) ++ ⟨#[32, 58, 32]⟩) ++ bs (bsT u.f)) ++ ⟨#[32, 45, 62, 32]⟩) ++ bs (bsT u.t)) ++ ⟨#[59, 32]⟩) = bs (opsT (qL os (j + 1))) from by
        rw [hx.out, hsT.out, opB_eq2]; unfold opsT; rw [List.flatMap_append]; simp)
      clear hb4 hbo hown hsT hob k0 k1 k2 k3 hg8w hwc hg8
      go_upto_region 10 with fail
      obtain ⟨k0, k1, k2, k3⟩ := hbo4.out.cells
      have hz : (bs (opsT (qL os (j + 1)))).size ≤ (j + 1) * 36 := by
        rw [bs_sizeL]
        have := opsT_len (os := qL os (j + 1)) fun o ho => (qL_all os (j + 1) (by omega) o ho).1
        rwa [qL_len] at this
      rcases hqf with hqf | hqf <;> rcases hqt with hqt | hqt
      all_goals
        rw [hqf, hqt] at hfin
        rw [hqf] at k1
        rw [hqt] at k2
        go_region
      all_goals
        have hB5 := Lib.hid (hB4.out.trans (show Below w.heap.size w4 _ from by (repeat' (first | with_reducible exact Below.refl _ _ | with_reducible assumption | with_reducible apply Below.setCell | with_reducible apply Below.alloc | with_reducible apply Below.drew | with_reducible apply below_drewN | with_reducible exact Nat.le_refl _ | (simp; done) | (simp; omega) | omega | exact Nat.le_refl _))))
        go_wp2_with fail
        go_round
        case rel => exact ⟨j + 1, _, by omega, by omega, by go_num, rfl, Lib.hid hfin.out, Nat.le_trans (Nat.le_of_eq (congrArg ByteArray.size hfin.out)) hz, hB4.out.trans (show Below w.heap.size w4 _ from by (repeat' (first | with_reducible exact Below.refl _ _ | with_reducible assumption | with_reducible apply Below.setCell | with_reducible apply Below.alloc | with_reducible apply Below.drew | with_reducible apply below_drewN | with_reducible exact Nat.le_refl _ | (simp; done) | (simp; omega) | omega | exact Nat.le_refl _))), Lib.hid (hown4.out.below (show Below w4.heap.size w4 _ from by (repeat' (first | with_reducible exact Below.refl _ _ | with_reducible assumption | with_reducible apply Below.setCell | with_reducible apply Below.alloc | with_reducible apply Below.drew | with_reducible apply below_drewN | with_reducible exact Nat.le_refl _ | (simp; done) | (simp; omega) | omega | exact Nat.le_refl _))))⟩
        case measure => simp [intOf]; omega
    · have hc : (¬ (j : Int) < (n0 : Int)) ∨ ((j : Int) < (n0 : Int) ∧ ¬ (j : Int) < 4) := by omega
      obtain ⟨ao, ca, rfl, hOA⟩ : ∃ ao ca, _ = Value.slice ao j ca ∧ Hid (OArg wr ao j (qL os j)) := by
        have hl := qL_len os j
        rcases hown.out.cases with ⟨h1, h2⟩ | ⟨g, c, h1, h2, h3, h4, h5, _⟩
        · rw [h2] at hl
          obtain rfl : j = 0 := hl.symm
          exact ⟨_, _, h1, Lib.hid ⟨(qL_len os 0).symm, .inl h2⟩⟩
        · rw [hl] at h1
          exact ⟨_, _, h1, Lib.hid ⟨hl.symm, .inr ⟨g, 0, rfl, h5, h3⟩⟩⟩
      obtain ⟨hpr, hpl⟩ := nI_pr os j hj4 v hv0 hv1
      have hTT := nI_T os j hj4 v hv0 hv1
      have hmy := nI_may os j hj4 v hv0 hv1
      obtain ⟨ns, hrb, hrn⟩ := read_back hTT (show outV (qL os j) (.int v) = some (opsT (qL os j) ++ Lib.itoa v) from by unfold prV at hpr; rwa [hmy, if_pos rfl] at hpr)
      have hn1 : ns.length = 1 := by have := congrArg List.length hrn; simpa using this
      obtain ⟨nd, rfl⟩ : ∃ nd, ns = [nd] := by
        cases ns with
        | nil => simp at hn1
        | cons a r => cases r with
          | nil => exact ⟨a, rfl⟩
          | cons b r => simp at hn1
      obtain ⟨y, hy⟩ : ∃ y, bs (opsT (qL os j) ++ Lib.itoa v) = y := ⟨_, rfl⟩
      have hyz : y.size ≤ 200 := by rw [← hy, bs_sizeL]; exact hpl
      rw [hy] at hrb
      obtain ⟨qd, hqd⟩ : ∃ q, bs (Lib.itoa v) = q := ⟨_, rfl⟩
      have hxy : Hid (x ++ qd = y) := Lib.hid (by rw [hx.out, ← hqd, ← hy]; apply ba_x; simp [bs])
      have hqz : qd.size ≤ 30 := by rw [← hqd, bs_sizeL]; exact itoa_l30 hv0 (by omega)
      have kD := Lib.hid fun (W : World) => (show Calls Tryz.prog 18 #[.int .i64 v] W (fun e w' => e = .returned (.string qd) ∧ Below W.heap.size W w') from (dec_any v W (by omega) (by omega)).mono fun e w' h => ⟨h.1.trans (by rw [← hqd]; rfl), h.2⟩)
      have kP := Lib.hid fun (W : World) (c2 : Nat) (a2 : Option Addr) (h1 : OArg W ao j (qL os j)) (h2 : NArg W a2 1 [nI v]) (hb : Below w.heap.size w W) => (show Calls Tryz.prog 9 #[.agg #[.slice ao j ca, .slice a2 1 c2]] W (fun e w' => e = .returned (.tuple #[.string y, .int .i64 0]) ∧ Below W.heap.size W w') from by
        have := Print_any ao a2 j ca 1 c2 (qL os j) [nI v] (.int v) W (Lib.hid h1) (Lib.hid fun o ho => (qL_all os j hj4 o ho).2.2) (by omega) (Lib.hid h2) (Lib.hid fun t ht => by rcases List.mem_singleton.1 ht with rfl; exact ⟨(by decide : (⟨#[]⟩ : ByteArray).size ≤ _), (by decide : (⟨#[]⟩ : ByteArray).size ≤ _), (by decide : (⟨#[]⟩ : ByteArray).size ≤ _), (by decide : (⟨#[]⟩ : ByteArray).size ≤ _)⟩) (by omega) (Lib.hid (hEr.out _ hb)) (Lib.hid (hTab.out _ hb)) fun _ => hTT
        rw [hpr] at this
        rw [← hy]; exact this)
      have kQ := Lib.hid fun (W : World) (hb : Below w.heap.size w W) => Parse_any y W (by omega) (Lib.hid (hEr.out _ hb))
      have hrb := Lib.hid hrb
      have kO := Lib.hid fun (W : World) (a : Option Addr) (c : Nat) (h : OArg W a j (qL os j)) (h' : OArg W ao j (qL os j)) => sameOps_any a ao j j c ca (qL os j) (qL os j) W (Lib.hid h) (Lib.hid h') (by omega)
      simp only [sameVO_self] at kO
      have kO := Lib.hid (show ∀ (W : World) (a : Option Addr) (c : Nat), OArg W a j (qL os j) → OArg W ao j (qL os j) → _ from kO.out)
      have hqj := Lib.hid (qL_len os j)
      have hbwH := Lib.hid hbw
      have hyy : (y.toList == y.toList) = true := beq_self_eq_true _
      clear hx hy hqd hpr hTT hmy hrn hn1 hown hbw hj hpl hlt
      rcases hc with hjn | ⟨hjn, hjf⟩
      all_goals
        go_wp2_with fail
        have hN := Lib.hid (narg_alloc wr #[.int .i64 1, .int .i64 0, .int .i64 0, .int .i64 0, .int .i64 v, .string ⟨#[]⟩, .string ⟨#[]⟩, .string ⟨#[]⟩, .string ⟨#[]⟩, .int .i64 0] [nI v] rfl 1 rfl)
        have hb2 := Lib.hid (below_alc wr (.cells #[.int .i64 1, .int .i64 0, .int .i64 0, .int .i64 0, .int .i64 v, .string ⟨#[]⟩, .string ⟨#[]⟩, .string ⟨#[]⟩, .string ⟨#[]⟩, .int .i64 0] 50))
        generalize wr.alloc (.cells #[.int .i64 1, .int .i64 0, .int .i64 0, .int .i64 0, .int .i64 v, .string ⟨#[]⟩, .string ⟨#[]⟩, .string ⟨#[]⟩, .string ⟨#[]⟩, .int .i64 0] 50) = w2 at hN hb2 ⊢
        have hB2 := Lib.hid (hbwH.out.trans (hb2.out.mono (hbwH.out.size)))
        have hOA2 := Lib.hid (hOA.out.below hb2.out)
        clear hb2
        refine (kP.out _ _ _ hOA2.out hN.out hB2.out).mono ?_
        rintro e w3 ⟨rfl, hb3⟩
        have hOA3 := Lib.hid (hOA2.out.below hb3)
        have hB3 := Lib.hid (belT hB2.out hb3)
        clear hb3 hOA2 hN
        go_wp2_with fail
        refine (kQ.out _ hB3.out).mono ?_
        intro e w4 hpost
        obtain ⟨qa, qc, qa2, qc2, rfl, hb4, ho4, hn4⟩ := prp_ok hpost hrb.out
        have hO4 := Lib.hid (show OArg w4 qa (qL os j).length (qL os j) from ho4.arg)
        have hOA4 := Lib.hid (hOA3.out.below hb4)
        have hB4 := Lib.hid (belT hB3.out hb4)
        clear hpost ho4 hn4 hb4 hOA3
        rw [hqj.out] at hO4 ⊢
        rw [show [nd].length = 1 from rfl]
        go_upto_region 13 with fail
        have hU := Lib.hid (pg_lit w4 25 w4.heap.size rfl qa qa2 j qc 1 qc2)
        have hb5 := Lib.hid (below_alc w4 (.cells #[.slice qa j qc, .slice qa2 1 qc2] 25))
        generalize w4.alloc (.cells #[.slice qa j qc, .slice qa2 1 qc2] 25) = w5 at hU hb5 ⊢
        have hO5 := Lib.hid (hO4.out.below hb5.out)
        have hOA5 := Lib.hid (hOA4.out.below hb5.out)
        have hB5 := Lib.hid (belT hB4.out hb5.out)
        clear hb5 hO4 hOA4
        obtain ⟨u0, u1, u2⟩ := hU.out
        go_wp2_with ((go_at_call 11; refine (num_any _ _ (by omega) (by omega)).mono ?_; rintro e w' ⟨rfl, rfl⟩))
        refine (kD.out _).mono ?_
        rintro e w6 ⟨rfl, hb6⟩
        have hU := Lib.hid (hU.out.below hb6)
        have hO6 := Lib.hid (hO5.out.below hb6)
        have hOA6 := Lib.hid (hOA5.out.below hb6)
        have hB6 := Lib.hid (belT hB5.out hb6)
        clear hb6 hO5 hOA5 u0 u1 u2
        obtain ⟨u0, u1, u2⟩ := hU.out
        have hxq : (x ++ qd) = y := hxy.out
        have hcmp : (y.toList == (x ++ qd).toList) = true := by rw [hxq]; exact beq_self_eq_true _
        clear hxq
        go_wp2_with ((go_at_call 11; refine (num_any _ _ (by omega) (by omega)).mono ?_; rintro e w' ⟨rfl, rfl⟩))
        refine (kO.out _ _ _ hO6.out hOA6.out).mono ?_
        rintro e w7 ⟨rfl, hb7⟩
        have hU := Lib.hid (hU.out.below hb7)
        have hB7 := Lib.hid (belT hB6.out hb7)
        clear hb7 u0 u1 u2
        obtain ⟨u0, u1, u2⟩ := hU.out
        go_wp2_with fail
        go_ret
        exact ⟨rfl, hB7.out⟩
theorem own : ownKnob Tryz.prog.godebug = none := by kernel_rfl
theorem laidOut : laidOutB Tryz.prog = true := by kernel_rfl
set_option maxRecDepth 100000 in
theorem contract (H : Type) (enc : TypeId × Value → H) (W : World) (base : Nat) (args : Array Value) (ds gs : List (DataW H)) (before : List MemPlace)
    (hval0 : ∀ (j : Nat) t v, Tryz.f7.params[j]? = some t → args[j]? = some v → Value.okWide Tryz.prog W .any base t v)
    (hW : DataW.Whole enc Tryz.prog Tryz.f7.params.toList Rows.showOpsSpec.vars false W args.toList ds gs before)
    (hsz0 : (DataW.weightsEach Tryz.prog (Tryz.f7.params.toList ++ Rows.showOpsSpec.plain.varTypes Tryz.prog) (ds ++ gs)).all (· ≤ reachBytes) = true)
    (hL : laidMetH Tryz.prog Rows.showOpsRow.laid W)
    : Calls Tryz.prog 7 args W fun e W' => ∃ v, e = .returned v ∧ Rows.showOpsSpec.post enc Tryz.prog Tryz.f7 false true false false W args v W' := by
  have hval : ∀ (j : Nat) t v, Tryz.f7.params[j]? = some t → args[j]? = some v → Value.okWide Tryz.prog W .any base t v := hval0
  have hsz : (DataW.weightsEach Tryz.prog (Tryz.f7.params.toList ++ Rows.showOpsSpec.plain.varTypes Tryz.prog) (ds ++ gs)).all (· ≤ reachBytes) = true := hsz0
  have hW' := hW
  obtain ⟨p, q, hA0, hV, rfl, hfz, hnd⟩ := hW
  have hA : DataW.TrodAll enc Tryz.prog W 0 (fun _ => true) true Tryz.f7.params.toList args.toList ds p := hA0
  rw [Tryz.params7] at hA hval hsz
  obtain ⟨v0, vs0, d0, ds0, p0, q0, hargs, rfl, rfl, h0, r0⟩ := trodAll_cons hA
  obtain ⟨v1, vs1, d1, ds1, p1, q1, rfl, rfl, rfl, h1, r1⟩ := trodAll_cons r0
  obtain ⟨rfl, rfl, rfl⟩ := trodAll_nil r1
  obtain rfl : args = #[v0, v1] := by cases args; simp_all
  obtain ⟨rfl, rfl⟩ := trodVars_none hV
  have k0 := h0
  have lt0 : ∀ x ∈ p0, x.block < W.heap.size := by obtain ⟨m, hm⟩ := k0; exact DataW.trod_lt m _ _ _ hm
  obtain ⟨a0, n0, c0, rfl⟩ := okWide_slice Tryz.underlying22 (hval 0 22 v0 rfl rfl)
  have f0 : ∃ fuel y, DataW.trod enc Tryz.prog W 0 (fun _ => true) true fuel 22 [.slice a0 n0 c0] = some y ∧ ∀ x ∈ DataW.weights Tryz.prog 22 y.1, x ≤ reachBytes := by obtain ⟨fu, hf⟩ := h0; exact ⟨fu, _, by simpa [Value.cells] using hf, sized_of hsz (j := 0) (t := 22) rfl rfl⟩
  have k1 := h1
  have lt1 : ∀ x ∈ p1, x.block < W.heap.size := by obtain ⟨m, hm⟩ := k1; exact DataW.trod_lt m _ _ _ hm
  obtain ⟨a1, rfl, rfl, rfl, m1⟩ := open_int Tryz.underlying3 (hval 1 3 v1 rfl rfl) h1
  clear hA0 hval0
  refine (walk a0 n0 c0 a1 W f0 (bd_i64 m1) (tabs hL)).mono fun e W' ⟨he, bel⟩ => ?_
  subst he
  exact ⟨_, rfl, _, _, _, [], _, [], hW', trodAll_mk1 (shut_bool Tryz.underlying4 _), (trodAll_cons_mk (Below.trod laidOut (by kernel_rfl) (of_decide_eq_true (by kernel_rfl)) k0 bel lt0) (trodAll_cons_mk (Below.trod laidOut (by kernel_rfl) (of_decide_eq_true (by kernel_rfl)) k1 bel lt1) trodAll_mk0)), rfl, bel.frame _, fun h => by cases h⟩
noncomputable def mixWorld (os : Os) : World := { World.holding Tryz.prog os ⟨#[], #[], []⟩ with heap := (layAll Tryz.prog Rows.showOpsRow.laid (World.holding Tryz.prog os ⟨#[], #[], []⟩).heap).modify 0 fun | .cells _ t frozen => .cells #[.iface 138 (.agg #[.pointer (some ⟨4, 61, none⟩)])] t frozen | o => o }
theorem laid_met (os : Os) : laidMetH Tryz.prog Rows.showOpsRow.laid ((mixWorld os).forCall (fun _ _ => 0) ⟨#[], #[.slice none 0 0, .int .i64 0], []⟩).memory := laidMetH_of_parts (laidMet_of_run' 8 (by kernel_rfl) (by kernel_rfl)) (by kernel_rfl)
theorem reads (os : Os) {H : Type} (enc : TypeId × Value → H) : ∃ places, DataW.whole enc Tryz.prog ((mixWorld os).forCall (fun _ _ => 0) ⟨#[], #[.slice none 0 0, .int .i64 0], []⟩).memory Tryz.f7.params.toList Rows.showOpsSpec.vars false #[(.slice none 0 0 : Value), (.int .i64 0 : Value)].toList 8 = some ([.nil, .lit (.int .i64 0)], [], places) := ⟨[], by kernel_rfl⟩
set_option maxRecDepth 100000 in
theorem lifted (os : Os) (started : os.Started) (H : Type) (enc : TypeId × Value → H) (F : Stop.Interp) :
    ReturnsInHanded {} Tryz.checked os 7 .any ((OpenSpec.ofChange Rows.showOpsSpec).preRow enc Tryz.prog Tryz.f7 Rows.showOpsRow.domain false Rows.showOpsRow.laid) (((OpenSpec.ofChange Rows.showOpsSpec).at F).post enc Tryz.prog Tryz.f7 false true false false) := by
  obtain ⟨places, hx⟩ := reads os enc
  refine returnsInHanded_of_row (C := Tryz.checked) (s := (OpenSpec.ofChange Rows.showOpsSpec)) own started (by kernel_rfl) Tryz.func7
    (witness_row_at (enc := enc) (C := Tryz.checked) false (mixWorld os) #[.slice none 0 0, .int .i64 0] rfl (by kernel_rfl) (by kernel_rfl) (by kernel_rfl)
      (OpenSpec.preRow_of_cond 8 hx (by kernel_rfl) (fun k hk => by cases hk) (by kernel_rfl) (laid_met os))) ?_
  intro W base args ds gs before hval hW _ hcnd hsz hL _ _
  exact contract H enc W base args ds gs before hval hW hsz  hL
theorem said : Rows.ShowOpsSaid :=
  OpenClaim.holds_of_cond 7 Tryz.f7 rfl rfl rfl rfl rfl rfl rfl ⟨rfl, rfl, rfl, rfl, rfl⟩ rfl rfl rfl rfl rfl (by kernel_rfl) Tryz.func7 (by kernel_rfl)
    (of_decide_eq_true (by kernel_rfl)) (by unfold Func.isWrapper; first | (rw [if_pos (by decide +kernel)]; kernel_rfl) | (rw [if_neg (by decide +kernel)]; exact ⟨rfl, rfl⟩))
    (fun os started H enc _ F => by rw [OpenClaim.pre_eq_preRow]; exact lifted os started H enc F)
theorem plain (f : FuncId) (fn : Func) (hf : Tryz.pinned.checked.prog.funcNamed "trammel/trammellaw5.ShowOps" = some f) (hfn : Tryz.pinned.checked.prog.funcs[f]? = some fn) :
    true = Tryz.pinned.checked.prog.looks [] ∧ ∀ (j : Nat) t, fn.params[j]? = some t → Tryz.pinned.checked.prog.wantsStandIn t = false := by
  obtain rfl : f = 7 := Option.some.inj ((show Tryz.prog.funcNamed "trammel/trammellaw5.ShowOps" = some 7 by kernel_rfl).symm.trans hf) |>.symm
  obtain rfl : fn = Tryz.f7 := (Option.some.inj (Tryz.func7.symm.trans hfn)).symm
  refine ⟨by kernel_rfl, fun j t ht => ?_⟩
  rw [Tryz.params7] at ht
  have hm := Array.mem_of_getElem? ht
  have hm2 : t ∈ ([22, 3] : List Nat) := by simpa using hm
  simp only [List.mem_cons, List.not_mem_nil, or_false] at hm2
  rcases hm2 with rfl | rfl
  · exact (show Tryz.prog.wantsStandIn 22 = false by kernel_rfl)
  · exact (show Tryz.prog.wantsStandIn 3 = false by kernel_rfl)
theorem proved : Rows.ShowOpsCardSaid :=
  Claim7.holds_tied_plain_at .later [] _ _ _ _ said (fun _ h => by cases h) (by kernel_rfl) (fun _ h => by cases h) showOps_row_tie rfl ⟨rfl, rfl⟩ (by kernel_rfl) rfl plain (by kernel_rfl)
end Go.Proofs.YtidlljookjicpaaGreatDoor.showOps
