/- Programs: tree.May, the reference's TreeMay. -/
import Derived.Test.YtidlljookjicpaaGreatDoorNaG
import Derived.Test.YtidlljookjicpaaGreatDoorNaH
namespace Go.Proofs.YtidlljookjicpaaGreatDoor
open Go.RowKit
set_option linter.unusedVariables false
set_option linter.unusedSimpArgs false

def opOk (o : Or) : Bool := nmB o.nm.data.toList && baseB o.f && baseB o.t
def opsV (os : List Or) : Bool := decide (os.length ≤ 4) && os.all opOk
def mayV (os : List Or) (ts : List Nd) : Bool := opsV os && treeV (okNm true) ts
theorem opsV_op {os : List Or} {j : Nat} (h : j < os.length) (hn : opOk (os.getD j or0) = false) : opsV os = false := by
  have : os.all opOk = false := by
    cases hc : os.all opOk
    · rfl
    · rw [List.all_eq_true] at hc
      have := hc (os.getD j or0) (by simp [h])
      rw [this] at hn; cases hn
  unfold opsV; rw [this]; simp
theorem opsV_ok {os : List Or} (h1 : os.length ≤ 4) (h : os.all opOk = true) : opsV os = true := by unfold opsV; rw [h, decide_eq_true h1]; rfl
theorem opsV_len {os : List Or} (h1 : 4 < os.length) : opsV os = false := by unfold opsV; rw [decide_eq_false (by omega)]; rfl
theorem getO_mem {ts : List Or} {j : Nat} (hj : j < ts.length) : ts.getD j or0 ∈ ts := by
  rw [List.getD_eq_getElem?_getD, List.getElem?_eq_getElem hj]; exact List.getElem_mem hj
theorem isBase_any (k : Int) (w : World) : Calls Tryz.prog 43 #[.int .i64 k] w fun e w' => e = .returned (.bool (baseB k)) ∧ w = w' := by
  go_enter Tryz.func43, Tryz.ntmps43
  go_wp2_with fail
  all_goals
    go_ret
    exact ⟨ret_bb (by unfold baseB; rw [Bool.eq_iff_iff]; simp; try omega), rfl⟩
theorem basic_any (k : Int) (w : World) : Calls Tryz.prog 74 #[.int .i64 k] w fun e w' => e = .returned (.bool (baseB k)) ∧ w = w' := by
  go_enter Tryz.func74, Tryz.ntmps74
  go_wp2_with fail
  all_goals
    go_ret
    exact ⟨ret_bb (by unfold baseB; rw [Bool.eq_iff_iff]; simp; try omega), rfl⟩
theorem allO_take {os : List Or} {j : Nat} (h : j < os.length) (h2 : (os.take j).all opOk = true) : (os.take (j + 1)).all opOk = opOk (os.getD j or0) := by
  rw [List.take_succ_eq_append_getElem h, List.all_append, h2]
  simp [h]

set_option maxRecDepth 100000 in
set_option maxHeartbeats 4000000 in
theorem opsMay_any (a : Option Addr) (n c : Nat) (os : List Or) (w : World) (h : Hid (OArg w a n os)) (hsz : Hid (∀ t ∈ os, OrSz t)) (hl : n ≤ 140737488351232) :
    Calls Tryz.prog 46 #[.slice a n c] w fun e w' => e = .returned (.bool (opsV os)) ∧ Below w.heap.size w w' := by
  have hn := h.out.1
  by_cases h4 : 4 < n
  · have hv := Lib.hid (opsV_len (os := os) (by omega))
    have h4' : (4 : Int) < (n : Int) := by omega
    clear hn
    go_enter Tryz.func46, Tryz.ntmps46
    go_wp2_with fail
    go_ret
    exact ⟨ret_b hv.out.symm, by (repeat' (first | with_reducible exact Below.refl _ _ | with_reducible assumption | with_reducible apply Below.setCell | with_reducible apply Below.alloc | with_reducible apply Below.drew | with_reducible apply below_drewN | with_reducible exact Nat.le_refl _ | (simp; done) | (simp; omega) | omega | exact Nat.le_refl _))⟩
  have h4' : ¬ (4 : Int) < (n : Int) := by omega
  obtain ⟨V, hV⟩ : ∃ v, opsV os = v := ⟨_, rfl⟩
  rw [hV]
  have hfin : Hid (∀ j, j < n → opOk (os.getD j or0) = false → V = false) := Lib.hid fun j hj h => by rw [← hV]; exact opsV_op (by omega) h
  have hok : Hid (os.all opOk = true → V = true) := Lib.hid fun h => by rw [← hV]; exact opsV_ok (by omega) h
  have hat : Hid (∀ j, j < n → ∃ b off, a = some ⟨b, off, none⟩ ∧ OrAt w b off (os.getD j or0) j ∧ b < w.heap.size) := Lib.hid fun j hj => by
    rcases h.out.2 with rfl | ⟨b, off, h1, h2, h3⟩
    · simp at hn; omega
    · exact ⟨b, off, h1, h2 j (by omega), h3⟩
  have hn' := Lib.hid hn
  clear hV hn
  go_enter Tryz.func46, Tryz.ntmps46
  go_wp2_with fail
  go_loopw [3] (fun i wr => ∃ j : Nat, j ≤ n ∧ i = .int .i64 j ∧ Below w.heap.size w wr ∧ Hid ((os.take j).all opOk = true)) (fun i _ => n - (intOf i).toNat)
  case atStart => exact ⟨0, by omega, rfl, by (repeat' (first | with_reducible exact Below.refl _ _ | with_reducible assumption | with_reducible apply Below.setCell | with_reducible apply Below.alloc | with_reducible apply Below.drew | with_reducible apply below_drewN | with_reducible exact Nat.le_refl _ | (simp; done) | (simp; omega) | omega | exact Nat.le_refl _)), Lib.hid rfl⟩
  case round =>
    obtain ⟨j, hj, rfl, hbw, hall⟩ := hrel
    by_cases hlt : j < n
    · obtain ⟨b, off, rfl, hA, hbs⟩ := hat.out j hlt
      have hT := hA.below hbw hbs
      have htk := Lib.hid (allO_take (os := os) (by rw [← hn'.out]; exact hlt) hall.out)
      have hfj := Lib.hid (hfin.out j hlt)
      have hsj := Lib.hid (hsz.out _ (getO_mem (ts := os) (j := j) (by rw [← hn'.out]; exact hlt)))
      generalize os.getD j or0 = o at hT htk hfj hsj
      have kN := Lib.hid fun (W : World) => nameMay_any o.nm W hsj.out
      have hop : Hid (opOk o = (nmB o.nm.data.toList && baseB o.f && baseB o.t)) := Lib.hid rfl
      have k1 := Lib.hid fun (W : World) => basic_any o.f W
      have k2 := Lib.hid fun (W : World) => basic_any o.t W
      generalize nmB o.nm.data.toList = b0 at kN hop
      generalize baseB o.f = b1 at k1 hop
      generalize baseB o.t = b2 at k2 hop
      obtain ⟨e0, e1, e2⟩ := hT
      have hbr : b < wr.heap.size := by have := hbw.size; omega
      have hlt' : (j : Int) < (n : Int) := by omega
      have hj0 : (0 : Int) ≤ (j : Int) := by omega
      go_wp2_with fail
      refine (kN.out _).mono ?_
      rintro e w1 ⟨rfl, hb1⟩
      have hbw1 := Lib.hid (belT hbw hb1)
      have d1 := carry hb1 hbr e1
      have d2 := carry hb1 hbr e2
      clear hb1 e0 e1 e2
      cases b0
      · have hf := Lib.hid (hfj.out (by rw [hop.out]; rfl))
        go_wp2_with fail
        go_ret
        exact ⟨ret_b hf.out.symm, hbw1.out⟩
      go_wp2_with fail
      refine (k1.out _).mono ?_
      rintro e w2 ⟨rfl, rfl⟩
      cases b1
      · have hf := Lib.hid (hfj.out (by rw [hop.out]; rfl))
        go_wp2_with fail
        go_ret
        exact ⟨ret_b hf.out.symm, hbw1.out⟩
      go_wp2_with fail
      refine (k2.out _).mono ?_
      rintro e w2 ⟨rfl, rfl⟩
      cases b2
      · have hf := Lib.hid (hfj.out (by rw [hop.out]; rfl))
        go_wp2_with fail
        go_ret
        exact ⟨ret_b hf.out.symm, hbw1.out⟩
      go_wp2_with fail
      go_round
      case rel => exact ⟨j + 1, by omega, by go_num, hbw1.out, Lib.hid (by rw [htk.out, hop.out]; rfl)⟩
      case measure => simp [intOf]; omega
    · have hv := Lib.hid (hok.out (by have := hall.out; rwa [List.take_of_length_le (by have := hn'.out; omega)] at this))
      have hjn : ¬ (j : Int) < (n : Int) := by omega
      go_wp2_with fail
      go_ret
      exact ⟨ret_b hv.out.symm, hbw⟩
set_option maxRecDepth 100000 in
set_option maxHeartbeats 4000000 in
theorem rMay_any (a a2 : Option Addr) (n c n2 c2 : Nat) (os : List Or) (ts : List Nd) (w : World) (h : Hid (OArg w a n os)) (hsz : Hid (∀ t ∈ os, OrSz t)) (hl : n ≤ 140737488351232) (h2 : Hid (NArg w a2 n2 ts)) (hsz2 : Hid (∀ t ∈ ts, NdSz t)) (hl2 : n2 ≤ 140737488351232) :
    Calls Tryz.prog 27 #[.agg #[.slice a n c, .slice a2 n2 c2]] w fun e w' => e = .returned (.bool (mayV os ts)) ∧ Below w.heap.size w w' := by
  have k1 := Lib.hid fun (W : World) (hW : Hid (OArg W a n os)) => opsMay_any a n c os W hW hsz hl
  have k2 := Lib.hid fun (W : World) (hW : Hid (NArg W a2 n2 ts)) => shaped_any true a2 n2 c2 ts W hW hsz2 hl2
  unfold mayV
  generalize opsV os = b1 at k1 ⊢
  generalize treeV (okNm true) ts = b2 at k2 ⊢
  go_enter Tryz.func27, Tryz.ntmps27
  go_wp2_with fail
  refine (k1.out _ (Lib.hid (h.out.below (by (repeat' (first | with_reducible exact Below.refl _ _ | with_reducible assumption | with_reducible apply Below.setCell | with_reducible apply Below.alloc | with_reducible apply Below.drew | with_reducible apply below_drewN | with_reducible exact Nat.le_refl _ | (simp; done) | (simp; omega) | omega | exact Nat.le_refl _)))))).mono ?_
  rintro e w1 ⟨rfl, hb1⟩
  have hB1 := Lib.hid (belT (show Below w.heap.size w _ from by (repeat' (first | with_reducible exact Below.refl _ _ | with_reducible assumption | with_reducible apply Below.setCell | with_reducible apply Below.alloc | with_reducible apply Below.drew | with_reducible apply below_drewN | with_reducible exact Nat.le_refl _ | (simp; done) | (simp; omega) | omega | exact Nat.le_refl _))) hb1)
  have q1 : w1.cell? ⟨w.heap.size, 1, none⟩ = some (.slice a2 n2 c2) := carry hb1 (by simp) (by simp)
  clear hb1
  cases b1
  · go_wp2_with fail
    go_ret
    exact ⟨rfl, hB1.out⟩
  · go_wp2_with fail
    refine (k2.out _ (Lib.hid (h2.out.below hB1.out))).mono ?_
    rintro e w2 ⟨rfl, hb2⟩
    have hB2 := Lib.hid (belT hB1.out hb2)
    clear hb2
    go_wp2_with fail
    go_ret
    exact ⟨ret_b (by simp), hB2.out⟩
set_option maxRecDepth 100000 in
set_option maxHeartbeats 4000000 in
theorem tMay_any (a a2 : Option Addr) (n c n2 c2 : Nat) (os : List Or) (ts : List Nd) (w : World) (h : Hid (OArg w a n os)) (hsz : Hid (∀ t ∈ os, OrSz t)) (hl : n ≤ 140737488351232) (h2 : Hid (NArg w a2 n2 ts)) (hsz2 : Hid (∀ t ∈ ts, NdSz t)) (hl2 : n2 ≤ 140737488351232) (hg : Hid (errTy w)) :
    Calls Tryz.prog 21 #[.agg #[.slice a n c, .slice a2 n2 c2]] w fun e w' => e = .returned (.bool (mayV os ts)) ∧ Below w.heap.size w w' := by
  have hn := h.out.1
  have k2 := Lib.hid fun (W : World) (hW : Hid (NArg W a2 n2 ts)) (hg : Hid (errTy W)) => isTreeN_any a2 n2 c2 ts W hW hsz2 hl2 hg
  by_cases h4 : 4 < n
  · have hv : Hid (mayV os ts = false) := Lib.hid (by unfold mayV; rw [opsV_len (by omega)]; rfl)
    have h4' : (4 : Int) < (n : Int) := by omega
    clear hn
    go_enter Tryz.func21, Tryz.ntmps21
    go_wp2_with fail
    go_ret
    exact ⟨ret_b hv.out.symm, by (repeat' (first | with_reducible exact Below.refl _ _ | with_reducible assumption | with_reducible apply Below.setCell | with_reducible apply Below.alloc | with_reducible apply Below.drew | with_reducible apply below_drewN | with_reducible exact Nat.le_refl _ | (simp; done) | (simp; omega) | omega | exact Nat.le_refl _))⟩
  have h4' : ¬ (4 : Int) < (n : Int) := by omega
  cases hb : treeV (okNm true) ts
  · have hv : Hid (mayV os ts = false) := Lib.hid (by unfold mayV; rw [hb, Bool.and_false])
    rw [hb] at k2
    clear hn hb
    go_enter Tryz.func21, Tryz.ntmps21
    go_wp2_with fail
    refine (k2.out _ (Lib.hid (h2.out.below (by (repeat' (first | with_reducible exact Below.refl _ _ | with_reducible assumption | with_reducible apply Below.setCell | with_reducible apply Below.alloc | with_reducible apply Below.drew | with_reducible apply below_drewN | with_reducible exact Nat.le_refl _ | (simp; done) | (simp; omega) | omega | exact Nat.le_refl _))))) (Lib.hid (errTy_below hg.out (by (repeat' (first | with_reducible exact Below.refl _ _ | with_reducible assumption | with_reducible apply Below.setCell | with_reducible apply Below.alloc | with_reducible apply Below.drew | with_reducible apply below_drewN | with_reducible exact Nat.le_refl _ | (simp; done) | (simp; omega) | omega | exact Nat.le_refl _)))))).mono ?_
    rintro e w1 ⟨rfl, hb1⟩
    have hB1 := Lib.hid (belT (show Below w.heap.size w _ from by (repeat' (first | with_reducible exact Below.refl _ _ | with_reducible assumption | with_reducible apply Below.setCell | with_reducible apply Below.alloc | with_reducible apply Below.drew | with_reducible apply below_drewN | with_reducible exact Nat.le_refl _ | (simp; done) | (simp; omega) | omega | exact Nat.le_refl _))) hb1)
    clear hb1
    go_wp2_with fail
    go_ret
    exact ⟨ret_b hv.out.symm, hB1.out⟩
  obtain ⟨V, hV⟩ : ∃ v, mayV os ts = v := ⟨_, rfl⟩
  have hV2 : opsV os = V := by rw [← hV]; unfold mayV; rw [hb, Bool.and_true]
  rw [hV]
  rw [hb] at k2
  have hfin : Hid (∀ j, j < n → opOk (os.getD j or0) = false → V = false) := Lib.hid fun j hj h => by rw [← hV2]; exact opsV_op (by omega) h
  have hok : Hid (os.all opOk = true → V = true) := Lib.hid fun h => by rw [← hV2]; exact opsV_ok (by omega) h
  have hat : Hid (∀ j, j < n → ∃ b off, a = some ⟨b, off, none⟩ ∧ OrAt w b off (os.getD j or0) j ∧ b < w.heap.size) := Lib.hid fun j hj => by
    rcases h.out.2 with rfl | ⟨b, off, h1, h2, h3⟩
    · simp at hn; omega
    · exact ⟨b, off, h1, h2 j (by omega), h3⟩
  have hn' := Lib.hid hn
  have h0l := hgl hg.out
  clear hV hn hV2 hb
  go_enter Tryz.func21, Tryz.ntmps21
  go_wp2_with fail
  refine (k2.out _ (Lib.hid (h2.out.below (by (repeat' (first | with_reducible exact Below.refl _ _ | with_reducible assumption | with_reducible apply Below.setCell | with_reducible apply Below.alloc | with_reducible apply Below.drew | with_reducible apply below_drewN | with_reducible exact Nat.le_refl _ | (simp; done) | (simp; omega) | omega | exact Nat.le_refl _))))) (Lib.hid (errTy_below hg.out (by (repeat' (first | with_reducible exact Below.refl _ _ | with_reducible assumption | with_reducible apply Below.setCell | with_reducible apply Below.alloc | with_reducible apply Below.drew | with_reducible apply below_drewN | with_reducible exact Nat.le_refl _ | (simp; done) | (simp; omega) | omega | exact Nat.le_refl _)))))).mono ?_
  rintro e w1 ⟨rfl, hb1⟩
  have hB1 := Lib.hid (belT (show Below w.heap.size w _ from by (repeat' (first | with_reducible exact Below.refl _ _ | with_reducible assumption | with_reducible apply Below.setCell | with_reducible apply Below.alloc | with_reducible apply Below.drew | with_reducible apply below_drewN | with_reducible exact Nat.le_refl _ | (simp; done) | (simp; omega) | omega | exact Nat.le_refl _))) hb1)
  have q0 : w1.cell? ⟨w.heap.size, 0, none⟩ = some (.slice a n c) := carry hb1 (by simp) (by simp)
  clear hb1
  go_wp2_with fail
  go_loopw [18] (fun i wr => ∃ j : Nat, j ≤ n ∧ i = .int .i64 j ∧ Below w.heap.size w wr ∧ Hid ((os.take j).all opOk = true)) (fun i _ => n - (intOf i).toNat)
  case atStart => exact ⟨0, by omega, rfl, hB1.out, Lib.hid rfl⟩
  case round =>
    obtain ⟨j, hj, rfl, hbw, hall⟩ := hrel
    have hws := hbw.size
    by_cases hlt : j < n
    · obtain ⟨b, off, rfl, hA, hbs⟩ := hat.out j hlt
      have hT := hA.below hbw hbs
      have htk := Lib.hid (allO_take (os := os) (by rw [← hn'.out]; exact hlt) hall.out)
      have hfj := Lib.hid (hfin.out j hlt)
      have hsj := Lib.hid (hsz.out _ (getO_mem (ts := os) (j := j) (by rw [← hn'.out]; exact hlt)))
      generalize os.getD j or0 = o at hT htk hfj hsj
      have kN := Lib.hid fun (W : World) (h : errTy W) => isName_any o.nm W hsj.out h
      have hop : Hid (opOk o = (nmB o.nm.data.toList && baseB o.f && baseB o.t)) := Lib.hid rfl
      have k1 := Lib.hid fun (W : World) => isBase_any o.f W
      have k3 := Lib.hid fun (W : World) => isBase_any o.t W
      generalize nmB o.nm.data.toList = b0 at kN hop
      generalize baseB o.f = b1 at k1 hop
      generalize baseB o.t = b2 at k3 hop
      obtain ⟨e0, e1, e2⟩ := hT
      have hbr : b < wr.heap.size := by omega
      have hlt' : (j : Int) < (n : Int) := by omega
      have hj0 : (0 : Int) ≤ (j : Int) := by omega
      have hgr := Lib.hid (errTy_below hg.out hbw)
      go_wp2_with fail
      refine (kN.out _ (errTy_below hgr.out (by (repeat' (first | with_reducible exact Below.refl _ _ | with_reducible assumption | with_reducible apply Below.setCell | with_reducible apply Below.alloc | with_reducible apply Below.drew | with_reducible apply below_drewN | with_reducible exact Nat.le_refl _ | (simp; done) | (simp; omega) | omega | exact Nat.le_refl _))))).mono ?_
      rintro e w2 ⟨rfl, hb2⟩
      have hbw1 := Lib.hid (belT (show Below w.heap.size w _ from by (repeat' (first | with_reducible exact Below.refl _ _ | with_reducible assumption | with_reducible apply Below.setCell | with_reducible apply Below.alloc | with_reducible apply Below.drew | with_reducible apply below_drewN | with_reducible exact Nat.le_refl _ | (simp; done) | (simp; omega) | omega | exact Nat.le_refl _))) hb2)
      have d1 : w2.cell? ⟨wr.heap.size, 1, none⟩ = some (.int .i64 o.f) := carry hb2 (by simp) (by simp)
      have d2 : w2.cell? ⟨wr.heap.size, 2, none⟩ = some (.int .i64 o.t) := carry hb2 (by simp) (by simp)
      clear hb2 e0 e1 e2
      cases b0
      · have hf := Lib.hid (hfj.out (by rw [hop.out]; rfl))
        go_wp2_with fail
        go_ret
        exact ⟨ret_b hf.out.symm, hbw1.out⟩
      go_wp2_with fail
      refine (k1.out _).mono ?_
      rintro e w3 ⟨rfl, rfl⟩
      cases b1
      · have hf := Lib.hid (hfj.out (by rw [hop.out]; rfl))
        go_wp2_with fail
        go_ret
        exact ⟨ret_b hf.out.symm, hbw1.out⟩
      go_wp2_with fail
      refine (k3.out _).mono ?_
      rintro e w3 ⟨rfl, rfl⟩
      cases b2
      · have hf := Lib.hid (hfj.out (by rw [hop.out]; rfl))
        go_wp2_with fail
        go_ret
        exact ⟨ret_b hf.out.symm, hbw1.out⟩
      go_wp2_with fail
      go_round
      case rel => exact ⟨j + 1, by omega, by go_num, hbw1.out, Lib.hid (by rw [htk.out, hop.out]; rfl)⟩
      case measure => simp [intOf]; omega
    · have hv := Lib.hid (hok.out (by have := hall.out; rwa [List.take_of_length_le (by have := hn'.out; omega)] at this))
      have hjn : ¬ (j : Int) < (n : Int) := by omega
      go_wp2_with fail
      go_ret
      exact ⟨ret_b hv.out.symm, hbw⟩
end Go.Proofs.YtidlljookjicpaaGreatDoor
