/- ParseBrackets holds for every text. No condition but that the listed package variable holds what the program's text lays. -/
import Derived.Test.YtnhfbbognjdnpaaDoorPrG
import Derived.Test.YtnhfbbognjdnpaaDoorPrH
import Derived.Test.YtnhfbbognjdnpaaDoorAid
import Derived.Test.YtnhfbbognjdnpaaDoorCards
import Derived.Test.YtnhfbbognjdnpaaDoorTie
import Derived.Test.YtnhfbbognjdnpaaDoorOpn
import Derived.Test.YtnhfbbognjdnpaaDoorHan
import Derived.WalkKit
import Derived.ProofKit
import Derived.Deep.DeepHandedRow
namespace Go.Proofs.YtnhfbbognjdnpaaDoor.parseBrackets
open Go.ChangeShapes Go.WideShapes Go.ChangeAt Go.RowKit
open Go.ChangeMaps (open_string shut_string)
set_option linter.unusedVariables false
set_option linter.unusedSimpArgs false

theorem tabs {W : World} (h : laidMetH Tryd.prog Rows.parseBracketsRow.laid W) : Hid (errTy W) := Lib.hid (errTy_of h (.head _))
/-- what holds of the two answers. -/
def Rel (R Q : Except PE (List Or × List Nd)) : Prop := match R with
  | .error _ => True
  | .ok p => (p.1 ≠ [] → ∃ x, Q = .error (403, x)) ∧ (p.1 = [] → (Q = .ok ([], p.2.map (shN 1)) ∨ ∃ x, Q = .error (401, x)))
theorem rel (s : ByteArray) (hs : s.size ≤ 4093) : Rel (parseV s) (parseV (⟨#[40]⟩ ++ (s ++ nlB ++ ⟨#[41]⟩))) := by
  rcases h : parseV s with _ | ⟨os, ns⟩
  · trivial
  · exact parse_br hs h
theorem dep_ok {n : Nat} {os : List Or} {ns : List Nd} (h : PrK n os ns) : (depV ns ((ns.length : Int) - 1)).2 = 0 := by
  have hm := h.may
  unfold mayV at hm
  rw [Bool.and_eq_true] at hm
  have ha : anyV ns = true := by unfold anyV; rw [hm.2]; rfl
  have hl := h.l0
  unfold depV hasV
  rw [ha, decide_eq_true (by omega)]
  rfl
set_option maxRecDepth 100000 in
set_option maxHeartbeats 8000000 in
theorem walk (s : ByteArray) (w : World) (hs : s.size ≤ 140737488351232) (hg : Hid (errTy w)) :
    Calls Tryd.prog 5 #[.string s] w fun e w' => e = .returned (.bool true) ∧ Below w.heap.size w w' := by
  have kA := Lib.hid (awake4_any w hg)
  have hsz : (s.size : Int) ≤ 140737488351232 := by omega
  by_cases hlt : s.size ≤ 4093
  · have hn4 : ¬ (4093 : Int) < (s.size : Int) := by omega
    have hR0 := rel s hlt
    obtain ⟨t, ht⟩ : ∃ t, (⟨#[40]⟩ ++ (s ++ nlB ++ ⟨#[41]⟩) : ByteArray) = t := ⟨_, rfl⟩
    have ht2 : (⟨#[40]⟩ ++ s ++ ⟨#[10, 41]⟩ : ByteArray) = t := by rw [← ht]; exact ba_ext (by simp [nlB])
    have hts : t.size = s.size + 3 := by rw [← ht, app_size, nl_whole]; show 1 + (s.size + 1 + 1) = _; omega
    rw [ht] at hR0
    have kP := Lib.hid fun (W : World) (hb : Below w.heap.size w W) => Parse_any s W (by omega) (Lib.hid (errTy_below hg.out hb))
    have kQ := Lib.hid fun (W : World) (hb : Below w.heap.size w W) => Parse_any t W (by omega) (Lib.hid (errTy_below hg.out hb))
    have hK := Lib.hid fun (os : List Or) (ns : List Nd) (h : parseV s = .ok (os, ns)) => parse_k h
    have hK2 := Lib.hid fun (os : List Or) (ns : List Nd) (h : parseV t = .ok (os, ns)) => parse_k h
    have hE := Lib.hid fun (x : PE) (h : parseV s = .error x) => parse_no h
    have hE2 := Lib.hid fun (x : PE) (h : parseV t = .error x) => parse_no h
    generalize parseV s = R at kP hK hE hR0
    generalize parseV t = Q at kQ hK2 hE2 hR0
    have hR0 := Lib.hid hR0
    have hts := Lib.hid hts
    clear hlt ht
    go_enter Tryd.func5, Tryd.ntmps5
    go_wp2_with fail
    refine kA.out.mono ?_
    rintro e w1 ⟨rfl, hb1⟩
    have hB1 := Lib.hid hb1
    clear kA hb1
    go_wp2_with fail
    refine (kP.out _ hB1.out).mono ?_
    intro e w2 hpost
    clear kP
    have kQ2 := Lib.hid fun (W : World) (hb : Below w2.heap.size w2 W) (hb0 : Below w1.heap.size w1 w2) => kQ.out W (belT (belT hB1.out hb0) hb)
    have ht3 := Lib.hid ht2
    clear ht2
    rcases R with ⟨xc, xp⟩ | ⟨os, ns⟩
    · obtain ⟨rfl, hb2⟩ := prp_no hpost rfl
      obtain ⟨⟨x1, x2⟩, x3, x4⟩ := hE.out _ rfl
      dsimp only at x1 x2
      have e0 : (xc == 0) = false := beq_eq_false_iff_ne.2 (by omega)
      clear hpost x3 x4
      go_upto_region 6 with fail
      have ht2 := ht3.out
      go_wp2_with fail
      clear ht2
      refine (kQ2.out _ (by (repeat' (first | with_reducible exact Below.refl _ _ | with_reducible assumption | with_reducible apply Below.setCell | with_reducible apply Below.alloc | with_reducible apply Below.drew | with_reducible apply below_drewN | with_reducible exact Nat.le_refl _ | (simp; done) | (simp; omega) | omega | exact Nat.le_refl _))) hb2).mono ?_
      intro e w3 hpost
      have hB2 := Lib.hid (belT hB1.out hb2)
      clear kQ kQ2 hb2
      rcases Q with ⟨yc, yp⟩ | ⟨os', ns'⟩
      · obtain ⟨rfl, hb3⟩ := prp_no hpost rfl
        obtain ⟨⟨y1, y2⟩, _, _⟩ := hE2.out _ rfl
        dsimp only at y1 y2
        have e1 : (yc == 0) = false := beq_eq_false_iff_ne.2 (by omega)
        have hB3 := Lib.hid (belT hB2.out (belT (show Below w2.heap.size w2 _ from by (repeat' (first | with_reducible exact Below.refl _ _ | with_reducible assumption | with_reducible apply Below.setCell | with_reducible apply Below.alloc | with_reducible apply Below.drew | with_reducible apply below_drewN | with_reducible exact Nat.le_refl _ | (simp; done) | (simp; omega) | omega | exact Nat.le_refl _))) hb3))
        clear hpost hb3
        try dsimp only
        go_wp2_with ((go_at_call 12; refine (num_any _ _ (by omega) (by omega)).mono ?_; rintro e w' ⟨rfl, rfl⟩))
        go_ret
        exact ⟨rfl, belT hB3.out (by (repeat' (first | with_reducible exact Below.refl _ _ | with_reducible assumption | with_reducible apply Below.setCell | with_reducible apply Below.alloc | with_reducible apply Below.drew | with_reducible apply below_drewN | with_reducible exact Nat.le_refl _ | (simp; done) | (simp; omega) | omega | exact Nat.le_refl _)))⟩
      · obtain ⟨a, c, a2, c2, rfl, hb3, ho, hn⟩ := prp_ok hpost rfl
        have hl0 := (hK2.out _ _ rfl).l0
        have hl1 := (hK2.out _ _ rfl).l1
        have hB3 := Lib.hid (belT hB2.out (belT (show Below w2.heap.size w2 _ from by (repeat' (first | with_reducible exact Below.refl _ _ | with_reducible assumption | with_reducible apply Below.setCell | with_reducible apply Below.alloc | with_reducible apply Below.drew | with_reducible apply below_drewN | with_reducible exact Nat.le_refl _ | (simp; done) | (simp; omega) | omega | exact Nat.le_refl _))) hb3))
        have hnl : (0 : Int) < (ns'.length : Int) := by omega
        clear hpost hb3 ho hn hK2 hE2
        go_wp2_with ((go_at_call 12; refine (num_any _ _ (by omega) (by omega)).mono ?_; rintro e w' ⟨rfl, rfl⟩))
        go_ret
        exact ⟨ret_b (by simp; omega), belT hB3.out (by (repeat' (first | with_reducible exact Below.refl _ _ | with_reducible assumption | with_reducible apply Below.setCell | with_reducible apply Below.alloc | with_reducible apply Below.drew | with_reducible apply below_drewN | with_reducible exact Nat.le_refl _ | (simp; done) | (simp; omega) | omega | exact Nat.le_refl _)))⟩
    · obtain ⟨a, c, a2, c2, rfl, hb2, ho, hn⟩ := prp_ok hpost rfl
      have hk := Lib.hid (hK.out _ _ rfl)
      have hl0 := hk.out.l0
      have hl1 := hk.out.l1
      have hol := hk.out.ol
      have hN := Lib.hid (show NArg w2 a2 ns.length ns from hn.arg)
      have hB2 := Lib.hid (belT hB1.out hb2)
      clear hpost ho hn
      go_upto_region 6 with fail
      have ht2 := ht3.out
      go_wp2_with fail
      clear ht2
      refine (kQ2.out _ (by (repeat' (first | with_reducible exact Below.refl _ _ | with_reducible assumption | with_reducible apply Below.setCell | with_reducible apply Below.alloc | with_reducible apply Below.drew | with_reducible apply below_drewN | with_reducible exact Nat.le_refl _ | (simp; done) | (simp; omega) | omega | exact Nat.le_refl _))) hb2).mono ?_
      intro e w3 hpost
      clear kQ kQ2 hb2
      by_cases hos : os = []
      · obtain rfl : os = [] := hos
        rcases hR0.out.2 rfl with hq | ⟨x, hq⟩
        · obtain ⟨ns', hns⟩ : ∃ l, ns.map (shN 1) = l := ⟨_, rfl⟩
          have hq : Q = .ok ([], ns.map (shN 1)) := hq
          rw [hns] at hq
          have hsame := Lib.hid (show sameV ndS ns ns' = true from by rw [← hns]; exact bare_sh 1 ns)
          clear hns
          obtain ⟨a', c', a2', c2', rfl, hb3, ho, hn⟩ := prp_ok hpost hq
          have hk2 := hK2.out _ _ hq
          have hm1 := hk2.l1
          have q0 : w3.cell? ⟨w2.heap.size, 0, none⟩ = some (.slice a 0 c) := carry hb3 (by simp) (by simp [go_sem])
          have q1 : w3.cell? ⟨w2.heap.size, 1, none⟩ = some (.slice a2 ns.length c2) := carry hb3 (by simp) (by simp [go_sem])
          have hb3' := belT (show Below w2.heap.size w2 _ from by (repeat' (first | with_reducible exact Below.refl _ _ | with_reducible assumption | with_reducible apply Below.setCell | with_reducible apply Below.alloc | with_reducible apply Below.drew | with_reducible apply below_drewN | with_reducible exact Nat.le_refl _ | (simp; done) | (simp; omega) | omega | exact Nat.le_refl _))) hb3
          have hl3 : w2.heap.size < w3.heap.size := Nat.lt_of_lt_of_le (by simp) hb3.size
          have hB3 := Lib.hid (belT hB2.out hb3')
          have hN3 := Lib.hid (hN.out.below hb3')
          have hM3 := Lib.hid (show NArg w3 a2' ns'.length ns' from hn.arg)
          have kS := Lib.hid fun (W : World) (hb : Below w3.heap.size w3 W) => tSame_any a2 a2' ns.length ns'.length c2 c2' ns ns' W (Lib.hid (hN3.out.below hb)) (Lib.hid (hM3.out.below hb)) (by omega)
          simp only [hsame.out] at kS
          clear hpost hb3 hb3' ho hn hk2 hq hsame hK2 hE2 hR0
          simp only [List.length_nil]
          go_wp2_with ((go_at_call 12; refine (num_any _ _ (by omega) (by omega)).mono ?_; rintro e w' ⟨rfl, rfl⟩))
          refine (kS.out _ (by (repeat' (first | with_reducible exact Below.refl _ _ | with_reducible assumption | with_reducible apply Below.setCell | with_reducible apply Below.alloc | with_reducible apply Below.drew | with_reducible apply below_drewN | with_reducible exact Nat.le_refl _ | (simp; done) | (simp; omega) | omega | exact Nat.le_refl _)))).mono ?_
          rintro e w5 ⟨rfl, hb5⟩
          have hB5 := Lib.hid (belT hB3.out (belT (show Below w3.heap.size w3 _ from by (repeat' (first | with_reducible exact Below.refl _ _ | with_reducible assumption | with_reducible apply Below.setCell | with_reducible apply Below.alloc | with_reducible apply Below.drew | with_reducible apply below_drewN | with_reducible exact Nat.le_refl _ | (simp; done) | (simp; omega) | omega | exact Nat.le_refl _))) hb5))
          clear hb5 kS q0 q1
          go_wp2_with fail
          go_ret
          exact ⟨rfl, hB5.out⟩
        · have hq : Q = .error (401, x) := hq
          obtain ⟨rfl, hb3⟩ := prp_no hpost hq
          have q0 : w3.cell? ⟨w2.heap.size, 0, none⟩ = some (.slice a 0 c) := carry hb3 (by simp) (by simp [go_sem])
          have q1 : w3.cell? ⟨w2.heap.size, 1, none⟩ = some (.slice a2 ns.length c2) := carry hb3 (by simp) (by simp [go_sem])
          have hb3' := belT (show Below w2.heap.size w2 _ from by (repeat' (first | with_reducible exact Below.refl _ _ | with_reducible assumption | with_reducible apply Below.setCell | with_reducible apply Below.alloc | with_reducible apply Below.drew | with_reducible apply below_drewN | with_reducible exact Nat.le_refl _ | (simp; done) | (simp; omega) | omega | exact Nat.le_refl _))) hb3
          have hl3 : w2.heap.size < w3.heap.size := Nat.lt_of_lt_of_le (by simp) hb3.size
          have hB3 := Lib.hid (belT hB2.out hb3')
          have hN3 := Lib.hid (hN.out.below hb3')
          have hg3 := Lib.hid (errTy_below hg.out hB3.out)
          have kD := Lib.hid fun (W : World) (hb : Below w3.heap.size w3 W) => tDepth_any a2 ns.length c2 ns ((ns.length : Int) - 1) W (Lib.hid (hN3.out.below hb)) (Lib.hid hk.out.sz) (by omega) (Lib.hid (errTy_below hg3.out hb))
          have hd0 := dep_ok hk.out
          have hs0 : (0 : Int) < (s.size : Int) := by have := hk.out.at_ 0 (by omega); omega
          generalize (depV ns ((ns.length : Int) - 1)).1 = dd at kD
          rw [hd0] at kD
          clear hpost hb3 hb3' hq hK2 hE2 hR0 hd0
          simp only [List.length_nil]
          try dsimp only
          go_wp2_with ((go_at_call 12; refine (num_any _ _ (by omega) (by omega)).mono ?_; rintro e w' ⟨rfl, rfl⟩))
          refine (kD.out _ (by (repeat' (first | with_reducible exact Below.refl _ _ | with_reducible assumption | with_reducible apply Below.setCell | with_reducible apply Below.alloc | with_reducible apply Below.drew | with_reducible apply below_drewN | with_reducible exact Nat.le_refl _ | (simp; done) | (simp; omega) | omega | exact Nat.le_refl _)))).mono ?_
          rintro e w5 ⟨rfl, hb5⟩
          have hB5 := Lib.hid (belT hB3.out (belT (show Below w3.heap.size w3 _ from by (repeat' (first | with_reducible exact Below.refl _ _ | with_reducible assumption | with_reducible apply Below.setCell | with_reducible apply Below.alloc | with_reducible apply Below.drew | with_reducible apply below_drewN | with_reducible exact Nat.le_refl _ | (simp; done) | (simp; omega) | omega | exact Nat.le_refl _))) hb5))
          clear hb5 kD q0 q1
          go_wp2_with ((go_at_call 12; refine (num_any _ _ (by omega) (by omega)).mono ?_; rintro e w' ⟨rfl, rfl⟩))
          all_goals (go_ret; exact ⟨ret_b (by first | (simp; done) | (simp; omega)), hB5.out⟩)
      · obtain ⟨x, hq⟩ := hR0.out.1 hos
        obtain ⟨rfl, hb3⟩ := prp_no hpost hq
        have hon : (0 : Int) < (os.length : Int) := by
          have : os.length ≠ 0 := fun h => hos (List.eq_nil_of_length_eq_zero h)
          omega
        have q0 : w3.cell? ⟨w2.heap.size, 0, none⟩ = some (.slice a os.length c) := carry hb3 (by simp) (by simp [go_sem])
        have hb3' := belT (show Below w2.heap.size w2 _ from by (repeat' (first | with_reducible exact Below.refl _ _ | with_reducible assumption | with_reducible apply Below.setCell | with_reducible apply Below.alloc | with_reducible apply Below.drew | with_reducible apply below_drewN | with_reducible exact Nat.le_refl _ | (simp; done) | (simp; omega) | omega | exact Nat.le_refl _))) hb3
        have hl3 : w2.heap.size < w3.heap.size := Nat.lt_of_lt_of_le (by simp) hb3.size
        have hB3 := Lib.hid (belT hB2.out hb3')
        clear hpost hb3 hb3' hq hK2 hE2 hR0 hos
        try dsimp only
        go_wp2_with ((go_at_call 12; refine (num_any _ _ (by omega) (by omega)).mono ?_; rintro e w' ⟨rfl, rfl⟩))
        go_ret
        exact ⟨rfl, belT hB3.out (by (repeat' (first | with_reducible exact Below.refl _ _ | with_reducible assumption | with_reducible apply Below.setCell | with_reducible apply Below.alloc | with_reducible apply Below.drew | with_reducible apply below_drewN | with_reducible exact Nat.le_refl _ | (simp; done) | (simp; omega) | omega | exact Nat.le_refl _)))⟩
  · have hn4 : (4093 : Int) < (s.size : Int) := by omega
    clear hlt
    go_enter Tryd.func5, Tryd.ntmps5
    go_wp2_with fail
    refine kA.out.mono ?_
    rintro e w1 ⟨rfl, hb1⟩
    have hB1 := Lib.hid hb1
    clear kA hb1
    go_wp2_with fail
    go_ret
    exact ⟨rfl, hB1.out⟩
theorem own : ownKnob Tryd.prog.godebug = none := by kernel_rfl
theorem laidOut : laidOutB Tryd.prog = true := by kernel_rfl
set_option maxRecDepth 100000 in
theorem contract (H : Type) (enc : TypeId × Value → H) (W : World) (base : Nat) (args : Array Value) (ds gs : List (DataW H)) (before : List MemPlace)
    (hval0 : ∀ (j : Nat) t v, Tryd.f5.params[j]? = some t → args[j]? = some v → Value.okWide Tryd.prog W .any base t v)
    (hW : DataW.Whole enc Tryd.prog Tryd.f5.params.toList Rows.parseBracketsSpec.vars false W args.toList ds gs before)
    (hsz0 : (DataW.weightsEach Tryd.prog (Tryd.f5.params.toList ++ Rows.parseBracketsSpec.plain.varTypes Tryd.prog) (ds ++ gs)).all (· ≤ reachBytes) = true)
    (hL : laidMetH Tryd.prog Rows.parseBracketsRow.laid W)
    : Calls Tryd.prog 5 args W fun e W' => ∃ v, e = .returned v ∧ Rows.parseBracketsSpec.post enc Tryd.prog Tryd.f5 false true false false W args v W' := by
  have hval : ∀ (j : Nat) t v, Tryd.f5.params[j]? = some t → args[j]? = some v → Value.okWide Tryd.prog W .any base t v := hval0
  have hsz : (DataW.weightsEach Tryd.prog (Tryd.f5.params.toList ++ Rows.parseBracketsSpec.plain.varTypes Tryd.prog) (ds ++ gs)).all (· ≤ reachBytes) = true := hsz0
  have hW' := hW
  obtain ⟨p, q, hA0, hV, rfl, hfz, hnd⟩ := hW
  have hA : DataW.TrodAll enc Tryd.prog W 0 (fun _ => true) true Tryd.f5.params.toList args.toList ds p := hA0
  rw [Tryd.params5] at hA hval hsz
  obtain ⟨v0, vs0, d0, ds0, p0, q0, hargs, rfl, rfl, h0, r0⟩ := trodAll_cons hA
  obtain ⟨rfl, rfl, rfl⟩ := trodAll_nil r0
  obtain rfl : args = #[v0] := by cases args; simp_all
  obtain ⟨rfl, rfl⟩ := trodVars_none hV
  have k0 := h0
  have lt0 : ∀ x ∈ p0, x.block < W.heap.size := by obtain ⟨m, hm⟩ := k0; exact DataW.trod_lt m _ _ _ hm
  obtain ⟨a0, rfl, rfl, rfl, m0⟩ := open_string Tryd.underlying9 (hval 0 9 v0 rfl rfl) h0
  have w0 : a0.size ≤ 140737488351232 := by
    have := sized_string hsz (j := 0) (t := 9) rfl rfl
    simp [reachBytes] at this; omega
  clear hA0 hval0
  refine (walk a0 W w0 (tabs hL)).mono fun e W' ⟨he, bel⟩ => ?_
  subst he
  exact ⟨_, rfl, _, _, _, [], _, [], hW', trodAll_mk1 (shut_bool Tryd.underlying4 _), (trodAll_cons_mk (Below.trod laidOut (by kernel_rfl) (of_decide_eq_true (by kernel_rfl)) k0 bel lt0) trodAll_mk0), rfl, bel.frame _, fun h => by cases h⟩
theorem laid_met (os : Os) : laidMetH Tryd.prog Rows.parseBracketsRow.laid ((handleWorld os).forCall (fun _ _ => 0) ⟨#[], #[.string ByteArray.empty], []⟩).memory := laidMetH_of_parts (laidMet_nil _ _) (by kernel_rfl)
theorem reads (os : Os) {H : Type} (enc : TypeId × Value → H) : ∃ places, DataW.whole enc Tryd.prog ((handleWorld os).forCall (fun _ _ => 0) ⟨#[], #[.string ByteArray.empty], []⟩).memory Tryd.f5.params.toList Rows.parseBracketsSpec.vars false #[(.string ByteArray.empty : Value)].toList 8 = some ([.lit (.string [])], [], places) := ⟨[], by kernel_rfl⟩
set_option maxRecDepth 100000 in
theorem lifted (os : Os) (started : os.Started) (H : Type) (enc : TypeId × Value → H) (F : Stop.Interp) :
    ReturnsInHanded {} Tryd.checked os 5 .any ((OpenSpec.ofChange Rows.parseBracketsSpec).preRow enc Tryd.prog Tryd.f5 Rows.parseBracketsRow.domain false Rows.parseBracketsRow.laid) (((OpenSpec.ofChange Rows.parseBracketsSpec).at F).post enc Tryd.prog Tryd.f5 false true false false) := by
  obtain ⟨places, hx⟩ := reads os enc
  refine returnsInHanded_of_row (C := Tryd.checked) (s := (OpenSpec.ofChange Rows.parseBracketsSpec)) own started (by kernel_rfl) Tryd.func5
    (witness_row_at (enc := enc) (C := Tryd.checked) false (handleWorld os) #[.string ByteArray.empty] rfl (by kernel_rfl) (by kernel_rfl) (by kernel_rfl)
      (OpenSpec.preRow_of_cond 8 hx (by kernel_rfl) (fun k hk => by cases hk) (by kernel_rfl) (laid_met os))) ?_
  intro W base args ds gs before hval hW _ hcnd hsz hL _ _
  exact contract H enc W base args ds gs before hval hW hsz  hL
theorem said : Rows.ParseBracketsSaid :=
  OpenClaim.holds_of_cond 5 Tryd.f5 rfl rfl rfl rfl rfl rfl rfl ⟨rfl, rfl, rfl, rfl, rfl⟩ rfl rfl rfl rfl rfl (by kernel_rfl) Tryd.func5 (by kernel_rfl)
    (of_decide_eq_true (by kernel_rfl)) (by unfold Func.isWrapper; first | (rw [if_pos (by decide +kernel)]; kernel_rfl) | (rw [if_neg (by decide +kernel)]; exact ⟨rfl, rfl⟩))
    (fun os started H enc _ F => by rw [OpenClaim.pre_eq_preRow]; exact lifted os started H enc F)
theorem plain (f : FuncId) (fn : Func) (hf : Tryd.pinned.checked.prog.funcNamed "trammel/trammellaw4.ParseBrackets" = some f) (hfn : Tryd.pinned.checked.prog.funcs[f]? = some fn) :
    true = Tryd.pinned.checked.prog.looks [] ∧ ∀ (j : Nat) t, fn.params[j]? = some t → Tryd.pinned.checked.prog.wantsStandIn t = false := by
  obtain rfl : f = 5 := Option.some.inj ((show Tryd.prog.funcNamed "trammel/trammellaw4.ParseBrackets" = some 5 by kernel_rfl).symm.trans hf) |>.symm
  obtain rfl : fn = Tryd.f5 := (Option.some.inj (Tryd.func5.symm.trans hfn)).symm
  refine ⟨by kernel_rfl, fun j t ht => ?_⟩
  rw [Tryd.params5] at ht
  have hm := Array.mem_of_getElem? ht
  have hm2 : t ∈ ([9] : List Nat) := by simpa using hm
  simp only [List.mem_cons, List.not_mem_nil, or_false] at hm2
  subst hm2; exact (show Tryd.prog.wantsStandIn 9 = false by kernel_rfl)
theorem proved : Rows.ParseBracketsCardSaid :=
  Claim7.holds_tied_plain_at .later [] _ _ _ _ said (fun _ h => by cases h) (by kernel_rfl) (fun _ h => by cases h) parseBrackets_row_tie rfl ⟨rfl, rfl⟩ (by kernel_rfl) rfl plain (by kernel_rfl)
end Go.Proofs.YtnhfbbognjdnpaaDoor.parseBrackets
