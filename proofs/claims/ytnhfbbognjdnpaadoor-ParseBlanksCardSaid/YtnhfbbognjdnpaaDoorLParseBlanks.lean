/- ParseBlanks holds for every text and number. No condition but that the listed package variable holds what the program's text lays. -/
import Derived.Test.YtnhfbbognjdnpaaDoorPrG
import Derived.Test.YtnhfbbognjdnpaaDoorAid
import Derived.Test.YtnhfbbognjdnpaaDoorCards
import Derived.Test.YtnhfbbognjdnpaaDoorTie
import Derived.Test.YtnhfbbognjdnpaaDoorOpn
import Derived.Test.YtnhfbbognjdnpaaDoorHan
import Derived.WalkKit
import Derived.ProofKit
import Derived.Deep.DeepHandedRow
namespace Go.Proofs.YtnhfbbognjdnpaaDoor.parseBlanks
open Go.ChangeShapes Go.WideShapes Go.ChangeAt Go.RowKit
open Go.ChangeMaps (open_string shut_string)
set_option linter.unusedVariables false
set_option linter.unusedSimpArgs false

theorem tabs {W : World} (h : laidMetH Tryd.prog Rows.parseBlanksRow.laid W) : Hid (errTy W) := Lib.hid (errTy_of h (.head _))
def ahS : List (List UInt8) := [[32], [10, 9], [35, 32, 97, 32, 114, 101, 109, 97, 114, 107, 32, 40, 10], [10, 10, 32, 32]]
theorem blank_all (m : Nat) (hm : m < 4) : Blank (bs (ahS.getD m [])) ∧ (bs (ahS.getD m [])).size ≤ 20 := by
  have hcs : m = 0 ∨ m = 1 ∨ m = 2 ∨ m = 3 := (by omega); rcases hcs with rfl | rfl | rfl | rfl
  all_goals exact ⟨⟨by decide +kernel, fun l => rfl, by decide +kernel⟩, by decide⟩
set_option maxRecDepth 100000 in
set_option maxHeartbeats 8000000 in
theorem walk (s : ByteArray) (a1 : Int) (w : World) (hs : s.size ≤ 140737488351232) (b1 : -9223372036854775808 ≤ a1 ∧ a1 ≤ 9223372036854775807) (hg : Hid (errTy w)) :
    Calls Tryd.prog 4 #[.string s, .int .i64 a1] w fun e w' => e = .returned (.bool true) ∧ Below w.heap.size w w' := by
  have hk0 := and3 a1
  obtain ⟨mi, hmi⟩ : ∃ m, a1 % 4 = m := ⟨_, rfl⟩
  rw [hmi] at hk0
  obtain ⟨m, rfl⟩ := Int.eq_ofNat_of_zero_le (show 0 ≤ mi by omega)
  have hm : m < 4 := by omega
  obtain ⟨hbl, hxs⟩ := blank_all m hm
  obtain ⟨x, hx⟩ : ∃ x, bs (ahS.getD m []) = x := ⟨_, rfl⟩
  rw [hx] at hbl hxs
  have hx' := Lib.hid hx
  have hbl := Lib.hid hbl
  clear hx hmi
  have hmi : (m : Int) < 4 := by omega
  have kA := Lib.hid (awake4_any w hg)
  go_enter Tryd.func4, Tryd.ntmps4
  go_wp2_with fail
  refine kA.out.mono ?_
  rintro e w1 ⟨rfl, hb1⟩
  have hB1 := Lib.hid hb1
  clear kA hb1
  have hc : (w1.alloc (.cells #[.string ⟨#[32]⟩, .string ⟨#[10, 9]⟩, .string ⟨#[35, 32, 97, 32, 114, 101, 109, 97, 114, 107, 32, 40, 10]⟩, .string ⟨#[10, 10, 32, 32]⟩] 9)).cell? ⟨w1.heap.size, m, none⟩ = some (.string x) := by
    rw [World.cell?_alloc_at _ _ _ _ (by rfl), ← hx'.out]
    have hcs : m = 0 ∨ m = 1 ∨ m = 2 ∨ m = 3 := (by omega); rcases hcs with rfl | rfl | rfl | rfl <;> rfl
  go_upto_region 5 with fail
  obtain ⟨W1, hW1⟩ : ∃ W, w1.alloc (.cells #[.string ⟨#[32]⟩, .string ⟨#[10, 9]⟩, .string ⟨#[35, 32, 97, 32, 114, 101, 109, 97, 114, 107, 32, 40, 10]⟩, .string ⟨#[10, 10, 32, 32]⟩] 9) = W := ⟨_, rfl⟩
  have hB2 := Lib.hid (belT hB1.out (show Below w1.heap.size w1 W1 from by rw [← hW1]; exact below_alc _ _))
  rw [hW1]
  clear hc hW1 hx' hk0 hmi hm
  obtain ⟨t, ht⟩ : ∃ t, x ++ s ++ ⟨#[10]⟩ ++ x = t := ⟨_, rfl⟩
  rw [ht]
  have ht2 : x ++ (s ++ nlB ++ x) = t := by rw [← ht]; exact ba_ext (by simp [nlB])
  have hts : t.size = x.size + (s.size + 1 + x.size) := by rw [← ht2, app_size, nl_whole]
  clear ht
  have htz : (t.size : Int) ≤ 140737488351300 := by omega
  by_cases hlt : t.size ≤ 4096
  · have hRR := parse_blank hbl.out s (by omega)
    rw [ht2] at hRR
    have hn4 : ¬ (4096 : Int) < (t.size : Int) := by omega
    have kP := Lib.hid fun (W : World) (hb : Below w.heap.size w W) => Parse_any s W (by omega) (Lib.hid (errTy_below hg.out hb))
    have kQ := Lib.hid fun (W : World) (hb : Below w.heap.size w W) => Parse_any t W (by omega) (Lib.hid (errTy_below hg.out hb))
    have hK := Lib.hid fun (os : List Or) (ns : List Nd) (h : parseV s = .ok (os, ns)) => parse_k h
    have hE := Lib.hid fun (x : PE) (h : parseV s = .error x) => parse_no h
    generalize parseV s = R at kP hK hE hRR
    generalize parseV t = Q at kQ hRR
    have hss : (s.size : Int) ≤ 4096 := by omega
    have hxs' : (x.size : Int) ≤ 20 := by omega
    have ht2' := Lib.hid ht2
    clear ht2 hlt
    rcases R with ⟨xc, xp⟩ | ⟨os, ns⟩
    · obtain ⟨⟨yc, yp⟩, rfl, hc1, hpl⟩ := hRR
      obtain rfl : yc = xc := hc1
      obtain ⟨⟨x1, x2⟩, x3, x4⟩ := hE.out _ rfl
      dsimp only at x1 x2 x3 x4 hpl
      have hpl := Lib.hid hpl
      have hts := Lib.hid hts
      go_wp2_with fail
      refine (kP.out _ hB2.out).mono ?_
      intro e w2 hpost
      obtain ⟨rfl, hb2⟩ := prp_no hpost rfl
      have hB3 := Lib.hid (belT hB2.out hb2)
      clear hpost hb2 kP
      go_wp2_with fail
      refine (kQ.out _ (belT hB3.out (by (repeat' (first | with_reducible exact Below.refl _ _ | with_reducible assumption | with_reducible apply Below.setCell | with_reducible apply Below.alloc | with_reducible apply Below.drew | with_reducible apply below_drewN | with_reducible exact Nat.le_refl _ | (simp; done) | (simp; omega) | omega | exact Nat.le_refl _))))).mono ?_
      intro e w3 hpost
      obtain ⟨rfl, hb3⟩ := prp_no hpost rfl
      have hB4 := Lib.hid (belT (belT hB3.out (show Below w2.heap.size w2 _ from by (repeat' (first | with_reducible exact Below.refl _ _ | with_reducible assumption | with_reducible apply Below.setCell | with_reducible apply Below.alloc | with_reducible apply Below.drew | with_reducible apply below_drewN | with_reducible exact Nat.le_refl _ | (simp; done) | (simp; omega) | omega | exact Nat.le_refl _)))) hb3)
      clear hpost hb3 kQ hK hE
      have e0 : (yc == 0) = false := beq_eq_false_iff_ne.2 (by omega)
      dsimp only
      have hfin := Lib.hid (belT hB4.out (below_alc w3 (.cells #[.slice none 0 0, .slice none 0 0] 26)))
      by_cases h1 : yp = xp + x.size
      · subst h1
        clear hpl
        go_wp2_with ((go_at_call 12; refine (num_any _ _ (by omega) (by omega)).mono ?_; rintro e w' ⟨rfl, rfl⟩))
        go_ret
        exact ⟨rfl, hfin.out⟩
      · have e1 : (yp == xp + (x.size : Int)) = false := beq_eq_false_iff_ne.2 h1
        have h2 : xp = s.size ∧ yp = t.size := by
          rcases hpl.out with h | h
          · exact absurd h h1
          · exact h
        obtain ⟨rfl, rfl⟩ := h2
        clear hpl h1
        go_wp2_with ((go_at_call 12; refine (num_any _ _ (by omega) (by omega)).mono ?_; rintro e w' ⟨rfl, rfl⟩))
        go_ret
        exact ⟨rfl, hfin.out⟩
    · obtain ⟨⟨os', ns'⟩, rfl, h1, h20⟩ := hRR
      obtain rfl : os' = os := h1
      have h2 : ns' = ns.map (shN x.size) := h20
      have hsame := Lib.hid (show sameV ndS ns ns' = true from by rw [h2]; exact bare_sh x.size ns)
      clear h2 h20
      have hk := hK.out _ _ rfl
      have hl1 := hk.l1
      have hol := hk.ol
      clear hk hK hE
      go_wp2_with fail
      refine (kP.out _ hB2.out).mono ?_
      intro e w2 hpost
      obtain ⟨a, c, a2, c2, rfl, hb2, ho, hn⟩ := prp_ok hpost rfl
      have hB3 := Lib.hid (belT hB2.out hb2)
      have hN := Lib.hid (show NArg w2 a2 ns.length ns from hn.arg)
      have hO := Lib.hid (show OArg w2 a os'.length os' from ho.arg)
      clear hpost hb2 kP ho hn
      go_wp2_with fail
      refine (kQ.out _ (belT hB3.out (by (repeat' (first | with_reducible exact Below.refl _ _ | with_reducible assumption | with_reducible apply Below.setCell | with_reducible apply Below.alloc | with_reducible apply Below.drew | with_reducible apply below_drewN | with_reducible exact Nat.le_refl _ | (simp; done) | (simp; omega) | omega | exact Nat.le_refl _))))).mono ?_
      intro e w3 hpost
      obtain ⟨a', c', a2', c2', rfl, hb3, ho, hn⟩ := prp_ok hpost rfl
      have q0 : w3.cell? ⟨w2.heap.size, 0, none⟩ = some (.slice a os'.length c) := carry hb3 (by simp) (by simp [go_sem])
      have q1 : w3.cell? ⟨w2.heap.size, 1, none⟩ = some (.slice a2 ns.length c2) := carry hb3 (by simp) (by simp [go_sem])
      have hb3' := belT (show Below w2.heap.size w2 _ from by (repeat' (first | with_reducible exact Below.refl _ _ | with_reducible assumption | with_reducible apply Below.setCell | with_reducible apply Below.alloc | with_reducible apply Below.drew | with_reducible apply below_drewN | with_reducible exact Nat.le_refl _ | (simp; done) | (simp; omega) | omega | exact Nat.le_refl _))) hb3
      have hN3 := Lib.hid (hN.out.below hb3')
      have hO3 := Lib.hid (hO.out.below hb3')
      have hM3 := Lib.hid (show NArg w3 a2' ns'.length ns' from hn.arg)
      have hQ3 := Lib.hid (show OArg w3 a' os'.length os' from ho.arg)
      have hB4 := Lib.hid (belT hB3.out hb3')
      have hl3 : w2.heap.size < w3.heap.size := Nat.lt_of_lt_of_le (by simp) hb3.size
      have kS := Lib.hid fun (W : World) (hb : Below w3.heap.size w3 W) => tSame_any a2 a2' ns.length ns'.length c2 c2' ns ns' W (Lib.hid (hN3.out.below hb)) (Lib.hid (hM3.out.below hb)) (by omega)
      have kO := Lib.hid fun (W : World) (hb : Below w3.heap.size w3 W) => sameOps_any a a' os'.length os'.length c c' os' os' W (Lib.hid (hO3.out.below hb)) (Lib.hid (hQ3.out.below hb)) (by omega)
      simp only [hsame.out] at kS
      simp only [sameVO_self] at kO
      clear hpost hb3 kQ ho hn hb3' hN hO hsame hB3
      go_wp2_with ((go_at_call 12; refine (num_any _ _ (by omega) (by omega)).mono ?_; rintro e w' ⟨rfl, rfl⟩))
      refine (kS.out _ (by (repeat' (first | with_reducible exact Below.refl _ _ | with_reducible assumption | with_reducible apply Below.setCell | with_reducible apply Below.alloc | with_reducible apply Below.drew | with_reducible apply below_drewN | with_reducible exact Nat.le_refl _ | (simp; done) | (simp; omega) | omega | exact Nat.le_refl _)))).mono ?_
      rintro e w5 ⟨rfl, hb5⟩
      have z0 : w5.cell? ⟨w3.heap.size, 0, none⟩ = some (.slice a' os'.length c') := carry hb5 (by simp) (by simp [go_sem])
      have hb5' := belT (show Below w3.heap.size w3 _ from by (repeat' (first | with_reducible exact Below.refl _ _ | with_reducible assumption | with_reducible apply Below.setCell | with_reducible apply Below.alloc | with_reducible apply Below.drew | with_reducible apply below_drewN | with_reducible exact Nat.le_refl _ | (simp; done) | (simp; omega) | omega | exact Nat.le_refl _))) hb5
      have q0 := carry hb5' hl3 q0
      have hB5 := Lib.hid (belT hB4.out hb5')
      have hl5 : w2.heap.size < w5.heap.size := Nat.lt_of_lt_of_le hl3 hb5'.size
      have hl6 : w3.heap.size < w5.heap.size := Nat.lt_of_lt_of_le (by simp) hb5.size
      have hb5' := Lib.hid hb5'
      clear hb5 kS q1
      go_wp2_with fail
      refine (kO.out _ hb5'.out).mono ?_
      rintro e w6 ⟨rfl, hb6⟩
      have hB6 := Lib.hid (belT hB5.out hb6)
      clear hb6
      go_wp2_with fail
      go_ret
      exact ⟨rfl, hB6.out⟩
  · have hn4 : (4096 : Int) < (t.size : Int) := by omega
    clear hlt hts
    go_wp2_with fail
    go_ret
    exact ⟨rfl, hB2.out⟩
theorem own : ownKnob Tryd.prog.godebug = none := by kernel_rfl
theorem laidOut : laidOutB Tryd.prog = true := by kernel_rfl
set_option maxRecDepth 100000 in
theorem contract (H : Type) (enc : TypeId × Value → H) (W : World) (base : Nat) (args : Array Value) (ds gs : List (DataW H)) (before : List MemPlace)
    (hval0 : ∀ (j : Nat) t v, Tryd.f4.params[j]? = some t → args[j]? = some v → Value.okWide Tryd.prog W .any base t v)
    (hW : DataW.Whole enc Tryd.prog Tryd.f4.params.toList Rows.parseBlanksSpec.vars false W args.toList ds gs before)
    (hsz0 : (DataW.weightsEach Tryd.prog (Tryd.f4.params.toList ++ Rows.parseBlanksSpec.plain.varTypes Tryd.prog) (ds ++ gs)).all (· ≤ reachBytes) = true)
    (hL : laidMetH Tryd.prog Rows.parseBlanksRow.laid W)
    : Calls Tryd.prog 4 args W fun e W' => ∃ v, e = .returned v ∧ Rows.parseBlanksSpec.post enc Tryd.prog Tryd.f4 false true false false W args v W' := by
  have hval : ∀ (j : Nat) t v, Tryd.f4.params[j]? = some t → args[j]? = some v → Value.okWide Tryd.prog W .any base t v := hval0
  have hsz : (DataW.weightsEach Tryd.prog (Tryd.f4.params.toList ++ Rows.parseBlanksSpec.plain.varTypes Tryd.prog) (ds ++ gs)).all (· ≤ reachBytes) = true := hsz0
  have hW' := hW
  obtain ⟨p, q, hA0, hV, rfl, hfz, hnd⟩ := hW
  have hA : DataW.TrodAll enc Tryd.prog W 0 (fun _ => true) true Tryd.f4.params.toList args.toList ds p := hA0
  rw [Tryd.params4] at hA hval hsz
  obtain ⟨v0, vs0, d0, ds0, p0, q0, hargs, rfl, rfl, h0, r0⟩ := trodAll_cons hA
  obtain ⟨v1, vs1, d1, ds1, p1, q1, rfl, rfl, rfl, h1, r1⟩ := trodAll_cons r0
  obtain ⟨rfl, rfl, rfl⟩ := trodAll_nil r1
  obtain rfl : args = #[v0, v1] := by cases args; simp_all
  obtain ⟨rfl, rfl⟩ := trodVars_none hV
  have k0 := h0
  have lt0 : ∀ x ∈ p0, x.block < W.heap.size := by obtain ⟨m, hm⟩ := k0; exact DataW.trod_lt m _ _ _ hm
  obtain ⟨a0, rfl, rfl, rfl, m0⟩ := open_string Tryd.underlying9 (hval 0 9 v0 rfl rfl) h0
  have w0 : a0.size ≤ 140737488351232 := by
    have := sized_string hsz (j := 0) (t := 9) rfl rfl
    simp [reachBytes] at this; omega
  have k1 := h1
  have lt1 : ∀ x ∈ p1, x.block < W.heap.size := by obtain ⟨m, hm⟩ := k1; exact DataW.trod_lt m _ _ _ hm
  obtain ⟨a1, rfl, rfl, rfl, m1⟩ := open_int Tryd.underlying3 (hval 1 3 v1 rfl rfl) h1
  clear hA0 hval0
  refine (walk a0 a1 W w0 (bd_i64 m1) (tabs hL)).mono fun e W' ⟨he, bel⟩ => ?_
  subst he
  exact ⟨_, rfl, _, _, _, [], _, [], hW', trodAll_mk1 (shut_bool Tryd.underlying4 _), (trodAll_cons_mk (Below.trod laidOut (by kernel_rfl) (of_decide_eq_true (by kernel_rfl)) k0 bel lt0) (trodAll_cons_mk (Below.trod laidOut (by kernel_rfl) (of_decide_eq_true (by kernel_rfl)) k1 bel lt1) trodAll_mk0)), rfl, bel.frame _, fun h => by cases h⟩
theorem laid_met (os : Os) : laidMetH Tryd.prog Rows.parseBlanksRow.laid ((handleWorld os).forCall (fun _ _ => 0) ⟨#[], #[.string ByteArray.empty, .int .i64 0], []⟩).memory := laidMetH_of_parts (laidMet_nil _ _) (by kernel_rfl)
theorem reads (os : Os) {H : Type} (enc : TypeId × Value → H) : ∃ places, DataW.whole enc Tryd.prog ((handleWorld os).forCall (fun _ _ => 0) ⟨#[], #[.string ByteArray.empty, .int .i64 0], []⟩).memory Tryd.f4.params.toList Rows.parseBlanksSpec.vars false #[(.string ByteArray.empty : Value), (.int .i64 0 : Value)].toList 8 = some ([.lit (.string []), .lit (.int .i64 0)], [], places) := ⟨[], by kernel_rfl⟩
set_option maxRecDepth 100000 in
theorem lifted (os : Os) (started : os.Started) (H : Type) (enc : TypeId × Value → H) (F : Stop.Interp) :
    ReturnsInHanded {} Tryd.checked os 4 .any ((OpenSpec.ofChange Rows.parseBlanksSpec).preRow enc Tryd.prog Tryd.f4 Rows.parseBlanksRow.domain false Rows.parseBlanksRow.laid) (((OpenSpec.ofChange Rows.parseBlanksSpec).at F).post enc Tryd.prog Tryd.f4 false true false false) := by
  obtain ⟨places, hx⟩ := reads os enc
  refine returnsInHanded_of_row (C := Tryd.checked) (s := (OpenSpec.ofChange Rows.parseBlanksSpec)) own started (by kernel_rfl) Tryd.func4
    (witness_row_at (enc := enc) (C := Tryd.checked) false (handleWorld os) #[.string ByteArray.empty, .int .i64 0] rfl (by kernel_rfl) (by kernel_rfl) (by kernel_rfl)
      (OpenSpec.preRow_of_cond 8 hx (by kernel_rfl) (fun k hk => by cases hk) (by kernel_rfl) (laid_met os))) ?_
  intro W base args ds gs before hval hW _ hcnd hsz hL _ _
  exact contract H enc W base args ds gs before hval hW hsz  hL
theorem said : Rows.ParseBlanksSaid :=
  OpenClaim.holds_of_cond 4 Tryd.f4 rfl rfl rfl rfl rfl rfl rfl ⟨rfl, rfl, rfl, rfl, rfl⟩ rfl rfl rfl rfl rfl (by kernel_rfl) Tryd.func4 (by kernel_rfl)
    (of_decide_eq_true (by kernel_rfl)) (by unfold Func.isWrapper; first | (rw [if_pos (by decide +kernel)]; kernel_rfl) | (rw [if_neg (by decide +kernel)]; exact ⟨rfl, rfl⟩))
    (fun os started H enc _ F => by rw [OpenClaim.pre_eq_preRow]; exact lifted os started H enc F)
theorem plain (f : FuncId) (fn : Func) (hf : Tryd.pinned.checked.prog.funcNamed "trammel/trammellaw4.ParseBlanks" = some f) (hfn : Tryd.pinned.checked.prog.funcs[f]? = some fn) :
    true = Tryd.pinned.checked.prog.looks [] ∧ ∀ (j : Nat) t, fn.params[j]? = some t → Tryd.pinned.checked.prog.wantsStandIn t = false := by
  obtain rfl : f = 4 := Option.some.inj ((show Tryd.prog.funcNamed "trammel/trammellaw4.ParseBlanks" = some 4 by kernel_rfl).symm.trans hf) |>.symm
  obtain rfl : fn = Tryd.f4 := (Option.some.inj (Tryd.func4.symm.trans hfn)).symm
  refine ⟨by kernel_rfl, fun j t ht => ?_⟩
  rw [Tryd.params4] at ht
  have hm := Array.mem_of_getElem? ht
  have hm2 : t ∈ ([9, 3] : List Nat) := by simpa using hm
  simp only [List.mem_cons, List.not_mem_nil, or_false] at hm2
  rcases hm2 with rfl | rfl
  · exact (show Tryd.prog.wantsStandIn 9 = false by kernel_rfl)
  · exact (show Tryd.prog.wantsStandIn 3 = false by kernel_rfl)
theorem proved : Rows.ParseBlanksCardSaid :=
  Claim7.holds_tied_plain_at .later [] _ _ _ _ said (fun _ h => by cases h) (by kernel_rfl) (fun _ h => by cases h) parseBlanks_row_tie rfl ⟨rfl, rfl⟩ (by kernel_rfl) rfl plain (by kernel_rfl)
end Go.Proofs.YtnhfbbognjdnpaaDoor.parseBlanks
