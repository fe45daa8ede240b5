/- TidyParts holds for every program and every number. No condition but that the listed package variable holds what the program's text lays. -/
import Derived.Test.YthpcbgljbpmafaaGreatDoorU46
import Derived.Test.YthpcbgljbpmafaaGreatDoorU47
import Derived.Test.YthpcbgljbpmafaaGreatDoorU37
import Derived.Test.YthpcbgljbpmafaaGreatDoorU22
import Derived.Test.YthpcbgljbpmafaaGreatDoorU48
import Derived.Test.YthpcbgljbpmafaaGreatDoorU17
import Derived.Test.YthpcbgljbpmafaaGreatDoorU36
import Derived.Test.YthpcbgljbpmafaaGreatDoorCards
import Derived.Test.YthpcbgljbpmafaaGreatDoorTie
import Derived.WalkKit
import Derived.ProofKit
import Derived.Deep.DeepHandedRow
namespace Go.Proofs.YthpcbgljbpmafaaGreatDoor
section
open Go.ChangeShapes Go.WideShapes Go.ChangeAt Go.RowKit
variable {H : Type} {enc : TypeId × Value → H} {P : Program} {w : World} {base : Nat} {sp : Nat → Bool} {held : Bool}
set_option linter.unusedVariables false
theorem fit_nil {R : Sc → Value → Prop} {cs : List Value} (h : Fit R [] cs) : cs = [] := by
  cases cs with
  | nil => rfl
  | cons v vs => exact h.elim
theorem open_struct {r : Reach} {b0 : Nat} {t : TypeId} {fs : Array Field} {v : Value} {d : DataW H} {p : List MemPlace} {f : Nat} {ks : List Sc} (hs : P.underlying t = some (.struct fs)) (hk : flat P f t = some ks)
    (hv : Value.okWide P w r b0 t v) (h : DataW.Trod enc P w base sp held t v d p) (hw : ∀ x ∈ DataW.weights P t d, x ≤ reachBytes) : ∃ cs : List Value, v = .agg cs.toArray ∧ Fit (ScOk enc P w base sp held) ks cs := by
  obtain ⟨cs, rfl, hsz⟩ := okWide_struct hs hv
  obtain ⟨fuel, hf⟩ := h
  exact ⟨cs.toList, by simp, flat_fit f fuel t cs.toList (d, p) ks hk (by simpa [Value.cells] using hf) hw⟩
theorem bd_i64 {n : Int} (h : (Lit.int .i64 n).wf = true) : -9223372036854775808 ≤ n ∧ n ≤ 9223372036854775807 := by simpa [Lit.wf, IntKind.min, IntKind.max, IntKind.signed, IntKind.bits] using h
end
end Go.Proofs.YthpcbgljbpmafaaGreatDoor
namespace Go.Proofs.YthpcbgljbpmafaaGreatDoor.tidyParts
open Go.ChangeShapes Go.WideShapes Go.ChangeAt Go.RowKit
open Go.ChangeMaps (open_string shut_string)
set_option linter.unusedVariables false
set_option linter.unusedSimpArgs false

theorem tabs {W : World} (h : laidMetH Tryz.prog Rows.tidyPartsRow.laid W) : Hid (errTy W) := Lib.hid (errTy_of h (.head _))
theorem bar_below {S : Nat → Prop} {w W W' : World} (h : Below w.heap.size w W) (hb : Bar S W W') (hs : ∀ k, S k → w.heap.size ≤ k) : Below w.heap.size w W' :=
  ⟨hb.os.trans h.os, hb.tape.trans h.tape, hb.output.trans h.output, Nat.le_trans h.size hb.size, fun k hk => (hb.block k (by have := h.size; omega) (fun e => by have := hs k e; omega)).trans (h.block k hk)⟩
/-- a program's box, its nodes of its own. -/
def FBox (Wb : World) (p0 : Option Addr) (n0 c0 : Nat) (l : List Nd) (W : World) (g : Nat) (a : Option Addr) (c : Nat) : Prop :=
  Below Wb.heap.size Wb W ∧ Wb.heap.size ≤ g ∧ Pg W g p0 n0 c0 a l.length c ∧ (∀ o, W.frozen? ⟨g, o, none⟩ = false) ∧ OwnN Wb.heap.size W (.slice a l.length c) l ∧ ∀ k, (Value.slice a l.length c).ownBlock = some k → k ≠ g
theorem ok_fun {a : Int} : okNd (okNm false) ⟨3, a, 0, 0, 0, ⟨#[]⟩, ⟨#[]⟩, ⟨#[]⟩, ⟨#[]⟩, 0⟩ = true := by
  unfold okNd plainB numB okNm resB namesL
  simp [z00]
def unN (ts : List Nd) : Nd := ⟨3, ((ts.length - 1 : Nat) : Int), 0, 0, 0, ⟨#[]⟩, ⟨#[]⟩, ⟨#[]⟩, ⟨#[]⟩, 0⟩
theorem smay_un {os : List Or} {ts : List Nd} (h : smayV os ts = true) (hl : ts.length + 1 ≤ 512) : smayV os (ts ++ [unN ts]) = true := by
  obtain ⟨h1, h2, h3, h4, h5, h6⟩ := smay_parts h
  have hb : bg (ksN (ts ++ [unN ts])) ts.length = ((0 : Nat) : Int) := part1 (a := ts.length - 1) rfl (by omega) (by rw [h4]; rfl)
  refine smay_mk h1 (by simp; omega) (fun t ht => ?_) (by simpa using hb) h5 ?_
  · rcases List.mem_append.1 ht with ht | ht
    · exact h3 t ht
    · rw [List.mem_singleton.1 ht]; exact ok_fun
  · rw [List.length_append, List.length_singleton, Nat.add_sub_cancel]
    unfold numsV
    rw [getD_at (r := [])]
    have e := numsV_app os.length ts [unN ts] ts.length (ts.length - 1) 1 (by omega) (by omega)
    have m := numsV_mono os.length ts ts.length ts.length (ts.length - 1) 0 1 (Nat.le_refl _) (by omega) h6
    rw [← e] at m
    simp [unN, nmBd, kidsS]
    simpa [unN] using m
theorem td_un {os : List Or} {ts : List Nd} (h : smayV os ts = true) (hl : ts.length + 1 ≤ 512) (m : List Nd) : td (ts ++ [unN ts]) ts.length m = td ts (ts.length - 1) m ++ [setA (unN ts) (lstI (td ts (ts.length - 1) m))] := by
  have h' := smay_un h hl
  have h0 := (smay_parts h).2.1
  have hT' := tre_m h'
  rw [td_eq _ (fun j hj => hT'.kidB hj) _ (by simp), getD_at (r := [])]
  have e := td_app h h' (ts.length - 1) (by omega) m
  have ek : (unN ts).a.toNat = ts.length - 1 := by simp [unN]
  unfold tdS
  rw [if_neg (by simp [unN])]
  dsimp only
  rw [if_pos (by simp [unN]), ek, e]
def F3 (n : Int) : Nd := ⟨3, n, 0, 0, 0, ⟨#[]⟩, ⟨#[]⟩, ⟨#[]⟩, ⟨#[]⟩, 0⟩
def F4 (n m : Int) : Nd := ⟨4, n, m, 0, 0, ⟨#[]⟩, ⟨#[]⟩, ⟨#[]⟩, ⟨#[]⟩, 0⟩
theorem f3_un {ts : List Nd} (h : 1 ≤ ts.length) : F3 ((ts.length : Int) - 1) = unN ts := by
  unfold F3 unN; rw [show ((ts.length - 1 : Nat) : Int) = (ts.length : Int) - 1 by omega]
theorem f4_bi {ts : List Nd} (h : 1 ≤ ts.length) : F4 ((ts.length : Int) - 1) ts.length = biN 4 0 ts := by
  unfold F4 biN; rw [show ((ts.length - 1 : Nat) : Int) = (ts.length : Int) - 1 by omega]
theorem f3_set {ts q : List Nd} (h : 1 ≤ q.length) : F3 ((q.length : Int) - 1) = setA (unN ts) (lstI q) := by
  unfold F3 setA unN lstI; simp only; rw [show ((q.length - 1 : Nat) : Int) = (q.length : Int) - 1 by omega]
theorem f4_set {ts q : List Nd} (h : 1 ≤ q.length) : F4 ((q.length : Int) - 1) q.length = setAB (biN 4 0 ts) (lstI q) q.length := by
  unfold F4 setAB biN lstI; simp only; rw [show ((q.length - 1 : Nat) : Int) = (q.length : Int) - 1 by omega]
section
variable {P : Program} {ops : Array Oper} {Q : Exit → Act → World → Prop} {md : Region.Mode} {S : World → Prop}
theorem rg_twoF (i j : Nat) {o p : Oper} {fuel : Nat} {listed : Array Bool} {a : Act} {w : World} (hi : ops[i]? = some o) (hj : ops[j]? = some p) (hr : Region.ready md ops listed = [i, j]) (hw : Region.wanted o (yielded ops a.tmps) = true) (hw' : Region.wanted p (yielded ops a.tmps) = true)
    (h : ∀ K' : Act → World → Prop, Shut (∀ a w, S w → (S w → wpAnyH P md ops Q S fuel (listed.setIfInBounds i true) a w) → K' a w) → Oper.wp P o a w K' Q)
    (h' : ∀ K' : Act → World → Prop, Shut (∀ a w, S w → (S w → wpAnyH P md ops Q S fuel (listed.setIfInBounds j true) a w) → K' a w) → Oper.wp P p a w K' Q) : wpAnyH P md ops Q S (fuel + 1) listed a w := by
  refine wpAnyH_ready hr (by simp) (AllReadyH.cons hi (fun K hK => ?_) (AllReadyH.cons hj (fun K hK => ?_) AllReadyH.nil))
  · rw [if_pos hw]; exact h K hK
  · rw [if_pos hw']; exact h' K hK
end
theorem sz_of {os : List Or} {ts : List Nd} (h : smayV os ts = true) : (∀ t ∈ ts, NdSz t) := smay_sz h

set_option maxRecDepth 100000 in
set_option maxHeartbeats 8000000 in
theorem walk {H : Type} {enc : TypeId × Value → H} (p0 : Option Addr) (n0 c0 : Nat) (p1 : Option Addr) (n1 c1 : Nat) (which : Int) (w : World)
    (f0 : ∃ fuel y, DataW.trod enc Tryz.prog w 0 (fun _ => true) true fuel 22 [.slice p0 n0 c0] = some y ∧ ∀ x ∈ DataW.weights Tryz.prog 22 y.1, x ≤ reachBytes)
    (f1 : ∃ fuel y, DataW.trod enc Tryz.prog w 0 (fun _ => true) true fuel 23 [.slice p1 n1 c1] = some y ∧ ∀ x ∈ DataW.weights Tryz.prog 23 y.1, x ≤ reachBytes)
    (bw : -9223372036854775808 ≤ which ∧ which ≤ 9223372036854775807) (hg : Hid (errTy w)) :
    Calls Tryz.prog 5 #[.agg #[.slice p0 n0 c0, .slice p1 n1 c1], .int .i64 which] w fun e w' => e = .returned (.bool true) ∧ Below w.heap.size w w' := by
  obtain ⟨_, _, t0, t0'⟩ := f0
  obtain ⟨_, hl0, os, hO, hOz⟩ := ops_open t0 t0'
  obtain ⟨_, _, t1, t1'⟩ := f1
  obtain ⟨_, hl1, ts, hN, hNz⟩ := nodes_open t1 t1'
  clear t0 t0' t1 t1'
  obtain rfl : n1 = ts.length := hN.1
  obtain rfl : n0 = os.length := hO.1
  have hO := Lib.hid hO
  have hN := Lib.hid hN
  have hOz := Lib.hid hOz
  have hNz := Lib.hid hNz
  obtain ⟨w0, hw0⟩ : ∃ W, w.alloc (.cells #[.slice p0 os.length c0, .slice p1 ts.length c1] 25) = W := ⟨_, rfl⟩
  have hP : Hid (Pg w0 w.heap.size p0 os.length c0 p1 ts.length c1) := Lib.hid (by rw [← hw0]; exact pg_lit w 25 _ rfl _ _ _ _ _ _)
  have hB : Hid (Below w.heap.size w w0) := Lib.hid (by rw [← hw0]; exact below_alc _ _)
  go_enter Tryz.func5, Tryz.ntmps5
  go_upto_region 1 with fail
  (try rw [hw0])
  clear hw0
  go_wp2_with fail
  refine (awake25_any _ (Lib.hid (hg.out.below hB.out))).mono ?_
  rintro e w1 ⟨rfl, hb⟩
  have hP := Lib.hid (hP.out.below hb)
  have hB := Lib.hid (belT hB.out hb)
  clear hb
  have kR := Lib.hid (tidy_any p0 p1 os.length c0 ts.length c1 os ts w1 (Lib.hid (hO.out.below hB.out)) hOz (by omega) (Lib.hid (hN.out.below hB.out)) hNz (by omega) (Lib.hid (hg.out.below hB.out)))
  obtain ⟨q0, q1, q2⟩ := hP.out
  go_wp2_with fail
  clear q0 q1 q2
  refine kR.out.mono ?_
  intro e w2 hpost
  clear kR
  cases hm : smayV os ts with
  | false =>
    obtain ⟨rfl, hb⟩ := td_no hpost hm
    have hB := Lib.hid (belT hB.out hb)
    clear hpost hb hm
    go_wp2_with ((go_at_call 11; refine (num_any _ _ (by omega) (by omega)).mono ?_; rintro e w' ⟨rfl, rfl⟩))
    go_ret
    exact ⟨rfl, belA _ hB.out⟩
  | true =>
    obtain ⟨ao, co, an, cn, rfl, hb, hAO, hAN⟩ := td_ok hpost hm
    have hT := tre_may hm
    have hlen := smay_parts hm
    have hl2 := hlen.2.1
    have hql : 1 ≤ (td ts (ts.length - 1) []).length := (td_adds ts (fun j hj => hT.kidB hj) (ts.length - 1) (by omega) []).lenlt
    have hqm : (td ts (ts.length - 1) []).length ≤ 512 := by
      have := td_le hT (ts.length - 1) (by omega) []
      simp only [List.length_nil] at this
      omega
    have hmh := Lib.hid hm
    have hqn : ¬ ((td ts (ts.length - 1) []).length : Int) < 1 := by omega
    have hP := Lib.hid (hP.out.below hb)
    have hB := Lib.hid (belT hB.out hb)
    have hAN := Lib.hid hAN.arg
    obtain ⟨q, hq⟩ : ∃ q, td ts (ts.length - 1) [] = q := ⟨_, rfl⟩
    rw [hq] at hql hqm hAN hqn
    rw [hq]
    have hqh := Lib.hid hq
    obtain ⟨hl3, hl4⟩ := hl2
    have hol := (smay_len hm).2
    clear hpost hb hm hT hlen hAO hq
    go_upto_region 4 with fail
    obtain ⟨Wb, hWb⟩ : ∃ W, w2.alloc (.cells #[.slice ao os.length co, .slice an q.length cn] 25) = W := ⟨_, rfl⟩
    have hA : Hid (Pg Wb w2.heap.size ao os.length co an q.length cn) := Lib.hid (by rw [← hWb]; exact pg_lit _ _ _ rfl _ _ _ _ _ _)
    have hbx : Below w2.heap.size w2 Wb := by rw [← hWb]; exact below_alc _ _
    rw [hWb]
    clear hWb
    have hP := Lib.hid (hP.out.below hbx)
    have hB := Lib.hid (belT hB.out hbx)
    have hAN := Lib.hid (hAN.out.below hbx)
    clear hbx
    obtain ⟨hwl, P0, P1⟩ := hP.out
    obtain ⟨hal, A0, A1⟩ := hA.out
    by_cases h400 : 400 < ts.length
    · have h4 : (400 : Int) < (ts.length : Int) := by omega
      go_wp2_with ((go_at_call 11; refine (num_any _ _ (by omega) (by omega)).mono ?_; rintro e w' ⟨rfl, rfl⟩))
      go_ret
      exact ⟨rfl, hB.out⟩
    have h4 : ¬ (400 : Int) < (ts.length : Int) := by omega
    have htn : (ts.length : Int) ≤ 400 := by omega
    have ht1 : (1 : Int) ≤ (ts.length : Int) := by omega
    have hqn2 : (q.length : Int) ≤ 512 := by omega
    have hq1 : (1 : Int) ≤ (q.length : Int) := by omega
    have hWb : Hid (Below Wb.heap.size Wb Wb) := Lib.hid (Below.refl _ _)
    have kC := Lib.hid fun (W : World) (hb : Below Wb.heap.size Wb W) => CopyNodes_any p1 ts.length c1 ts W (Lib.hid (hN.out.below (belT hB.out hb))) (by omega)
    have kA := Lib.hid fun (W : World) (hb : Below Wb.heap.size Wb W) => CopyNodes_any an q.length cn q W (Lib.hid (hAN.out.below hb)) (by omega)
    have kT1 := Lib.hid fun (W : World) (hb : Below Wb.heap.size Wb W) (a : Option Addr) (c : Nat) (h : NArg W a (ts ++ [unN ts]).length (ts ++ [unN ts])) => (tidy_any p0 a os.length c0 (ts ++ [unN ts]).length c os (ts ++ [unN ts]) W (Lib.hid (hO.out.below (belT hB.out hb))) hOz (by omega) (Lib.hid h) (Lib.hid (smay_sz (smay_un hmh.out (by omega)))) (by simp; omega) (Lib.hid (hg.out.below (belT hB.out hb)))).mono fun e w' h => td_ok h (smay_un hmh.out (by omega))
    obtain ⟨v, hv⟩ : ∃ v, bits .and .i64 which 7 = v := ⟨_, rfl⟩
    have hv7 : 0 ≤ v ∧ v ≤ 7 := by rw [← hv, and7]; omega
    have kT2 := Lib.hid fun (W : World) (hb : Below Wb.heap.size Wb W) (a : Option Addr) (c : Nat) (h : NArg W a (ts ++ [lfN 1 v 0, biN 4 0 ts]).length (ts ++ [lfN 1 v 0, biN 4 0 ts])) => (tidy_any p0 a os.length c0 (ts ++ [lfN 1 v 0, biN 4 0 ts]).length c os (ts ++ [lfN 1 v 0, biN 4 0 ts]) W (Lib.hid (hO.out.below (belT hB.out hb))) hOz (by omega) (Lib.hid h) (Lib.hid (smay_sz (smay_bi hmh.out (by omega) (by omega) (.inl ⟨rfl, rfl⟩)))) (by simp; omega) (Lib.hid (hg.out.below (belT hB.out hb)))).mono fun e w' h => td_ok h (smay_bi hmh.out (by omega) (by omega) (.inl ⟨rfl, rfl⟩))
    have e1 : (ts ++ [unN ts]).length - 1 = ts.length := by simp
    have e2 : (ts ++ [lfN 1 v 0, biN 4 0 ts]).length - 1 = ts.length + 1 := by simp
    have l1 : (ts ++ [unN ts]).length = ts.length + 1 := by simp
    have l2 : (ts ++ [lfN 1 v 0, biN 4 0 ts]).length = ts.length + 2 := by simp
    have d1 := td_un hmh.out (by omega) []
    have d2 := td_bi (n := 0) hmh.out (by omega) (v := v) (by omega) (.inl ⟨rfl, rfl⟩) []
    rw [if_neg (by decide), hqh.out, ← f4_set hql] at d2
    rw [hqh.out, ← f3_set hql] at d1
    have d3 : td (ts ++ [lfN 1 v 0, biN 4 0 ts]) (ts.length + 1) [] = q ++ [lfN 1 v 0, F4 ((q.length : Int) - 1) q.length] := by rw [d2]; simp
    have m1 : (q ++ [F3 ((q.length : Int) - 1)]).length = q.length + 1 := by simp
    have m2 : (q ++ [lfN 1 v 0, F4 ((q.length : Int) - 1) q.length]).length = q.length + 2 := by simp
    rw [e1, d1, l1, ← f3_un hl3, m1] at kT1
    rw [e2, d3, l2, ← f4_bi hl3, m2] at kT2
    clear e1 e2 l1 l2 d1 d2 d3 m1 m2
    have hvh := Lib.hid hv
    have hmx := hmh
    clear hmh hqh

    go_upto_region 6 with (first | fail | (go_at_call 11; refine (num_any _ _ (by omega) (by omega)).mono ?_; rintro e w' ⟨rfl, rfl⟩))
    have P0 := (hP.out.below hWb.out).2.1; have P1 := (hP.out.below hWb.out).2.2; have hwl := (hP.out.below hWb.out).1
    go_cut [7] (fun s7 W => ∃ g7 a7 c7, s7 = .pointer (some ⟨g7, 0, none⟩) ∧ FBox Wb p0 os.length c0 ts W g7 a7 c7)
    case first =>
      refine wp_region_held_drew (S := fun W => Below Wb.heap.size Wb W) (by kernel_rfl) ((Below.refl _ _).drew) (fun hHeld => ?_)
      refine rg_take 0 (some 46) (v := ?v1) rfl rfl (by kernel_rfl) (by kernel_rfl) (by kernel_rfl) (fun _ _ _ h => h) (by rfl) ?hy1 (by assumption) ?_
      case hy1 => intro W hSW; (try dsimp only at hSW); have z0 := carry hSW hwl P0; have z1 := carry hSW hwl P1; have z2 := Nat.lt_of_lt_of_le hwl hSW.size; go_simp; (try with_reducible rfl)
      try simp only [Act.put, List.setIfInBounds_toArray, List.set_cons_zero, List.set_cons_succ]
      refine rg_take 1 (some 47) (v := ?v2) rfl rfl (by kernel_rfl) (by kernel_rfl) (by kernel_rfl) (fun _ _ _ h => h) (by rfl) ?hy2 (by assumption) ?_
      case hy2 => intro W hSW; (try dsimp only at hSW); have z0 := carry hSW hwl P0; have z1 := carry hSW hwl P1; have z2 := Nat.lt_of_lt_of_le hwl hSW.size; go_simp; (try with_reducible rfl)
      try simp only [Act.put, List.setIfInBounds_toArray, List.set_cons_zero, List.set_cons_succ]
      refine rg_take 2 (some 48) (v := ?v3) rfl rfl (by kernel_rfl) (by kernel_rfl) (by kernel_rfl) (fun _ _ _ h => h) (by rfl) ?hy3 (by assumption) ?_
      case hy3 => intro W hSW; (try dsimp only at hSW); have z0 := carry hSW hwl P0; have z1 := carry hSW hwl P1; have z2 := Nat.lt_of_lt_of_le hwl hSW.size; go_simp; (try with_reducible rfl)
      try simp only [Act.put, List.setIfInBounds_toArray, List.set_cons_zero, List.set_cons_succ]
      refine rg_take 3 (some 49) (v := ?v4) rfl rfl (by kernel_rfl) (by kernel_rfl) (by kernel_rfl) (fun _ _ _ h => h) (by rfl) ?hy4 (by assumption) ?_
      case hy4 => intro W hSW; (try dsimp only at hSW); have z0 := carry hSW hwl P0; have z1 := carry hSW hwl P1; have z2 := Nat.lt_of_lt_of_le hwl hSW.size; go_simp; (try with_reducible rfl)
      try simp only [Act.put, List.setIfInBounds_toArray, List.set_cons_zero, List.set_cons_succ]
      have hws := hWb.out.size
      refine rg_twoF 4 6 rfl rfl (by kernel_rfl) (by rfl) (by rfl) (fun K hK => ?callf) (fun K hK => ?allocf)
      case callf =>
        go_simp
        refine (kC.out _ (belT hWb.out ((Below.refl _ _).drew))).mono ?_
        rintro e w9 ⟨v9, rfl, hv9, hb9⟩
        obtain ⟨a9, c9, rfl⟩ := own_sl hv9
        have hb99 : Below Wb.heap.size Wb w9 := belT ((Below.refl _ _).drew) hb9
        have hs9 := hb99.size
        refine hK.out _ _ hb99 (fun hH1 => ?_)
        clear hK K
        try simp only [Act.put, List.setIfInBounds_toArray, List.set_cons_zero, List.set_cons_succ]
        refine rg_take 5 (some 51) (v := ?v5) rfl rfl (by kernel_rfl) (by kernel_rfl) (by kernel_rfl) (fun _ _ _ h => h) (by rfl) ?hy5 (by assumption) ?_
        case hy5 => intro W hSW; (try dsimp only at hSW); go_simp; (try with_reducible rfl)
        try simp only [Act.put, List.setIfInBounds_toArray, List.set_cons_zero, List.set_cons_succ]
        refine rg_one 6 rfl (by kernel_rfl) (by rfl) (fun K hK => ?_)
        go_simp
        refine hK.out _ _ (belA _ hb99) (fun hH6 => ?_)
        clear hK K
        try simp only [Act.put, List.setIfInBounds_toArray, List.set_cons_zero, List.set_cons_succ]
        refine rg_one 7 rfl (by kernel_rfl) (by rfl) (fun K hK => ?_)
        go_simp
        refine hK.out _ _ (show Below Wb.heap.size Wb _ from by (repeat' (first | with_reducible exact Below.refl _ _ | with_reducible assumption | with_reducible apply Below.setCell | with_reducible apply Below.alloc | with_reducible apply Below.drew | with_reducible apply below_drewN | with_reducible exact Nat.le_refl _ | (simp; done) | (simp; omega) | omega | exact Nat.le_refl _))) (fun hH7 => ?_)
        clear hK K
        try simp only [Act.put, List.setIfInBounds_toArray, List.set_cons_zero, List.set_cons_succ]
        refine wpAnyH_done (by kernel_rfl) ?_ _
        go_wp2_with fail
        go_meet
        exact ⟨w9.heap.size, a9, c9, rfl, belT hWb.out hH7, by omega, ⟨by simp, by simp [go_sem], by simp [go_sem]⟩, fun o => by simp [go_sem], OwnN.below (show OwnN Wb.heap.size w9 _ ts from own_lo2 hv9 (show Wb.heap.size ≤ Wb.heap.size from hws)) (by (repeat' (first | with_reducible exact Below.refl _ _ | with_reducible assumption | with_reducible apply Below.setCell | with_reducible apply Below.alloc | with_reducible apply Below.drew | with_reducible apply below_drewN | with_reducible exact Nat.le_refl _ | (simp; done) | (simp; omega) | omega | exact Nat.le_refl _))), fun k hk e => by have := (own_lt hv9 k hk).2; omega⟩
      case allocf =>
        go_simp
        refine hK.out _ _ (belA _ ((Below.refl _ _).drew)) (fun hH6 => ?_)
        clear hK K
        refine rg_one 4 rfl (by kernel_rfl) (by rfl) (fun K hK => ?_)
        go_simp
        refine (kC.out _ (belT hWb.out hH6)).mono ?_
        rintro e w9 ⟨v9, rfl, hv9, hb9⟩
        obtain ⟨a9, c9, rfl⟩ := own_sl hv9
        have hb99 : Below Wb.heap.size Wb w9 := belT hH6 hb9
        have x0 : w9.cell? ⟨Wb.heap.size, 0, none⟩ = some (.slice none 0 0) := carry hb9 (by simp) (by simp [go_sem])
        have x1 : w9.cell? ⟨Wb.heap.size, 1, none⟩ = some (.slice none 0 0) := carry hb9 (by simp) (by simp [go_sem])
        have xf : ∀ i, w9.frozen? ⟨Wb.heap.size, i, none⟩ = false := fun i => (hb9.frozen (p := ⟨Wb.heap.size, i, none⟩) (by simp)).trans (by simp [go_sem])
        have xf0 := xf 0
        have xf1 := xf 1
        have xl : Wb.heap.size < w9.heap.size := Nat.lt_of_lt_of_le (by simp) hb9.size
        have hvl : ∀ k, (Value.slice a9 ts.length c9).ownBlock = some k → k ≠ Wb.heap.size := fun k hk e => by have := (own_lt hv9 k hk).1; simp at this; omega
        have hv9' : OwnN Wb.heap.size w9 (.slice a9 ts.length c9) ts := own_lo2 hv9 (by simp; try omega)
        obtain ⟨s0, s1, s2⟩ := two_set x0 x1 (.slice p0 os.length c0) (.slice a9 ts.length c9)
        refine hK.out _ _ hb99 (fun hH1 => ?_)
        clear hK K
        try simp only [Act.put, List.setIfInBounds_toArray, List.set_cons_zero, List.set_cons_succ]
        refine rg_take 5 (some 51) (v := ?v6) rfl rfl (by kernel_rfl) (by kernel_rfl) (by kernel_rfl) (fun _ _ _ h => h) (by rfl) ?hy6 (by assumption) ?_
        case hy6 => intro W hSW; (try dsimp only at hSW); go_simp; (try with_reducible rfl)
        try simp only [Act.put, List.setIfInBounds_toArray, List.set_cons_zero, List.set_cons_succ]
        refine rg_one 7 rfl (by kernel_rfl) (by rfl) (fun K hK => ?_)
        go_simp
        refine hK.out _ _ (show Below Wb.heap.size Wb _ from by (repeat' (first | with_reducible exact Below.refl _ _ | with_reducible assumption | with_reducible apply Below.setCell | with_reducible apply Below.alloc | with_reducible apply Below.drew | with_reducible apply below_drewN | with_reducible exact Nat.le_refl _ | (simp; done) | (simp; omega) | omega | exact Nat.le_refl _))) (fun hH7 => ?_)
        clear hK K
        try simp only [Act.put, List.setIfInBounds_toArray, List.set_cons_zero, List.set_cons_succ]
        refine wpAnyH_done (by kernel_rfl) ?_ _
        go_wp2_with fail
        go_meet
        exact ⟨Wb.heap.size, a9, c9, rfl, belT hWb.out hH7, by omega, ⟨by simpa using xl, s0, s1⟩, fun o => by simp only [World.frozen?_setCell]; exact xf o, Bar.own s2 hv9' hvl, hvl⟩
    case rest =>
    obtain ⟨g7, a7, c7, rfl, hbc, hg7, hPf, hff, hOf, hne⟩ := hcut
    rename World => Wc1
    have hPc := hP.out.below hbc
    have P0 := hPc.2.1; have P1 := hPc.2.2; have hwl := hPc.1
    obtain ⟨f0, f1, f2⟩ := hPf
    have ff1 := hff 1
    have hbch := Lib.hid hbc
    have hcs := hbc.size
    have hOf := Lib.hid hOf
    have hneh := Lib.hid hne
    clear hPc hbc hff hne
    have hlen1 : ts.length + [F3 ((ts.length : Int) - 1)].length ≤ 1000000 := by show ts.length + 1 ≤ _; omega
    go_upto_region 8 with (at_builtin; refine op_ndr rfl (.tmp 53) (.tmp 59) Wc1 Wb.heap.size hcs _ ts [F3 ((ts.length : Int) - 1)] _ rfl rfl 1 rfl rfl rfl hOf.out hlen1 ?_; intro v4 w4 hN4 hbar4 hop4; obtain ⟨a8, c8, rfl⟩ := own_sl hN4; rw [List.length_append, show [F3 ((ts.length : Int) - 1)].length = 1 from rfl] at hN4 hop4; have hop4h := Lib.hid hop4; clear hop4; have hbar4h := Lib.hid hbar4; have hN4h := Lib.hid hN4; have hc40 : w4.cell? ⟨g7, 0, none⟩ = _ := hbar4.cell f1 (fun e => hneh.out _ e rfl); have hc41 : w4.cell? ⟨g7, 1, none⟩ = _ := hbar4.cell f2 (fun e => hneh.out _ e rfl); have hcf : w4.frozen? ⟨g7, 1, none⟩ = false := (hbar4.frozen (a := ⟨g7, 1, none⟩) f0 (fun e => hneh.out _ e rfl)).trans ff1; have hcg : g7 < w4.heap.size := Nat.lt_of_lt_of_le f0 hbar4.size; clear hbar4 hN4)
    obtain ⟨W5, hW5⟩ : ∃ W, w4.setCell ⟨g7, 1, none⟩ (.slice a8 (ts.length + 1) c8) = W := ⟨_, rfl⟩
    rw [hW5]
    have hB4 := bar_below hbch.out hbar4h.out (fun k e => (own_lt hOf.out k e).1)
    have hB5 : Below Wb.heap.size Wb W5 := by rw [← hW5]; exact hB4.setCell hg7 _
    have y0 : W5.cell? ⟨g7, 0, none⟩ = some (.slice p0 os.length c0) := by rw [← hW5]; simp [go_sem, hc40]
    have y1 : W5.cell? ⟨g7, 1, none⟩ = some (.slice a8 (ts.length + 1) c8) := by rw [← hW5]; simp [go_sem, hc41]
    have hN5 : NArg W5 a8 (ts.length + 1) (ts ++ [F3 ((ts.length : Int) - 1)]) := by
      rw [← hW5]
      have hx : ∀ k, (Value.slice a8 (ts.length + 1) c8).ownBlock = some k → k ≠ g7 := fun k hk e => by
        subst e
        rcases hop4h.out k hk with h1 | h1
        · exact hneh.out _ h1 rfl
        · omega
      exact OwnN.arg (Bar.own (Bar.set (S := fun k => k = g7) ⟨g7, 1, none⟩ _ rfl) hN4h.out hx)
    have hB5h := Lib.hid hB5
    have hN5h := Lib.hid hN5
    clear hc40 hc41 hcf hcg hW5 hB4 hop4h hB5 hN5 hbar4h hN4h f0 f1 f2 ff1 hOf hneh P0 P1 hbch
    go_wp2_with fail
    refine (kT1.out W5 hB5h.out a8 c8 hN5h.out).mono ?_
    rintro e w6 ⟨ao6, co6, a10, c10, rfl, hb6, -, hN6⟩
    obtain ⟨W6, hW6⟩ : ∃ W, w6.alloc (.cells #[.slice ao6 os.length co6, .slice a10 (q.length + 1) c10] 25) = W := ⟨_, rfl⟩
    have z1 : W6.cell? ⟨w6.heap.size, 1, none⟩ = some (.slice a10 (q.length + 1) c10) := by rw [← hW6]; simp [go_sem]
    have zl : w6.heap.size < W6.heap.size := by rw [← hW6]; simp
    have hx6 : Below w6.heap.size w6 W6 := by rw [← hW6]; exact below_alc _ _
    have hB6 := Lib.hid (belT hB5h.out (belT hb6 hx6))
    have hN6h := Lib.hid ((hN6.arg).below hx6)
    have hA6 := hA.out.below hB6.out
    have A0 := hA6.2.1; have A1 := hA6.2.2; have hal := hA6.1
    have hW6h := Lib.hid hW6
    clear hb6 hN6 hA6 hx6 hW6 y0 y1 hB5h hN5h
    go_upto_region 9 with fail
    rw [hW6h.out]
    clear hW6h
    go_wp2_with fail
    refine (kA.out W6 hB6.out).mono ?_
    rintro e w7 ⟨v7, rfl, hv7, hb7⟩
    obtain ⟨a11, c11, rfl⟩ := own_sl hv7
    have hB7 := Lib.hid (belT hB6.out hb7)
    have hA7 := hA.out.below hB7.out
    have A0 := hA7.2.1; have A1 := hA7.2.2; have hal := hA7.1
    have hs7 := hb7.size
    have hv7h := Lib.hid hv7
    have hb7h := Lib.hid hb7
    clear hA7 hb7 hv7
    have hlenq1 : q.length + [F3 ((q.length : Int) - 1)].length ≤ 1000000 := by show q.length + 1 ≤ _; omega
    go_upto_region 11 with (at_builtin; refine op_ndr rfl (.tmp 70) (.tmp 76) w7 W6.heap.size hs7 _ q [F3 ((q.length : Int) - 1)] _ rfl rfl 1 rfl rfl rfl hv7h.out hlenq1 ?_; intro v12 w12 hN12 hbar12 hop12; obtain ⟨a12, c12, rfl⟩ := own_sl hN12; rw [List.length_append, show [F3 ((q.length : Int) - 1)].length = 1 from rfl] at hN12; have hbar12h := Lib.hid hbar12; have hN12h := Lib.hid hN12; clear hbar12 hN12 hop12)
    have hB12 := bar_below hb7h.out hbar12h.out (fun k e => (own_lt hv7h.out k e).1)
    have z1 := carry hB12 zl z1
    have zl : w6.heap.size < w12.heap.size := Nat.lt_of_lt_of_le zl hB12.size
    have hN6b := Lib.hid (hN6h.out.below hB12)
    have hBb := Lib.hid (belT hB6.out hB12)
    have kS := Lib.hid (sameNodes_any a10 a12 (q.length + 1) (q.length + 1) c10 c12 (q ++ [F3 ((q.length : Int) - 1)]) (q ++ [F3 ((q.length : Int) - 1)]) w12 hN6b (Lib.hid hN12h.out.arg) (by omega))
    rw [sameV_self ndE_self] at kS
    clear hB12 hbar12h hN12h hN6h hN6b hv7h hb7h hB6 hB7 A0 A1 hal
    go_wp2_with ((go_at_call 11; refine (num_any _ _ (by omega) (by omega)).mono ?_; rintro e w' ⟨rfl, rfl⟩))
    refine kS.out.mono ?_
    rintro e w131 ⟨rfl, hb13⟩
    have hw131 := Lib.hid (belT hBb.out hb13)
    clear kS hb13 z1 zl hBb
    go_upto_region 13 with (first | fail | (go_at_call 11; refine (num_any _ _ (by omega) (by omega)).mono ?_; rintro e w' ⟨rfl, rfl⟩))
    have P0 := (hP.out.below hw131.out).2.1; have P1 := (hP.out.below hw131.out).2.2; have hwl := (hP.out.below hw131.out).1
    go_cut [11] (fun s7 W => ∃ g7 a7 c7, s7 = .pointer (some ⟨g7, 0, none⟩) ∧ FBox Wb p0 os.length c0 ts W g7 a7 c7)
    case first =>
      refine wp_region_held_drew (S := fun W => Below w131.heap.size w131 W) (by kernel_rfl) ((Below.refl _ _).drew) (fun hHeld => ?_)
      refine rg_take 0 (some 88) (v := ?v7) rfl rfl (by kernel_rfl) (by kernel_rfl) (by kernel_rfl) (fun _ _ _ h => h) (by rfl) ?hy7 (by assumption) ?_
      case hy7 => intro W hSW; (try dsimp only at hSW); have z0 := carry hSW hwl P0; have z1 := carry hSW hwl P1; have z2 := Nat.lt_of_lt_of_le hwl hSW.size; go_simp; (try with_reducible rfl)
      try simp only [Act.put, List.setIfInBounds_toArray, List.set_cons_zero, List.set_cons_succ]
      refine rg_take 1 (some 89) (v := ?v8) rfl rfl (by kernel_rfl) (by kernel_rfl) (by kernel_rfl) (fun _ _ _ h => h) (by rfl) ?hy8 (by assumption) ?_
      case hy8 => intro W hSW; (try dsimp only at hSW); have z0 := carry hSW hwl P0; have z1 := carry hSW hwl P1; have z2 := Nat.lt_of_lt_of_le hwl hSW.size; go_simp; (try with_reducible rfl)
      try simp only [Act.put, List.setIfInBounds_toArray, List.set_cons_zero, List.set_cons_succ]
      refine rg_take 2 (some 90) (v := ?v9) rfl rfl (by kernel_rfl) (by kernel_rfl) (by kernel_rfl) (fun _ _ _ h => h) (by rfl) ?hy9 (by assumption) ?_
      case hy9 => intro W hSW; (try dsimp only at hSW); have z0 := carry hSW hwl P0; have z1 := carry hSW hwl P1; have z2 := Nat.lt_of_lt_of_le hwl hSW.size; go_simp; (try with_reducible rfl)
      try simp only [Act.put, List.setIfInBounds_toArray, List.set_cons_zero, List.set_cons_succ]
      refine rg_take 3 (some 91) (v := ?v10) rfl rfl (by kernel_rfl) (by kernel_rfl) (by kernel_rfl) (fun _ _ _ h => h) (by rfl) ?hy10 (by assumption) ?_
      case hy10 => intro W hSW; (try dsimp only at hSW); have z0 := carry hSW hwl P0; have z1 := carry hSW hwl P1; have z2 := Nat.lt_of_lt_of_le hwl hSW.size; go_simp; (try with_reducible rfl)
      try simp only [Act.put, List.setIfInBounds_toArray, List.set_cons_zero, List.set_cons_succ]
      have hws := hw131.out.size
      refine rg_twoF 4 6 rfl rfl (by kernel_rfl) (by rfl) (by rfl) (fun K hK => ?callf) (fun K hK => ?allocf)
      case callf =>
        go_simp
        refine (kC.out _ (belT hw131.out ((Below.refl _ _).drew))).mono ?_
        rintro e w9 ⟨v9, rfl, hv9, hb9⟩
        obtain ⟨a9, c9, rfl⟩ := own_sl hv9
        have hb99 : Below w131.heap.size w131 w9 := belT ((Below.refl _ _).drew) hb9
        have hs9 := hb99.size
        refine hK.out _ _ hb99 (fun hH1 => ?_)
        clear hK K
        try simp only [Act.put, List.setIfInBounds_toArray, List.set_cons_zero, List.set_cons_succ]
        refine rg_take 5 (some 93) (v := ?v11) rfl rfl (by kernel_rfl) (by kernel_rfl) (by kernel_rfl) (fun _ _ _ h => h) (by rfl) ?hy11 (by assumption) ?_
        case hy11 => intro W hSW; (try dsimp only at hSW); go_simp; (try with_reducible rfl)
        try simp only [Act.put, List.setIfInBounds_toArray, List.set_cons_zero, List.set_cons_succ]
        refine rg_one 6 rfl (by kernel_rfl) (by rfl) (fun K hK => ?_)
        go_simp
        refine hK.out _ _ (belA _ hb99) (fun hH6 => ?_)
        clear hK K
        try simp only [Act.put, List.setIfInBounds_toArray, List.set_cons_zero, List.set_cons_succ]
        refine rg_one 7 rfl (by kernel_rfl) (by rfl) (fun K hK => ?_)
        go_simp
        refine hK.out _ _ (show Below w131.heap.size w131 _ from by (repeat' (first | with_reducible exact Below.refl _ _ | with_reducible assumption | with_reducible apply Below.setCell | with_reducible apply Below.alloc | with_reducible apply Below.drew | with_reducible apply below_drewN | with_reducible exact Nat.le_refl _ | (simp; done) | (simp; omega) | omega | exact Nat.le_refl _))) (fun hH7 => ?_)
        clear hK K
        try simp only [Act.put, List.setIfInBounds_toArray, List.set_cons_zero, List.set_cons_succ]
        refine wpAnyH_done (by kernel_rfl) ?_ _
        go_wp2_with fail
        go_meet
        exact ⟨w9.heap.size, a9, c9, rfl, belT hw131.out hH7, by omega, ⟨by simp, by simp [go_sem], by simp [go_sem]⟩, fun o => by simp [go_sem], OwnN.below (show OwnN Wb.heap.size w9 _ ts from own_lo2 hv9 (show Wb.heap.size ≤ w131.heap.size from hws)) (by (repeat' (first | with_reducible exact Below.refl _ _ | with_reducible assumption | with_reducible apply Below.setCell | with_reducible apply Below.alloc | with_reducible apply Below.drew | with_reducible apply below_drewN | with_reducible exact Nat.le_refl _ | (simp; done) | (simp; omega) | omega | exact Nat.le_refl _))), fun k hk e => by have := (own_lt hv9 k hk).2; omega⟩
      case allocf =>
        go_simp
        refine hK.out _ _ (belA _ ((Below.refl _ _).drew)) (fun hH6 => ?_)
        clear hK K
        refine rg_one 4 rfl (by kernel_rfl) (by rfl) (fun K hK => ?_)
        go_simp
        refine (kC.out _ (belT hw131.out hH6)).mono ?_
        rintro e w9 ⟨v9, rfl, hv9, hb9⟩
        obtain ⟨a9, c9, rfl⟩ := own_sl hv9
        have hb99 : Below w131.heap.size w131 w9 := belT hH6 hb9
        have x0 : w9.cell? ⟨w131.heap.size, 0, none⟩ = some (.slice none 0 0) := carry hb9 (by simp) (by simp [go_sem])
        have x1 : w9.cell? ⟨w131.heap.size, 1, none⟩ = some (.slice none 0 0) := carry hb9 (by simp) (by simp [go_sem])
        have xf : ∀ i, w9.frozen? ⟨w131.heap.size, i, none⟩ = false := fun i => (hb9.frozen (p := ⟨w131.heap.size, i, none⟩) (by simp)).trans (by simp [go_sem])
        have xf0 := xf 0
        have xf1 := xf 1
        have xl : w131.heap.size < w9.heap.size := Nat.lt_of_lt_of_le (by simp) hb9.size
        have hvl : ∀ k, (Value.slice a9 ts.length c9).ownBlock = some k → k ≠ w131.heap.size := fun k hk e => by have := (own_lt hv9 k hk).1; simp at this; omega
        have hv9' : OwnN Wb.heap.size w9 (.slice a9 ts.length c9) ts := own_lo2 hv9 (by simp; try omega)
        obtain ⟨s0, s1, s2⟩ := two_set x0 x1 (.slice p0 os.length c0) (.slice a9 ts.length c9)
        refine hK.out _ _ hb99 (fun hH1 => ?_)
        clear hK K
        try simp only [Act.put, List.setIfInBounds_toArray, List.set_cons_zero, List.set_cons_succ]
        refine rg_take 5 (some 93) (v := ?v12) rfl rfl (by kernel_rfl) (by kernel_rfl) (by kernel_rfl) (fun _ _ _ h => h) (by rfl) ?hy12 (by assumption) ?_
        case hy12 => intro W hSW; (try dsimp only at hSW); go_simp; (try with_reducible rfl)
        try simp only [Act.put, List.setIfInBounds_toArray, List.set_cons_zero, List.set_cons_succ]
        refine rg_one 7 rfl (by kernel_rfl) (by rfl) (fun K hK => ?_)
        go_simp
        refine hK.out _ _ (show Below w131.heap.size w131 _ from by (repeat' (first | with_reducible exact Below.refl _ _ | with_reducible assumption | with_reducible apply Below.setCell | with_reducible apply Below.alloc | with_reducible apply Below.drew | with_reducible apply below_drewN | with_reducible exact Nat.le_refl _ | (simp; done) | (simp; omega) | omega | exact Nat.le_refl _))) (fun hH7 => ?_)
        clear hK K
        try simp only [Act.put, List.setIfInBounds_toArray, List.set_cons_zero, List.set_cons_succ]
        refine wpAnyH_done (by kernel_rfl) ?_ _
        go_wp2_with fail
        go_meet
        exact ⟨w131.heap.size, a9, c9, rfl, belT hw131.out hH7, by omega, ⟨by simpa using xl, s0, s1⟩, fun o => by simp only [World.frozen?_setCell]; exact xf o, Bar.own s2 hv9' hvl, hvl⟩
    case rest =>
    obtain ⟨g7, a7, c7, rfl, hbc, hg7, hPf, hff, hOf, hne⟩ := hcut
    rename World => Wc2
    have hPc := hP.out.below hbc
    have P0 := hPc.2.1; have P1 := hPc.2.2; have hwl := hPc.1
    obtain ⟨f0, f1, f2⟩ := hPf
    have ff1 := hff 1
    have hbch := Lib.hid hbc
    have hcs := hbc.size
    have hOf := Lib.hid hOf
    have hneh := Lib.hid hne
    clear hPc hbc hff hne
    have hlen2 : ts.length + [lfN 1 v 0, F4 ((ts.length : Int) - 1) ts.length].length ≤ 1000000 := by show ts.length + 2 ≤ _; omega
    go_upto_region 15 with (at_builtin; refine op_ndr rfl (.tmp 95) (.tmp 107) Wc2 Wb.heap.size hcs _ ts [lfN 1 v 0, F4 ((ts.length : Int) - 1) ts.length] _ rfl rfl 2 rfl rfl rfl hOf.out hlen2 ?_; intro v4 w4 hN4 hbar4 hop4; obtain ⟨a8, c8, rfl⟩ := own_sl hN4; rw [List.length_append, show [lfN 1 v 0, F4 ((ts.length : Int) - 1) ts.length].length = 2 from rfl] at hN4 hop4; have hop4h := Lib.hid hop4; clear hop4; have hbar4h := Lib.hid hbar4; have hN4h := Lib.hid hN4; have hc40 : w4.cell? ⟨g7, 0, none⟩ = _ := hbar4.cell f1 (fun e => hneh.out _ e rfl); have hc41 : w4.cell? ⟨g7, 1, none⟩ = _ := hbar4.cell f2 (fun e => hneh.out _ e rfl); have hcf : w4.frozen? ⟨g7, 1, none⟩ = false := (hbar4.frozen (a := ⟨g7, 1, none⟩) f0 (fun e => hneh.out _ e rfl)).trans ff1; have hcg : g7 < w4.heap.size := Nat.lt_of_lt_of_le f0 hbar4.size; clear hbar4 hN4)
    obtain ⟨W5, hW5⟩ : ∃ W, w4.setCell ⟨g7, 1, none⟩ (.slice a8 (ts.length + 2) c8) = W := ⟨_, rfl⟩
    rw [hW5]
    have hB4 := bar_below hbch.out hbar4h.out (fun k e => (own_lt hOf.out k e).1)
    have hB5 : Below Wb.heap.size Wb W5 := by rw [← hW5]; exact hB4.setCell hg7 _
    have y0 : W5.cell? ⟨g7, 0, none⟩ = some (.slice p0 os.length c0) := by rw [← hW5]; simp [go_sem, hc40]
    have y1 : W5.cell? ⟨g7, 1, none⟩ = some (.slice a8 (ts.length + 2) c8) := by rw [← hW5]; simp [go_sem, hc41]
    have hN5 : NArg W5 a8 (ts.length + 2) (ts ++ [lfN 1 v 0, F4 ((ts.length : Int) - 1) ts.length]) := by
      rw [← hW5]
      have hx : ∀ k, (Value.slice a8 (ts.length + 2) c8).ownBlock = some k → k ≠ g7 := fun k hk e => by
        subst e
        rcases hop4h.out k hk with h1 | h1
        · exact hneh.out _ h1 rfl
        · omega
      exact OwnN.arg (Bar.own (Bar.set (S := fun k => k = g7) ⟨g7, 1, none⟩ _ rfl) hN4h.out hx)
    have hB5h := Lib.hid hB5
    have hN5h := Lib.hid hN5
    clear hc40 hc41 hcf hcg hW5 hB4 hop4h hB5 hN5 hbar4h hN4h f0 f1 f2 ff1 hOf hneh P0 P1 hbch
    go_wp2_with fail
    refine (kT2.out W5 hB5h.out a8 c8 hN5h.out).mono ?_
    rintro e w6 ⟨ao6, co6, a10, c10, rfl, hb6, -, hN6⟩
    obtain ⟨W6, hW6⟩ : ∃ W, w6.alloc (.cells #[.slice ao6 os.length co6, .slice a10 (q.length + 2) c10] 25) = W := ⟨_, rfl⟩
    have z1 : W6.cell? ⟨w6.heap.size, 1, none⟩ = some (.slice a10 (q.length + 2) c10) := by rw [← hW6]; simp [go_sem]
    have zl : w6.heap.size < W6.heap.size := by rw [← hW6]; simp
    have hx6 : Below w6.heap.size w6 W6 := by rw [← hW6]; exact below_alc _ _
    have hB6 := Lib.hid (belT hB5h.out (belT hb6 hx6))
    have hN6h := Lib.hid ((hN6.arg).below hx6)
    have hA6 := hA.out.below hB6.out
    have A0 := hA6.2.1; have A1 := hA6.2.2; have hal := hA6.1
    have hW6h := Lib.hid hW6
    clear hb6 hN6 hA6 hx6 hW6 y0 y1 hB5h hN5h
    go_upto_region 16 with fail
    rw [hW6h.out]
    clear hW6h
    go_wp2_with fail
    refine (kA.out W6 hB6.out).mono ?_
    rintro e w7 ⟨v7, rfl, hv7, hb7⟩
    obtain ⟨a11, c11, rfl⟩ := own_sl hv7
    have hB7 := Lib.hid (belT hB6.out hb7)
    have hA7 := hA.out.below hB7.out
    have A0 := hA7.2.1; have A1 := hA7.2.2; have hal := hA7.1
    have hs7 := hb7.size
    have hv7h := Lib.hid hv7
    have hb7h := Lib.hid hb7
    clear hA7 hb7 hv7
    have hlenq2 : q.length + [lfN 1 v 0, F4 ((q.length : Int) - 1) q.length].length ≤ 1000000 := by show q.length + 2 ≤ _; omega
    go_upto_region 18 with (at_builtin; refine op_ndr rfl (.tmp 118) (.tmp 130) w7 W6.heap.size hs7 _ q [lfN 1 v 0, F4 ((q.length : Int) - 1) q.length] _ rfl rfl 2 rfl rfl rfl hv7h.out hlenq2 ?_; intro v12 w12 hN12 hbar12 hop12; obtain ⟨a12, c12, rfl⟩ := own_sl hN12; rw [List.length_append, show [lfN 1 v 0, F4 ((q.length : Int) - 1) q.length].length = 2 from rfl] at hN12; have hbar12h := Lib.hid hbar12; have hN12h := Lib.hid hN12; clear hbar12 hN12 hop12)
    have hB12 := bar_below hb7h.out hbar12h.out (fun k e => (own_lt hv7h.out k e).1)
    have z1 := carry hB12 zl z1
    have zl : w6.heap.size < w12.heap.size := Nat.lt_of_lt_of_le zl hB12.size
    have hN6b := Lib.hid (hN6h.out.below hB12)
    have hBb := Lib.hid (belT hB6.out hB12)
    have kS := Lib.hid (sameNodes_any a10 a12 (q.length + 2) (q.length + 2) c10 c12 (q ++ [lfN 1 v 0, F4 ((q.length : Int) - 1) q.length]) (q ++ [lfN 1 v 0, F4 ((q.length : Int) - 1) q.length]) w12 hN6b (Lib.hid hN12h.out.arg) (by omega))
    rw [sameV_self ndE_self] at kS
    clear hB12 hbar12h hN12h hN6h hN6b hv7h hb7h hB6 hB7 A0 A1 hal
    go_wp2_with ((go_at_call 11; refine (num_any _ _ (by omega) (by omega)).mono ?_; rintro e w' ⟨rfl, rfl⟩))
    refine kS.out.mono ?_
    rintro e w132 ⟨rfl, hb13⟩
    have hw132 := Lib.hid (belT hBb.out hb13)
    clear kS hb13 z1 zl hBb
    go_wp2_with fail
    go_ret
    exact ⟨rfl, belT hB.out hw132.out⟩
theorem own : ownKnob Tryz.prog.godebug = none := by kernel_rfl
theorem laidOut : laidOutB Tryz.prog = true := by kernel_rfl
set_option maxRecDepth 100000 in
theorem contract (H : Type) (enc : TypeId × Value → H) (W : World) (base : Nat) (args : Array Value) (ds gs : List (DataW H)) (before : List MemPlace)
    (hval0 : ∀ (j : Nat) t v, Tryz.f5.params[j]? = some t → args[j]? = some v → Value.okWide Tryz.prog W .any base t v)
    (hW : DataW.Whole enc Tryz.prog Tryz.f5.params.toList Rows.tidyPartsSpec.vars false W args.toList ds gs before)
    (hsz0 : (DataW.weightsEach Tryz.prog (Tryz.f5.params.toList ++ Rows.tidyPartsSpec.plain.varTypes Tryz.prog) (ds ++ gs)).all (· ≤ reachBytes) = true)
    (hL : laidMetH Tryz.prog Rows.tidyPartsRow.laid W)
    : Calls Tryz.prog 5 args W fun e W' => ∃ v, e = .returned v ∧ Rows.tidyPartsSpec.post enc Tryz.prog Tryz.f5 false true false false W args v W' := by
  have hval : ∀ (j : Nat) t v, Tryz.f5.params[j]? = some t → args[j]? = some v → Value.okWide Tryz.prog W .any base t v := hval0
  have hsz : (DataW.weightsEach Tryz.prog (Tryz.f5.params.toList ++ Rows.tidyPartsSpec.plain.varTypes Tryz.prog) (ds ++ gs)).all (· ≤ reachBytes) = true := hsz0
  have hW' := hW
  obtain ⟨p, q, hA0, hV, rfl, hfz, hnd⟩ := hW
  have hA : DataW.TrodAll enc Tryz.prog W 0 (fun _ => true) true Tryz.f5.params.toList args.toList ds p := hA0
  rw [Tryz.params5] at hA hval hsz
  obtain ⟨v0, vs0, d0, ds0, p0, q0, hargs, rfl, rfl, h0, r0⟩ := trodAll_cons hA
  obtain ⟨v1, vs1, d1, ds1, p1, q1, rfl, rfl, rfl, h1, r1⟩ := trodAll_cons r0
  obtain ⟨rfl, rfl, rfl⟩ := trodAll_nil r1
  obtain rfl : args = #[v0, v1] := by cases args; simp_all
  obtain ⟨rfl, rfl⟩ := trodVars_none hV
  have k0 := h0
  have lt0 : ∀ x ∈ p0, x.block < W.heap.size := by obtain ⟨m, hm⟩ := k0; exact DataW.trod_lt m _ _ _ hm
  obtain ⟨cs0_0, rfl, fit0_0⟩ := open_struct Tryz.underlying25 (f := 6) (by kernel_rfl : flat Tryz.prog 6 25 = some [.sl 22, .sl 23]) (hval 0 25 v0 rfl rfl) h0 (sized_of hsz (j := 0) (t := 25) rfl rfl)
  obtain ⟨_, cs0_1, rfl, ⟨a0_0, n0_0, c0_0, fu0_0, y0_0, rfl, f0_0, g0_0⟩, fit0_1⟩ := fit_i fit0_0
  obtain ⟨_, cs0_2, rfl, ⟨a0_1, n0_1, c0_1, fu0_1, y0_1, rfl, f0_1, g0_1⟩, fit0_2⟩ := fit_i fit0_1
  obtain rfl := fit_nil fit0_2
  have k1 := h1
  have lt1 : ∀ x ∈ p1, x.block < W.heap.size := by obtain ⟨m, hm⟩ := k1; exact DataW.trod_lt m _ _ _ hm
  obtain ⟨a1, rfl, rfl, rfl, m1⟩ := open_int Tryz.underlying3 (hval 1 3 v1 rfl rfl) h1
  clear hA0 hval0
  refine (walk a0_0 n0_0 c0_0 a0_1 n0_1 c0_1 a1 W ⟨_, _, f0_0, g0_0⟩ ⟨_, _, f0_1, g0_1⟩ (bd_i64 m1) (tabs hL)).mono fun e W' ⟨he, bel⟩ => ?_
  subst he
  exact ⟨_, rfl, _, _, _, [], _, [], hW', trodAll_mk1 (shut_bool Tryz.underlying4 _), (trodAll_cons_mk (Below.trod laidOut (by kernel_rfl) (of_decide_eq_true (by kernel_rfl)) k0 bel lt0) (trodAll_cons_mk (Below.trod laidOut (by kernel_rfl) (of_decide_eq_true (by kernel_rfl)) k1 bel lt1) trodAll_mk0)), rfl, bel.frame _, fun h => by cases h⟩
theorem laid_met (os : Os) : laidMetH Tryz.prog Rows.tidyPartsRow.laid ((handleWorld os).forCall (fun _ _ => 0) ⟨#[], #[.agg #[.slice none 0 0, .slice none 0 0], .int .i64 0], []⟩).memory := laidMetH_of_parts (laidMet_nil _ _) (by kernel_rfl)
theorem reads (os : Os) {H : Type} (enc : TypeId × Value → H) : ∃ places, DataW.whole enc Tryz.prog ((handleWorld os).forCall (fun _ _ => 0) ⟨#[], #[.agg #[.slice none 0 0, .slice none 0 0], .int .i64 0], []⟩).memory Tryz.f5.params.toList Rows.tidyPartsSpec.vars false #[(.agg #[.slice none 0 0, .slice none 0 0] : Value), (.int .i64 0 : Value)].toList 8 = some ([.agg [.nil, .nil], .lit (.int .i64 0)], [], places) := ⟨[], by kernel_rfl⟩
set_option maxRecDepth 100000 in
theorem lifted (os : Os) (started : os.Started) (H : Type) (enc : TypeId × Value → H) (F : Stop.Interp) :
    ReturnsInHanded {} Tryz.checked os 5 .any ((OpenSpec.ofChange Rows.tidyPartsSpec).preRow enc Tryz.prog Tryz.f5 Rows.tidyPartsRow.domain false Rows.tidyPartsRow.laid) (((OpenSpec.ofChange Rows.tidyPartsSpec).at F).post enc Tryz.prog Tryz.f5 false true false false) := by
  obtain ⟨places, hx⟩ := reads os enc
  refine returnsInHanded_of_row (C := Tryz.checked) (s := (OpenSpec.ofChange Rows.tidyPartsSpec)) own started (by kernel_rfl) Tryz.func5
    (witness_row_at (enc := enc) (C := Tryz.checked) false (handleWorld os) #[.agg #[.slice none 0 0, .slice none 0 0], .int .i64 0] rfl (by kernel_rfl) (by kernel_rfl) (by kernel_rfl)
      (OpenSpec.preRow_of_cond 8 hx (by kernel_rfl) (fun k hk => by cases hk) (by kernel_rfl) (laid_met os))) ?_
  intro W base args ds gs before hval hW _ hcnd hsz hL _ _
  exact contract H enc W base args ds gs before hval hW hsz  hL
theorem said : Rows.TidyPartsSaid :=
  OpenClaim.holds_of_cond 5 Tryz.f5 rfl rfl rfl rfl rfl rfl rfl ⟨rfl, rfl, rfl, rfl, rfl⟩ rfl rfl rfl rfl rfl (by kernel_rfl) Tryz.func5 (by kernel_rfl)
    (of_decide_eq_true (by kernel_rfl)) (by unfold Func.isWrapper; first | (rw [if_pos (by decide +kernel)]; kernel_rfl) | (rw [if_neg (by decide +kernel)]; exact ⟨rfl, rfl⟩))
    (fun os started H enc _ F => by rw [OpenClaim.pre_eq_preRow]; exact lifted os started H enc F)
theorem plain (f : FuncId) (fn : Func) (hf : Tryz.pinned.checked.prog.funcNamed "trammel/trammellaw25.TidyParts" = some f) (hfn : Tryz.pinned.checked.prog.funcs[f]? = some fn) :
    true = Tryz.pinned.checked.prog.looks [] ∧ ∀ (j : Nat) t, fn.params[j]? = some t → Tryz.pinned.checked.prog.wantsStandIn t = false := by
  obtain rfl : f = 5 := Option.some.inj ((show Tryz.prog.funcNamed "trammel/trammellaw25.TidyParts" = some 5 by kernel_rfl).symm.trans hf) |>.symm
  obtain rfl : fn = Tryz.f5 := (Option.some.inj (Tryz.func5.symm.trans hfn)).symm
  refine ⟨by kernel_rfl, fun j t ht => ?_⟩
  rw [Tryz.params5] at ht
  have hm := Array.mem_of_getElem? ht
  have hm2 : t ∈ ([25, 3] : List Nat) := by simpa using hm
  simp only [List.mem_cons, List.not_mem_nil, or_false] at hm2
  rcases hm2 with rfl | rfl
  · exact (show Tryz.prog.wantsStandIn 25 = false by kernel_rfl)
  · exact (show Tryz.prog.wantsStandIn 3 = false by kernel_rfl)
theorem proved : Rows.TidyPartsCardSaid :=
  Claim7.holds_tied_plain_at .later [] _ _ _ _ said (fun _ h => by cases h) (by kernel_rfl) (fun _ h => by cases h) tidyParts_row_tie rfl ⟨rfl, rfl⟩ (by kernel_rfl) rfl plain (by kernel_rfl)
end Go.Proofs.YthpcbgljbpmafaaGreatDoor.tidyParts
