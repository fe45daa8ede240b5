/- SubstNone holds for every row of binds and every type. No condition. -/
import Derived.Test.YtjhmdobmbajcgaaRows
import Derived.WalkKit
import Derived.ProofKit
import Derived.OpenShut
import Derived.ShutString
import Derived.ChangeOld
import Derived.Below
import Derived.SizedLaws
import Derived.Carry
import Derived.Lib.SmallJoins
import Derived.Test.YtjhmdobmbajcgaaSbJ
import Derived.Test.YtjhmdobmbajcgaaTyI
namespace Go.Proofs.Ytjhmdobmbajcgaa.substNone
open Go.ChangeShapes Go.WideShapes Go.ChangeAt Go.RowKit
open Go.ChangeMaps (open_string shut_string)
set_option linter.unusedVariables false
set_option linter.unusedSimpArgs false

theorem ownB_sl {B : Nat} {w : World} {v : Value} {l : List Bn} (h : OwnB B w v l) : ∃ a n c, v = .slice a n c := by
  rcases h.cases with ⟨rfl, _⟩ | ⟨g, c, rfl, _⟩ <;> exact ⟨_, _, _, rfl⟩
set_option maxRecDepth 100000 in
set_option maxHeartbeats 8000000 in
theorem walk {H : Type} {enc : TypeId × Value → H} (p0 : Option Addr) (n0 c0 : Nat) (p1 : Option Addr) (n1 c1 : Nat) (w : World)
    (f0 : ∃ fuel y, DataW.trod enc Try.prog w 0 (fun _ => true) true fuel 22 [.slice p0 n0 c0] = some y ∧ ∀ x ∈ DataW.weights Try.prog 22 y.1, x ≤ reachBytes)
    (f1 : ∃ fuel y, DataW.trod enc Try.prog w 0 (fun _ => true) true fuel 23 [.slice p1 n1 c1] = some y ∧ ∀ x ∈ DataW.weights Try.prog 23 y.1, x ≤ reachBytes) :
    Calls Try.prog 4 #[.slice p0 n0 c0, .agg #[.slice p1 n1 c1]] w fun e w' => e = .returned (.bool true) ∧ Below w.heap.size w w' := by
  obtain ⟨_, _, t, t'⟩ := f0
  obtain ⟨hl0, xs, hX, hXn⟩ := bs_open t t'
  clear t t'
  obtain ⟨_, _, t, t'⟩ := f1
  obtain ⟨hl1, ts, hT⟩ := ty_open t t'
  clear t t'
  have hX := Lib.hid hX
  have hT := Lib.hid hT
  have hXn := Lib.hid hXn
  obtain ⟨E, hE⟩ : ∃ e, subE [] ts = e := ⟨_, rfl⟩
  obtain ⟨S, hS⟩ : ∃ e, subT [] ts = e := ⟨_, rfl⟩
  have e1 := subE_bd [] ts
  have hlen := subT_len [] ts
  have hno := Lib.hid (fun h => sn_no (xs := []) (ts := ts) h)
  have hyes := Lib.hid (fun h => sn_nil (ts := ts) h)
  rw [hE] at e1 hno hyes
  rw [hS] at hlen hno hyes
  have hE := Lib.hid hE
  have hS := Lib.hid hS
  go_enter Try.func4, Try.ntmps4
  go_wp2_with fail
  refine (awake9_any _).mono ?_
  rintro e w1 ⟨rfl, hb1⟩
  have hP1 : Hid (BoxAt w1 w.heap.size (.slice p1 n1 c1)) := Lib.hid (BoxAt.below (by exact box_lit _ _ _ _ rfl) hb1)
  have hT1 := Lib.hid ((hT.out.alloc _).below hb1)
  have hX1 := Lib.hid ((hX.out.alloc _).below hb1)
  have hB1 := Lib.hid (belT (belA _ (Below.refl w.heap.size w)) hb1)
  clear hb1
  obtain ⟨q0, q1⟩ := hP1.out
  go_wp2_with fail
  refine (subType_any none _ 0 0 _ _ [] ts _ (Lib.hid ⟨rfl, .inl rfl⟩) hT1 (by omega) (by omega)).mono ?_
  rintro e w2 ⟨v2, rfl, hv2, hb2⟩
  obtain ⟨a2, m2, d2, rfl⟩ := ownT_sl hv2
  rw [hE.out]
  rw [hS.out] at hv2
  have hU2 := Lib.hid hv2.arg
  have hP2 := Lib.hid (hP1.out.below hb2)
  have hT2 := Lib.hid (hT1.out.below hb2)
  have hX2 := Lib.hid (hX1.out.below hb2)
  have hB2 := Lib.hid (belT hB1.out hb2)
  clear hb2 hv2 q0 q1 hP1 hT1 hX1 hB1
  by_cases hz : E = 0
  · subst hz
    obtain rfl := (hyes.out rfl).symm
    clear hno hyes
    have hXA := hX2.out.alloc (.cells #[.slice a2 m2 d2] 25)
    have hTA := hT2.out.alloc (.cells #[.slice a2 m2 d2] 25)
    have hPA := hP2.out.alloc (.cells #[.slice a2 m2 d2] 25)
    have hQA := box_lit w2 25 w2.heap.size (.slice a2 m2 d2) rfl
    have hUA := hU2.out.alloc (.cells #[.slice a2 m2 d2] 25)
    have hBA := belA (.cells #[.slice a2 m2 d2] 25) hB2.out
    obtain rfl : n0 = xs.length := hXA.1
    obtain rfl : n1 = ts.length := hTA.1
    have hl256 : ts.length ≤ 256 := hlen
    go_wp2_with ((go_at_call 19; refine (num_any _ _ (by omega) (by omega)).mono ?_; rintro e w' ⟨rfl, rfl⟩))
    obtain ⟨W3, hW3⟩ : ∃ W, w2.alloc (.cells #[.slice a2 m2 d2] 25) = W := ⟨_, rfl⟩
    rw [hW3] at hXA hTA hPA hQA hUA hBA ⊢
    have hXA := Lib.hid hXA
    have hTA := Lib.hid hTA
    have hPA := Lib.hid hPA
    have hQA := Lib.hid hQA
    have hUA := Lib.hid hUA
    have hBA := Lib.hid hBA
    have hXs := Lib.hid (show ∀ x ∈ xs, TyArg W3 x.ad x.n x.ns ∧ x.n ≤ 140737488351232 from fun x hx => by
      rcases hXA.out.2 with h | ⟨b, off, _, hsl, _⟩
      · rw [h] at hx; cases hx
      · obtain ⟨i, hi, rfl⟩ := List.getElem_of_mem hx
        have := hsl i hi
        rw [List.getD_eq_getElem?_getD, List.getElem?_eq_getElem hi, Option.getD_some] at this
        exact this.2)
    clear hX2 hT2 hP2 hU2 hB2 hW3
    go_loopw [7, 8] (fun cs i wr => ∃ k : Nat, k ≤ xs.length ∧ i = .int .i64 k ∧ Below W3.heap.size W3 wr ∧ Hid (OwnB W3.heap.size wr cs (notB (xs.take k) ts))) (fun _ i _ => xs.length - (intOf i).toNat)
    case atStart => exact ⟨0, by omega, rfl, Below.refl _ _, Lib.hid (OwnB.nil _ _)⟩
    case round =>
      rename World => wo
      obtain ⟨k, hk, rfl, hbw, hown⟩ := hrel
      by_cases hlt : k < xs.length
      · rcases hXA.out.2 with h | ⟨b, off, rfl, hsl, hbs⟩
        · rw [h] at hlt; simp at hlt
        have hA := (hsl k hlt).1.below hbw hbs
        have hsn := Lib.hid (notB_succ (ts := ts) hlt)
        generalize xs.getD k bn0 = x at hA hsn
        clear hsl
        go_wp2_with fail
        go_loopw [9, 10] (fun th j wr => ∃ m : Nat, m ≤ ts.length ∧ j = .int .i64 m ∧ th = .bool (thereB x (ts.take m)) ∧ Below wo.heap.size wo wr) (fun _ j _ => ts.length - (intOf j).toNat)
        case atStart => exact ⟨0, by omega, rfl, rfl, Below.refl _ _⟩
        case round =>
          obtain ⟨m, hm, rfl, rfl, hb2⟩ := hrel
          have hsz2 : wo.heap.size ≤ wr.heap.size := hb2.size
          have hB := Lib.hid (belT hbw hb2)
          have hPx := Lib.hid (hPA.out.below hB.out)
          have hbr : b < wo.heap.size := by have := hbw.size; omega
          have hbr2 : b < wr.heap.size := by have := hb2.size; omega
          have hA2 := hA.below hb2 hbr
          obtain ⟨q0, q1⟩ := hPx.out
          have hkx : (k : Int) < (xs.length : Int) := by omega
          have hk0 : (0 : Int) ≤ (k : Int) := by omega
          obtain ⟨d0, d1, d2', d3, d4, d5, d6, d7⟩ := hA2
          by_cases hlm : m < ts.length
          · rcases hTA.out.2 with h | ⟨b', off', rfl, hsl', hbs'⟩
            · rw [h] at hlm; simp at hlm
            have hU := (hsl' m hlm).below hB.out hbs'
            have hbr3 : b' < wr.heap.size := by have := hB.out.size; omega
            have hsuc := Lib.hid (thereB_succ (x := x) hlm)
            generalize ts.getD m ty0 = t at hU hsuc
            generalize thereB x (ts.take m) = th at hsuc ⊢
            clear hsl' hsn hA
            obtain ⟨e0, e1, e2, e3, e4, e5, e6, e7, e8⟩ := hU
            have hmx : (m : Int) < (ts.length : Int) := by omega
            have hm0 : (0 : Int) ≤ (m : Int) := by omega
            cases th
            · cases hir : x.ir
              · rw [hir] at d1
                cases hk2 : (t.k == 2)
                · go_wp2_with fail
                  go_quiet (fail)
                  go_wp2_with fail
                  go_roundw
                  case rel => exact ⟨m + 1, by omega, by go_num, by rw [hsuc.out]; unfold isV; (first | rfl | simp [*]), by (repeat' (first | with_reducible exact Below.refl _ _ | with_reducible assumption | with_reducible apply Below.setCell | with_reducible apply Below.alloc | with_reducible apply Below.drew | with_reducible apply below_drewN | with_reducible exact Nat.le_refl _ | (simp; done) | (simp; omega) | omega | exact Nat.le_refl _))⟩
                  case measure => simp [intOf]; omega
                · cases hv : (t.v == x.v)
                  · go_wp2_with fail
                    go_quiet (fail)
                    go_wp2_with fail
                    go_roundw
                    case rel => exact ⟨m + 1, by omega, by go_num, by rw [hsuc.out]; unfold isV; (first | rfl | simp [*]), by (repeat' (first | with_reducible exact Below.refl _ _ | with_reducible assumption | with_reducible apply Below.setCell | with_reducible apply Below.alloc | with_reducible apply Below.drew | with_reducible apply below_drewN | with_reducible exact Nat.le_refl _ | (simp; done) | (simp; omega) | omega | exact Nat.le_refl _))⟩
                    case measure => simp [intOf]; omega
                  · go_wp2_with fail
                    go_quiet (fail)
                    go_wp2_with fail
                    go_roundw
                    case rel => exact ⟨m + 1, by omega, by go_num, by rw [hsuc.out]; unfold isV; (first | rfl | simp [*]), by (repeat' (first | with_reducible exact Below.refl _ _ | with_reducible assumption | with_reducible apply Below.setCell | with_reducible apply Below.alloc | with_reducible apply Below.drew | with_reducible apply below_drewN | with_reducible exact Nat.le_refl _ | (simp; done) | (simp; omega) | omega | exact Nat.le_refl _))⟩
                    case measure => simp [intOf]; omega
              · rw [hir] at d1
                cases hk3 : (t.k == 3)
                · go_wp2_with fail
                  go_quiet (fail)
                  go_wp2_with fail
                  go_roundw
                  case rel => exact ⟨m + 1, by omega, by go_num, by rw [hsuc.out]; unfold isV; (first | rfl | simp [*]), by (repeat' (first | with_reducible exact Below.refl _ _ | with_reducible assumption | with_reducible apply Below.setCell | with_reducible apply Below.alloc | with_reducible apply Below.drew | with_reducible apply below_drewN | with_reducible exact Nat.le_refl _ | (simp; done) | (simp; omega) | omega | exact Nat.le_refl _))⟩
                  case measure => simp [intOf]; omega
                · cases hv : (t.t == x.v)
                  · go_wp2_with fail
                    go_quiet (fail)
                    go_wp2_with fail
                    go_roundw
                    case rel => exact ⟨m + 1, by omega, by go_num, by rw [hsuc.out]; unfold isV; (first | rfl | simp [*]), by (repeat' (first | with_reducible exact Below.refl _ _ | with_reducible assumption | with_reducible apply Below.setCell | with_reducible apply Below.alloc | with_reducible apply Below.drew | with_reducible apply below_drewN | with_reducible exact Nat.le_refl _ | (simp; done) | (simp; omega) | omega | exact Nat.le_refl _))⟩
                    case measure => simp [intOf]; omega
                  · go_wp2_with fail
                    go_quiet (fail)
                    go_wp2_with fail
                    go_roundw
                    case rel => exact ⟨m + 1, by omega, by go_num, by rw [hsuc.out]; unfold isV; (first | rfl | simp [*]), by (repeat' (first | with_reducible exact Below.refl _ _ | with_reducible assumption | with_reducible apply Below.setCell | with_reducible apply Below.alloc | with_reducible apply Below.drew | with_reducible apply below_drewN | with_reducible exact Nat.le_refl _ | (simp; done) | (simp; omega) | omega | exact Nat.le_refl _))⟩
                    case measure => simp [intOf]; omega
            · go_wp2_with fail
              go_quiet (fail)
              go_wp2_with fail
              go_roundw
              case rel => exact ⟨m + 1, by omega, by go_num, by rw [hsuc.out]; unfold isV; (first | rfl | simp [*]), by (repeat' (first | with_reducible exact Below.refl _ _ | with_reducible assumption | with_reducible apply Below.setCell | with_reducible apply Below.alloc | with_reducible apply Below.drew | with_reducible apply below_drewN | with_reducible exact Nat.le_refl _ | (simp; done) | (simp; omega) | omega | exact Nat.le_refl _))⟩
              case measure => simp [intOf]; omega
          · have hth : thereB x (ts.take m) = thereB x ts := by rw [show m = ts.length by omega, List.take_length]
            rw [hth]
            have hown2 := Lib.hid (hown.out.below hb2)
            have hnl : (notB (xs.take k) ts).length ≤ k := by
              have := List.length_filter_le (fun x => !thereB x ts) (xs.take k)
              rw [List.length_take] at this
              unfold notB; omega
            cases hthv : thereB x ts
            · rw [hthv] at hsn
              simp only [Bool.false_eq_true, if_false] at hsn
              go_wp2_with (at_builtin; refine op_bn rfl (.tmp 99) (.tmp 104) _ W3.heap.size (by have := hB.out.size; omega) _ (notB (xs.take k) ts) [x] _ rfl rfl 1 rfl rfl rfl hown2.out (by simp; omega) ?_)
              intro v' w' hown' hbel' _
              have hown3 := Lib.hid hown'
              have hB3 := Lib.hid (show Below W3.heap.size W3 w' from by first | exact hB.out.trans hbel' | exact belT hB.out (hbel'.mono (by have := hB.out.size; omega)))
              clear hown' hbel'
              go_wp2_with fail
              go_roundw
              case rel => exact ⟨k + 1, by omega, by go_num, hB3.out, Lib.hid (by rw [hsn.out]; exact hown3.out)⟩
              case measure => simp [intOf]; omega
            · rw [hthv] at hsn
              simp only [if_true, List.append_nil] at hsn
              go_wp2_with fail
              go_roundw
              case rel => exact ⟨k + 1, by omega, by go_num, hB.out, Lib.hid (by rw [hsn.out]; exact hown2.out)⟩
              case measure => simp [intOf]; omega
      · obtain rfl : k = xs.length := by omega
        have hown := Lib.hid (show OwnB W3.heap.size wo _ (notB xs ts) from by have := hown.out; rwa [List.take_length] at this)
        obtain ⟨ca, cn, cc, rfl⟩ := ownB_sl hown.out
        have hw := Lib.hid hbw
        have hArg := Lib.hid (hown.out.arg (fun x hx => by
          have := hXs.out x (List.mem_filter.1 (show x ∈ xs.filter (fun x => !thereB x ts) from hx)).1
          exact ⟨this.1.below hw.out, this.2⟩))
        have hcn : cn ≤ 140737488351232 := by
          have h1 := hArg.out.1
          have := List.length_filter_le (fun x => !thereB x ts) xs
          unfold notB at h1; omega
        have hTw := Lib.hid (hTA.out.below hw.out)
        have hPw := Lib.hid (hPA.out.below hw.out)
        have hQw := Lib.hid (hQA.out.below hw.out)
        have hUw := Lib.hid (hUA.out.below hw.out)
        have hBw := Lib.hid (belT hBA.out hw.out)
        obtain ⟨E2, hE2⟩ : ∃ e, subE (notB xs ts) ts = e := ⟨_, rfl⟩
        have e2 := subE_bd (notB xs ts) ts
        have hgo := Lib.hid (fun h => sn_any (xs := xs) (ts := ts) h)
        rw [hE2] at e2 hgo
        have hE2 := Lib.hid hE2
        have hk3 := Lib.hid hlt
        clear hbw hown hlt hXs hXA hTA hPA hQA hUA hBA
        obtain ⟨q0, q1⟩ := hPw.out
        go_wp2_with fail
        clear q0 q1
        refine (subType_any _ _ _ _ _ _ (notB xs ts) ts _ hArg hTw hcn (by omega)).mono ?_
        rintro e w5 ⟨v5, rfl, hv5, hb5⟩
        obtain ⟨a5, m5, d5, rfl⟩ := ownT_sl hv5
        rw [hE2.out]
        have hV5 := Lib.hid hv5.arg
        have hT5 := Lib.hid (hTw.out.below hb5)
        have hP5 := Lib.hid (hPw.out.below hb5)
        have hQ5 := Lib.hid (hQw.out.below hb5)
        have hU5 := Lib.hid (hUw.out.below hb5)
        have hB5 := Lib.hid (belT hBw.out hb5)
        clear hb5 hv5 hTw hPw hQw hUw hBw hArg
        obtain ⟨q0, q1⟩ := hP5.out
        obtain ⟨r0, r1⟩ := hQ5.out
        go_wp2_with fail
        clear q0 q1 r0 r1
        refine (sameType_any _ _ _ _ _ _ ts ts _ (Lib.hid (hU5.out.alloc _)) (Lib.hid (hT5.out.alloc _)) (by have := hU5.out.1; omega)).mono ?_
        rintro e w6 ⟨rfl, hb6⟩
        rw [decide_eq_true rfl]
        have hT6 := Lib.hid ((hT5.out.alloc _).below hb6)
        have hV6 := Lib.hid ((hV5.out.alloc _).below hb6)
        have hP6 := Lib.hid ((hP5.out.alloc _).below hb6)
        have hZ6 : Hid (BoxAt w6 w5.heap.size (.slice a5 m5 d5)) := Lib.hid (BoxAt.below (by exact box_lit _ _ _ _ rfl) hb6)
        have hB6 := Lib.hid (belT (belA _ hB5.out) hb6)
        clear hb6 hT5 hP5 hQ5 hU5 hB5 hV5
        by_cases hz2 : E2 = 0
        · subst hz2
          have hgo := hgo.out rfl
          rw [hgo] at hV6
          obtain ⟨q0, q1⟩ := hP6.out
          obtain ⟨z0, z1⟩ := hZ6.out
          go_wp2_with ((go_at_call 19; refine (num_any _ _ (by omega) (by omega)).mono ?_; rintro e w' ⟨rfl, rfl⟩))
          clear q0 q1 z0 z1
          refine (sameType_any _ _ _ _ _ _ ts ts _ hV6 hT6 (by have := hV6.out.1; omega)).mono ?_
          rintro e w7 ⟨rfl, hb7⟩
          rw [decide_eq_true rfl]
          have hB7 := Lib.hid (belT hB6.out hb7)
          clear hb7
          go_wp2_with fail
          go_ret
          exact ⟨rfl, hB7.out⟩
        · have hz3 : (E2 != 0) = true := by rw [bne_iff_ne]; exact hz2
          go_wp2_with ((go_at_call 19; refine (num_any _ _ (by omega) (by omega)).mono ?_; rintro e w' ⟨rfl, rfl⟩))
          go_ret
          exact ⟨rfl, hB6.out⟩
  · obtain ⟨h1, h2⟩ := hno.out hz
    subst h1 h2
    clear hno hyes
    go_wp2_with ((go_at_call 19; refine (num_any _ _ (by omega) (by omega)).mono ?_; rintro e w' ⟨rfl, rfl⟩))
    refine (sameType_any _ _ _ _ _ _ [] [] _ (Lib.hid (hU2.out.alloc _)) (Lib.hid (tyArg_nil _ _)) (by have := hU2.out.1; simp at this; omega)).mono ?_
    rintro e w3 ⟨rfl, hb3⟩
    rw [decide_eq_true rfl]
    have hB3 := Lib.hid (belT (belA _ hB2.out) hb3)
    clear hb3
    go_wp2_with ((go_at_call 19; refine (num_any _ _ (by omega) (by omega)).mono ?_; rintro e w' ⟨rfl, rfl⟩))
    go_ret
    exact ⟨rfl, hB3.out⟩
theorem own : ownKnob Try.prog.godebug = none := by kernel_rfl
theorem laidOut : laidOutB Try.prog = true := by kernel_rfl
set_option maxRecDepth 100000 in
theorem lifted (os : Os) (started : os.Started) (H : Type) (enc : TypeId × Value → H) :
    ReturnsInHanded {} Try.checked os 4 .any (Rows.substNoneSpec.pre6 enc Try.prog Try.f4 Rows.substNoneRow.domain false) (Rows.substNoneSpec.post enc Try.prog Try.f4 false true false false) := by
  refine returnsInHanded_of_change_sized (C := Try.checked) own started (by kernel_rfl) Try.func4
    (ChangeSpec.witness6 (enc := enc) (C := Try.checked) false ⟨#[], #[.slice none 0 0, .agg #[.slice none 0 0]], []⟩ 8 (by kernel_rfl) (by kernel_rfl) (by kernel_rfl) (by kernel_rfl)) ?_
  intro W base args ds gs before hval0 hW hcnd hsz0 _
  have hval : ∀ (j : Nat) t v, Try.f4.params[j]? = some t → args[j]? = some v → Value.okWide Try.prog W .any base t v := hval0
  have hsz : (DataW.weightsEach Try.prog (Try.f4.params.toList ++ Rows.substNoneSpec.plain.varTypes Try.prog) (ds ++ gs)).all (· ≤ reachBytes) = true := hsz0
  have hW' := hW
  obtain ⟨p, q, hA0, hV, rfl, hfz, hnd⟩ := hW
  have hA : DataW.TrodAll enc Try.prog W 0 (fun _ => true) true Try.f4.params.toList args.toList ds p := hA0
  rw [Try.params4] at hA hval hsz
  obtain ⟨v0, vs0, d0, ds0, p0, q0, hargs, rfl, rfl, h0, r0⟩ := trodAll_cons hA
  obtain ⟨v1, vs1, d1, ds1, p1, q1, rfl, rfl, rfl, h1, r1⟩ := trodAll_cons r0
  obtain ⟨rfl, rfl, rfl⟩ := trodAll_nil r1
  obtain rfl : args = #[v0, v1] := by cases args; simp_all
  obtain ⟨rfl, rfl⟩ := trodVars_none hV
  obtain ⟨a0, n0, c0, rfl⟩ := okWide_slice Try.underlying22 (hval 0 22 v0 rfl rfl)
  have k0 := h0
  have lt0 : ∀ x ∈ p0, x.block < W.heap.size := by obtain ⟨m, hm⟩ := k0; exact DataW.trod_lt m _ _ _ hm
  have f0 : ∃ fuel y, DataW.trod enc Try.prog W 0 (fun _ => true) true fuel 22 [.slice a0 n0 c0] = some y ∧ ∀ x ∈ DataW.weights Try.prog 22 y.1, x ≤ reachBytes := by obtain ⟨fu, hf⟩ := h0; exact ⟨fu, _, by simpa [Value.cells] using hf, sized_of hsz (j := 0) (t := 22) rfl rfl⟩
  have k1 := h1
  have lt1 : ∀ x ∈ p1, x.block < W.heap.size := by obtain ⟨m, hm⟩ := k1; exact DataW.trod_lt m _ _ _ hm
  obtain ⟨cs1, rfl, fit1⟩ := open_struct Try.underlying25 (f := 6) (by kernel_rfl : flat Try.prog 6 25 = some [.sl 23]) (hval 1 25 v1 rfl rfl) h1 (sized_of hsz (j := 1) (t := 25) rfl rfl)
  obtain ⟨_, cr1, rfl, ⟨a1, n1, c1, fu1, y1, rfl, f1, g1⟩, fitb1⟩ := fit_i fit1
  obtain rfl := fit_nil fitb1
  clear hA0 hval0
  refine (walk a0 n0 c0 a1 n1 c1 W f0 ⟨_, _, f1, g1⟩).mono fun e W' ⟨he, bel⟩ => ?_
  subst he
  exact ⟨_, rfl, _, _, _, [], _, [], hW', trodAll_mk1 (shut_bool Try.underlying4 _), (trodAll_cons_mk (Below.trod laidOut (by kernel_rfl) (of_decide_eq_true (by kernel_rfl)) k0 bel lt0) (trodAll_cons_mk (Below.trod laidOut (by kernel_rfl) (of_decide_eq_true (by kernel_rfl)) k1 bel lt1) trodAll_mk0)), rfl, bel.frame _, fun h => by cases h⟩
theorem over : Rows.substNoneRow.holds Try.pinned (OpenSpec.ofChange Rows.substNoneSpec) :=
  OpenClaim.holds_of_wide 4 Try.f4 rfl rfl rfl rfl rfl rfl rfl ⟨rfl, rfl, rfl, rfl, rfl⟩ rfl rfl rfl rfl rfl (by kernel_rfl) Try.func4 (by kernel_rfl)
    (of_decide_eq_true (by kernel_rfl)) (by unfold Func.isWrapper; first | (rw [if_pos (by decide +kernel)]; kernel_rfl) | (rw [if_neg (by decide +kernel)]; exact ⟨rfl, rfl⟩))
    (fun os started H enc _ => lifted os started H enc)
theorem proved : Rows.SubstNoneSaid := over
end Go.Proofs.Ytjhmdobmbajcgaa.substNone
