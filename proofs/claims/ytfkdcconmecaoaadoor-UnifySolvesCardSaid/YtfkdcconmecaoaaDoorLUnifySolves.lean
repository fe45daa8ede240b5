/- UnifySolves holds for every two types. No condition but that the listed package variables hold what the program's text lays. -/
import Derived.Test.YtfkdcconmecaoaaDoorCards
import Derived.Test.YtfkdcconmecaoaaDoorTie
import Derived.Test.YtfkdcconmecaoaaDoorOpn
import Derived.Test.YtfkdcconmecaoaaDoorCrd
import Derived.WalkKit
import Derived.ProofKit
import Derived.Deep.DeepHandedRow
import Derived.Test.YtfkdcconmecaoaaDoorErs
import Derived.MakeChecks
import Derived.Test.YtfkdcconmecaoaaDoorUsP
import Derived.Test.YtfkdcconmecaoaaDoorUfC
import Derived.Test.YtfkdcconmecaoaaDoorAid
import Derived.Test.YtfkdcconmecaoaaDoorTyI
import Derived.Test.YtfkdcconmecaoaaDoorSbH
import Derived.Deep.RegionHeld3
import Derived.BigQuiet
namespace Go.Proofs.YtfkdcconmecaoaaDoor.unifySolves
open Go.ChangeShapes Go.WideShapes Go.ChangeAt Go.RowKit
open Go.ChangeMaps (open_string shut_string)
set_option linter.unusedVariables false
set_option linter.unusedSimpArgs false

theorem tabs {W : World} (h : laidMetH Tryd.prog Rows.unifySolvesRow.laid W) : Hid (∃ a0 a1 a2, SenB W.heap.size a0 a1 a2 W) := by
  rw [Go.MakeChecks.laidMetH_plain _ _ _ (by kernel_rfl)] at h
  exact Lib.hid (sen_of_laid h)
theorem ownB_sl {B : Nat} {w : World} {v : Value} {l : List Bn} (h : OwnB B w v l) : ∃ a n c, v = .slice a n c := by
  rcases h.cases with ⟨rfl, _⟩ | ⟨g, c, rfl, _⟩ <;> exact ⟨_, _, _, rfl⟩
/-- a node in a block of its own. -/
theorem ty9 (w : World) (t : Ty) : (w.alloc (.cells #[.int .i64 t.k, .int .i64 t.v, .int .i64 t.a, .int .i64 t.b, .int .i64 t.c0, .int .i64 t.c1, .int .i64 t.c2, .int .i64 t.c3, .int .i64 t.t] 38)).cell? ⟨w.heap.size, 0, none⟩ = some (.int .i64 t.k) ∧ (w.alloc (.cells #[.int .i64 t.k, .int .i64 t.v, .int .i64 t.a, .int .i64 t.b, .int .i64 t.c0, .int .i64 t.c1, .int .i64 t.c2, .int .i64 t.c3, .int .i64 t.t] 38)).cell? ⟨w.heap.size, 1, none⟩ = some (.int .i64 t.v) ∧ (w.alloc (.cells #[.int .i64 t.k, .int .i64 t.v, .int .i64 t.a, .int .i64 t.b, .int .i64 t.c0, .int .i64 t.c1, .int .i64 t.c2, .int .i64 t.c3, .int .i64 t.t] 38)).cell? ⟨w.heap.size, 8, none⟩ = some (.int .i64 t.t) := by
  refine ⟨?_, ?_, ?_⟩ <;> (rw [World.cell?_alloc_at _ _ _ _ (by simp)]; rfl)
theorem isV_of {x : Bn} {S : List Ty} {m : Nat} (h : thereB x S = false) (hm : m < S.length) : isV x (S.getD m ty0) = false := by
  unfold thereB at h
  exact List.any_eq_false.1 h _ (getT_mem hm) |> fun h => by simpa using h
set_option maxRecDepth 100000 in
set_option maxHeartbeats 8000000 in
theorem walk {H : Type} {enc : TypeId × Value → H} (p0 : Option Addr) (n0 c0 : Nat) (p1 : Option Addr) (n1 c1 : Nat) (w : World)
    (f0 : ∃ fuel y, DataW.trod enc Tryd.prog w 0 (fun _ => true) true fuel 22 [.slice p0 n0 c0] = some y ∧ ∀ x ∈ DataW.weights Tryd.prog 22 y.1, x ≤ reachBytes)
    (f1 : ∃ fuel y, DataW.trod enc Tryd.prog w 0 (fun _ => true) true fuel 22 [.slice p1 n1 c1] = some y ∧ ∀ x ∈ DataW.weights Tryd.prog 22 y.1, x ≤ reachBytes) (hS : Hid (∃ a0 a1 a2, SenB w.heap.size a0 a1 a2 w)) :
    Calls Tryd.prog 3 #[.agg #[.slice p0 n0 c0], .agg #[.slice p1 n1 c1]] w fun e w' => e = .returned (.bool true) ∧ Below w.heap.size w w' := by
  obtain ⟨_, _, t, t'⟩ := f0
  obtain ⟨hl0, ts, hA⟩ := ty_open t t'
  clear t t'
  obtain ⟨_, _, t, t'⟩ := f1
  obtain ⟨hl1, us, hC⟩ := ty_open t t'
  clear t t'
  obtain ⟨a0, a1, a2, hE⟩ := hS.out
  have hE := Lib.hid hE
  have hA := Lib.hid hA
  have hC := Lib.hid hC
  obtain ⟨r, hr⟩ := unRes_ex 40 ts us
  have hr := Lib.hid hr
  go_enter Tryd.func3, Tryd.ntmps3
  go_wp2_with fail
  refine (awake10_any a0 a1 a2 _ (Lib.hid (hE.out.up (show Below w.heap.size w _ from by (repeat' (first | with_reducible exact Below.refl _ _ | with_reducible assumption | with_reducible apply Below.setCell | with_reducible apply Below.alloc | with_reducible apply Below.drew | with_reducible apply below_drewN | with_reducible exact Nat.le_refl _ | (simp; done) | (simp; omega) | omega | exact Nat.le_refl _)))))).mono ?_
  rintro e w1 ⟨rfl, hb1⟩
  have hX := Lib.hid (show BoxAt w1 w.heap.size (.slice p0 n0 c0) from BoxAt.below (by exact BoxAt.alloc _ (box_lit _ _ _ _ rfl)) hb1)
  have hY := Lib.hid (show BoxAt w1 (w.heap.size + 1) (.slice p1 n1 c1) from BoxAt.below (by exact box_lit _ _ _ _ (by simp)) hb1)
  have hA := Lib.hid (TyArg.below (by exact TyArg.alloc _ (TyArg.alloc _ hA.out)) hb1)
  have hC := Lib.hid (TyArg.below (by exact TyArg.alloc _ (TyArg.alloc _ hC.out)) hb1)
  have hBl := Lib.hid (belT (show Below w.heap.size w _ from by (repeat' (first | with_reducible exact Below.refl _ _ | with_reducible assumption | with_reducible apply Below.setCell | with_reducible apply Below.alloc | with_reducible apply Below.drew | with_reducible apply below_drewN | with_reducible exact Nat.le_refl _ | (simp; done) | (simp; omega) | omega | exact Nat.le_refl _))) hb1)
  clear hb1
  obtain ⟨x0, x1⟩ := hX.out
  obtain ⟨y0, y1⟩ := hY.out
  go_wp2_with fail
  clear x0 x1 y0 y1
  refine (unify_go a0 a1 a2 _ _ _ _ _ _ ts us 40 (by omega) _ hA hC (by omega) (by omega) (Lib.hid (hE.out.up hBl.out)) _ hr).mono ?_
  rintro e w2 ⟨hP, hb⟩
  have hX := Lib.hid (hX.out.below hb)
  have hY := Lib.hid (hY.out.below hb)
  have hA := Lib.hid (hA.out.below hb)
  have hC := Lib.hid (hC.out.below hb)
  have hBl := Lib.hid (belT hBl.out hb)
  clear hb hE hS
  cases r with
  | error k =>
    have hP : e = .returned (.tuple #[.slice none 0 0, .int .i64 (1000 + k : Nat)]) ∧ k ≤ 3 := hP
    obtain ⟨rfl, hk⟩ := hP
    obtain ⟨m, hm⟩ : ∃ m : Int, ((1000 + k : Nat) : Int) = m := ⟨_, rfl⟩
    have hz : (m != 0) = true := by rw [bne_iff_ne]; omega
    have hmb : 0 ≤ m ∧ m ≤ 2000 := by omega
    rw [hm]
    clear hm hA hC hX hY hr
    go_wp2_with ((go_at_call 11; refine (num_any _ _ (by omega) (by omega)).mono ?_; rintro e w' ⟨rfl, rfl⟩))
    go_ret
    exact ⟨rfl, hBl.out⟩
  | ok st =>
    have hP : ∃ v xs, e = .returned (.tuple #[v, .int .i64 0]) ∧ MadeIs w1.heap.size w2 v xs ∧ BnL xs st.made := hP
    obtain ⟨v, xs, rfl, hM, hL⟩ := hP
    obtain ⟨ca, cn, cc, rfl⟩ := ownB_sl hM.own
    have hU := unRes_ok hr.out
    have hlx : xs.length ≤ 8192 := by rw [hL.len]; exact made_bd hU.inv
    have hArg := Lib.hid (hM.own.arg fun x hx => ⟨(hM.ty x hx).1, by have := (hM.ty x hx).2.1; omega⟩)
    have hcn : cn ≤ 140737488351232 := by have := hArg.out.1; omega
    obtain ⟨E, hE1⟩ : ∃ e, subE xs ts = e := ⟨_, rfl⟩
    obtain ⟨S, hS1⟩ : ∃ l, subT xs ts = l := ⟨_, rfl⟩
    obtain ⟨E', hE2⟩ : ∃ e, subE xs us = e := ⟨_, rfl⟩
    obtain ⟨S', hS2⟩ : ∃ l, subT xs us = l := ⟨_, rfl⟩
    have hsl := subT_len xs ts
    have hsl' := subT_len xs us
    have h9 : E = 0 ∨ E = 900 := by rw [← hE1]; unfold subE; split; exact .inl rfl; exact .inr rfl
    have h9' : E' = 0 ∨ E' = 900 := by rw [← hE2]; unfold subE; split; exact .inl rfl; exact .inr rfl
    have hone := Lib.hid fun h h' => us_one hL hU (h : subE xs ts = 0) (h' : subE xs us = 0)
    have hfree := Lib.hid fun h => us_free hL hU.inv (h : subE xs ts = 0)
    rw [hS1] at hsl hone hfree
    rw [hS2] at hsl' hone
    rw [hE1] at hone hfree
    rw [hE2] at hone
    have hE1 := Lib.hid hE1
    have hE2 := Lib.hid hE2
    have hS1 := Lib.hid hS1
    have hS2 := Lib.hid hS2
    clear hM hL hU hr
    obtain ⟨x0, x1⟩ := hX.out
    go_wp2_with ((go_at_call 11; refine (num_any _ _ (by omega) (by omega)).mono ?_; rintro e w' ⟨rfl, rfl⟩))
    clear x0 x1
    refine (subType_any _ _ _ _ _ _ xs ts _ hArg hA hcn (by omega)).mono ?_
    rintro e w3 ⟨v3, rfl, hv3, hb⟩
    obtain ⟨a3, m3, d3, rfl⟩ := ownT_sl hv3
    rw [hE1.out]
    rw [hS1.out] at hv3
    have hU3 := Lib.hid hv3.arg
    have hY := Lib.hid (hY.out.below hb)
    have hC := Lib.hid (hC.out.below hb)
    have hArg := Lib.hid (hArg.out.below hb)
    have hBl := Lib.hid (belT hBl.out hb)
    clear hb hv3 hA hX
    obtain ⟨y0, y1⟩ := hY.out
    go_wp2_with fail
    clear y0 y1
    refine (subType_any _ _ _ _ _ _ xs us _ (Lib.hid (hArg.out.alloc _)) (Lib.hid (hC.out.alloc _)) hcn (by omega)).mono ?_
    rintro e w4 ⟨v4, rfl, hv4, hb⟩
    obtain ⟨a4, m4, d4, rfl⟩ := ownT_sl hv4
    rw [hE2.out]
    rw [hS2.out] at hv4
    have hV4 := Lib.hid hv4.arg
    have hU4 := Lib.hid ((hU3.out.alloc _).below hb)
    have hArg := Lib.hid ((hArg.out.alloc _).below hb)
    have hZ : Hid (BoxAt w4 w3.heap.size (.slice a3 m3 d3)) := Lib.hid (BoxAt.below (by exact box_lit _ _ _ _ rfl) hb)
    have hBl := Lib.hid (belT (belA _ hBl.out) hb)
    clear hb hv4 hC hY hU3
    generalize w3.heap.size = g7 at hZ ⊢
    rcases h9 with rfl | rfl
    · rcases h9' with rfl | rfl
      · obtain rfl := hone.out rfl rfl
        have hfr := Lib.hid (hfree.out rfl)
        clear hone hfree hE1 hE2 hS1 hS2
        obtain ⟨z0, z1⟩ := hZ.out
        go_wp2_with ((go_at_call 11; refine (num_any _ _ (by omega) (by omega)).mono ?_; rintro e w' ⟨rfl, rfl⟩))
        clear z0 z1
        refine (sameType_any _ _ _ _ _ _ S S _ (Lib.hid (hU4.out.alloc _)) (Lib.hid (hV4.out.alloc _)) (by have := hU4.out.1; omega)).mono ?_
        rintro e w5 ⟨rfl, hb⟩
        rw [decide_eq_true rfl]
        have hU5 := Lib.hid ((hU4.out.alloc _).below hb)
        have hArg := Lib.hid ((hArg.out.alloc _).below hb)
        have hZ := Lib.hid ((hZ.out.alloc _).below hb)
        have hBl := Lib.hid (belT (belA _ hBl.out) hb)
        clear hb hU4 hV4
        go_wp2_with fail
        obtain rfl : cn = xs.length := hArg.out.1
        obtain rfl : m3 = S.length := hU5.out.1
        go_loopw [11] (fun i wr => ∃ k : Nat, k ≤ xs.length ∧ i = .int .i64 k ∧ Below w5.heap.size w5 wr) (fun i _ => xs.length - (intOf i).toNat)
        case atStart => exact ⟨0, by omega, rfl, Below.refl _ _⟩
        case round =>
          rename World => wo
          obtain ⟨k, hk, rfl, hbw⟩ := hrel
          by_cases hlt : k < xs.length
          · rcases hArg.out.2 with h | ⟨b, off, rfl, hsl, hbs⟩
            · rw [h] at hlt; simp at hlt
            have hAt := (hsl k hlt).1.below hbw hbs
            have hno := Lib.hid (hfr.out _ (getB_mem hlt))
            generalize xs.getD k bn0 = x at hAt hno
            clear hsl
            have hkx : (k : Int) < (xs.length : Int) := by omega
            have hk0 : (0 : Int) ≤ (k : Int) := by omega
            go_wp2_with fail
            go_loopw [12] (fun j wr => ∃ m : Nat, m ≤ S.length ∧ j = .int .i64 m ∧ Below wo.heap.size wo wr) (fun j _ => S.length - (intOf j).toNat)
            case atStart => exact ⟨0, by omega, rfl, Below.refl _ _⟩
            case round =>
              obtain ⟨m, hm, rfl, hb2⟩ := hrel
              have hB := Lib.hid (belT hbw hb2)
              have hPx := Lib.hid (hZ.out.below hB.out)
              obtain ⟨q0, q1⟩ := hPx.out
              by_cases hlm : m < S.length
              · rcases hU5.out.2 with h | ⟨b', off', rfl, hsl', hbs'⟩
                · rw [h] at hlm; simp at hlm
                have hbr : b < wo.heap.size := by have := hbw.size; omega
                have hbr2 : b < wr.heap.size := by have := hb2.size; omega
                have hU := (hsl' m hlm).below hB.out hbs'
                have hbr3 : b' < wr.heap.size := by have := hB.out.size; omega
                have hnv := isV_of hno.out hlm
                generalize S.getD m ty0 = t at hU hnv
                clear hsl'
                have hA2 := (hAt.below hb2 hbr).below (below_alc wr (.cells #[.int .i64 t.k, .int .i64 t.v, .int .i64 t.a, .int .i64 t.b, .int .i64 t.c0, .int .i64 t.c1, .int .i64 t.c2, .int .i64 t.c3, .int .i64 t.t] 38)) hbr2
                have h9 := ty9 wr t
                have hb6 := belT hb2 (below_alc wr (.cells #[.int .i64 t.k, .int .i64 t.v, .int .i64 t.a, .int .i64 t.b, .int .i64 t.c0, .int .i64 t.c1, .int .i64 t.c2, .int .i64 t.c3, .int .i64 t.t] 38))
                have hmx : (m : Int) < (S.length : Int) := by omega
                have hm0 : (0 : Int) ≤ (m : Int) := by omega
                obtain ⟨e0, e1, e2, e3, e4, e5, e6, e7, e8⟩ := hU
                go_upto_region 19 with fail
                clear e0 e1 e2 e3 e4 e5 e6 e7 e8 q0 q1
                generalize wr.alloc (.cells #[.int .i64 t.k, .int .i64 t.v, .int .i64 t.a, .int .i64 t.b, .int .i64 t.c0, .int .i64 t.c1, .int .i64 t.c2, .int .i64 t.c3, .int .i64 t.t] 38) = w6 at h9 hA2 hb6 ⊢
                obtain ⟨d0, d1, d2', d3', d4', d5, d6, d7⟩ := hA2
                obtain ⟨n0', n1', n8⟩ := h9
                cases hir : x.ir
                · rw [hir] at d1
                  cases hk2 : (t.k == 2)
                  · go_quiet (fail)
                    go_wp2_with fail
                    go_roundw
                    case rel => exact ⟨m + 1, by omega, by go_num, by (repeat' (first | with_reducible exact Below.refl _ _ | with_reducible assumption | with_reducible apply Below.setCell | with_reducible apply Below.alloc | with_reducible apply Below.drew | with_reducible apply below_drewN | with_reducible exact Nat.le_refl _ | (simp; done) | (simp; omega) | omega | exact Nat.le_refl _))⟩
                    case measure => simp [intOf]; omega
                  · have hv : (t.v == x.v) = false := by unfold isV at hnv; rw [hir, hk2] at hnv; simpa using hnv
                    go_quiet (fail)
                    go_wp2_with fail
                    go_roundw
                    case rel => exact ⟨m + 1, by omega, by go_num, by (repeat' (first | with_reducible exact Below.refl _ _ | with_reducible assumption | with_reducible apply Below.setCell | with_reducible apply Below.alloc | with_reducible apply Below.drew | with_reducible apply below_drewN | with_reducible exact Nat.le_refl _ | (simp; done) | (simp; omega) | omega | exact Nat.le_refl _))⟩
                    case measure => simp [intOf]; omega
                · rw [hir] at d1
                  cases hk3 : (t.k == 3)
                  · go_quiet (fail)
                    go_wp2_with fail
                    go_roundw
                    case rel => exact ⟨m + 1, by omega, by go_num, by (repeat' (first | with_reducible exact Below.refl _ _ | with_reducible assumption | with_reducible apply Below.setCell | with_reducible apply Below.alloc | with_reducible apply Below.drew | with_reducible apply below_drewN | with_reducible exact Nat.le_refl _ | (simp; done) | (simp; omega) | omega | exact Nat.le_refl _))⟩
                    case measure => simp [intOf]; omega
                  · have hv : (t.t == x.v) = false := by unfold isV at hnv; rw [hir, hk3] at hnv; simpa using hnv
                    go_quiet (fail)
                    go_wp2_with fail
                    go_roundw
                    case rel => exact ⟨m + 1, by omega, by go_num, by (repeat' (first | with_reducible exact Below.refl _ _ | with_reducible assumption | with_reducible apply Below.setCell | with_reducible apply Below.alloc | with_reducible apply Below.drew | with_reducible apply below_drewN | with_reducible exact Nat.le_refl _ | (simp; done) | (simp; omega) | omega | exact Nat.le_refl _))⟩
                    case measure => simp [intOf]; omega
              · go_wp2_with fail
                go_roundw
                case rel => exact ⟨k + 1, by omega, by go_num, hB.out⟩
                case measure => simp [intOf]; omega
          · go_wp2_with fail
            go_ret
            exact ⟨rfl, belT hBl.out hbw⟩
      · clear hone hfree
        go_wp2_with ((go_at_call 11; refine (num_any _ _ (by omega) (by omega)).mono ?_; rintro e w' ⟨rfl, rfl⟩))
        go_ret
        exact ⟨rfl, by first | exact hBl.out | exact belA _ hBl.out | exact belA _ (belA _ hBl.out)⟩
    · clear hone hfree
      go_wp2_with ((go_at_call 11; refine (num_any _ _ (by omega) (by omega)).mono ?_; rintro e w' ⟨rfl, rfl⟩))
      go_ret
      exact ⟨rfl, by first | exact hBl.out | exact belA _ hBl.out | exact belA _ (belA _ hBl.out)⟩
theorem own : ownKnob Tryd.prog.godebug = none := by kernel_rfl
theorem laidOut : laidOutB Tryd.prog = true := by kernel_rfl
set_option maxRecDepth 100000 in
theorem contract (H : Type) (enc : TypeId × Value → H) (W : World) (base : Nat) (args : Array Value) (ds gs : List (DataW H)) (before : List MemPlace)
    (hval0 : ∀ (j : Nat) t v, Tryd.f3.params[j]? = some t → args[j]? = some v → Value.okWide Tryd.prog W .any base t v)
    (hW : DataW.Whole enc Tryd.prog Tryd.f3.params.toList Rows.unifySolvesSpec.vars false W args.toList ds gs before)
    (hsz0 : (DataW.weightsEach Tryd.prog (Tryd.f3.params.toList ++ Rows.unifySolvesSpec.plain.varTypes Tryd.prog) (ds ++ gs)).all (· ≤ reachBytes) = true)
    (hL : laidMetH Tryd.prog Rows.unifySolvesRow.laid W)
    : Calls Tryd.prog 3 args W fun e W' => ∃ v, e = .returned v ∧ Rows.unifySolvesSpec.post enc Tryd.prog Tryd.f3 false true false false W args v W' := by
  have hval : ∀ (j : Nat) t v, Tryd.f3.params[j]? = some t → args[j]? = some v → Value.okWide Tryd.prog W .any base t v := hval0
  have hsz : (DataW.weightsEach Tryd.prog (Tryd.f3.params.toList ++ Rows.unifySolvesSpec.plain.varTypes Tryd.prog) (ds ++ gs)).all (· ≤ reachBytes) = true := hsz0
  have hW' := hW
  obtain ⟨p, q, hA0, hV, rfl, hfz, hnd⟩ := hW
  have hA : DataW.TrodAll enc Tryd.prog W 0 (fun _ => true) true Tryd.f3.params.toList args.toList ds p := hA0
  rw [Tryd.params3] at hA hval hsz
  obtain ⟨v0, vs0, d0, ds0, p0, q0, hargs, rfl, rfl, h0, r0⟩ := trodAll_cons hA
  obtain ⟨v1, vs1, d1, ds1, p1, q1, rfl, rfl, rfl, h1, r1⟩ := trodAll_cons r0
  obtain ⟨rfl, rfl, rfl⟩ := trodAll_nil r1
  obtain rfl : args = #[v0, v1] := by cases args; simp_all
  obtain ⟨rfl, rfl⟩ := trodVars_none hV
  have k0 := h0
  have lt0 : ∀ x ∈ p0, x.block < W.heap.size := by obtain ⟨m, hm⟩ := k0; exact DataW.trod_lt m _ _ _ hm
  obtain ⟨cs0_0, rfl, fit0_0⟩ := open_struct Tryd.underlying24 (f := 6) (by kernel_rfl : flat Tryd.prog 6 24 = some [.sl 22]) (hval 0 24 v0 rfl rfl) h0 (sized_of hsz (j := 0) (t := 24) rfl rfl)
  obtain ⟨_, cs0_1, rfl, ⟨a0_0, n0_0, c0_0, fu0_0, y0_0, rfl, f0_0, g0_0⟩, fit0_1⟩ := fit_i fit0_0
  obtain rfl := fit_nil fit0_1
  have k1 := h1
  have lt1 : ∀ x ∈ p1, x.block < W.heap.size := by obtain ⟨m, hm⟩ := k1; exact DataW.trod_lt m _ _ _ hm
  obtain ⟨cs1_0, rfl, fit1_0⟩ := open_struct Tryd.underlying24 (f := 6) (by kernel_rfl : flat Tryd.prog 6 24 = some [.sl 22]) (hval 1 24 v1 rfl rfl) h1 (sized_of hsz (j := 1) (t := 24) rfl rfl)
  obtain ⟨_, cs1_1, rfl, ⟨a1_0, n1_0, c1_0, fu1_0, y1_0, rfl, f1_0, g1_0⟩, fit1_1⟩ := fit_i fit1_0
  obtain rfl := fit_nil fit1_1
  clear hA0 hval0
  refine (walk a0_0 n0_0 c0_0 a1_0 n1_0 c1_0 W ⟨_, _, f0_0, g0_0⟩ ⟨_, _, f1_0, g1_0⟩ (tabs hL)).mono fun e W' ⟨he, bel⟩ => ?_
  subst he
  exact ⟨_, rfl, _, _, _, [], _, [], hW', trodAll_mk1 (shut_bool Tryd.underlying4 _), (trodAll_cons_mk (Below.trod laidOut (by kernel_rfl) (of_decide_eq_true (by kernel_rfl)) k0 bel lt0) (trodAll_cons_mk (Below.trod laidOut (by kernel_rfl) (of_decide_eq_true (by kernel_rfl)) k1 bel lt1) trodAll_mk0)), rfl, bel.frame _, fun h => by cases h⟩
noncomputable def laidWorld (os : Os) : World := { World.holding Tryd.prog os ⟨#[], #[], []⟩ with heap := layErrs Tryd.prog 211 234 Rows.unifySolvesRow.laid (World.holding Tryd.prog os ⟨#[], #[], []⟩).heap }
theorem laid_met (os : Os) : laidMet Tryd.prog Rows.unifySolvesRow.laid ((laidWorld os).forCall (fun _ _ => 0) ⟨#[], #[.agg #[.slice none 0 0], .agg #[.slice none 0 0]], []⟩).memory := laidMet_of_run' 8 (by kernel_rfl) (by kernel_rfl)
theorem reads (os : Os) {H : Type} (enc : TypeId × Value → H) : ∃ places, DataW.whole enc Tryd.prog ((laidWorld os).forCall (fun _ _ => 0) ⟨#[], #[.agg #[.slice none 0 0], .agg #[.slice none 0 0]], []⟩).memory Tryd.f3.params.toList Rows.unifySolvesSpec.vars false #[(.agg #[.slice none 0 0] : Value), (.agg #[.slice none 0 0] : Value)].toList 8 = some ([.agg [.nil], .agg [.nil]], [], places) := ⟨[], by kernel_rfl⟩
set_option maxRecDepth 100000 in
theorem lifted (os : Os) (started : os.Started) (H : Type) (enc : TypeId × Value → H) (F : Stop.Interp) :
    ReturnsInHanded {} Tryd.checked os 3 .any ((OpenSpec.ofChange Rows.unifySolvesSpec).preRow enc Tryd.prog Tryd.f3 Rows.unifySolvesRow.domain false Rows.unifySolvesRow.laid) (((OpenSpec.ofChange Rows.unifySolvesSpec).at F).post enc Tryd.prog Tryd.f3 false true false false) := by
  obtain ⟨places, hx⟩ := reads os enc
  refine returnsInHanded_of_row (C := Tryd.checked) (s := (OpenSpec.ofChange Rows.unifySolvesSpec)) own started (by kernel_rfl) Tryd.func3
    (witness_row_at (enc := enc) (C := Tryd.checked) false (laidWorld os) #[.agg #[.slice none 0 0], .agg #[.slice none 0 0]] rfl (by kernel_rfl) (by kernel_rfl) (by kernel_rfl)
      (OpenSpec.preRow_of_cond 8 hx (by kernel_rfl) (fun k hk => by cases hk) (by kernel_rfl) (laid_met os))) ?_
  intro W base args ds gs before hval hW _ hcnd hsz hL _ _
  exact contract H enc W base args ds gs before hval hW hsz  hL
theorem said : Rows.UnifySolvesSaid :=
  OpenClaim.holds_of_cond 3 Tryd.f3 rfl rfl rfl rfl rfl rfl rfl ⟨rfl, rfl, rfl, rfl, rfl⟩ rfl rfl rfl rfl rfl (by kernel_rfl) Tryd.func3 (by kernel_rfl)
    (of_decide_eq_true (by kernel_rfl)) (by unfold Func.isWrapper; first | (rw [if_pos (by decide +kernel)]; kernel_rfl) | (rw [if_neg (by decide +kernel)]; exact ⟨rfl, rfl⟩))
    (fun os started H enc _ F => by rw [OpenClaim.pre_eq_preRow]; exact lifted os started H enc F)
theorem plain (f : FuncId) (fn : Func) (hf : Tryd.pinned.checked.prog.funcNamed "trammel/trammellaw10.UnifySolves" = some f) (hfn : Tryd.pinned.checked.prog.funcs[f]? = some fn) :
    true = Tryd.pinned.checked.prog.looks [] ∧ ∀ (j : Nat) t, fn.params[j]? = some t → Tryd.pinned.checked.prog.wantsStandIn t = false := by
  obtain rfl : f = 3 := Option.some.inj ((show Tryd.prog.funcNamed "trammel/trammellaw10.UnifySolves" = some 3 by kernel_rfl).symm.trans hf) |>.symm
  obtain rfl : fn = Tryd.f3 := (Option.some.inj (Tryd.func3.symm.trans hfn)).symm
  refine ⟨by kernel_rfl, fun j t ht => ?_⟩
  rw [Tryd.params3] at ht
  have hm := Array.mem_of_getElem? ht
  have hm2 : t ∈ ([24] : List Nat) := by simpa using hm
  simp only [List.mem_cons, List.not_mem_nil, or_false] at hm2
  subst hm2; exact (show Tryd.prog.wantsStandIn 24 = false by kernel_rfl)
theorem proved : Rows.UnifySolvesCardSaid :=
  Claim7.holds_tied_plain_at .later [] _ _ _ _ said (fun _ h => by cases h) (by kernel_rfl) (fun _ h => by cases h) unifySolves_row_tie rfl ⟨rfl, rfl⟩ (by kernel_rfl) rfl plain (by kernel_rfl)
end Go.Proofs.YtfkdcconmecaoaaDoor.unifySolves
