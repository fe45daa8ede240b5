/- UnifyFinds holds for every type and all binds. No condition but that the listed package variables hold what the program's text lays. -/
import Derived.Test.YtfkdcconmecaoaaDoorCards
import Derived.Test.YtfkdcconmecaoaaDoorTie
import Derived.Test.YtfkdcconmecaoaaDoorOpn
import Derived.Test.YtfkdcconmecaoaaDoorCrd
import Derived.WalkKit
import Derived.ProofKit
import Derived.Deep.DeepHandedRow
import Derived.Test.YtfkdcconmecaoaaDoorErs
import Derived.MakeChecks
import Derived.Test.YtfkdcconmecaoaaDoorUvP
import Derived.Test.YtfkdcconmecaoaaDoorUfC
import Derived.Test.YtfkdcconmecaoaaDoorRqm
import Derived.Test.YtfkdcconmecaoaaDoorRcB
import Derived.Test.YtfkdcconmecaoaaDoorAid
import Derived.Test.YtfkdcconmecaoaaDoorTyI
namespace Go.Proofs.YtfkdcconmecaoaaDoor.unifyFinds
open Go.ChangeShapes Go.WideShapes Go.ChangeAt Go.RowKit
open Go.ChangeMaps (open_string shut_string)
set_option linter.unusedVariables false
set_option linter.unusedSimpArgs false

theorem tabs {W : World} (h : laidMetH Tryd.prog Rows.unifyFindsRow.laid W) : Hid (∃ a0 a1 a2, SenB W.heap.size a0 a1 a2 W) := by
  rw [Go.MakeChecks.laidMetH_plain _ _ _ (by kernel_rfl)] at h
  exact Lib.hid (sen_of_laid h)
theorem ownB_sl {B : Nat} {w : World} {v : Value} {l : List Bn} (h : OwnB B w v l) : ∃ a n c, v = .slice a n c := by
  rcases h.cases with ⟨rfl, _⟩ | ⟨g, c, rfl, _⟩ <;> exact ⟨_, _, _, rfl⟩
theorem sub_two (xs : List Bn) (ts : List Ty) : subE xs ts = 0 ∨ subE xs ts = 900 := by unfold subE; split; exact .inl rfl; exact .inr rfl
set_option maxRecDepth 100000 in
set_option maxHeartbeats 8000000 in
theorem walk {H : Type} {enc : TypeId × Value → H} (p0 : Option Addr) (n0 c0 : Nat) (p1 : Option Addr) (n1 c1 : Nat) (p2 : Option Addr) (n2 c2 : Nat) (w : World)
    (f0 : ∃ fuel y, DataW.trod enc Tryd.prog w 0 (fun _ => true) true fuel 22 [.slice p0 n0 c0] = some y ∧ ∀ x ∈ DataW.weights Tryd.prog 22 y.1, x ≤ reachBytes)
    (f1 : ∃ fuel y, DataW.trod enc Tryd.prog w 0 (fun _ => true) true fuel 26 [.slice p1 n1 c1] = some y ∧ ∀ x ∈ DataW.weights Tryd.prog 26 y.1, x ≤ reachBytes)
    (f2 : ∃ fuel y, DataW.trod enc Tryd.prog w 0 (fun _ => true) true fuel 26 [.slice p2 n2 c2] = some y ∧ ∀ x ∈ DataW.weights Tryd.prog 26 y.1, x ≤ reachBytes) (hS : Hid (∃ a0 a1 a2, SenB w.heap.size a0 a1 a2 w)) :
    Calls Tryd.prog 4 #[.agg #[.slice p0 n0 c0], .slice p1 n1 c1, .slice p2 n2 c2] w fun e w' => e = .returned (.bool true) ∧ Below w.heap.size w w' := by
  obtain ⟨_, _, t, t'⟩ := f0
  obtain ⟨hl0, ts, hA⟩ := ty_open t t'
  clear t t'
  obtain ⟨_, _, t, t'⟩ := f1
  obtain ⟨hl1, xs, hX, _⟩ := bs_open t t'
  clear t t'
  obtain ⟨_, _, t, t'⟩ := f2
  obtain ⟨hl2, ys, hY, _⟩ := bs_open t t'
  clear t t'
  obtain ⟨a0, a1, a2, hE⟩ := hS.out
  have hE := Lib.hid hE
  have hA := Lib.hid hA
  have hX := Lib.hid hX
  have hY := Lib.hid hY
  obtain ⟨U, hU⟩ : ∃ l, subT xs ts = l := ⟨_, rfl⟩
  obtain ⟨E1, hE1⟩ : ∃ e, subE xs ts = e := ⟨_, rfl⟩
  obtain ⟨M, hM⟩ : ∃ l, subT ys U = l := ⟨_, rfl⟩
  obtain ⟨E2, hE2⟩ : ∃ e, subE ys U = e := ⟨_, rfl⟩
  obtain ⟨N, hN⟩ : ∃ l, subT ys ts = l := ⟨_, rfl⟩
  obtain ⟨E3, hE3⟩ : ∃ e, subE ys ts = e := ⟨_, rfl⟩
  obtain ⟨r, hr⟩ := unRes_ex 60 ts U
  have hUl := subT_len xs ts
  have hMl := subT_len ys U
  have hNl := subT_len ys ts
  have z1 := sub_two xs ts
  have z2 := sub_two ys U
  have z3 := sub_two ys ts
  have hgo := Lib.hid fun h1 h2 h3 h4 => find_cases (r := r) (h1 : subE xs ts = 0) (h2 : subE ys (subT xs ts) = 0) (h3 : subE ys ts = 0) (h4 : subT ys (subT xs ts) = subT ys ts)
  rw [hU] at hUl hgo
  rw [hM] at hMl hgo
  rw [hN] at hNl hgo
  rw [hE1] at z1 hgo
  rw [hE2] at z2 hgo
  rw [hE3] at z3 hgo
  have hU := Lib.hid hU
  have hM := Lib.hid hM
  have hN := Lib.hid hN
  have hE1 := Lib.hid hE1
  have hE2 := Lib.hid hE2
  have hE3 := Lib.hid hE3
  have hr := Lib.hid hr
  go_enter Tryd.func4, Tryd.ntmps4
  go_wp2_with fail
  refine (awake10_any a0 a1 a2 _ (Lib.hid (hE.out.up (show Below w.heap.size w _ from by (repeat' (first | with_reducible exact Below.refl _ _ | with_reducible assumption | with_reducible apply Below.setCell | with_reducible apply Below.alloc | with_reducible apply Below.drew | with_reducible apply below_drewN | with_reducible exact Nat.le_refl _ | (simp; done) | (simp; omega) | omega | exact Nat.le_refl _)))))).mono ?_
  rintro e w1 ⟨rfl, hb⟩
  have hZ := Lib.hid (show BoxAt w1 w.heap.size (.slice p0 n0 c0) from BoxAt.below (by exact box_lit _ _ _ _ rfl) hb)
  have hA := Lib.hid (TyArg.below (by exact TyArg.alloc _ hA.out) hb)
  have hX := Lib.hid (BnArg.below (by exact BnArg.alloc _ hX.out) hb)
  have hY := Lib.hid (BnArg.below (by exact BnArg.alloc _ hY.out) hb)
  have hBl := Lib.hid (belT (show Below w.heap.size w _ from by (repeat' (first | with_reducible exact Below.refl _ _ | with_reducible assumption | with_reducible apply Below.setCell | with_reducible apply Below.alloc | with_reducible apply Below.drew | with_reducible apply below_drewN | with_reducible exact Nat.le_refl _ | (simp; done) | (simp; omega) | omega | exact Nat.le_refl _))) hb)
  clear hb
  obtain ⟨x0, x1⟩ := hZ.out
  go_wp2_with fail
  clear x0 x1
  refine (rsubType_any _ _ _ _ _ _ xs ts _ hX hA (by omega) (by omega)).mono ?_
  rintro e w2 ⟨v2, rfl, hv, hb⟩
  obtain ⟨b2, m2, d2, rfl⟩ := ownT_sl hv
  rw [hE1.out]
  rw [hU.out] at hv
  have hU2 := Lib.hid hv.arg
  have hZ := Lib.hid (hZ.out.below hb)
  have hA := Lib.hid (hA.out.below hb)
  have hY := Lib.hid (hY.out.below hb)
  have hBl := Lib.hid (belT hBl.out hb)
  clear hb hv hX
  rcases z1 with rfl | rfl
  · have hUm : m2 ≤ 256 := by rw [hU2.out.1]; exact hUl
    go_wp2_with fail
    refine (rsubType_any _ _ _ _ _ _ ys U _ (Lib.hid (hY.out.alloc _)) (Lib.hid (hU2.out.alloc _)) (by omega) (by omega)).mono ?_
    rintro e w3 ⟨v3, rfl, hv, hb⟩
    obtain ⟨b3, m3, d3, rfl⟩ := ownT_sl hv
    rw [hE2.out]
    rw [hM.out] at hv
    have hM3 := Lib.hid hv.arg
    have hZ := Lib.hid ((hZ.out.alloc _).below hb)
    have hA := Lib.hid ((hA.out.alloc _).below hb)
    have hY := Lib.hid ((hY.out.alloc _).below hb)
    have hU3 := Lib.hid ((hU2.out.alloc _).below hb)
    have hV : Hid (BoxAt w3 w2.heap.size (.slice b2 m2 d2)) := Lib.hid (BoxAt.below (by exact box_lit _ _ _ _ rfl) hb)
    have hBl := Lib.hid (belT (belA _ hBl.out) hb)
    clear hb hv hU2
    generalize w2.heap.size = g7 at hV ⊢
    obtain ⟨x0, x1⟩ := hZ.out
    go_wp2_with fail
    clear x0 x1
    refine (rsubType_any _ _ _ _ _ _ ys ts _ (Lib.hid (hY.out.alloc _)) (Lib.hid (hA.out.alloc _)) (by omega) (by omega)).mono ?_
    rintro e w4 ⟨v4, rfl, hv, hb⟩
    obtain ⟨b4, m4, d4, rfl⟩ := ownT_sl hv
    rw [hE3.out]
    rw [hN.out] at hv
    have hN4 := Lib.hid hv.arg
    have hZ := Lib.hid ((hZ.out.alloc _).below hb)
    have hA := Lib.hid ((hA.out.alloc _).below hb)
    have hU4 := Lib.hid ((hU3.out.alloc _).below hb)
    have hM4 := Lib.hid ((hM3.out.alloc _).below hb)
    have hV := Lib.hid ((hV.out.alloc _).below hb)
    have hT : Hid (BoxAt w4 w3.heap.size (.slice b3 m3 d3)) := Lib.hid (BoxAt.below (by exact box_lit _ _ _ _ rfl) hb)
    have hBl := Lib.hid (belT (belA _ hBl.out) hb)
    clear hb hv hU3 hM3 hY
    generalize w3.heap.size = g9 at hT ⊢
    rcases z2 with rfl | rfl
    · rcases z3 with rfl | rfl
      · obtain ⟨x0, x1⟩ := hT.out
        go_wp2_with fail
        clear x0 x1
        refine (sameType_any _ _ _ _ _ _ M N _ (Lib.hid (hM4.out.alloc _)) (Lib.hid (hN4.out.alloc _)) (by have := hM4.out.1; omega)).mono ?_
        rintro e w5 ⟨rfl, hb⟩
        have hZ := Lib.hid ((hZ.out.alloc _).below hb)
        have hA := Lib.hid ((hA.out.alloc _).below hb)
        have hU5 := Lib.hid ((hU4.out.alloc _).below hb)
        have hM5 := Lib.hid ((hM4.out.alloc _).below hb)
        have hV := Lib.hid ((hV.out.alloc _).below hb)
        have hT := Lib.hid ((hT.out.alloc _).below hb)
        have hBl := Lib.hid (belT (belA _ hBl.out) hb)
        clear hb hU4 hM4 hN4
        by_cases hMN : M = N
        · have hgo := Lib.hid (hgo.out (by trivial) (by trivial) (by trivial) hMN hr.out)
          rw [decide_eq_true hMN]
          clear hE1 hE2 hE3 hU hM hN hMN
          have hlw : IntKind.i64.wrap ((n0 : Int) + (m2 : Int)) = (n0 : Int) + (m2 : Int) := by
            exact IntWalk.i64_in _ (by omega)
          cases hbig : decide ((40 : Int) < (n0 : Int) + (m2 : Int))
          · obtain ⟨x0, x1⟩ := hZ.out
            obtain ⟨y0, y1⟩ := hV.out
            go_wp2_with fail
            clear x0 x1 y0 y1
            refine (unify_go a0 a1 a2 _ _ _ _ _ _ ts U 60 (by omega) _ hA hU5 (by omega) (by omega) (Lib.hid (hE.out.up hBl.out)) _ hr).mono ?_
            rintro e w6 ⟨hP, hb⟩
            have hZ := Lib.hid (hZ.out.below hb)
            have hA := Lib.hid (hA.out.below hb)
            have hM6 := Lib.hid (hM5.out.below hb)
            have hT := Lib.hid (hT.out.below hb)
            have hBl := Lib.hid (belT hBl.out hb)
            clear hb hE hS hU5 hM5 hV
            rcases hgo.out with rfl | rfl | ⟨st, rfl, hI, hF⟩
            · have hP : e = .returned (.tuple #[.slice none 0 0, .int .i64 (1000 + 0 : Nat)]) ∧ 0 ≤ 3 := hP
              obtain ⟨rfl, _⟩ := hP
              go_wp2_with ((go_at_call 11; refine (num_any _ _ (by omega) (by omega)).mono ?_; rintro e w' ⟨rfl, rfl⟩))
              go_ret
              exact ⟨rfl, hBl.out⟩
            · have hP : e = .returned (.tuple #[.slice none 0 0, .int .i64 (1000 + 3 : Nat)]) ∧ 3 ≤ 3 := hP
              obtain ⟨rfl, _⟩ := hP
              go_wp2_with ((go_at_call 11; refine (num_any _ _ (by omega) (by omega)).mono ?_; rintro e w' ⟨rfl, rfl⟩))
              go_ret
              exact ⟨rfl, hBl.out⟩
            · have hP : ∃ v xs, e = .returned (.tuple #[v, .int .i64 0]) ∧ MadeIs w5.heap.size w6 v xs ∧ BnL xs st.made := hP
              obtain ⟨v, zs, rfl, hMd, hL⟩ := hP
              obtain ⟨ca, cn, cc, rfl⟩ := ownB_sl hMd.own
              have hlx : zs.length ≤ 8192 := by rw [hL.len]; exact made_bd hI
              have hArg := Lib.hid (hMd.own.arg fun x hx => ⟨(hMd.ty x hx).1, by have := (hMd.ty x hx).2.1; omega⟩)
              have hcn : cn ≤ 140737488351232 := by have := hArg.out.1; omega
              obtain ⟨E, hE4⟩ : ∃ e, subE zs ts = e := ⟨_, rfl⟩
              obtain ⟨S, hS4⟩ : ∃ l, subT zs ts = l := ⟨_, rfl⟩
              have hsl := subT_len zs ts
              have h9 := sub_two zs ts
              have hF := Lib.hid (hF zs hL)
              rw [hS4] at hsl hF
              rw [hE4] at h9 hF
              have hE4 := Lib.hid hE4
              have hS4 := Lib.hid hS4
              obtain ⟨ok, hok⟩ : ∃ b, instV S M = b := ⟨_, rfl⟩
              obtain ⟨J, hJ⟩ : ∃ b, instE S M = b := ⟨_, rfl⟩
              rw [hok, hJ] at hF
              have hok := Lib.hid hok
              have hJ := Lib.hid hJ
              clear hMd hL hr hI hgo
              obtain ⟨x0, x1⟩ := hZ.out
              go_wp2_with ((go_at_call 11; refine (num_any _ _ (by omega) (by omega)).mono ?_; rintro e w' ⟨rfl, rfl⟩))
              clear x0 x1
              refine (subType_any _ _ _ _ _ _ zs ts _ hArg hA hcn (by omega)).mono ?_
              rintro e w7 ⟨v7, rfl, hv, hb⟩
              obtain ⟨b7, m7, d7, rfl⟩ := ownT_sl hv
              rw [hE4.out]
              rw [hS4.out] at hv
              have hS7 := Lib.hid hv.arg
              have hM7 := Lib.hid (hM6.out.below hb)
              have hT := Lib.hid (hT.out.below hb)
              have hBl := Lib.hid (belT hBl.out hb)
              clear hb hv hA hZ hArg hM6
              obtain ⟨x0, x1⟩ := hT.out
              go_wp2_with fail
              clear x0 x1
              refine (rinstance_any _ _ _ _ _ _ S M _ (Lib.hid (hS7.out.alloc _)) (Lib.hid (hM7.out.alloc _)) (by have := hS7.out.1; omega) (by have := hM7.out.1; omega)).mono ?_
              rintro e w8 ⟨rfl, hb⟩
              rw [hok.out, hJ.out]
              have hBl := Lib.hid (belT (belA _ hBl.out) hb)
              clear hb hS7 hM7 hT
              rcases h9 with rfl | rfl
              · obtain ⟨rfl, rfl⟩ := hF.out rfl
                go_wp2_with ((go_at_call 11; refine (num_any _ _ (by omega) (by omega)).mono ?_; rintro e w' ⟨rfl, rfl⟩))
                go_ret
                exact ⟨rfl, hBl.out⟩
              · go_wp2_with ((go_at_call 11; refine (num_any _ _ (by omega) (by omega)).mono ?_; rintro e w' ⟨rfl, rfl⟩))
                go_ret
                exact ⟨rfl, hBl.out⟩
          · obtain ⟨x0, x1⟩ := hZ.out
            obtain ⟨y0, y1⟩ := hV.out
            go_wp2_with fail
            go_ret
            exact ⟨rfl, hBl.out⟩
        · rw [decide_eq_false hMN]
          go_wp2_with fail
          go_ret
          exact ⟨rfl, hBl.out⟩
      · go_wp2_with fail
        go_ret
        exact ⟨rfl, by first | exact hBl.out | exact belA _ hBl.out | exact belA _ (belA _ hBl.out)⟩
    · go_wp2_with fail
      go_ret
      exact ⟨rfl, by first | exact hBl.out | exact belA _ hBl.out | exact belA _ (belA _ hBl.out)⟩
  · go_wp2_with fail
    go_ret
    exact ⟨rfl, by first | exact hBl.out | exact belA _ hBl.out | exact belA _ (belA _ hBl.out)⟩
theorem own : ownKnob Tryd.prog.godebug = none := by kernel_rfl
theorem laidOut : laidOutB Tryd.prog = true := by kernel_rfl
set_option maxRecDepth 100000 in
theorem contract (H : Type) (enc : TypeId × Value → H) (W : World) (base : Nat) (args : Array Value) (ds gs : List (DataW H)) (before : List MemPlace)
    (hval0 : ∀ (j : Nat) t v, Tryd.f4.params[j]? = some t → args[j]? = some v → Value.okWide Tryd.prog W .any base t v)
    (hW : DataW.Whole enc Tryd.prog Tryd.f4.params.toList Rows.unifyFindsSpec.vars false W args.toList ds gs before)
    (hsz0 : (DataW.weightsEach Tryd.prog (Tryd.f4.params.toList ++ Rows.unifyFindsSpec.plain.varTypes Tryd.prog) (ds ++ gs)).all (· ≤ reachBytes) = true)
    (hL : laidMetH Tryd.prog Rows.unifyFindsRow.laid W)
    : Calls Tryd.prog 4 args W fun e W' => ∃ v, e = .returned v ∧ Rows.unifyFindsSpec.post enc Tryd.prog Tryd.f4 false true false false W args v W' := by
  have hval : ∀ (j : Nat) t v, Tryd.f4.params[j]? = some t → args[j]? = some v → Value.okWide Tryd.prog W .any base t v := hval0
  have hsz : (DataW.weightsEach Tryd.prog (Tryd.f4.params.toList ++ Rows.unifyFindsSpec.plain.varTypes Tryd.prog) (ds ++ gs)).all (· ≤ reachBytes) = true := hsz0
  have hW' := hW
  obtain ⟨p, q, hA0, hV, rfl, hfz, hnd⟩ := hW
  have hA : DataW.TrodAll enc Tryd.prog W 0 (fun _ => true) true Tryd.f4.params.toList args.toList ds p := hA0
  rw [Tryd.params4] at hA hval hsz
  obtain ⟨v0, vs0, d0, ds0, p0, q0, hargs, rfl, rfl, h0, r0⟩ := trodAll_cons hA
  obtain ⟨v1, vs1, d1, ds1, p1, q1, rfl, rfl, rfl, h1, r1⟩ := trodAll_cons r0
  obtain ⟨v2, vs2, d2, ds2, p2, q2, rfl, rfl, rfl, h2, r2⟩ := trodAll_cons r1
  obtain ⟨rfl, rfl, rfl⟩ := trodAll_nil r2
  obtain rfl : args = #[v0, v1, v2] := by cases args; simp_all
  obtain ⟨rfl, rfl⟩ := trodVars_none hV
  have k0 := h0
  have lt0 : ∀ x ∈ p0, x.block < W.heap.size := by obtain ⟨m, hm⟩ := k0; exact DataW.trod_lt m _ _ _ hm
  obtain ⟨cs0_0, rfl, fit0_0⟩ := open_struct Tryd.underlying24 (f := 6) (by kernel_rfl : flat Tryd.prog 6 24 = some [.sl 22]) (hval 0 24 v0 rfl rfl) h0 (sized_of hsz (j := 0) (t := 24) rfl rfl)
  obtain ⟨_, cs0_1, rfl, ⟨a0_0, n0_0, c0_0, fu0_0, y0_0, rfl, f0_0, g0_0⟩, fit0_1⟩ := fit_i fit0_0
  obtain rfl := fit_nil fit0_1
  have k1 := h1
  have lt1 : ∀ x ∈ p1, x.block < W.heap.size := by obtain ⟨m, hm⟩ := k1; exact DataW.trod_lt m _ _ _ hm
  obtain ⟨a1, n1, c1, rfl⟩ := okWide_slice Tryd.underlying26 (hval 1 26 v1 rfl rfl)
  have f1 : ∃ fuel y, DataW.trod enc Tryd.prog W 0 (fun _ => true) true fuel 26 [.slice a1 n1 c1] = some y ∧ ∀ x ∈ DataW.weights Tryd.prog 26 y.1, x ≤ reachBytes := by obtain ⟨fu, hf⟩ := h1; exact ⟨fu, _, by simpa [Value.cells] using hf, sized_of hsz (j := 1) (t := 26) rfl rfl⟩
  have k2 := h2
  have lt2 : ∀ x ∈ p2, x.block < W.heap.size := by obtain ⟨m, hm⟩ := k2; exact DataW.trod_lt m _ _ _ hm
  obtain ⟨a2, n2, c2, rfl⟩ := okWide_slice Tryd.underlying26 (hval 2 26 v2 rfl rfl)
  have f2 : ∃ fuel y, DataW.trod enc Tryd.prog W 0 (fun _ => true) true fuel 26 [.slice a2 n2 c2] = some y ∧ ∀ x ∈ DataW.weights Tryd.prog 26 y.1, x ≤ reachBytes := by obtain ⟨fu, hf⟩ := h2; exact ⟨fu, _, by simpa [Value.cells] using hf, sized_of hsz (j := 2) (t := 26) rfl rfl⟩
  clear hA0 hval0
  refine (walk a0_0 n0_0 c0_0 a1 n1 c1 a2 n2 c2 W ⟨_, _, f0_0, g0_0⟩ f1 f2 (tabs hL)).mono fun e W' ⟨he, bel⟩ => ?_
  subst he
  exact ⟨_, rfl, _, _, _, [], _, [], hW', trodAll_mk1 (shut_bool Tryd.underlying4 _), (trodAll_cons_mk (Below.trod laidOut (by kernel_rfl) (of_decide_eq_true (by kernel_rfl)) k0 bel lt0) (trodAll_cons_mk (Below.trod laidOut (by kernel_rfl) (of_decide_eq_true (by kernel_rfl)) k1 bel lt1) (trodAll_cons_mk (Below.trod laidOut (by kernel_rfl) (of_decide_eq_true (by kernel_rfl)) k2 bel lt2) trodAll_mk0))), rfl, bel.frame _, fun h => by cases h⟩
noncomputable def laidWorld (os : Os) : World := { World.holding Tryd.prog os ⟨#[], #[], []⟩ with heap := layErrs Tryd.prog 211 234 Rows.unifyFindsRow.laid (World.holding Tryd.prog os ⟨#[], #[], []⟩).heap }
theorem laid_met (os : Os) : laidMet Tryd.prog Rows.unifyFindsRow.laid ((laidWorld os).forCall (fun _ _ => 0) ⟨#[], #[.agg #[.slice none 0 0], .slice none 0 0, .slice none 0 0], []⟩).memory := laidMet_of_run' 8 (by kernel_rfl) (by kernel_rfl)
theorem reads (os : Os) {H : Type} (enc : TypeId × Value → H) : ∃ places, DataW.whole enc Tryd.prog ((laidWorld os).forCall (fun _ _ => 0) ⟨#[], #[.agg #[.slice none 0 0], .slice none 0 0, .slice none 0 0], []⟩).memory Tryd.f4.params.toList Rows.unifyFindsSpec.vars false #[(.agg #[.slice none 0 0] : Value), (.slice none 0 0 : Value), (.slice none 0 0 : Value)].toList 8 = some ([.agg [.nil], .nil, .nil], [], places) := ⟨[], by kernel_rfl⟩
set_option maxRecDepth 100000 in
theorem lifted (os : Os) (started : os.Started) (H : Type) (enc : TypeId × Value → H) (F : Stop.Interp) :
    ReturnsInHanded {} Tryd.checked os 4 .any ((OpenSpec.ofChange Rows.unifyFindsSpec).preRow enc Tryd.prog Tryd.f4 Rows.unifyFindsRow.domain false Rows.unifyFindsRow.laid) (((OpenSpec.ofChange Rows.unifyFindsSpec).at F).post enc Tryd.prog Tryd.f4 false true false false) := by
  obtain ⟨places, hx⟩ := reads os enc
  refine returnsInHanded_of_row (C := Tryd.checked) (s := (OpenSpec.ofChange Rows.unifyFindsSpec)) own started (by kernel_rfl) Tryd.func4
    (witness_row_at (enc := enc) (C := Tryd.checked) false (laidWorld os) #[.agg #[.slice none 0 0], .slice none 0 0, .slice none 0 0] rfl (by kernel_rfl) (by kernel_rfl) (by kernel_rfl)
      (OpenSpec.preRow_of_cond 8 hx (by kernel_rfl) (fun k hk => by cases hk) (by kernel_rfl) (laid_met os))) ?_
  intro W base args ds gs before hval hW _ hcnd hsz hL _ _
  exact contract H enc W base args ds gs before hval hW hsz  hL
theorem said : Rows.UnifyFindsSaid :=
  OpenClaim.holds_of_cond 4 Tryd.f4 rfl rfl rfl rfl rfl rfl rfl ⟨rfl, rfl, rfl, rfl, rfl⟩ rfl rfl rfl rfl rfl (by kernel_rfl) Tryd.func4 (by kernel_rfl)
    (of_decide_eq_true (by kernel_rfl)) (by unfold Func.isWrapper; first | (rw [if_pos (by decide +kernel)]; kernel_rfl) | (rw [if_neg (by decide +kernel)]; exact ⟨rfl, rfl⟩))
    (fun os started H enc _ F => by rw [OpenClaim.pre_eq_preRow]; exact lifted os started H enc F)
theorem plain (f : FuncId) (fn : Func) (hf : Tryd.pinned.checked.prog.funcNamed "trammel/trammellaw10.UnifyFinds" = some f) (hfn : Tryd.pinned.checked.prog.funcs[f]? = some fn) :
    true = Tryd.pinned.checked.prog.looks [] ∧ ∀ (j : Nat) t, fn.params[j]? = some t → Tryd.pinned.checked.prog.wantsStandIn t = false := by
  obtain rfl : f = 4 := Option.some.inj ((show Tryd.prog.funcNamed "trammel/trammellaw10.UnifyFinds" = some 4 by kernel_rfl).symm.trans hf) |>.symm
  obtain rfl : fn = Tryd.f4 := (Option.some.inj (Tryd.func4.symm.trans hfn)).symm
  refine ⟨by kernel_rfl, fun j t ht => ?_⟩
  rw [Tryd.params4] at ht
  have hm := Array.mem_of_getElem? ht
  have hm2 : t ∈ ([24, 26] : List Nat) := by simpa using hm
  simp only [List.mem_cons, List.not_mem_nil, or_false] at hm2
  rcases hm2 with rfl | rfl
  · exact (show Tryd.prog.wantsStandIn 24 = false by kernel_rfl)
  · exact (show Tryd.prog.wantsStandIn 26 = false by kernel_rfl)
theorem proved : Rows.UnifyFindsCardSaid :=
  Claim7.holds_tied_plain_at .later [] _ _ _ _ said (fun _ h => by cases h) (by kernel_rfl) (fun _ h => by cases h) unifyFinds_row_tie rfl ⟨rfl, rfl⟩ (by kernel_rfl) rfl plain (by kernel_rfl)
end Go.Proofs.YtfkdcconmecaoaaDoor.unifyFinds
