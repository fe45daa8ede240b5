/- UnifySwap holds for every two types. No condition but that the listed package variables hold what the program's text lays. -/
import Derived.Test.YtfkdcconmecaoaaDoorCards
import Derived.Test.YtfkdcconmecaoaaDoorTie
import Derived.Test.YtfkdcconmecaoaaDoorOpn
import Derived.Test.YtfkdcconmecaoaaDoorCrd
import Derived.WalkKit
import Derived.ProofKit
import Derived.Deep.DeepHandedRow
import Derived.Test.YtfkdcconmecaoaaDoorErs
import Derived.MakeChecks
import Derived.Test.YtfkdcconmecaoaaDoorUwT
import Derived.Test.YtfkdcconmecaoaaDoorUfC
import Derived.Test.YtfkdcconmecaoaaDoorRqt
import Derived.Test.YtfkdcconmecaoaaDoorAid
import Derived.Test.YtfkdcconmecaoaaDoorTyI
namespace Go.Proofs.YtfkdcconmecaoaaDoor.unifySwap
open Go.ChangeShapes Go.WideShapes Go.ChangeAt Go.RowKit
open Go.ChangeMaps (open_string shut_string)
set_option linter.unusedVariables false
set_option linter.unusedSimpArgs false

theorem tabs {W : World} (h : laidMetH Tryd.prog Rows.unifySwapRow.laid W) : Hid (∃ a0 a1 a2, SenB W.heap.size a0 a1 a2 W) := by
  rw [Go.MakeChecks.laidMetH_plain _ _ _ (by kernel_rfl)] at h
  exact Lib.hid (sen_of_laid h)
theorem ownB_sl {B : Nat} {w : World} {v : Value} {l : List Bn} (h : OwnB B w v l) : ∃ a n c, v = .slice a n c := by
  rcases h.cases with ⟨rfl, _⟩ | ⟨g, c, rfl, _⟩ <;> exact ⟨_, _, _, rfl⟩
/-- what a call leaves, told in one form. -/
def OutU (r : Except Nat US) (v : Value) (m : Int) (xs : List Bn) (W : World) : Prop :=
  ∃ a n c, v = .slice a n c ∧ n ≤ 8192 ∧ BnArg W a n xs ∧ match r with
    | .error k => n = 0 ∧ m = (1000 + k : Nat) ∧ k ≤ 3
    | .ok st => m = 0 ∧ BnL xs st.made
theorem outU {w w' : World} {r : Except Nat US} {e : Ending} (h : UniO w r e w') (hu : ∀ st, r = .ok st → UInv st) : ∃ v m xs, e = .returned (.tuple #[v, .int .i64 m]) ∧ OutU r v m xs w' := by
  obtain ⟨hP, hb⟩ := h
  cases r with
  | error k =>
    have hP : e = .returned (.tuple #[.slice none 0 0, .int .i64 (1000 + k : Nat)]) ∧ k ≤ 3 := hP
    exact ⟨_, _, [], hP.1, none, 0, 0, rfl, by omega, ⟨rfl, .inl rfl⟩, rfl, rfl, hP.2⟩
  | ok st =>
    have hP : ∃ v xs, e = .returned (.tuple #[v, .int .i64 0]) ∧ MadeIs w.heap.size w' v xs ∧ BnL xs st.made := hP
    obtain ⟨v, xs, he, hM, hL⟩ := hP
    obtain ⟨ca, cn, cc, rfl⟩ := ownB_sl hM.own
    have hArg : BnArg w' ca cn xs := hM.own.arg fun x hx => ⟨(hM.ty x hx).1, by have := (hM.ty x hx).2.1; omega⟩
    have hlx : xs.length ≤ 8192 := by rw [hL.len]; exact made_bd (hu st rfl)
    exact ⟨_, _, xs, he, ca, cn, cc, rfl, by rw [hArg.1]; exact hlx, hArg, rfl, hL⟩
/-- the two answers. -/
theorem swap_cases {ta tb : List Ty} {r q : Except Nat US} (h1 : UnRes 40 ta tb r) (h2 : UnRes 40 tb ta q) :
    (∃ j k, r = .error j ∧ q = .error k) ∨ (∃ s, r = .ok s ∧ q = .error 3) ∨ (∃ t, r = .error 3 ∧ q = .ok t) ∨ ∃ s t, r = .ok s ∧ q = .ok t := by
  cases r with
  | error j =>
    cases q with
    | error k => exact .inl ⟨j, k, rfl, rfl⟩
    | ok t =>
      rcases swap_one h2 h1 with h | ⟨s, h, _⟩
      · exact .inr (.inr (.inl ⟨t, h, rfl⟩))
      · cases h
  | ok s =>
    cases q with
    | error k =>
      rcases swap_one h1 h2 with h | ⟨s, h, _⟩
      · exact .inr (.inl ⟨s, rfl, h⟩)
      · cases h
    | ok t => exact .inr (.inr (.inr ⟨s, t, rfl, rfl⟩))
set_option maxRecDepth 100000 in
set_option maxHeartbeats 8000000 in
theorem walk {H : Type} {enc : TypeId × Value → H} (p0 : Option Addr) (n0 c0 : Nat) (p1 : Option Addr) (n1 c1 : Nat) (w : World)
    (f0 : ∃ fuel y, DataW.trod enc Tryd.prog w 0 (fun _ => true) true fuel 22 [.slice p0 n0 c0] = some y ∧ ∀ x ∈ DataW.weights Tryd.prog 22 y.1, x ≤ reachBytes)
    (f1 : ∃ fuel y, DataW.trod enc Tryd.prog w 0 (fun _ => true) true fuel 22 [.slice p1 n1 c1] = some y ∧ ∀ x ∈ DataW.weights Tryd.prog 22 y.1, x ≤ reachBytes) (hS : Hid (∃ a0 a1 a2, SenB w.heap.size a0 a1 a2 w)) :
    Calls Tryd.prog 6 #[.agg #[.slice p0 n0 c0], .agg #[.slice p1 n1 c1]] w fun e w' => e = .returned (.bool true) ∧ Below w.heap.size w w' := by
  obtain ⟨_, _, t, t'⟩ := f0
  obtain ⟨hl0, ts, hA⟩ := ty_open t t'
  clear t t'
  obtain ⟨_, _, t, t'⟩ := f1
  obtain ⟨hl1, us, hC⟩ := ty_open t t'
  clear t t'
  obtain ⟨a0, a1, a2, hE⟩ := hS.out
  have hE := Lib.hid hE
  have hA := Lib.hid hA
  have hC := Lib.hid hC
  obtain ⟨r, hr⟩ := unRes_ex 40 ts us
  obtain ⟨q, hq⟩ := unRes_ex 40 us ts
  have hr := Lib.hid hr
  have hq := Lib.hid hq
  go_enter Tryd.func6, Tryd.ntmps6
  go_wp2_with fail
  refine (awake10_any a0 a1 a2 _ (Lib.hid (hE.out.up (show Below w.heap.size w _ from by (repeat' (first | with_reducible exact Below.refl _ _ | with_reducible assumption | with_reducible apply Below.setCell | with_reducible apply Below.alloc | with_reducible apply Below.drew | with_reducible apply below_drewN | with_reducible exact Nat.le_refl _ | (simp; done) | (simp; omega) | omega | exact Nat.le_refl _)))))).mono ?_
  rintro e w1 ⟨rfl, hb1⟩
  have hX := Lib.hid (show BoxAt w1 w.heap.size (.slice p0 n0 c0) from BoxAt.below (by exact BoxAt.alloc _ (box_lit _ _ _ _ rfl)) hb1)
  have hY := Lib.hid (show BoxAt w1 (w.heap.size + 1) (.slice p1 n1 c1) from BoxAt.below (by exact box_lit _ _ _ _ (by simp)) hb1)
  have hA := Lib.hid (TyArg.below (by exact TyArg.alloc _ (TyArg.alloc _ hA.out)) hb1)
  have hC := Lib.hid (TyArg.below (by exact TyArg.alloc _ (TyArg.alloc _ hC.out)) hb1)
  have hBl := Lib.hid (belT (show Below w.heap.size w _ from by (repeat' (first | with_reducible exact Below.refl _ _ | with_reducible assumption | with_reducible apply Below.setCell | with_reducible apply Below.alloc | with_reducible apply Below.drew | with_reducible apply below_drewN | with_reducible exact Nat.le_refl _ | (simp; done) | (simp; omega) | omega | exact Nat.le_refl _))) hb1)
  clear hb1
  obtain ⟨x0, x1⟩ := hX.out
  obtain ⟨y0, y1⟩ := hY.out
  go_wp2_with fail
  clear x0 x1 y0 y1
  refine (unify_go a0 a1 a2 _ _ _ _ _ _ ts us 40 (by omega) _ hA hC (by omega) (by omega) (Lib.hid (hE.out.up hBl.out)) _ hr).mono ?_
  intro e w2 hP
  obtain ⟨v2, m2, xs, rfl, a, n, c, rfl, hn, gX2, gO2⟩ := outU hP fun st e => by subst e; exact (unRes_ok hr.out).inv
  have hb := hP.2
  have hX := Lib.hid (hX.out.below hb)
  have hY := Lib.hid (hY.out.below hb)
  have hA := Lib.hid (hA.out.below hb)
  have hC := Lib.hid (hC.out.below hb)
  have hBl := Lib.hid (belT hBl.out hb)
  have hX2 := Lib.hid gX2
  have hO2 := Lib.hid gO2
  clear hb hP gX2 gO2
  obtain ⟨x0, x1⟩ := hX.out
  obtain ⟨y0, y1⟩ := hY.out
  go_wp2_with fail
  clear x0 x1 y0 y1
  refine (unify_go a0 a1 a2 _ _ _ _ _ _ us ts 40 (by omega) _ hC hA (by omega) (by omega) (Lib.hid (hE.out.up hBl.out)) _ hq).mono ?_
  intro e w3 hP
  obtain ⟨v3, m3, ys, rfl, a', n', c', rfl, hn', gY2, gO3⟩ := outU hP fun st e => by subst e; exact (unRes_ok hq.out).inv
  have hb := hP.2
  have hX := Lib.hid (hX.out.below hb)
  have hA := Lib.hid (hA.out.below hb)
  have hX2 := Lib.hid (hX2.out.below hb)
  have hBl := Lib.hid (belT hBl.out hb)
  have hY2 := Lib.hid gY2
  have hO3 := Lib.hid gO3
  clear hb hP gY2 gO3 hC hY hE hS
  rcases swap_cases hr.out hq.out with ⟨j, k, rfl, rfl⟩ | ⟨s, rfl, rfl⟩ | ⟨t, rfl, rfl⟩ | ⟨s, t, rfl, rfl⟩
  · have e2 : n = 0 ∧ m2 = (1000 + j : Nat) ∧ j ≤ 3 := hO2.out
    have e3 : n' = 0 ∧ m3 = (1000 + k : Nat) ∧ k ≤ 3 := hO3.out
    obtain ⟨rfl, e2, _⟩ := e2
    obtain ⟨rfl, e3, _⟩ := e3
    have z2 : (m2 == 0) = false := by rw [beq_eq_false_iff_ne]; omega
    have z3 : (m3 == 0) = false := by rw [beq_eq_false_iff_ne]; omega
    have z2' : (m2 != 0) = true := by rw [bne_iff_ne]; omega
    have b2 : 0 ≤ m2 ∧ m2 ≤ 2000 := by omega
    have b3 : 0 ≤ m3 ∧ m3 ≤ 2000 := by omega
    clear e2 e3 hX2 hY2 hO2 hO3 hr hq hA hX
    go_wp2_with ((go_at_call 11; refine (num_any _ _ (by omega) (by omega)).mono ?_; rintro e w' ⟨rfl, rfl⟩))
    go_ret
    exact ⟨rfl, hBl.out⟩
  · have e2 : m2 = 0 ∧ BnL xs s.made := hO2.out
    have e3 : n' = 0 ∧ m3 = (1000 + 3 : Nat) ∧ 3 ≤ 3 := hO3.out
    obtain ⟨rfl, _⟩ := e2
    obtain ⟨rfl, e3, _⟩ := e3
    obtain rfl : m3 = 1003 := e3
    clear hX2 hY2 hO2 hO3 hr hq hA hX
    go_wp2_with ((go_at_call 11; refine (num_any _ _ (by omega) (by omega)).mono ?_; rintro e w' ⟨rfl, rfl⟩))
    go_ret
    exact ⟨rfl, hBl.out⟩
  · have e2 : n = 0 ∧ m2 = (1000 + 3 : Nat) ∧ 3 ≤ 3 := hO2.out
    have e3 : m3 = 0 ∧ BnL ys t.made := hO3.out
    obtain ⟨rfl, _⟩ := e3
    obtain ⟨rfl, e2, _⟩ := e2
    obtain rfl : m2 = 1003 := e2
    clear hX2 hY2 hO2 hO3 hr hq hA hX
    go_wp2_with ((go_at_call 11; refine (num_any _ _ (by omega) (by omega)).mono ?_; rintro e w' ⟨rfl, rfl⟩))
    go_ret
    exact ⟨rfl, hBl.out⟩
  · have e2 : m2 = 0 ∧ BnL xs s.made := hO2.out
    have e3 : m3 = 0 ∧ BnL ys t.made := hO3.out
    obtain ⟨rfl, L2⟩ := e2
    obtain ⟨rfl, L3⟩ := e3
    clear hO2 hO3
    have hn2 : n ≤ 140737488351232 := by omega
    have hn3 : n' ≤ 140737488351232 := by omega
    obtain ⟨E, hE1⟩ : ∃ e, subE xs ts = e := ⟨_, rfl⟩
    obtain ⟨S, hS1⟩ : ∃ l, subT xs ts = l := ⟨_, rfl⟩
    obtain ⟨E', hE2⟩ : ∃ e, subE ys ts = e := ⟨_, rfl⟩
    obtain ⟨S', hS2⟩ : ∃ l, subT ys ts = l := ⟨_, rfl⟩
    have hsl := subT_len xs ts
    have hsl' := subT_len ys ts
    have h9 : E = 0 ∨ E = 900 := by rw [← hE1]; unfold subE; split; exact .inl rfl; exact .inr rfl
    have h9' : E' = 0 ∨ E' = 900 := by rw [← hE2]; unfold subE; split; exact .inl rfl; exact .inr rfl
    have htx := Lib.hid fun h h' => swap_text hr.out hq.out L2 L3 (h : subE xs ts = 0) (h' : subE ys ts = 0)
    rw [hS1] at hsl htx
    rw [hS2] at hsl' htx
    rw [hE1, hE2] at htx
    have hE1 := Lib.hid hE1
    have hE2 := Lib.hid hE2
    have hS1 := Lib.hid hS1
    have hS2 := Lib.hid hS2
    clear L2 L3 hr hq
    obtain ⟨x0, x1⟩ := hX.out
    go_wp2_with ((go_at_call 11; refine (num_any _ _ (by omega) (by omega)).mono ?_; rintro e w' ⟨rfl, rfl⟩))
    clear x0 x1
    refine (subType_any _ _ _ _ _ _ xs ts _ hX2 hA hn2 (by omega)).mono ?_
    rintro e w4 ⟨v4, rfl, hv4, hb⟩
    obtain ⟨a4, m4, d4, rfl⟩ := ownT_sl hv4
    rw [hE1.out]
    rw [hS1.out] at hv4
    have hU4 := Lib.hid hv4.arg
    have hX := Lib.hid (hX.out.below hb)
    have hA := Lib.hid (hA.out.below hb)
    have hY2 := Lib.hid (hY2.out.below hb)
    have hBl := Lib.hid (belT hBl.out hb)
    clear hb hv4 hX2
    obtain ⟨x0, x1⟩ := hX.out
    go_wp2_with fail
    clear x0 x1
    refine (subType_any _ _ _ _ _ _ ys ts _ (Lib.hid (hY2.out.alloc _)) (Lib.hid (hA.out.alloc _)) hn3 (by omega)).mono ?_
    rintro e w5 ⟨v5, rfl, hv5, hb⟩
    obtain ⟨a5, m5, d5, rfl⟩ := ownT_sl hv5
    rw [hE2.out]
    rw [hS2.out] at hv5
    have hV5 := Lib.hid hv5.arg
    have hU5 := Lib.hid ((hU4.out.alloc _).below hb)
    have hZ : Hid (BoxAt w5 w4.heap.size (.slice a4 m4 d4)) := Lib.hid (BoxAt.below (by exact box_lit _ _ _ _ rfl) hb)
    have hBl := Lib.hid (belT (belA _ hBl.out) hb)
    clear hb hv5 hA hX hY2 hU4
    generalize w4.heap.size = g7 at hZ ⊢
    rcases h9 with rfl | rfl
    · rcases h9' with rfl | rfl
      · have htq := Lib.hid (htx.out (by trivial) (by trivial))
        clear htx hE1 hE2 hS1 hS2
        obtain ⟨z0, z1⟩ := hZ.out
        go_wp2_with ((go_at_call 11; refine (num_any _ _ (by omega) (by omega)).mono ?_; rintro e w' ⟨rfl, rfl⟩))
        clear z0 z1
        refine (rTypeText_any _ _ _ S _ (Lib.hid (hU5.out.alloc _)) (by have := hU5.out.1; omega)).mono ?_
        rintro e w6 ⟨rfl, hb⟩
        rw [htq.out]
        have hV6 := Lib.hid ((hV5.out.alloc _).below hb)
        have hQ : Hid (BoxAt w6 w5.heap.size (.slice a5 m5 d5)) := Lib.hid (BoxAt.below (by exact box_lit _ _ _ _ rfl) hb)
        have hBl := Lib.hid (belT (belA _ hBl.out) hb)
        clear hb htq hZ hU5 hV5
        obtain ⟨z0, z1⟩ := hQ.out
        go_wp2_with fail
        clear z0 z1
        refine (rTypeText_any _ _ _ S' _ hV6 (by have := hV6.out.1; omega)).mono ?_
        rintro e w7 ⟨rfl, hb⟩
        have hBl := Lib.hid (belT hBl.out hb)
        go_wp2_with fail
        go_ret
        exact ⟨rfl, hBl.out⟩
      · clear htx
        go_wp2_with ((go_at_call 11; refine (num_any _ _ (by omega) (by omega)).mono ?_; rintro e w' ⟨rfl, rfl⟩))
        go_ret
        exact ⟨rfl, by first | exact hBl.out | exact belA _ hBl.out | exact belA _ (belA _ hBl.out)⟩
    · clear htx
      go_wp2_with ((go_at_call 11; refine (num_any _ _ (by omega) (by omega)).mono ?_; rintro e w' ⟨rfl, rfl⟩))
      go_ret
      exact ⟨rfl, by first | exact hBl.out | exact belA _ hBl.out | exact belA _ (belA _ hBl.out)⟩
theorem own : ownKnob Tryd.prog.godebug = none := by kernel_rfl
theorem laidOut : laidOutB Tryd.prog = true := by kernel_rfl
set_option maxRecDepth 100000 in
theorem contract (H : Type) (enc : TypeId × Value → H) (W : World) (base : Nat) (args : Array Value) (ds gs : List (DataW H)) (before : List MemPlace)
    (hval0 : ∀ (j : Nat) t v, Tryd.f6.params[j]? = some t → args[j]? = some v → Value.okWide Tryd.prog W .any base t v)
    (hW : DataW.Whole enc Tryd.prog Tryd.f6.params.toList Rows.unifySwapSpec.vars false W args.toList ds gs before)
    (hsz0 : (DataW.weightsEach Tryd.prog (Tryd.f6.params.toList ++ Rows.unifySwapSpec.plain.varTypes Tryd.prog) (ds ++ gs)).all (· ≤ reachBytes) = true)
    (hL : laidMetH Tryd.prog Rows.unifySwapRow.laid W)
    : Calls Tryd.prog 6 args W fun e W' => ∃ v, e = .returned v ∧ Rows.unifySwapSpec.post enc Tryd.prog Tryd.f6 false true false false W args v W' := by
  have hval : ∀ (j : Nat) t v, Tryd.f6.params[j]? = some t → args[j]? = some v → Value.okWide Tryd.prog W .any base t v := hval0
  have hsz : (DataW.weightsEach Tryd.prog (Tryd.f6.params.toList ++ Rows.unifySwapSpec.plain.varTypes Tryd.prog) (ds ++ gs)).all (· ≤ reachBytes) = true := hsz0
  have hW' := hW
  obtain ⟨p, q, hA0, hV, rfl, hfz, hnd⟩ := hW
  have hA : DataW.TrodAll enc Tryd.prog W 0 (fun _ => true) true Tryd.f6.params.toList args.toList ds p := hA0
  rw [Tryd.params6] at hA hval hsz
  obtain ⟨v0, vs0, d0, ds0, p0, q0, hargs, rfl, rfl, h0, r0⟩ := trodAll_cons hA
  obtain ⟨v1, vs1, d1, ds1, p1, q1, rfl, rfl, rfl, h1, r1⟩ := trodAll_cons r0
  obtain ⟨rfl, rfl, rfl⟩ := trodAll_nil r1
  obtain rfl : args = #[v0, v1] := by cases args; simp_all
  obtain ⟨rfl, rfl⟩ := trodVars_none hV
  have k0 := h0
  have lt0 : ∀ x ∈ p0, x.block < W.heap.size := by obtain ⟨m, hm⟩ := k0; exact DataW.trod_lt m _ _ _ hm
  obtain ⟨cs0_0, rfl, fit0_0⟩ := open_struct Tryd.underlying24 (f := 6) (by kernel_rfl : flat Tryd.prog 6 24 = some [.sl 22]) (hval 0 24 v0 rfl rfl) h0 (sized_of hsz (j := 0) (t := 24) rfl rfl)
  obtain ⟨_, cs0_1, rfl, ⟨a0_0, n0_0, c0_0, fu0_0, y0_0, rfl, f0_0, g0_0⟩, fit0_1⟩ := fit_i fit0_0
  obtain rfl := fit_nil fit0_1
  have k1 := h1
  have lt1 : ∀ x ∈ p1, x.block < W.heap.size := by obtain ⟨m, hm⟩ := k1; exact DataW.trod_lt m _ _ _ hm
  obtain ⟨cs1_0, rfl, fit1_0⟩ := open_struct Tryd.underlying24 (f := 6) (by kernel_rfl : flat Tryd.prog 6 24 = some [.sl 22]) (hval 1 24 v1 rfl rfl) h1 (sized_of hsz (j := 1) (t := 24) rfl rfl)
  obtain ⟨_, cs1_1, rfl, ⟨a1_0, n1_0, c1_0, fu1_0, y1_0, rfl, f1_0, g1_0⟩, fit1_1⟩ := fit_i fit1_0
  obtain rfl := fit_nil fit1_1
  clear hA0 hval0
  refine (walk a0_0 n0_0 c0_0 a1_0 n1_0 c1_0 W ⟨_, _, f0_0, g0_0⟩ ⟨_, _, f1_0, g1_0⟩ (tabs hL)).mono fun e W' ⟨he, bel⟩ => ?_
  subst he
  exact ⟨_, rfl, _, _, _, [], _, [], hW', trodAll_mk1 (shut_bool Tryd.underlying4 _), (trodAll_cons_mk (Below.trod laidOut (by kernel_rfl) (of_decide_eq_true (by kernel_rfl)) k0 bel lt0) (trodAll_cons_mk (Below.trod laidOut (by kernel_rfl) (of_decide_eq_true (by kernel_rfl)) k1 bel lt1) trodAll_mk0)), rfl, bel.frame _, fun h => by cases h⟩
noncomputable def laidWorld (os : Os) : World := { World.holding Tryd.prog os ⟨#[], #[], []⟩ with heap := layErrs Tryd.prog 211 234 Rows.unifySwapRow.laid (World.holding Tryd.prog os ⟨#[], #[], []⟩).heap }
theorem laid_met (os : Os) : laidMet Tryd.prog Rows.unifySwapRow.laid ((laidWorld os).forCall (fun _ _ => 0) ⟨#[], #[.agg #[.slice none 0 0], .agg #[.slice none 0 0]], []⟩).memory := laidMet_of_run' 8 (by kernel_rfl) (by kernel_rfl)
theorem reads (os : Os) {H : Type} (enc : TypeId × Value → H) : ∃ places, DataW.whole enc Tryd.prog ((laidWorld os).forCall (fun _ _ => 0) ⟨#[], #[.agg #[.slice none 0 0], .agg #[.slice none 0 0]], []⟩).memory Tryd.f6.params.toList Rows.unifySwapSpec.vars false #[(.agg #[.slice none 0 0] : Value), (.agg #[.slice none 0 0] : Value)].toList 8 = some ([.agg [.nil], .agg [.nil]], [], places) := ⟨[], by kernel_rfl⟩
set_option maxRecDepth 100000 in
theorem lifted (os : Os) (started : os.Started) (H : Type) (enc : TypeId × Value → H) (F : Stop.Interp) :
    ReturnsInHanded {} Tryd.checked os 6 .any ((OpenSpec.ofChange Rows.unifySwapSpec).preRow enc Tryd.prog Tryd.f6 Rows.unifySwapRow.domain false Rows.unifySwapRow.laid) (((OpenSpec.ofChange Rows.unifySwapSpec).at F).post enc Tryd.prog Tryd.f6 false true false false) := by
  obtain ⟨places, hx⟩ := reads os enc
  refine returnsInHanded_of_row (C := Tryd.checked) (s := (OpenSpec.ofChange Rows.unifySwapSpec)) own started (by kernel_rfl) Tryd.func6
    (witness_row_at (enc := enc) (C := Tryd.checked) false (laidWorld os) #[.agg #[.slice none 0 0], .agg #[.slice none 0 0]] rfl (by kernel_rfl) (by kernel_rfl) (by kernel_rfl)
      (OpenSpec.preRow_of_cond 8 hx (by kernel_rfl) (fun k hk => by cases hk) (by kernel_rfl) (laid_met os))) ?_
  intro W base args ds gs before hval hW _ hcnd hsz hL _ _
  exact contract H enc W base args ds gs before hval hW hsz  hL
theorem said : Rows.UnifySwapSaid :=
  OpenClaim.holds_of_cond 6 Tryd.f6 rfl rfl rfl rfl rfl rfl rfl ⟨rfl, rfl, rfl, rfl, rfl⟩ rfl rfl rfl rfl rfl (by kernel_rfl) Tryd.func6 (by kernel_rfl)
    (of_decide_eq_true (by kernel_rfl)) (by unfold Func.isWrapper; first | (rw [if_pos (by decide +kernel)]; kernel_rfl) | (rw [if_neg (by decide +kernel)]; exact ⟨rfl, rfl⟩))
    (fun os started H enc _ F => by rw [OpenClaim.pre_eq_preRow]; exact lifted os started H enc F)
theorem plain (f : FuncId) (fn : Func) (hf : Tryd.pinned.checked.prog.funcNamed "trammel/trammellaw10.UnifySwap" = some f) (hfn : Tryd.pinned.checked.prog.funcs[f]? = some fn) :
    true = Tryd.pinned.checked.prog.looks [] ∧ ∀ (j : Nat) t, fn.params[j]? = some t → Tryd.pinned.checked.prog.wantsStandIn t = false := by
  obtain rfl : f = 6 := Option.some.inj ((show Tryd.prog.funcNamed "trammel/trammellaw10.UnifySwap" = some 6 by kernel_rfl).symm.trans hf) |>.symm
  obtain rfl : fn = Tryd.f6 := (Option.some.inj (Tryd.func6.symm.trans hfn)).symm
  refine ⟨by kernel_rfl, fun j t ht => ?_⟩
  rw [Tryd.params6] at ht
  have hm := Array.mem_of_getElem? ht
  have hm2 : t ∈ ([24] : List Nat) := by simpa using hm
  simp only [List.mem_cons, List.not_mem_nil, or_false] at hm2
  subst hm2; exact (show Tryd.prog.wantsStandIn 24 = false by kernel_rfl)
theorem proved : Rows.UnifySwapCardSaid :=
  Claim7.holds_tied_plain_at .later [] _ _ _ _ said (fun _ h => by cases h) (by kernel_rfl) (fun _ h => by cases h) unifySwap_row_tie rfl ⟨rfl, rfl⟩ (by kernel_rfl) rfl plain (by kernel_rfl)
end Go.Proofs.YtfkdcconmecaoaaDoor.unifySwap
