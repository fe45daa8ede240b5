/- ShowUnlike holds for every two programs. No condition but that the listed package variables hold what the program's text lays. -/
import Derived.Test.YtidlljookjicpaaDoorPpA
import Derived.Test.YtidlljookjicpaaDoorPwP
import Derived.Test.YtidlljookjicpaaDoorNdIn
import Derived.Test.YtidlljookjicpaaDoorPrg
import Derived.Test.YtidlljookjicpaaDoorPwH
import Derived.Test.YtidlljookjicpaaDoorCards
import Derived.Test.YtidlljookjicpaaDoorTie
import Derived.Test.YtidlljookjicpaaDoorOpn
import Derived.Test.YtidlljookjicpaaDoorHan
import Derived.WalkKit
import Derived.ProofKit
import Derived.Deep.DeepHandedRow
namespace Go.Proofs.YtidlljookjicpaaDoor.showUnlike
open Go.ChangeShapes Go.WideShapes Go.ChangeAt Go.RowKit
open Go.ChangeMaps (open_string shut_string)
set_option linter.unusedVariables false
set_option linter.unusedSimpArgs false

theorem tabs {W : World} (h : laidMetH Tryd.prog Rows.showUnlikeRow.laid W) : Hid (errTy W ∧ TabW W) := mixed_of h (.tail _ (.tail _ (.tail _ (.head _)))) (.tail _ (.tail _ (.head _)))
theorem ndS_bare {t u : Nd} (h : ndS t u = true) : bare0 t = bare0 u := by
  apply bareE_inj
  unfold ndS ndQ at h
  unfold bareE
  simp only [ByteArray.toList_eq, Bool.and_eq_true, beq_iff_eq, decide_eq_true_eq] at h ⊢
  simp_all
theorem sameS_bare {ns ms : List Nd} (h : sameV ndS ns ms = true) : ns.map bare0 = ms.map bare0 := by
  unfold sameV allR at h
  rw [Bool.and_eq_true, decide_eq_true_eq, List.all_eq_true] at h
  obtain ⟨hl, h⟩ := h
  apply List.ext_getElem?
  intro j
  rw [List.getElem?_map, List.getElem?_map]
  by_cases hj : j < ns.length
  · have hb := ndS_bare (h j (List.mem_range.2 hj))
    rw [List.getD_eq_getElem?_getD, List.getD_eq_getElem?_getD, List.getElem?_eq_getElem hj, List.getElem?_eq_getElem (by omega)] at hb
    rw [List.getElem?_eq_getElem hj, List.getElem?_eq_getElem (by omega)]
    exact congrArg some hb
  · rw [List.getElem?_eq_none (by omega), List.getElem?_eq_none (by omega)]
theorem orE_eq {t u : Or} (h : orE t u = true) : t = u := by
  obtain ⟨a, b, c⟩ := t
  obtain ⟨a', b', c'⟩ := u
  unfold orE orQ at h
  simp only [ByteArray.toList_eq, Bool.and_eq_true, beq_iff_eq] at h
  obtain ⟨h1, h2, h3⟩ : a.data.toList = a'.data.toList ∧ b = b' ∧ c = c' := by simp_all
  obtain rfl := ba_ext h1
  rw [h2, h3]
theorem sameVO_eq {os us : List Or} (h : sameVO orE os us = true) : os = us := by
  unfold sameVO allRO at h
  rw [Bool.and_eq_true, decide_eq_true_eq, List.all_eq_true] at h
  obtain ⟨hl, h⟩ := h
  apply List.ext_getElem?
  intro j
  by_cases hj : j < os.length
  · have hb := orE_eq (h j (List.mem_range.2 hj))
    rw [List.getD_eq_getElem?_getD, List.getD_eq_getElem?_getD, List.getElem?_eq_getElem hj, List.getElem?_eq_getElem (by omega)] at hb
    rw [List.getElem?_eq_getElem hj, List.getElem?_eq_getElem (by omega)]
    exact congrArg some hb
  · rw [List.getElem?_eq_none (by omega), List.getElem?_eq_none (by omega)]
theorem prV_back {os : List Or} {ts : List Nd} {T : PT} {l : List UInt8} (hT : mayV os ts = true → MayT os ts T) (hp : prV os ts T = some l) : ∃ ns, parseV (bs l) = .ok (os, ns) ∧ ns.map bare0 = ts.map bare0 := by
  unfold prV at hp
  split at hp
  · rename_i hm; exact read_back (hT hm) hp
  · cases hp
theorem prV_out {os : List Or} {ts : List Nd} {T : PT} {l : List UInt8} (hp : prV os ts T = some l) : mayV os ts = true ∧ outV os T = some l := by
  unfold prV at hp
  split at hp
  · rename_i hm; exact ⟨hm, hp⟩
  · cases hp
theorem unl (os us : List Or) (ts vs : List Nd) : ∃ T U, (mayV os ts = true → MayT os ts T) ∧ (mayV us vs = true → MayT us vs U) ∧ ∀ l l', prV os ts T = some l → prV us vs U = some l' → ((bs l).toList == (bs l').toList) = (sameV ndS ts vs && sameVO orE os us) := by
  obtain ⟨T, hT⟩ := mayT_ex os ts
  by_cases hs : (mayV os ts && (sameV ndS ts vs && sameVO orE os us)) = true
  · rw [Bool.and_eq_true] at hs
    obtain ⟨hm, hs⟩ := hs
    have hs2 := hs
    rw [Bool.and_eq_true] at hs2
    obtain rfl := sameVO_eq hs2.2
    have hb := sameS_bare hs2.1
    refine ⟨T, T, hT, fun _ => (hT hm).bare hb, fun l l' h1 h2 => ?_⟩
    have e := (prV_out h1).2.symm.trans (prV_out h2).2
    injection e with e
    rw [hs, e]; exact beq_self_eq_true _
  · obtain ⟨U, hU⟩ := mayT_ex us vs
    refine ⟨T, U, hT, hU, fun l l' h1 h2 => ?_⟩
    have hm := (prV_out h1).1
    rw [hm, Bool.true_and] at hs
    rw [Bool.not_eq_true] at hs
    rw [hs]
    rw [beq_eq_false_iff_ne]
    intro e
    rw [ByteArray.toList_eq, ByteArray.toList_eq] at e
    have e : l = l' := e
    subst e
    obtain ⟨ns, p1, q1⟩ := prV_back hT h1
    obtain ⟨ms, p2, q2⟩ := prV_back hU h2
    rw [p1] at p2
    injection p2 with p2
    injection p2 with p2 p3
    subst p2; subst p3
    rw [sameS_of (q1.symm.trans q2), sameVO_self] at hs
    cases hs
set_option maxRecDepth 100000 in
set_option maxHeartbeats 4000000 in
theorem walk {H : Type} {enc : TypeId × Value → H} (p0 : Option Addr) (n0 c0 : Nat) (p1 : Option Addr) (n1 c1 : Nat) (q0 : Option Addr) (m0 d0 : Nat) (q1 : Option Addr) (m1 d1 : Nat) (w : World)
    (f0 : ∃ fuel y, DataW.trod enc Tryd.prog w 0 (fun _ => true) true fuel 22 [.slice p0 n0 c0] = some y ∧ ∀ x ∈ DataW.weights Tryd.prog 22 y.1, x ≤ reachBytes)
    (f1 : ∃ fuel y, DataW.trod enc Tryd.prog w 0 (fun _ => true) true fuel 23 [.slice p1 n1 c1] = some y ∧ ∀ x ∈ DataW.weights Tryd.prog 23 y.1, x ≤ reachBytes)
    (f2 : ∃ fuel y, DataW.trod enc Tryd.prog w 0 (fun _ => true) true fuel 22 [.slice q0 m0 d0] = some y ∧ ∀ x ∈ DataW.weights Tryd.prog 22 y.1, x ≤ reachBytes)
    (f3 : ∃ fuel y, DataW.trod enc Tryd.prog w 0 (fun _ => true) true fuel 23 [.slice q1 m1 d1] = some y ∧ ∀ x ∈ DataW.weights Tryd.prog 23 y.1, x ≤ reachBytes) (hgt : Hid (errTy w ∧ TabW w)) :
    Calls Tryd.prog 3 #[.agg #[.slice p0 n0 c0, .slice p1 n1 c1], .agg #[.slice q0 m0 d0, .slice q1 m1 d1]] w fun e w' => e = .returned (.bool true) ∧ Below w.heap.size w w' := by
  have hg := Lib.hid hgt.out.1
  have hTb := Lib.hid hgt.out.2
  obtain ⟨_, _, t0, t0'⟩ := f0
  obtain ⟨_, hl0, os, hO, hOz⟩ := ops_open t0 t0'
  obtain ⟨_, _, t1, t1'⟩ := f1
  obtain ⟨_, hl1, ts, hN, hNz⟩ := nodes_open t1 t1'
  obtain ⟨_, _, t2, t2'⟩ := f2
  obtain ⟨_, hl2, us, hU, hUz⟩ := ops_open t2 t2'
  obtain ⟨_, _, t3, t3'⟩ := f3
  obtain ⟨_, hl3, vs, hV, hVz⟩ := nodes_open t3 t3'
  clear t0 t0' t1 t1' t2 t2' t3 t3' hgt
  have hO' := Lib.hid hO; have hN' := Lib.hid hN; have hU' := Lib.hid hU; have hV' := Lib.hid hV
  have hOz' := Lib.hid hOz; have hNz' := Lib.hid hNz; have hUz' := Lib.hid hUz; have hVz' := Lib.hid hVz
  clear hO hN hOz hNz hU hV hUz hVz
  obtain ⟨T, U, hT, hTU, hC0⟩ := unl os us ts vs
  have hTab := Lib.hid fun (W : World) (hb : Below w.heap.size w W) => tab_keep hTb.out hb (Nat.le_refl _)
  have hEr := Lib.hid fun (W : World) (hb : Below w.heap.size w W) => errTy_below hg.out hb
  have k1 := Lib.hid fun (W : World) (hb : Below w.heap.size w W) => Print_any p0 p1 n0 c0 n1 c1 os ts T W (Lib.hid (hO'.out.below hb)) hOz' (by omega) (Lib.hid (hN'.out.below hb)) hNz' (by omega) (Lib.hid (hEr.out W hb)) (Lib.hid (hTab.out W hb)) hT
  have k2 := Lib.hid fun (W : World) (hb : Below w.heap.size w W) => Print_any q0 q1 m0 d0 m1 d1 us vs U W (Lib.hid (hU'.out.below hb)) hUz' (by omega) (Lib.hid (hV'.out.below hb)) hVz' (by omega) (Lib.hid (hEr.out W hb)) (Lib.hid (hTab.out W hb)) hTU
  have kA := Lib.hid fun (W : World) (hb : Below w.heap.size w W) => awake5_any W (Lib.hid (hEr.out W hb)) (Lib.hid (hTab.out W hb))
  have kS := Lib.hid fun (W : World) (hb : Below w.heap.size w W) => tSame_any p1 q1 n1 m1 c1 d1 ts vs W (Lib.hid (hN'.out.below hb)) (Lib.hid (hV'.out.below hb)) (by omega)
  have kO := Lib.hid fun (W : World) (hb : Below w.heap.size w W) => sameOps_any p0 q0 n0 m0 c0 d0 os us W (Lib.hid (hO'.out.below hb)) (Lib.hid (hU'.out.below hb)) (by omega)
  have hC := Lib.hid hC0
  clear hC0
  generalize prV os ts T = R at k1 hC
  generalize prV us vs U = R2 at k2 hC
  generalize sameV ndS ts vs = v1 at kS hC
  generalize sameVO orE os us = v2 at kO hC
  clear hT hTU
  go_enter Tryd.func3, Tryd.ntmps3
  go_wp2_with fail
  have hP := Lib.hid (pg_lit w 25 w.heap.size rfl p0 p1 n0 c0 n1 c1)
  have hbA := Lib.hid (below_alc w (.cells #[.slice p0 n0 c0, .slice p1 n1 c1] 25))
  generalize hwA : w.alloc (.cells #[.slice p0 n0 c0, .slice p1 n1 c1] 25) = wA at hP hbA ⊢
  have hsA : wA.heap.size = w.heap.size + 1 := by rw [← hwA]; simp
  clear hwA
  have hQ := Lib.hid (pg_lit wA 25 (w.heap.size + 1) hsA.symm q0 q1 m0 d0 m1 d1)
  have hbB := Lib.hid (below_alc wA (.cells #[.slice q0 m0 d0, .slice q1 m1 d1] 25))
  clear hsA
  generalize wA.alloc (.cells #[.slice q0 m0 d0, .slice q1 m1 d1] 25) = wB at hQ hbB ⊢
  have hP := Lib.hid (hP.out.below hbB.out)
  have hBB := Lib.hid (belT hbA.out hbB.out)
  clear hbA hbB
  refine (kA.out _ hBB.out).mono ?_
  rintro e w1 ⟨rfl, hb1⟩
  have hP := Lib.hid (hP.out.below hb1)
  have hQ := Lib.hid (hQ.out.below hb1)
  have hB1 := Lib.hid (belT hBB.out hb1)
  clear hb1 hBB kA
  obtain ⟨z0, e0, e1⟩ := hP.out
  go_wp2_with fail
  refine (k1.out _ hB1.out).mono ?_
  rintro e w2 ⟨rfl, hb2⟩
  have hP := Lib.hid (hP.out.below hb2)
  have hQ := Lib.hid (hQ.out.below hb2)
  have hB2 := Lib.hid (belT hB1.out hb2)
  clear hb2 k1 e0 e1 z0
  obtain ⟨z0, e0, e1⟩ := hQ.out
  go_wp2_with fail
  refine (k2.out _ hB2.out).mono ?_
  rintro e w3 ⟨rfl, hb3⟩
  have hP := Lib.hid (hP.out.below hb3)
  have hQ := Lib.hid (hQ.out.below hb3)
  have hB3 := Lib.hid (belT hB2.out hb3)
  clear hb3 k2 e0 e1 z0
  cases R with
  | none =>
    simp only [show prS none = ⟨#[]⟩ from rfl, show prE none = 500 from rfl]
    go_wp2_with ((go_at_call 7; refine (num_any _ _ (by omega) (by omega)).mono ?_; rintro e w' ⟨rfl, rfl⟩))
    go_ret
    exact ⟨rfl, hB3.out⟩
  | some l =>
    cases R2 with
    | none =>
      simp only [prS, prE]
      go_wp2_with ((go_at_call 7; refine (num_any _ _ (by omega) (by omega)).mono ?_; rintro e w' ⟨rfl, rfl⟩))
      go_ret
      exact ⟨rfl, hB3.out⟩
    | some l' =>
      have hq := hC.out l l' rfl rfl
      simp only [prS, prE]
      generalize bs l = x at hq ⊢
      generalize bs l' = x' at hq ⊢
      obtain ⟨z0, e0, e1⟩ := hP.out
      obtain ⟨y0, g0, g1⟩ := hQ.out
      clear hC
      cases v1
      · rw [Bool.false_and] at hq
        go_wp2_with ((go_at_call 7; refine (num_any _ _ (by omega) (by omega)).mono ?_; rintro e w' ⟨rfl, rfl⟩))
        refine (kS.out _ hB3.out).mono ?_
        rintro e w4 ⟨rfl, hb4⟩
        have hB4 := Lib.hid (belT hB3.out hb4)
        clear hb4
        go_wp2_with fail
        go_ret
        exact ⟨rfl, hB4.out⟩
      · rw [Bool.true_and] at hq
        go_wp2_with ((go_at_call 7; refine (num_any _ _ (by omega) (by omega)).mono ?_; rintro e w' ⟨rfl, rfl⟩))
        refine (kS.out _ hB3.out).mono ?_
        rintro e w4 ⟨rfl, hb4⟩
        have hP := Lib.hid (hP.out.below hb4)
        have hQ := Lib.hid (hQ.out.below hb4)
        have hB4 := Lib.hid (belT hB3.out hb4)
        clear hb4 e0 e1 z0 y0 g0 g1
        obtain ⟨z0, e0, e1⟩ := hP.out
        obtain ⟨y0, g0, g1⟩ := hQ.out
        go_wp2_with fail
        refine (kO.out _ hB4.out).mono ?_
        rintro e w5 ⟨rfl, hb5⟩
        have hB5 := Lib.hid (belT hB4.out hb5)
        clear hb5
        cases v2
        all_goals
          go_wp2_with fail
          go_ret
          exact ⟨rfl, hB5.out⟩
theorem own : ownKnob Tryd.prog.godebug = none := by kernel_rfl
theorem laidOut : laidOutB Tryd.prog = true := by kernel_rfl
set_option maxRecDepth 100000 in
theorem contract (H : Type) (enc : TypeId × Value → H) (W : World) (base : Nat) (args : Array Value) (ds gs : List (DataW H)) (before : List MemPlace)
    (hval0 : ∀ (j : Nat) t v, Tryd.f3.params[j]? = some t → args[j]? = some v → Value.okWide Tryd.prog W .any base t v)
    (hW : DataW.Whole enc Tryd.prog Tryd.f3.params.toList Rows.showUnlikeSpec.vars false W args.toList ds gs before)
    (hsz0 : (DataW.weightsEach Tryd.prog (Tryd.f3.params.toList ++ Rows.showUnlikeSpec.plain.varTypes Tryd.prog) (ds ++ gs)).all (· ≤ reachBytes) = true)
    (hL : laidMetH Tryd.prog Rows.showUnlikeRow.laid W)
    : Calls Tryd.prog 3 args W fun e W' => ∃ v, e = .returned v ∧ Rows.showUnlikeSpec.post enc Tryd.prog Tryd.f3 false true false false W args v W' := by
  have hval : ∀ (j : Nat) t v, Tryd.f3.params[j]? = some t → args[j]? = some v → Value.okWide Tryd.prog W .any base t v := hval0
  have hsz : (DataW.weightsEach Tryd.prog (Tryd.f3.params.toList ++ Rows.showUnlikeSpec.plain.varTypes Tryd.prog) (ds ++ gs)).all (· ≤ reachBytes) = true := hsz0
  have hW' := hW
  obtain ⟨p, q, hA0, hV, rfl, hfz, hnd⟩ := hW
  have hA : DataW.TrodAll enc Tryd.prog W 0 (fun _ => true) true Tryd.f3.params.toList args.toList ds p := hA0
  rw [Tryd.params3] at hA hval hsz
  obtain ⟨v0, vs0, d0, ds0, p0, q0, hargs, rfl, rfl, h0, r0⟩ := trodAll_cons hA
  obtain ⟨v1, vs1, d1, ds1, p1, q1, rfl, rfl, rfl, h1, r1⟩ := trodAll_cons r0
  obtain ⟨rfl, rfl, rfl⟩ := trodAll_nil r1
  obtain rfl : args = #[v0, v1] := by cases args; simp_all
  obtain ⟨rfl, rfl⟩ := trodVars_none hV
  have k0 := h0
  have lt0 : ∀ x ∈ p0, x.block < W.heap.size := by obtain ⟨m, hm⟩ := k0; exact DataW.trod_lt m _ _ _ hm
  obtain ⟨cs0_0, rfl, fit0_0⟩ := open_struct Tryd.underlying25 (f := 6) (by kernel_rfl : flat Tryd.prog 6 25 = some [.sl 22, .sl 23]) (hval 0 25 v0 rfl rfl) h0 (sized_of hsz (j := 0) (t := 25) rfl rfl)
  obtain ⟨_, cs0_1, rfl, ⟨a0_0, n0_0, c0_0, fu0_0, y0_0, rfl, f0_0, g0_0⟩, fit0_1⟩ := fit_i fit0_0
  obtain ⟨_, cs0_2, rfl, ⟨a0_1, n0_1, c0_1, fu0_1, y0_1, rfl, f0_1, g0_1⟩, fit0_2⟩ := fit_i fit0_1
  obtain rfl := fit_nil fit0_2
  have k1 := h1
  have lt1 : ∀ x ∈ p1, x.block < W.heap.size := by obtain ⟨m, hm⟩ := k1; exact DataW.trod_lt m _ _ _ hm
  obtain ⟨cs1_0, rfl, fit1_0⟩ := open_struct Tryd.underlying25 (f := 6) (by kernel_rfl : flat Tryd.prog 6 25 = some [.sl 22, .sl 23]) (hval 1 25 v1 rfl rfl) h1 (sized_of hsz (j := 1) (t := 25) rfl rfl)
  obtain ⟨_, cs1_1, rfl, ⟨a1_0, n1_0, c1_0, fu1_0, y1_0, rfl, f1_0, g1_0⟩, fit1_1⟩ := fit_i fit1_0
  obtain ⟨_, cs1_2, rfl, ⟨a1_1, n1_1, c1_1, fu1_1, y1_1, rfl, f1_1, g1_1⟩, fit1_2⟩ := fit_i fit1_1
  obtain rfl := fit_nil fit1_2
  clear hA0 hval0
  refine (walk a0_0 n0_0 c0_0 a0_1 n0_1 c0_1 a1_0 n1_0 c1_0 a1_1 n1_1 c1_1 W ⟨_, _, f0_0, g0_0⟩ ⟨_, _, f0_1, g0_1⟩ ⟨_, _, f1_0, g1_0⟩ ⟨_, _, f1_1, g1_1⟩ (tabs hL)).mono fun e W' ⟨he, bel⟩ => ?_
  subst he
  exact ⟨_, rfl, _, _, _, [], _, [], hW', trodAll_mk1 (shut_bool Tryd.underlying4 _), (trodAll_cons_mk (Below.trod laidOut (by kernel_rfl) (of_decide_eq_true (by kernel_rfl)) k0 bel lt0) (trodAll_cons_mk (Below.trod laidOut (by kernel_rfl) (of_decide_eq_true (by kernel_rfl)) k1 bel lt1) trodAll_mk0)), rfl, bel.frame _, fun h => by cases h⟩
noncomputable def mixWorld (os : Os) : World := { World.holding Tryd.prog os ⟨#[], #[], []⟩ with heap := (layAll Tryd.prog Rows.showUnlikeRow.laid (World.holding Tryd.prog os ⟨#[], #[], []⟩).heap).modify 0 fun | .cells _ t frozen => .cells #[.iface 111 (.agg #[.pointer (some ⟨4, 47, none⟩)])] t frozen | o => o }
theorem laid_met (os : Os) : laidMetH Tryd.prog Rows.showUnlikeRow.laid ((mixWorld os).forCall (fun _ _ => 0) ⟨#[], #[.agg #[.slice none 0 0, .slice none 0 0], .agg #[.slice none 0 0, .slice none 0 0]], []⟩).memory := laidMetH_of_parts (laidMet_of_run' 8 (by kernel_rfl) (by kernel_rfl)) (by kernel_rfl)
theorem reads (os : Os) {H : Type} (enc : TypeId × Value → H) : ∃ places, DataW.whole enc Tryd.prog ((mixWorld os).forCall (fun _ _ => 0) ⟨#[], #[.agg #[.slice none 0 0, .slice none 0 0], .agg #[.slice none 0 0, .slice none 0 0]], []⟩).memory Tryd.f3.params.toList Rows.showUnlikeSpec.vars false #[(.agg #[.slice none 0 0, .slice none 0 0] : Value), (.agg #[.slice none 0 0, .slice none 0 0] : Value)].toList 8 = some ([.agg [.nil, .nil], .agg [.nil, .nil]], [], places) := ⟨[], by kernel_rfl⟩
set_option maxRecDepth 100000 in
theorem lifted (os : Os) (started : os.Started) (H : Type) (enc : TypeId × Value → H) (F : Stop.Interp) :
    ReturnsInHanded {} Tryd.checked os 3 .any ((OpenSpec.ofChange Rows.showUnlikeSpec).preRow enc Tryd.prog Tryd.f3 Rows.showUnlikeRow.domain false Rows.showUnlikeRow.laid) (((OpenSpec.ofChange Rows.showUnlikeSpec).at F).post enc Tryd.prog Tryd.f3 false true false false) := by
  obtain ⟨places, hx⟩ := reads os enc
  refine returnsInHanded_of_row (C := Tryd.checked) (s := (OpenSpec.ofChange Rows.showUnlikeSpec)) own started (by kernel_rfl) Tryd.func3
    (witness_row_at (enc := enc) (C := Tryd.checked) false (mixWorld os) #[.agg #[.slice none 0 0, .slice none 0 0], .agg #[.slice none 0 0, .slice none 0 0]] rfl (by kernel_rfl) (by kernel_rfl) (by kernel_rfl)
      (OpenSpec.preRow_of_cond 8 hx (by kernel_rfl) (fun k hk => by cases hk) (by kernel_rfl) (laid_met os))) ?_
  intro W base args ds gs before hval hW _ hcnd hsz hL _ _
  exact contract H enc W base args ds gs before hval hW hsz  hL
theorem said : Rows.ShowUnlikeSaid :=
  OpenClaim.holds_of_cond 3 Tryd.f3 rfl rfl rfl rfl rfl rfl rfl ⟨rfl, rfl, rfl, rfl, rfl⟩ rfl rfl rfl rfl rfl (by kernel_rfl) Tryd.func3 (by kernel_rfl)
    (of_decide_eq_true (by kernel_rfl)) (by unfold Func.isWrapper; first | (rw [if_pos (by decide +kernel)]; kernel_rfl) | (rw [if_neg (by decide +kernel)]; exact ⟨rfl, rfl⟩))
    (fun os started H enc _ F => by rw [OpenClaim.pre_eq_preRow]; exact lifted os started H enc F)
theorem plain (f : FuncId) (fn : Func) (hf : Tryd.pinned.checked.prog.funcNamed "trammel/trammellaw5.ShowUnlike" = some f) (hfn : Tryd.pinned.checked.prog.funcs[f]? = some fn) :
    true = Tryd.pinned.checked.prog.looks [] ∧ ∀ (j : Nat) t, fn.params[j]? = some t → Tryd.pinned.checked.prog.wantsStandIn t = false := by
  obtain rfl : f = 3 := Option.some.inj ((show Tryd.prog.funcNamed "trammel/trammellaw5.ShowUnlike" = some 3 by kernel_rfl).symm.trans hf) |>.symm
  obtain rfl : fn = Tryd.f3 := (Option.some.inj (Tryd.func3.symm.trans hfn)).symm
  refine ⟨by kernel_rfl, fun j t ht => ?_⟩
  rw [Tryd.params3] at ht
  have hm := Array.mem_of_getElem? ht
  have hm2 : t ∈ ([25] : List Nat) := by simpa using hm
  simp only [List.mem_cons, List.not_mem_nil, or_false] at hm2
  subst hm2; exact (show Tryd.prog.wantsStandIn 25 = false by kernel_rfl)
theorem proved : Rows.ShowUnlikeCardSaid :=
  Claim7.holds_tied_plain_at .later [] _ _ _ _ said (fun _ h => by cases h) (by kernel_rfl) (fun _ h => by cases h) showUnlike_row_tie rfl ⟨rfl, rfl⟩ (by kernel_rfl) rfl plain (by kernel_rfl)
end Go.Proofs.YtidlljookjicpaaDoor.showUnlike
