/- LexRises holds for every text. No condition but that the listed package variable holds what the program's text lays. -/
import Derived.Test.YtgpjdifjajailaaDoorLxX
import Derived.Test.YtgpjdifjajailaaDoorDecB
import Derived.Test.YtgpjdifjajailaaDoorCards
import Derived.Test.YtgpjdifjajailaaDoorTie
import Derived.Test.YtgpjdifjajailaaDoorOpn
import Derived.Test.YtgpjdifjajailaaDoorHan
import Derived.WalkKit
import Derived.ProofKit
import Derived.Deep.DeepHandedRow
namespace Go.Proofs.YtgpjdifjajailaaDoor.lexRises
open Go.ChangeShapes Go.WideShapes Go.ChangeAt Go.RowKit
open Go.ChangeMaps (open_string shut_string)
set_option linter.unusedVariables false
set_option linter.unusedSimpArgs false

theorem tabs {W : World} (h : laidMetH Tryd.prog Rows.lexRisesRow.laid W) : Hid (errTy W) := Lib.hid (errTy_of h (.head _))
theorem drop_get {L : List Tk} {k : Nat} (h : k < L.length) : L.drop k = L.getD k tk0 :: L.drop (k + 1) := by
  rw [List.drop_eq_getElem_cons h, List.getD_eq_getElem?_getD, List.getElem?_eq_getElem h]; rfl
structure St (s : ByteArray) (a : Nat) (x : ByteArray) (kd : Int) : Prop where
  ext : s.extract a (a + x.size) = x
  le : a + x.size ≤ s.size
  pos : 0 < x.size
  k2 : kd = 2 → kwB x.data.toList = true
  k0 : kd = 0 → kwB x.data.toList = false
theorem st_of {s x : ByteArray} {t : Tk} {a : Nat} (hx : x.data.toList = wd t) (h1 : wd t ≠ []) (h2 : a + (wd t).length ≤ s.data.toList.length) (h3 : (s.data.toList.drop a).take (wd t).length = wd t) (h4 : t.kind = 2 → kwB (wd t) = true) (h5 : t.kind = 0 → kwB (wd t) = false) : St s a x t.kind := by
  have hl : (wd t).length = x.size := by rw [← hx, len_list]
  rw [hl] at h2 h3
  rw [len_list] at h2
  refine ⟨ba_ext (by rw [ext_take, h3, hx]), h2, ?_, by rw [hx]; exact h4, by rw [hx]; exact h5⟩
  rw [← hl]
  exact List.length_pos_iff.2 h1

set_option maxRecDepth 100000 in
set_option maxHeartbeats 4000000 in
theorem walk (s : ByteArray) (w : World) (hs : s.size ≤ 140737488351232) (hg : Hid (errTy w)) :
    Calls Tryd.prog 4 #[.string s] w fun e w' => e = .returned (.bool true) ∧ Below w.heap.size w w' := by
  have hbd := lexR_bd s
  have hlen := lexR_len s
  have hri := lexR_rises s
  have kT := Lib.hid fun (W : World) (h : errTy W) => tokens_any s W (by omega) h
  generalize lexR s = R at hbd hlen kT hri
  obtain ⟨L, pl, er⟩ := R
  simp only [] at hlen hbd hri
  have hri' := Lib.hid hri
  have hlen' := Lib.hid hlen
  clear hri hlen
  have h0l := hgl hg.out
  go_enter Tryd.func4, Tryd.ntmps4
  go_wp2_with fail
  refine (awake_any _ hg.out).mono ?_
  rintro e w1 ⟨rfl, hb1⟩
  have hg1 := Lib.hid (errTy_below hg.out hb1)
  have hB1 := Lib.hid hb1
  clear hb1
  go_wp2_with fail
  refine (kT.out _ hg1.out).mono ?_
  rintro e w2 ⟨v, rfl, ho, hb2⟩
  have hB2 := Lib.hid (belT hB1.out hb2)
  have ho' := Lib.hid ho
  clear ho hb2
  by_cases he : er = 0
  case neg =>
    obtain ⟨rfl, hp0, hp1⟩ := hri'.out.2 he
    have heb : (er == 0) = false := by simpa using he
    have heb2 : (er != 0) = true := by simpa using he
    obtain ⟨ad, c, rfl⟩ : ∃ ad c, v = .slice ad 0 c := by
      rcases OwnK.rd ho'.out with ⟨_, h⟩ | ⟨g, c, h, _⟩
      · exact h
      · exact ⟨_, _, h⟩
    clear ho' he
    go_wp2_with ((go_at_call 12; refine (num_any _ _ (by omega) (by omega)).mono ?_; rintro e w' ⟨rfl, rfl⟩))
    go_ret
    exact ⟨rfl, hB2.out⟩
  subst he
  obtain ⟨rfl, hok⟩ := hri'.out.1 rfl
  have hok' := Lib.hid hok; clear hok hri'
  rcases OwnK.cases ho'.out with ⟨rfl, rfl⟩ | ⟨g, c, rfl, hg0, hgs, hsl, hfz⟩
  · go_wp2_with ((go_at_call 12; refine (num_any _ _ (by omega) (by omega)).mono ?_; rintro e w' ⟨rfl, rfl⟩))
    go_loopw [6, 7] (fun q i wr => (∃ z : Int, q = .int .i64 z) ∧ i = .int .i64 0 ∧ wr = w2) (fun _ _ _ => 0)
    case atStart => exact ⟨⟨0, rfl⟩, rfl, rfl⟩
    case round =>
      obtain ⟨⟨z, rfl⟩, rfl, rfl⟩ := hrel
      go_wp2_with fail
      go_ret
      exact ⟨rfl, hB2.out⟩
  · have hsl' := Lib.hid hsl
    clear hsl hfz ho'
    go_wp2_with ((go_at_call 12; refine (num_any _ _ (by omega) (by omega)).mono ?_; rintro e w' ⟨rfl, rfl⟩))
    go_loopw [6, 7] (fun q i wr => ∃ (k qn : Nat), k ≤ L.length ∧ qn ≤ s.size ∧ i = .int .i64 k ∧ q = .int .i64 qn ∧ Below w2.heap.size w2 wr ∧ Hid (TokOk s.data.toList qn (L.drop k))) (fun _ i _ => L.length - (intOf i).toNat)
    case atStart => exact ⟨0, 0, by omega, by omega, rfl, rfl, Below.refl _ _, Lib.hid (by rw [List.drop_zero]; exact hok'.out)⟩
    case round =>
      obtain ⟨k, qn, hk, hq, rfl, rfl, hbw, htok⟩ := hrel
      have hws := hbw.size
      by_cases hlt : k < L.length
      · have hdg := drop_get hlt
        have htk := htok.out
        rw [hdg] at htk
        have hT := (hsl'.out k hlt).below hbw hgs
        have hll := hlen'.out
        clear hdg
        generalize L.getD k tk0 = t at htk hT
        obtain ⟨kd, tx, nm, at_⟩ := t
        obtain ⟨a, hat, hqa, h1, h2, h3, h4, h5, h6, h7⟩ := htk
        obtain rfl : at_ = (a : Int) := hat
        obtain ⟨g0, g1, g2, g3⟩ := hT
        have e0 : wr.cell? ⟨g, 0 + k * 4, none⟩ = some (.int .i64 kd) := g0
        have e1 : wr.cell? ⟨g, 0 + k * 4 + 1, none⟩ = some (.string (bs tx)) := g1
        have e2 : wr.cell? ⟨g, 0 + k * 4 + 2, none⟩ = some (.int .i64 nm) := g2
        have e3 : wr.cell? ⟨g, 0 + k * 4 + 3, none⟩ = some (.int .i64 a) := g3
        rw [Nat.zero_add] at e0 e1 e2 e3
        clear g0 g1 g2 g3
        have hlt' : (k : Int) < (L.length : Int) := by omega
        have hk0 : (0 : Int) ≤ (k : Int) := by omega
        have hgr : g < wr.heap.size := by omega
        by_cases hk1 : kd = 1
        · subst hk1
          obtain ⟨hn0, hn1⟩ := h6 rfl
          simp only [] at hn0 hn1
          obtain ⟨x, hx⟩ : ∃ x, bs (Lib.itoa nm) = x := ⟨_, rfl⟩
          have hst := st_of (t := ⟨1, tx, nm, a⟩) (x := x) (by rw [← hx]; rfl) h1 h2 h3 h4 h5
          have hl7 : (wd ⟨1, tx, nm, a⟩).length = x.size := by rw [← hx]; rfl
          rw [hl7] at h7
          have h7' := Lib.hid h7
          have hdec := Lib.hid fun (W : World) => (show Calls Tryd.prog 17 #[.int .i64 nm] W fun e w' => e = .returned (.string x) ∧ Below W.heap.size W w' from (dec_any nm W (by omega) (by omega)).mono fun e w' h => by unfold DecPost at h; rw [← hx]; exact h)
          have hex := hst.ext; have hxl := hst.le; have hxp := hst.pos
          have c1 : ¬ ((a : Int) < (qn : Int)) := by omega
          have c2 : (a : Int) ≤ (s.size : Int) - (x.size : Int) := by omega
          have c3 : ((x.size : Int) == 0) = false := beq_eq_false_iff_ne.2 (by omega)
          have c4 : ¬ x = ByteArray.empty := by intro h; rw [h] at hxp; simp at hxp
          have c5 : (a : Int) + (x.size : Int) ≤ (s.size : Int) := by omega
          have c6 : ¬ a < qn := by omega
          clear hst h1 h2 h3 h4 h5 h6 h7 hl7 hx htok
          go_wp2_with fail
          refine (hdec.out _).mono ?_
          rintro e w4 ⟨rfl, hb4⟩
          have f3 : w4.cell? ⟨wr.heap.size, 3, none⟩ = some (.int .i64 a) := carry hb4 (by simp) (by simp)
          have f0 : w4.cell? ⟨wr.heap.size, 0, none⟩ = some (.int .i64 1) := carry hb4 (by simp) (by simp)
          have hB4 := Lib.hid (hbw.trans (((Below.refl w2.heap.size wr).alloc hws _).trans (hb4.mono (by simp; omega))))
          clear hb4 e0 e1 e2 e3
          go_wp2_with fail
          go_roundw
          case rel => exact ⟨k + 1, a + x.size, by omega, by omega, by go_num, by go_num, hB4.out, h7'⟩
          case measure => simp [intOf]; omega
        · obtain ⟨x, hx⟩ : ∃ x, bs tx = x := ⟨_, rfl⟩
          have hwt : wd ⟨kd, tx, nm, a⟩ = tx := if_neg hk1
          have hst := st_of (t := ⟨kd, tx, nm, a⟩) (x := x) (by rw [← hx, hwt]; rfl) h1 h2 h3 h4 h5
          have hl7 : (wd ⟨kd, tx, nm, a⟩).length = x.size := by rw [← hx, hwt]; rfl
          rw [hl7] at h7
          have h7' := Lib.hid h7
          rw [hx] at e1
          have hex := hst.ext; have hxl := hst.le; have hxp := hst.pos
          have c1 : ¬ ((a : Int) < (qn : Int)) := by omega
          have c2 : (a : Int) ≤ (s.size : Int) - (x.size : Int) := by omega
          have c3 : ((x.size : Int) == 0) = false := beq_eq_false_iff_ne.2 (by omega)
          have c4 : ¬ x = ByteArray.empty := by intro h; rw [h] at hxp; simp at hxp
          have c5 : (a : Int) + (x.size : Int) ≤ (s.size : Int) := by omega
          have c6 : ¬ a < qn := by omega
          have q1 : (kd == 1) = false := by simpa using hk1
          clear h1 h2 h3 h4 h5 h6 h7 hl7 hx htok hwt
          by_cases hk2 : kd = 2
          · subst hk2
            have hkw := Lib.hid fun (W : World) => (show Calls Tryd.prog 13 #[.string x] W fun e w' => e = .returned (.bool true) ∧ W = w' from (keyword_any _ W).mono fun e w' ⟨h, h2⟩ => ⟨by rw [h, hst.k2 rfl], h2⟩)
            clear hst hk1
            go_wp2_with ((go_at_call 13; refine (hkw.out _).mono ?_; rintro e w' ⟨rfl, rfl⟩))
            go_roundw
            case rel => exact ⟨k + 1, a + x.size, by omega, by omega, by go_num, by go_num, by (repeat' (first | with_reducible exact Below.refl _ _ | with_reducible assumption | with_reducible apply Below.setCell | with_reducible apply Below.alloc | with_reducible apply Below.drew | with_reducible apply below_drewN | with_reducible exact Nat.le_refl _ | (simp; done) | (simp; omega) | omega | exact Nat.le_refl _)), h7'⟩
            case measure => simp [intOf]; omega
          · have q2 : (kd == 2) = false := by simpa using hk2
            by_cases hk3 : kd = 0
            · subst hk3
              have hkw := Lib.hid fun (W : World) => (show Calls Tryd.prog 13 #[.string x] W fun e w' => e = .returned (.bool false) ∧ W = w' from (keyword_any _ W).mono fun e w' ⟨h, h2⟩ => ⟨by rw [h, hst.k0 rfl], h2⟩)
              clear hst hk1 hk2
              go_wp2_with ((go_at_call 13; refine (hkw.out _).mono ?_; rintro e w' ⟨rfl, rfl⟩))
              go_roundw
              case rel => exact ⟨k + 1, a + x.size, by omega, by omega, by go_num, by go_num, by (repeat' (first | with_reducible exact Below.refl _ _ | with_reducible assumption | with_reducible apply Below.setCell | with_reducible apply Below.alloc | with_reducible apply Below.drew | with_reducible apply below_drewN | with_reducible exact Nat.le_refl _ | (simp; done) | (simp; omega) | omega | exact Nat.le_refl _)), h7'⟩
              case measure => simp [intOf]; omega
            · have q3 : (kd == 0) = false := by simpa using hk3
              clear hst hk1 hk2 hk3
              go_wp2_with fail
              go_roundw
              case rel => exact ⟨k + 1, a + x.size, by omega, by omega, by go_num, by go_num, by (repeat' (first | with_reducible exact Below.refl _ _ | with_reducible assumption | with_reducible apply Below.setCell | with_reducible apply Below.alloc | with_reducible apply Below.drew | with_reducible apply below_drewN | with_reducible exact Nat.le_refl _ | (simp; done) | (simp; omega) | omega | exact Nat.le_refl _)), h7'⟩
              case measure => simp [intOf]; omega
      · go_wp2_with fail
        go_ret
        exact ⟨rfl, belT hB2.out hbw⟩
theorem own : ownKnob Tryd.prog.godebug = none := by kernel_rfl
theorem laidOut : laidOutB Tryd.prog = true := by kernel_rfl
set_option maxRecDepth 100000 in
theorem contract (H : Type) (enc : TypeId × Value → H) (W : World) (base : Nat) (args : Array Value) (ds gs : List (DataW H)) (before : List MemPlace)
    (hval0 : ∀ (j : Nat) t v, Tryd.f4.params[j]? = some t → args[j]? = some v → Value.okWide Tryd.prog W .any base t v)
    (hW : DataW.Whole enc Tryd.prog Tryd.f4.params.toList Rows.lexRisesSpec.vars false W args.toList ds gs before)
    (hsz0 : (DataW.weightsEach Tryd.prog (Tryd.f4.params.toList ++ Rows.lexRisesSpec.plain.varTypes Tryd.prog) (ds ++ gs)).all (· ≤ reachBytes) = true)
    (hL : laidMetH Tryd.prog Rows.lexRisesRow.laid W)
    : Calls Tryd.prog 4 args W fun e W' => ∃ v, e = .returned v ∧ Rows.lexRisesSpec.post enc Tryd.prog Tryd.f4 false true false false W args v W' := by
  have hval : ∀ (j : Nat) t v, Tryd.f4.params[j]? = some t → args[j]? = some v → Value.okWide Tryd.prog W .any base t v := hval0
  have hsz : (DataW.weightsEach Tryd.prog (Tryd.f4.params.toList ++ Rows.lexRisesSpec.plain.varTypes Tryd.prog) (ds ++ gs)).all (· ≤ reachBytes) = true := hsz0
  have hW' := hW
  obtain ⟨p, q, hA0, hV, rfl, hfz, hnd⟩ := hW
  have hA : DataW.TrodAll enc Tryd.prog W 0 (fun _ => true) true Tryd.f4.params.toList args.toList ds p := hA0
  rw [Tryd.params4] at hA hval hsz
  obtain ⟨v0, vs0, d0, ds0, p0, q0, hargs, rfl, rfl, h0, r0⟩ := trodAll_cons hA
  obtain ⟨rfl, rfl, rfl⟩ := trodAll_nil r0
  obtain rfl : args = #[v0] := by cases args; simp_all
  obtain ⟨rfl, rfl⟩ := trodVars_none hV
  have k0 := h0
  have lt0 : ∀ x ∈ p0, x.block < W.heap.size := by obtain ⟨m, hm⟩ := k0; exact DataW.trod_lt m _ _ _ hm
  obtain ⟨a0, rfl, rfl, rfl, m0⟩ := open_string Tryd.underlying9 (hval 0 9 v0 rfl rfl) h0
  have w0 : a0.size ≤ 140737488351232 := by
    have := sized_string hsz (j := 0) (t := 9) rfl rfl
    simp [reachBytes] at this; omega
  clear hA0 hval0
  refine (walk a0 W w0 (tabs hL)).mono fun e W' ⟨he, bel⟩ => ?_
  subst he
  exact ⟨_, rfl, _, _, _, [], _, [], hW', trodAll_mk1 (shut_bool Tryd.underlying4 _), (trodAll_cons_mk (Below.trod laidOut (by kernel_rfl) (of_decide_eq_true (by kernel_rfl)) k0 bel lt0) trodAll_mk0), rfl, bel.frame _, fun h => by cases h⟩
theorem laid_met (os : Os) : laidMetH Tryd.prog Rows.lexRisesRow.laid ((handleWorld os).forCall (fun _ _ => 0) ⟨#[], #[.string ByteArray.empty], []⟩).memory := laidMetH_of_parts (laidMet_nil _ _) (by kernel_rfl)
theorem reads (os : Os) {H : Type} (enc : TypeId × Value → H) : ∃ places, DataW.whole enc Tryd.prog ((handleWorld os).forCall (fun _ _ => 0) ⟨#[], #[.string ByteArray.empty], []⟩).memory Tryd.f4.params.toList Rows.lexRisesSpec.vars false #[(.string ByteArray.empty : Value)].toList 8 = some ([.lit (.string [])], [], places) := ⟨[], by kernel_rfl⟩
set_option maxRecDepth 100000 in
theorem lifted (os : Os) (started : os.Started) (H : Type) (enc : TypeId × Value → H) (F : Stop.Interp) :
    ReturnsInHanded {} Tryd.checked os 4 .any ((OpenSpec.ofChange Rows.lexRisesSpec).preRow enc Tryd.prog Tryd.f4 Rows.lexRisesRow.domain false Rows.lexRisesRow.laid) (((OpenSpec.ofChange Rows.lexRisesSpec).at F).post enc Tryd.prog Tryd.f4 false true false false) := by
  obtain ⟨places, hx⟩ := reads os enc
  refine returnsInHanded_of_row (C := Tryd.checked) (s := (OpenSpec.ofChange Rows.lexRisesSpec)) own started (by kernel_rfl) Tryd.func4
    (witness_row_at (enc := enc) (C := Tryd.checked) false (handleWorld os) #[.string ByteArray.empty] rfl (by kernel_rfl) (by kernel_rfl) (by kernel_rfl)
      (OpenSpec.preRow_of_cond 8 hx (by kernel_rfl) (fun k hk => by cases hk) (by kernel_rfl) (laid_met os))) ?_
  intro W base args ds gs before hval hW _ hcnd hsz hL _ _
  exact contract H enc W base args ds gs before hval hW hsz  hL
theorem said : Rows.LexRisesSaid :=
  OpenClaim.holds_of_cond 4 Tryd.f4 rfl rfl rfl rfl rfl rfl rfl ⟨rfl, rfl, rfl, rfl, rfl⟩ rfl rfl rfl rfl rfl (by kernel_rfl) Tryd.func4 (by kernel_rfl)
    (of_decide_eq_true (by kernel_rfl)) (by unfold Func.isWrapper; first | (rw [if_pos (by decide +kernel)]; kernel_rfl) | (rw [if_neg (by decide +kernel)]; exact ⟨rfl, rfl⟩))
    (fun os started H enc _ F => by rw [OpenClaim.pre_eq_preRow]; exact lifted os started H enc F)
theorem plain (f : FuncId) (fn : Func) (hf : Tryd.pinned.checked.prog.funcNamed "trammel/trammellaw2.LexRises" = some f) (hfn : Tryd.pinned.checked.prog.funcs[f]? = some fn) :
    true = Tryd.pinned.checked.prog.looks [] ∧ ∀ (j : Nat) t, fn.params[j]? = some t → Tryd.pinned.checked.prog.wantsStandIn t = false := by
  obtain rfl : f = 4 := Option.some.inj ((show Tryd.prog.funcNamed "trammel/trammellaw2.LexRises" = some 4 by kernel_rfl).symm.trans hf) |>.symm
  obtain rfl : fn = Tryd.f4 := (Option.some.inj (Tryd.func4.symm.trans hfn)).symm
  refine ⟨by kernel_rfl, fun j t ht => ?_⟩
  rw [Tryd.params4] at ht
  have hm := Array.mem_of_getElem? ht
  have hm2 : t ∈ ([9] : List Nat) := by simpa using hm
  simp only [List.mem_cons, List.not_mem_nil, or_false] at hm2
  subst hm2; exact (show Tryd.prog.wantsStandIn 9 = false by kernel_rfl)
theorem proved : Rows.LexRisesCardSaid :=
  Claim7.holds_tied_plain_at .later [] _ _ _ _ said (fun _ h => by cases h) (by kernel_rfl) (fun _ h => by cases h) lexRises_row_tie rfl ⟨rfl, rfl⟩ (by kernel_rfl) rfl plain (by kernel_rfl)
end Go.Proofs.YtgpjdifjajailaaDoor.lexRises
