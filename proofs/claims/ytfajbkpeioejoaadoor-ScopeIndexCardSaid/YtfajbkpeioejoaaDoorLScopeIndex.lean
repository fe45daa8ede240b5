/- ScopeIndex holds for every row of numbers and every number. No condition but that the listed package variable holds what the program's text lays. -/
import Derived.Test.YtfajbkpeioejoaaDoorScL
import Derived.Test.YtfajbkpeioejoaaDoorAid
import Derived.Test.YtfajbkpeioejoaaDoorInt
import Derived.Test.YtfajbkpeioejoaaDoorCards
import Derived.Test.YtfajbkpeioejoaaDoorTie
import Derived.Test.YtfajbkpeioejoaaDoorOpn
import Derived.Test.YtfajbkpeioejoaaDoorHan
import Derived.WalkKit
import Derived.ProofKit
import Derived.Deep.DeepHandedRow
namespace Go.Proofs.YtfajbkpeioejoaaDoor.scopeIndex
open Go.ChangeShapes Go.WideShapes Go.ChangeAt Go.RowKit
open Go.ChangeMaps (open_string shut_string)
set_option linter.unusedVariables false
set_option linter.unusedSimpArgs false

theorem tabs {W : World} (h : laidMetH Tryd.prog Rows.scopeIndexRow.laid W) : Hid (errTy W) := Lib.hid (errTy_of h (.head _))
theorem one_ltr (W : World) (d : Nat) (hd : d < 4) : (convert 39 9 (.slice (some ⟨W.heap.size, 0, none⟩) 1 1)).run Tryd.prog (W.alloc (.cells #[.int .u8 (97 + (d : Int))] 5)) = .ok (.string (ltr d)) (W.alloc (.cells #[.int .u8 (97 + (d : Int))] 5)) := by
  have h := run_convert_bytes_arg (P := Tryd.prog) (W.alloc (.cells #[.int .u8 (97 + (d : Int))] 5)) 39 5 Tryd.underlying39 Tryd.underlying5 W.heap.size 0 1 1 [97 + (d : Int)] rfl (by
    intro i hi
    obtain rfl : i = 0 := by omega
    simp) 9 Tryd.underlying9
  rw [h]
  have h4 : d = 0 ∨ d = 1 ∨ d = 2 ∨ d = 3 := by omega
  rcases h4 with rfl | rfl | rfl | rfl <;> rfl
theorem u8w (d : Nat) (hd : d < 4) : IntKind.u8.wrap (97 + (d : Int)) = 97 + (d : Int) := by
  have h4 : d = 0 ∨ d = 1 ∨ d = 2 ∨ d = 3 := by omega
  rcases h4 with rfl | rfl | rfl | rfl <;> rfl
/-- the letter of a number. -/
def dOf (x : Int) : Nat := (x % 4).toNat
theorem dOf_lt (x : Int) : dOf x < 4 := by unfold dOf; omega
theorem dOf_and (x : Int) : bits .and .i64 x 3 = ((dOf x : Nat) : Int) := by rw [and3]; unfold dOf; omega
theorem bar_below {S : Nat → Prop} {w W W' : World} (h : Below w.heap.size w W) (hb : Bar S W W') (hs : ∀ k, S k → w.heap.size ≤ k) : Below w.heap.size w W' :=
  ⟨hb.os.trans h.os, hb.tape.trans h.tape, hb.output.trans h.output, Nat.le_trans h.size hb.size, fun k hk => (hb.block k (by have := h.size; omega) (fun e => by have := hs k e; omega)).trans (h.block k hk)⟩
set_option maxRecDepth 100000 in
set_option maxHeartbeats 2000000 in
theorem walk_in (ad : Option Addr) (ln cp : Nat) (l : List Int) (use : Int) (w : World) (hll : Hid (l.length = ln)) (hl : ln ≤ 9223372036854775807) (hat : Hid (∀ i, i < ln → ∃ b off, ad = some ⟨b, off, none⟩ ∧ b < w.heap.size ∧ w.cell? ⟨b, off + i, none⟩ = some (.int .i64 (l.getD i 0)))) (hg : Hid (errTy w)) :
    Calls Tryd.prog 5 #[.slice ad ln cp, .int .i64 use] w fun e w' => e = .returned (.bool true) ∧ Below w.heap.size w w' := by
  obtain ⟨u, hu⟩ : ∃ u, dOf use = u := ⟨_, rfl⟩
  have hu4 : u < 4 := by rw [← hu]; exact dOf_lt use
  have ha : bits .and .i64 use 3 = (u : Int) := by rw [← hu]; exact dOf_and use
  have hw8 := u8w u hu4
  have h0l := hgl hg.out
  go_enter Tryd.func5, Tryd.ntmps5
  go_wp2_with fail
  refine (awake6_any _ hg).mono ?_
  rintro e w1 ⟨rfl, hb1⟩
  have hB := Lib.hid hb1
  clear hb1
  have kv := one_ltr w1 u hu4
  go_upto_region 5 with fail
  have hs1 := hB.out.size
  clear kv ha hw8
  obtain ⟨wa, hwa⟩ : ∃ W, w1.alloc (.cells #[.int .u8 (97 + (u : Int))] 5) = W := ⟨_, rfl⟩
  have hal : wa.heap.size = w1.heap.size + 1 := by rw [← hwa]; simp
  have hba : Below w1.heap.size w1 wa := by rw [← hwa]; exact below_alc _ _
  rw [hwa]
  clear hwa
  have hown := own_litN (B := w.heap.size) wa #[.int .i64 0, .int .i64 0, .int .i64 0, .int .i64 0, .int .i64 0, .string (ltr u), .string ⟨#[]⟩, .string ⟨#[]⟩, .string ⟨#[]⟩, .int .i64 9] (ixN u []) rfl 1 rfl (by omega) (by omega)
  obtain ⟨w2, hw2⟩ : ∃ W, wa.alloc (.cells #[.int .i64 0, .int .i64 0, .int .i64 0, .int .i64 0, .int .i64 0, .string (ltr u), .string ⟨#[]⟩, .string ⟨#[]⟩, .string ⟨#[]⟩, .int .i64 9] 34) = W := ⟨_, rfl⟩
  have hb2 : Below wa.heap.size wa w2 := by rw [← hw2]; exact below_alc _ _
  rw [hw2] at hown ⊢
  clear hw2
  rw [hal] at hown
  have hB := Lib.hid (belT hB.out (belT hba hb2))
  have hown := Lib.hid hown
  clear hal hba hb2
  go_wp2_with fail
  go_loopw [6, 7, 8] (fun pv rv iv wr => ∃ j : Nat, j ≤ ln ∧ j ≤ 20 ∧ iv = .int .i64 j ∧ Below w.heap.size w wr ∧ Hid (OwnN w.heap.size wr pv (ixN u ((l.take j).map dOf))) ∧ Hid (OwnS w.heap.size wr rv (((l.take j).map dOf).map ltr))) (fun _ _ iv _ => 20 - (intOf iv).toNat)
  case atStart => exact ⟨0, by omega, by omega, rfl, hB.out, hown, Lib.hid (OwnS.nil _ _)⟩
  case round =>
    obtain ⟨j, hj, hj20, rfl, hbw, hN, hS⟩ := hrel
    have hws := hbw.size
    by_cases hlt : j < ln ∧ j < 20
    · obtain ⟨h1, h2⟩ := hlt
      obtain ⟨b, off, rfl, hbl, hc⟩ := hat.out j h1
      have hc := (hbw.cell (p := ⟨b, off + j, none⟩) hbl).trans hc
      have hjl : j < l.length := by rw [hll.out]; exact h1
      have htk : (l.take (j + 1)).map dOf = (l.take j).map dOf ++ [dOf (l.getD j 0)] := by
        rw [List.take_succ_eq_append_getElem hjl, List.map_append, List.getD_eq_getElem?_getD, List.getElem?_eq_getElem hjl]; rfl
      have htl : ((l.take j).map dOf).length = j := by rw [List.length_map, List.length_take]; omega
      generalize (l.take j).map dOf = row at hN hS htk htl
      generalize l.getD j 0 = x at hc htk
      have hax := dOf_and x
      have hd4 := dOf_lt x
      generalize dOf x = d at hax hd4 htk
      have hd8 := u8w d hd4
      have kv := one_ltr wr d hd4
      have hj1 : (j : Int) < (ln : Int) := by omega
      have hj2 : (j : Int) < 20 := by omega
      have hj0 : (0 : Int) ≤ (j : Int) := by omega
      have htk := Lib.hid htk
      go_upto_region 10 with fail
      clear hc kv hax hd8
      obtain ⟨wx, hwx⟩ : ∃ W, wr.alloc (.cells #[.int .u8 (97 + (d : Int))] 5) = W := ⟨_, rfl⟩
      have hbx : Below wr.heap.size wr wx := by rw [← hwx]; exact below_alc _ _
      rw [hwx]
      clear hwx
      have hwX := hbx.size
      have hlen : (row.map ltr).length + 1 ≤ 1000000 := by rw [List.length_map]; omega
      have hA := Lib.hid (stArg_lit wx #[.string (ltr d)] 9 wx.heap.size 1 [ltr d] rfl rfl rfl)
      have hby := below_alc wx (.cells #[.string (ltr d)] 9)
      have hS2 := Lib.hid (OwnS.below (OwnS.below hS.out hbx) hby)
      have hN2 := Lib.hid (OwnN.below (OwnN.below hN.out hbx) hby)
      have hB2 := Lib.hid (belT hbw (belT hbx hby))
      have hsz := hB2.out.size
      have hby := Lib.hid hby
      have hbx := Lib.hid hbx
      go_upto_region 11 with (at_builtin; refine op_st rfl (.tmp 45) (.tmp 47) (wx.alloc (.cells #[.string (ltr d)] 9)) w.heap.size hsz _ (row.map ltr) rfl rfl (some ⟨wx.heap.size, 0, none⟩) 1 1 [ltr d] rfl hA.out (fun h => by cases h) hS2.out hlen ?_; intro v3 w3 hS3 _ hbar _ _)
      have hN3 : Hid (OwnN w.heap.size w3 _ (ixN u row)) := Lib.hid (hbar.own hN2.out (own_ne hN2.out hS2.out (by decide)))
      have hB3 := Lib.hid (bar_below hB2.out hbar (fun k e => (own_lt hS2.out k e).1))
      have hS3 := Lib.hid hS3
      have hs3 := hB3.out.size
      clear hbar
      have harr : #[Value.int .i64 3, .int .i64 (j : Int), .int .i64 0, .int .i64 0, .int .i64 0, .string ⟨#[]⟩, .string (ltr d), .string ⟨#[]⟩, .string ⟨#[]⟩, .int .i64 0].toList = ndL [ixF row.length d] := by rw [htl]; rfl
      have hlen2 : ((ixN u row).length + [ixF row.length d].length) * 112 ≤ 140737488355328 := by rw [ixN_len, htl]; show (j + 1 + 1) * 112 ≤ _; omega
      go_wp2_with (at_builtin; refine op_ndb rfl (.tmp 49) (.tmp 53) w3 w.heap.size hs3 _ (ixN u row) [ixF row.length d] _ rfl rfl 1 rfl rfl harr hN3.out hlen2 ?_; intro v4 w4 hN4 hbar4)
      have hS4 := Lib.hid (hbar4.own hS3.out (own_ne hS3.out hN3.out (by decide)))
      have hB4 := Lib.hid (bar_below hB3.out hbar4 (fun k e => (own_lt hN3.out k e).1))
      have hN4 := Lib.hid hN4
      clear hbar4
      go_wp2_with fail
      go_roundw
      case rel => exact ⟨j + 1, by omega, by omega, by go_num, hB4.out, Lib.hid (by rw [htk.out, ixN_snoc]; exact hN4.out), Lib.hid (by rw [htk.out, List.map_append]; exact hS4.out)⟩
      case measure => simp [intOf]; omega
    · rename World => wo
      have hrl : ((l.take j).map dOf).length ≤ 20 := by rw [List.length_map, List.length_take]; omega
      have hr4 : ∀ d ∈ (l.take j).map dOf, d < 4 := fun d hd => by obtain ⟨x, _, rfl⟩ := List.mem_map.1 hd; exact dOf_lt x
      generalize (l.take j).map dOf = row at hN hS hrl hr4
      have hr4 := Lib.hid hr4
      obtain ⟨ra, rc, hrv⟩ := hS.out.sl
      have hSA := Lib.hid (by rw [hrv] at hS; exact hS.out.arg)
      rw [List.length_map] at hrv hSA
      subst hrv
      rcases hN.out.cases with ⟨_, h0⟩ | ⟨g, c, hpv, hg1, hg2, hg3, hgs, hgf⟩
      · cases h0
      rw [ixN_len] at hpv
      subst hpv
      have hNA : Hid (NArg wo (some ⟨g, 0, none⟩) (row.length + 1) (ixN u row)) := Lib.hid ⟨(ixN_len u row).symm, .inr ⟨g, 0, rfl, hgs, hg2⟩⟩
      have hB := Lib.hid hbw
      clear hN hS hgs hgf hg1 hg2 hg3 hbw
      have e1 : IntKind.i64.wrap ((row.length : Int) - 1) = (row.length : Int) - 1 := by rw [IntWalk.i64_in _ (by omega)]
      have key : (¬ (j : Int) < (ln : Int)) ∨ ((j : Int) < (ln : Int) ∧ ¬ (j : Int) < 20) := by omega
      rcases key with hk1 | ⟨hk1, hk2⟩
      all_goals
        go_upto_region 12 with fail
        clear hk1
        (try clear hk2)
        go_wp2_with fail
        go_loopw [10, 11] (fun wv iv wr => ∃ (m : Nat) (z : Int), z = (m : Int) - 1 ∧ m ≤ row.length ∧ iv = .int .i64 z ∧ wv = .int .i64 (wantJ row u m) ∧ Below wo.heap.size wo wr) (fun _ iv _ => (intOf iv + 1).toNat)
        case atStart => exact ⟨row.length, (row.length : Int) - 1, rfl, Nat.le_refl _, rfl, by rw [wantJ_end], Below.refl _ _⟩
        case round =>
          obtain ⟨m, z, hz, hm, rfl, rfl, hbr⟩ := hrel
          by_cases hm0 : m = 0
          · subst hm0
            have hzn : ¬ (0 : Int) ≤ z := by omega
            clear hz
            have hBr := Lib.hid (belT hB.out hbr)
            have kR := Lib.hid (Resolve_any none (some ⟨g, 0, none⟩) 0 0 (row.length + 1) c [] (ixN u row) wr (Lib.hid (oarg0 _ _)) (Lib.hid or_sz0) (by omega) (Lib.hid (hNA.out.below hbr)) (Lib.hid (ix_sz u row)) (by omega) (Lib.hid (hg.out.below hBr.out)))
            rcases ix_resV u hu4 row hr4.out hrl with ⟨hv1, hv⟩ | ⟨hv0, ss, hv, hssl, hn⟩
            · generalize wantJ row u 0 = v at hv1 ⊢
              have hvn : v < 0 := by omega
              clear hv1 e1
              go_wp2_with fail
              refine kR.out.mono ?_
              intro e w2 hpost
              obtain ⟨rfl, hb⟩ := res_no hpost hv
              have hBr := Lib.hid (belT hBr.out hb)
              clear hpost hb hv kR
              go_wp2_with ((go_at_call 9; refine (num_any _ _ (by omega) (by omega)).mono ?_; rintro e w' ⟨rfl, rfl⟩))
              go_ret
              exact ⟨rfl, belA _ hBr.out⟩
            · generalize wantJ row u 0 = v at hv0 hn ⊢
              have hvn : ¬ v < 0 := by omega
              clear e1
              go_wp2_with fail
              refine kR.out.mono ?_
              intro e w2 hpost
              obtain ⟨ao, co, N, cn, rfl, hb, hown, hN1, hN2, hsl⟩ := res_ok hpost hv
              have hBr := Lib.hid (belT hBr.out hb)
              have cN : w2.cell? ⟨N, 4, none⟩ = some (.int .i64 v) := by
                have := (hsl 0 (by omega)).2.2.2.2.1
                rw [hn] at this
                simpa using this
              have hi0 : (0 : Int) < ((row.length + 1 : Nat) : Int) := by omega
              clear hpost hb hv kR hown hsl hn
              go_wp2_with ((go_at_call 9; refine (num_any _ _ (by omega) (by omega)).mono ?_; rintro e w' ⟨rfl, rfl⟩))
              go_ret
              exact ⟨rfl, belA _ hBr.out⟩
          · obtain ⟨k, rfl⟩ : ∃ k, m = k + 1 := ⟨m - 1, by omega⟩
            obtain rfl : z = (k : Int) := by omega
            have hkl : k < row.length := by omega
            rcases hSA.out.2 with h0 | ⟨b, off, rfl, hs, hbl⟩
            · rw [List.map_eq_nil_iff] at h0; rw [h0] at hkl; simp at hkl
            have hc0 := carry hbr hbl (hs k (by rw [List.length_map]; exact hkl))
            rw [List.getD_eq_getElem?_getD, List.getElem?_map, List.getElem?_eq_getElem hkl] at hc0
            have hc : wr.cell? ⟨b, off + k, none⟩ = some (.string (ltr row[k])) := hc0
            clear hc0
            have hki : (k : Int) < (row.length : Int) := by omega
            have hk0 : (0 : Int) ≤ (k : Int) := by omega
            have hst := Lib.hid (wantJ_step row u k hkl)
            have hq := ltr_eq row[k] (hr4.out _ (List.getElem_mem hkl)) u hu4
            unfold eqS at hq
            have e2 : IntKind.i64.wrap ((k : Int) - 1) = (k : Int) - 1 := by rw [IntWalk.i64_in _ (by omega)]
            clear hz hs e1
            by_cases hd : row[k] = u
            · have hq2 : ((ltr row[k]).toList == (ltr u).toList) = true := by rw [hq, hd]; exact beq_self_eq_true u
              have hst := Lib.hid (show wantJ row u k = (k : Int) by rw [hst.out, if_pos hd])
              clear hq hd
              generalize ltr row[k] = sk at hc hq2
              go_wp2_with fail
              go_roundw
              case rel => exact ⟨k, (k : Int) - 1, rfl, by omega, rfl, by rw [hst.out], hbr⟩
              case measure => simp [intOf]
            · have hq2 : ((ltr row[k]).toList == (ltr u).toList) = false := by rw [hq]; simpa using hd
              have hst := Lib.hid (show wantJ row u k = wantJ row u (k + 1) by rw [hst.out, if_neg hd])
              clear hq hd
              generalize ltr row[k] = sk at hc hq2
              go_wp2_with fail
              go_roundw
              case rel => exact ⟨k, (k : Int) - 1, rfl, by omega, rfl, by rw [hst.out], hbr⟩
              case measure => simp [intOf]
theorem walk {H : Type} {enc : TypeId × Value → H} (ad : Option Addr) (ln cp : Nat) (use : Int) (w : World) (f : ∃ fuel y, DataW.trod enc Tryd.prog w 0 (fun _ => true) true fuel 38 [.slice ad ln cp] = some y ∧ ∀ x ∈ DataW.weights Tryd.prog 38 y.1, x ≤ reachBytes) (hb : -9223372036854775808 ≤ use ∧ use ≤ 9223372036854775807) (hg : Hid (errTy w)) :
    Calls Tryd.prog 5 #[.slice ad ln cp, .int .i64 use] w fun e w' => e = .returned (.bool true) ∧ Below w.heap.size w w' := by
  obtain ⟨fuel, y, hf, hwt⟩ := f
  obtain ⟨hl, l, hll, ha⟩ := ints_open Tryd.underlying38 Tryd.underlying3 (by kernel_rfl) hf
  refine walk_in ad ln cp l use w (Lib.hid hll) (by omega) (Lib.hid fun i hi => ?_) hg
  rcases ha with h0 | ⟨b, off, rfl, hs, hbl⟩
  · omega
  · exact ⟨b, off, rfl, hbl, hs i (by omega)⟩
theorem own : ownKnob Tryd.prog.godebug = none := by kernel_rfl
theorem laidOut : laidOutB Tryd.prog = true := by kernel_rfl
set_option maxRecDepth 100000 in
theorem contract (H : Type) (enc : TypeId × Value → H) (W : World) (base : Nat) (args : Array Value) (ds gs : List (DataW H)) (before : List MemPlace)
    (hval0 : ∀ (j : Nat) t v, Tryd.f5.params[j]? = some t → args[j]? = some v → Value.okWide Tryd.prog W .any base t v)
    (hW : DataW.Whole enc Tryd.prog Tryd.f5.params.toList Rows.scopeIndexSpec.vars false W args.toList ds gs before)
    (hsz0 : (DataW.weightsEach Tryd.prog (Tryd.f5.params.toList ++ Rows.scopeIndexSpec.plain.varTypes Tryd.prog) (ds ++ gs)).all (· ≤ reachBytes) = true)
    (hL : laidMetH Tryd.prog Rows.scopeIndexRow.laid W)
    : Calls Tryd.prog 5 args W fun e W' => ∃ v, e = .returned v ∧ Rows.scopeIndexSpec.post enc Tryd.prog Tryd.f5 false true false false W args v W' := by
  have hval : ∀ (j : Nat) t v, Tryd.f5.params[j]? = some t → args[j]? = some v → Value.okWide Tryd.prog W .any base t v := hval0
  have hsz : (DataW.weightsEach Tryd.prog (Tryd.f5.params.toList ++ Rows.scopeIndexSpec.plain.varTypes Tryd.prog) (ds ++ gs)).all (· ≤ reachBytes) = true := hsz0
  have hW' := hW
  obtain ⟨p, q, hA0, hV, rfl, hfz, hnd⟩ := hW
  have hA : DataW.TrodAll enc Tryd.prog W 0 (fun _ => true) true Tryd.f5.params.toList args.toList ds p := hA0
  rw [Tryd.params5] at hA hval hsz
  obtain ⟨v0, vs0, d0, ds0, p0, q0, hargs, rfl, rfl, h0, r0⟩ := trodAll_cons hA
  obtain ⟨v1, vs1, d1, ds1, p1, q1, rfl, rfl, rfl, h1, r1⟩ := trodAll_cons r0
  obtain ⟨rfl, rfl, rfl⟩ := trodAll_nil r1
  obtain rfl : args = #[v0, v1] := by cases args; simp_all
  obtain ⟨rfl, rfl⟩ := trodVars_none hV
  have k0 := h0
  have lt0 : ∀ x ∈ p0, x.block < W.heap.size := by obtain ⟨m, hm⟩ := k0; exact DataW.trod_lt m _ _ _ hm
  obtain ⟨a0, n0, c0, rfl⟩ := okWide_slice Tryd.underlying38 (hval 0 38 v0 rfl rfl)
  have f0 : ∃ fuel y, DataW.trod enc Tryd.prog W 0 (fun _ => true) true fuel 38 [.slice a0 n0 c0] = some y ∧ ∀ x ∈ DataW.weights Tryd.prog 38 y.1, x ≤ reachBytes := by obtain ⟨fu, hf⟩ := h0; exact ⟨fu, _, by simpa [Value.cells] using hf, sized_of hsz (j := 0) (t := 38) rfl rfl⟩
  have k1 := h1
  have lt1 : ∀ x ∈ p1, x.block < W.heap.size := by obtain ⟨m, hm⟩ := k1; exact DataW.trod_lt m _ _ _ hm
  obtain ⟨a1, rfl, rfl, rfl, m1⟩ := open_int Tryd.underlying3 (hval 1 3 v1 rfl rfl) h1
  clear hA0 hval0
  refine (walk a0 n0 c0 a1 W f0 (bd_i64 m1) (tabs hL)).mono fun e W' ⟨he, bel⟩ => ?_
  subst he
  exact ⟨_, rfl, _, _, _, [], _, [], hW', trodAll_mk1 (shut_bool Tryd.underlying4 _), (trodAll_cons_mk (Below.trod laidOut (by kernel_rfl) (of_decide_eq_true (by kernel_rfl)) k0 bel lt0) (trodAll_cons_mk (Below.trod laidOut (by kernel_rfl) (of_decide_eq_true (by kernel_rfl)) k1 bel lt1) trodAll_mk0)), rfl, bel.frame _, fun h => by cases h⟩
theorem laid_met (os : Os) : laidMetH Tryd.prog Rows.scopeIndexRow.laid ((handleWorld os).forCall (fun _ _ => 0) ⟨#[], #[.slice none 0 0, .int .i64 0], []⟩).memory := laidMetH_of_parts (laidMet_nil _ _) (by kernel_rfl)
theorem reads (os : Os) {H : Type} (enc : TypeId × Value → H) : ∃ places, DataW.whole enc Tryd.prog ((handleWorld os).forCall (fun _ _ => 0) ⟨#[], #[.slice none 0 0, .int .i64 0], []⟩).memory Tryd.f5.params.toList Rows.scopeIndexSpec.vars false #[(.slice none 0 0 : Value), (.int .i64 0 : Value)].toList 8 = some ([.nil, .lit (.int .i64 0)], [], places) := ⟨[], by kernel_rfl⟩
set_option maxRecDepth 100000 in
theorem lifted (os : Os) (started : os.Started) (H : Type) (enc : TypeId × Value → H) (F : Stop.Interp) :
    ReturnsInHanded {} Tryd.checked os 5 .any ((OpenSpec.ofChange Rows.scopeIndexSpec).preRow enc Tryd.prog Tryd.f5 Rows.scopeIndexRow.domain false Rows.scopeIndexRow.laid) (((OpenSpec.ofChange Rows.scopeIndexSpec).at F).post enc Tryd.prog Tryd.f5 false true false false) := by
  obtain ⟨places, hx⟩ := reads os enc
  refine returnsInHanded_of_row (C := Tryd.checked) (s := (OpenSpec.ofChange Rows.scopeIndexSpec)) own started (by kernel_rfl) Tryd.func5
    (witness_row_at (enc := enc) (C := Tryd.checked) false (handleWorld os) #[.slice none 0 0, .int .i64 0] rfl (by kernel_rfl) (by kernel_rfl) (by kernel_rfl)
      (OpenSpec.preRow_of_cond 8 hx (by kernel_rfl) (fun k hk => by cases hk) (by kernel_rfl) (laid_met os))) ?_
  intro W base args ds gs before hval hW _ hcnd hsz hL _ _
  exact contract H enc W base args ds gs before hval hW hsz  hL
theorem said : Rows.ScopeIndexSaid :=
  OpenClaim.holds_of_cond 5 Tryd.f5 rfl rfl rfl rfl rfl rfl rfl ⟨rfl, rfl, rfl, rfl, rfl⟩ rfl rfl rfl rfl rfl (by kernel_rfl) Tryd.func5 (by kernel_rfl)
    (of_decide_eq_true (by kernel_rfl)) (by unfold Func.isWrapper; first | (rw [if_pos (by decide +kernel)]; kernel_rfl) | (rw [if_neg (by decide +kernel)]; exact ⟨rfl, rfl⟩))
    (fun os started H enc _ F => by rw [OpenClaim.pre_eq_preRow]; exact lifted os started H enc F)
theorem plain (f : FuncId) (fn : Func) (hf : Tryd.pinned.checked.prog.funcNamed "trammel/trammellaw6.ScopeIndex" = some f) (hfn : Tryd.pinned.checked.prog.funcs[f]? = some fn) :
    true = Tryd.pinned.checked.prog.looks [] ∧ ∀ (j : Nat) t, fn.params[j]? = some t → Tryd.pinned.checked.prog.wantsStandIn t = false := by
  obtain rfl : f = 5 := Option.some.inj ((show Tryd.prog.funcNamed "trammel/trammellaw6.ScopeIndex" = some 5 by kernel_rfl).symm.trans hf) |>.symm
  obtain rfl : fn = Tryd.f5 := (Option.some.inj (Tryd.func5.symm.trans hfn)).symm
  refine ⟨by kernel_rfl, fun j t ht => ?_⟩
  rw [Tryd.params5] at ht
  have hm := Array.mem_of_getElem? ht
  have hm2 : t ∈ ([38, 3] : List Nat) := by simpa using hm
  simp only [List.mem_cons, List.not_mem_nil, or_false] at hm2
  rcases hm2 with rfl | rfl
  · exact (show Tryd.prog.wantsStandIn 38 = false by kernel_rfl)
  · exact (show Tryd.prog.wantsStandIn 3 = false by kernel_rfl)
theorem proved : Rows.ScopeIndexCardSaid :=
  Claim7.holds_tied_plain_at .later [] _ _ _ _ said (fun _ h => by cases h) (by kernel_rfl) (fun _ h => by cases h) scopeIndex_row_tie rfl ⟨rfl, rfl⟩ (by kernel_rfl) rfl plain (by kernel_rfl)
end Go.Proofs.YtfajbkpeioejoaaDoor.scopeIndex
