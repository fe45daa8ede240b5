/- SchemeOwn holds for every type, numbers, types and rows. No condition. -/
import Derived.Test.YtjhmdobmbajcgaaRows
import Derived.WalkKit
import Derived.ProofKit
import Derived.OpenShut
import Derived.ShutString
import Derived.ChangeOld
import Derived.Below
import Derived.SizedLaws
import Derived.Carry
import Derived.Lib.SmallJoins
import Derived.Test.YtjhmdobmbajcgaaTkE
import Derived.Test.YtjhmdobmbajcgaaSoP
import Derived.Test.YtjhmdobmbajcgaaRoA
import Derived.Deep.RegionHeld3
namespace Go.Proofs.Ytjhmdobmbajcgaa.schemeOwn
open Go.ChangeShapes Go.WideShapes Go.ChangeAt Go.RowKit
open Go.ChangeMaps (open_string shut_string)
set_option linter.unusedVariables false
set_option linter.unusedSimpArgs false

def rwsL (L : List Int) (j : Nat) : List Rw := (L.take j).map fun v => ⟨0, 0, 0, 0, v⟩
theorem rwsL_len {L : List Int} {j : Nat} (h : j ≤ L.length) : (rwsL L j).length = j := by unfold rwsL; rw [List.length_map, List.length_take]; omega
theorem rwsL_succ {L : List Int} {j : Nat} (h : j < L.length) : rwsL L (j + 1) = rwsL L j ++ [⟨0, 0, 0, 0, L.getD j 0⟩] := by
  unfold rwsL
  rw [List.take_succ_eq_append_getElem h, List.map_append, List.getD_eq_getElem?_getD, List.getElem?_eq_getElem h]; rfl
theorem rwsL_get {L : List Int} {i : Nat} (h : i < L.length) : (rwsL L L.length).getD i rw0 = ⟨0, 0, 0, 0, L.getD i 0⟩ := by
  unfold rwsL
  rw [List.take_length, List.getD_eq_getElem?_getD, List.getElem?_map, List.getD_eq_getElem?_getD, List.getElem?_eq_getElem h]; rfl
theorem tkT_len (ks : List Int) (xs : List Tp) (ms : List Int) (rs : List Rw) (ts : List Ty) : (tkT ks xs ms rs ts).length ≤ 256 := by
  unfold tkT
  split
  · unfold subT
    split
    · split
      · rename_i h
        rw [fl_len]
        unfold TT.fits at h
        simp only [Bool.and_eq_true, decide_eq_true_eq] at h
        exact h.1
      · simp
    · simp
  · simp
theorem tkE_01 (ks : List Int) (xs : List Tp) (ms : List Int) (rs : List Rw) (ts : List Ty) : tkE ks xs ms rs ts = 0 ∨ tkE ks xs ms rs ts = 1200 := by unfold tkE; split <;> simp
theorem wf_bd {l : List Int} (h : ∀ x ∈ l, 0 ≤ x ∧ x < 4096) : ∀ x ∈ l, (Lit.int .i64 x).wf = true := fun x hx => wf_var (h x hx)
theorem tpTy : (25 : TypeId) ≠ 47 := by decide
theorem rwTy : (28 : TypeId) ≠ 47 := by decide
set_option maxRecDepth 100000 in
set_option maxHeartbeats 8000000 in
theorem walk {H : Type} {enc : TypeId × Value → H} (p0 : Option Addr) (n0 c0 : Nat) (p1 : Option Addr) (n1 c1 : Nat) (p2 : Option Addr) (n2 c2 : Nat) (p4 : Option Addr) (n4 c4 : Nat) (p5 : Option Addr) (n5 c5 : Nat) (w : World)
    (f0 : ∃ fuel y, DataW.trod enc Try.prog w 0 (fun _ => true) true fuel 23 [.slice p0 n0 c0] = some y ∧ ∀ x ∈ DataW.weights Try.prog 23 y.1, x ≤ reachBytes)
    (f1 : ∃ fuel y, DataW.trod enc Try.prog w 0 (fun _ => true) true fuel 54 [.slice p1 n1 c1] = some y ∧ ∀ x ∈ DataW.weights Try.prog 54 y.1, x ≤ reachBytes)
    (f2 : ∃ fuel y, DataW.trod enc Try.prog w 0 (fun _ => true) true fuel 54 [.slice p2 n2 c2] = some y ∧ ∀ x ∈ DataW.weights Try.prog 54 y.1, x ≤ reachBytes)
    (f4 : ∃ fuel y, DataW.trod enc Try.prog w 0 (fun _ => true) true fuel 57 [.slice p4 n4 c4] = some y ∧ ∀ x ∈ DataW.weights Try.prog 57 y.1, x ≤ reachBytes)
    (f5 : ∃ fuel y, DataW.trod enc Try.prog w 0 (fun _ => true) true fuel 58 [.slice p5 n5 c5] = some y ∧ ∀ x ∈ DataW.weights Try.prog 58 y.1, x ≤ reachBytes) :
    Calls Try.prog 8 #[.agg #[.slice p0 n0 c0], .slice p1 n1 c1, .slice p2 n2 c2, .slice p4 n4 c4, .slice p5 n5 c5] w fun e w' => e = .returned (.bool true) ∧ Below w.heap.size w w' := by
  obtain ⟨_, _, t, t'⟩ := f0
  obtain ⟨hl0, ts, hT⟩ := ty_open t t'
  clear t t'
  obtain ⟨_, _, t, t'⟩ := f1
  obtain ⟨hl1, ks, hK, _⟩ := is_open t t'
  clear t t'
  obtain ⟨_, _, t, t'⟩ := f2
  obtain ⟨hl2, ms, hM, _⟩ := is_open t t'
  clear t t'
  obtain ⟨_, _, t, t'⟩ := f4
  obtain ⟨hl4, xs, hX⟩ := tp_open t t'
  clear t t'
  obtain ⟨_, _, t, t'⟩ := f5
  obtain ⟨hl5, rs, hR⟩ := rw_open t t'
  clear t t'
  have hT := Lib.hid hT; have hK := Lib.hid hK; have hM := Lib.hid hM; have hX := Lib.hid hX; have hR := Lib.hid hR
  go_enter Try.func8, Try.ntmps8
  go_wp2_with fail
  refine (awake12_any _).mono ?_
  rintro e w1 ⟨rfl, hb1⟩
  have hX1 : Hid (BoxAt w1 w.heap.size (.slice p0 n0 c0)) := Lib.hid (BoxAt.below (by exact box_lit _ _ _ _ rfl) hb1)
  have hT1 := Lib.hid ((hT.out.alloc _).below hb1)
  have hK1 := Lib.hid ((hK.out.alloc _).below hb1)
  have hM1 := Lib.hid ((hM.out.alloc _).below hb1)
  have hB1 := Lib.hid (belT (belA _ (Below.refl w.heap.size w)) hb1)
  clear hb1
  obtain ⟨x0, x1⟩ := hX1.out
  go_wp2_with fail
  clear x0 x1
  refine (close_any p0 p1 p2 n0 c0 n1 c1 n2 c2 ts ks ms _ hT1 hK1 hM1 (by omega) (by omega) (by omega)).mono ?_
  rintro e w2 hp
  unfold CloPost at hp
  cases htv : tyV ts
  · rw [htv, if_neg (by decide)] at hp
    obtain ⟨rfl, hb2⟩ := hp
    have hB2 := Lib.hid (belT hB1.out hb2)
    clear hb2 htv
    go_wp2_with ((go_at_call 19; refine (num_any _ _ (by omega) (by omega)).mono ?_; rintro e w' ⟨rfl, rfl⟩))
    go_ret
    exact ⟨rfl, belA _ hB2.out⟩
  · rw [htv, if_pos rfl] at hp
    obtain ⟨v1, v2, v3, rfl, hv1, hv2, hv3, _, hb2⟩ := hp
    obtain ⟨a1, m1, d1, rfl⟩ := ownI_sl hv1
    obtain ⟨a2, m2, d2, rfl⟩ := ownI_sl hv2
    obtain ⟨a3, m3, d3, rfl⟩ := ownT_sl hv3
    have hto := tyV_of htv
    have t1 := tvs_len (treeOf ts) []
    have t2 := rvs_len (treeOf ts) []
    have hsz := hto.2.2.2.1
    have w1l := woI_len (tvs (treeOf ts) []) ks
    have w2l := woI_len (rvs (treeOf ts) []) ms
    simp only [List.length_nil] at t1 t2
    have hI1 := hv1.arg
    have hI2 := hv2.arg
    have hI3 := hv3.arg
    have hq1 : (woI (tvs (treeOf ts) []) ks).length ≤ 256 := by omega
    have hq2 : (woI (rvs (treeOf ts) []) ms).length ≤ 256 := by omega
    have bd1 : ∀ x ∈ woI (tvs (treeOf ts) []) ks, 0 ≤ x ∧ x < 4096 := fun x hx => tvs_bd (treeOf ts) hto.1 (fun _ h => by cases h) x (woI_sub x hx)
    have bd2 : ∀ x ∈ woI (rvs (treeOf ts) []) ms, 0 ≤ x ∧ x < 4096 := fun x hx => rvs_bd (treeOf ts) hto.1 (fun _ h => by cases h) x (woI_sub x hx)
    have ds1 : dsI (woI (tvs (treeOf ts) []) ks) = true := dsI_of (by omega) bd1 (woI_nodup (tvs_nodup _ List.nodup_nil))
    have ds2 : dsI (woI (rvs (treeOf ts) []) ms) = true := dsI_of (by omega) bd2 (woI_nodup (rvs_nodup _ List.nodup_nil))
    have hown := Lib.hid fun (xs : List Tp) (rs : List Rw) => so_own (xs := xs) (rs := rs) htv ds1 ds2 (by omega) bd1 bd2
    have hinst := Lib.hid fun (xs : List Tp) (rs : List Rw) => so_inst (ks := woI (tvs (treeOf ts) []) ks) (ms := woI (rvs (treeOf ts) []) ms) (xs := xs) (rs := rs) htv
    have hn0 := hT.out.1
    have hne : ts.length ≤ 256 := (tyV_le htv).2
    clear ds1 ds2 hto t1 t2 hsz w1l w2l htv hv1 hv2 hv3
    generalize woI (tvs (treeOf ts) []) ks = L1 at hI1 hq1 bd1 hown hinst
    generalize woI (rvs (treeOf ts) []) ms = L2 at hI2 hq2 bd2 hown hinst
    have hm1 : m1 = L1.length := hI1.1
    have hm2 : m2 = L2.length := hI2.1
    have hm3 : m3 = ts.length := hI3.1
    subst hm1 hm2 hm3 hn0
    have hwf1 := Lib.hid (wf_bd bd1)
    have hwf2 := Lib.hid (wf_bd bd2)
    have bd1 := Lib.hid bd1
    have bd2 := Lib.hid bd2
    have hA1 := Lib.hid ((hX1.out.below hb2).alloc (.cells #[.slice a1 L1.length d1, .slice a2 L2.length d2, .slice a3 ts.length d3] 56))
    have hA2 := Lib.hid ((hT1.out.below hb2).alloc (.cells #[.slice a1 L1.length d1, .slice a2 L2.length d2, .slice a3 ts.length d3] 56))
    have hA3 := Lib.hid (sc_lit w2 56 w2.heap.size (.slice a1 L1.length d1) (.slice a2 L2.length d2) (.slice a3 ts.length d3) rfl)
    have hA4 := Lib.hid (hI1.alloc (.cells #[.slice a1 L1.length d1, .slice a2 L2.length d2, .slice a3 ts.length d3] 56))
    have hA5 := Lib.hid (hI2.alloc (.cells #[.slice a1 L1.length d1, .slice a2 L2.length d2, .slice a3 ts.length d3] 56))
    have hA6 := Lib.hid (hI3.alloc (.cells #[.slice a1 L1.length d1, .slice a2 L2.length d2, .slice a3 ts.length d3] 56))
    have hA7 := Lib.hid (belA (.cells #[.slice a1 L1.length d1, .slice a2 L2.length d2, .slice a3 ts.length d3] 56) (belT hB1.out hb2))
    clear hI1 hI2 hI3 hb2 hB1 hX1 hT1 hK1 hM1 hK hM
    go_wp2_with ((go_at_call 19; refine (num_any _ _ (by omega) (by omega)).mono ?_; rintro e w' ⟨rfl, rfl⟩))
    generalize hW : w2.alloc (.cells #[.slice a1 L1.length d1, .slice a2 L2.length d2, .slice a3 ts.length d3] 56) = Y at hA1 hA2 hA3 hA4 hA5 hA6 hA7 ⊢
    clear hW
    generalize w2.heap.size = G at hA3 ⊢
    go_loopw [13, 15] (fun own i wr => ∃ (j : Nat) (ys : List Tp), j ≤ L1.length ∧ i = .int .i64 j ∧ ys.length = j ∧ Hid (Below Y.heap.size Y wr) ∧ Hid (OwnP Y.heap.size wr own ys) ∧ Hid (VrsAt wr ys L1)) (fun _ i _ => L1.length - (intOf i).toNat)
    case atStart => exact ⟨0, [], by omega, rfl, rfl, Lib.hid (Below.refl _ _), Lib.hid (own_none _ _ _ _), Lib.hid (fun i hi => by simp at hi)⟩
    case round =>
      obtain ⟨j, ys, hj, rfl, hyl, hB, hO, hV⟩ := hrel
      obtain ⟨g0, g1, g2, g3⟩ := hA3.out.below hB.out
      by_cases hlt : j < L1.length
      · obtain ⟨b, off, rfl, hs, hbb⟩ := isArg_at (hA4.out.below hB.out).2 hlt
        have hc := hs j hlt
        have hbd := bd1.out _ (getI_mem hlt)
        obtain ⟨x, hx⟩ : ∃ x, L1.getD j 0 = x := ⟨_, rfl⟩
        rw [hx] at hc hbd
        have hx := Lib.hid hx
        have hlt' : (j : Int) < (L1.length : Int) := by omega
        have hj0 : (0 : Int) ≤ (j : Int) := by omega
        have hyl' := Lib.hid hyl
        clear hs hyl
        go_wp2_with (at_builtin; refine op_one rfl 57 25 (.agg #[.slice none 0 0]) 1 24 Try.underlying57 infoTp rfl (by decide) (.tmp 45) (.tmp 54) _ (wr.alloc (.cells #[.int .i64 2, .int .i64 x, .int .i64 0, .int .i64 0, .int .i64 0, .int .i64 0, .int .i64 0, .int .i64 0, .int .i64 0] 47)) Y.heap.size (by have := hB.out.size; simp; omega) (Below.refl _ _) _ ys.length (tpL ys) [.slice (some ⟨wr.heap.size, 0, none⟩) 1 1] _ rfl rfl _ (by simp) rfl rfl rfl (by intro u hu; simp at hu; subst hu; rfl) (World.ownsRow.alloc hO.out _) (by have := hyl'.out; omega) (by have := hyl'.out; unfold maxLen; omega) ?_)
        intro v' w4 hO4 hBar
        have hVr : VrAt (wr.alloc (.cells #[.int .i64 2, .int .i64 x, .int .i64 0, .int .i64 0, .int .i64 0, .int .i64 0, .int .i64 0, .int .i64 0, .int .i64 0] 47)) wr.heap.size x := alloc_last _ _
        have hOz : (wr.alloc (.cells #[.int .i64 2, .int .i64 x, .int .i64 0, .int .i64 0, .int .i64 0, .int .i64 0, .int .i64 0, .int .i64 0, .int .i64 0] 47)).ownsRow Y.heap.size 25 1 _ ys.length (tpL ys) := World.ownsRow.alloc hO.out _
        have hB4 := Lib.hid (show Below Y.heap.size Y w4 from (belA _ hB.out).trans (hBar.below (by have := hB.out.size; simp; omega) fun k hk => (hOz.lt k hk).1))
        have hV4 := Lib.hid (show VrsAt w4 (ys ++ [⟨some ⟨wr.heap.size, 0, none⟩, 1, 1, [vrT (L1.getD ys.length 0)]⟩]) L1 from
          VrsAt.snoc ((hV.out.below (below_alc _ _)).bar hBar fun g v hg => hg.ne hOz tpTy) (by rw [hyl'.out, hx.out]; exact hVr.bar hBar (hVr.ne hOz tpTy)))
        have hO4 := Lib.hid (show OwnP Y.heap.size w4 v' (ys ++ [⟨some ⟨wr.heap.size, 0, none⟩, 1, 1, [vrT (L1.getD ys.length 0)]⟩]) from by unfold OwnP; rw [tpL_app, List.length_append]; exact hO4)
        clear hBar hVr hOz
        go_wp2_with fail
        go_roundw
        case rel => exact ⟨j + 1, _, by omega, by go_num, by rw [List.length_append, hyl'.out]; rfl, hB4, hO4, hV4⟩
        case measure => simp [intOf]; omega
      · have hje : j = L1.length := by omega
        subst hje
        obtain ⟨pa, pc, rfl⟩ := own_sl hO.out
        have hP1 := hO.out.arg hV.out.ok
        have hY1 : Hid (∀ i, i < L1.length → (ys.getD i tp0).ns = [vrT (L1.getD i 0)]) := Lib.hid fun i hi => by
          obtain ⟨g, h1, _⟩ := hV.out i (by omega)
          rw [h1]
        clear hO hV hj
        rw [hyl] at hP1 ⊢
        have hyl2 := Lib.hid hyl
        clear hyl
        have hP1 := Lib.hid hP1
        have hA1 := Lib.hid (hA1.out.below hB.out)
        have hA2 := Lib.hid (hA2.out.below hB.out)
        have hA3 := Lib.hid (hA3.out.below hB.out)
        have hA4 := Lib.hid (hA4.out.below hB.out)
        have hA5 := Lib.hid (hA5.out.below hB.out)
        have hA6 := Lib.hid (hA6.out.below hB.out)
        have hA7 := Lib.hid (belT hA7.out hB.out)
        clear hB
        rename World => Z
        go_wp2_with fail
        clear g0 g1 g2 g3
        go_loopw [14, 16] (fun own i wr => ∃ j : Nat, j ≤ L2.length ∧ i = .int .i64 j ∧ Hid (Below Z.heap.size Z wr) ∧ Hid (OwnR Z.heap.size wr own (rwsL L2 j))) (fun _ i _ => L2.length - (intOf i).toNat)
        case atStart => exact ⟨0, by omega, rfl, Lib.hid (Below.refl _ _), Lib.hid (own_none _ _ _ _)⟩
        case round =>
          obtain ⟨j, hj, rfl, hB, hO⟩ := hrel
          obtain ⟨g0, g1, g2, g3⟩ := hA3.out.below hB.out
          have hrl := Lib.hid (rwsL_len hj)
          by_cases hlt : j < L2.length
          · obtain ⟨b, off, rfl, hs, hbb⟩ := isArg_at (hA5.out.below hB.out).2 hlt
            have hc := hs j hlt
            have hsu := Lib.hid (rwsL_succ hlt)
            obtain ⟨x, hx⟩ : ∃ x, L2.getD j 0 = x := ⟨_, rfl⟩
            rw [hx] at hc hsu
            have hlt' : (j : Int) < (L2.length : Int) := by omega
            have hj0 : (0 : Int) ≤ (j : Int) := by omega
            obtain ⟨R, hR⟩ : ∃ R, rwsL L2 j = R := ⟨_, rfl⟩
            rw [hR] at hrl hsu hO
            clear hs hx hR
            go_wp2_with (at_builtin; refine op_one rfl 58 28 (.agg #[.int .i64 0, .int .i64 0, .int .i64 0, .int .i64 0, .int .i64 0]) 5 40 Try.underlying58 infoRw rfl (by decide) (.tmp 63) (.tmp 70) _ wr Z.heap.size (by have := hB.out.size; omega) (Below.refl _ _) _ R.length (rwL R) [.int .i64 0, .int .i64 0, .int .i64 0, .int .i64 0, .int .i64 x] _ rfl rfl _ (by simp) rfl rfl rfl (by intro u hu; simp at hu; rcases hu with rfl | rfl <;> rfl) hO.out (by have := hrl.out; omega) (by have := hrl.out; unfold maxLen; omega) ?_)
            intro v' w4 hO4 hBar
            have hB4 := Lib.hid (hB.out.trans (hBar.below (by have := hB.out.size; omega) fun k hk => (World.ownsRow.lt hO.out k hk).1))
            have hO4 := Lib.hid (show OwnR Z.heap.size w4 v' (rwsL L2 (j + 1)) from by rw [hsu.out]; unfold OwnR; rw [rwL_app, List.length_append]; exact hO4)
            clear hBar
            go_wp2_with fail
            go_roundw
            case rel => exact ⟨j + 1, by omega, by go_num, hB4, hO4⟩
            case measure => simp [intOf]; omega
          · have hje : j = L2.length := by omega
            subst hje
            obtain ⟨ra, rc, hre⟩ := own_sl hO.out
            subst hre
            have hP2 := Lib.hid hO.out.arg
            have hrn : (rwsL L2 L2.length).length = L2.length := hrl.out
            rw [hrn] at hP2 ⊢
            rw [hrn] at hO
            have hP1 := Lib.hid (hP1.out.below hB.out)
            have hA1 := Lib.hid (hA1.out.below hB.out)
            have hA2 := Lib.hid (hA2.out.below hB.out)
            have hA3 := Lib.hid (hA3.out.below hB.out)
            have hA4 := Lib.hid (hA4.out.below hB.out)
            have hA5 := Lib.hid (hA5.out.below hB.out)
            have hA6 := Lib.hid (hA6.out.below hB.out)
            have hA7 := Lib.hid (belT hA7.out hB.out)
            have hown := Lib.hid (hown.out ys (rwsL L2 L2.length) hyl2.out hY1.out hrl.out fun i hi => rwsL_get hi)
            clear hB hO hrl hj hY1
            generalize rwsL L2 L2.length = RS at hP2 hown
            obtain ⟨g0, g1, g2, g3⟩ := hA3.out
            go_wp2_with fail
            clear g0 g1 g2 g3
            refine (take2_any _ _ _ _ _ _ _ _ _ _ _ _ _ _ _ L1 L2 ts ys RS _ hA4 hA5 hA6 hP1 hP2 hwf1 hwf2 (by omega) (by omega) (by omega) (by omega) (by omega)).mono ?_
            rintro e w5 ⟨v5, rfl, hv5, hb5⟩
            rw [hown.out.1] at hv5
            rw [hown.out.2]
            obtain ⟨a5, n5', d5, rfl⟩ := ownT_sl hv5
            have hA1 := Lib.hid ((hA1.out.below hb5).alloc (.cells #[.slice a5 n5' d5] 25))
            have hA2 := Lib.hid ((hA2.out.below hb5).alloc (.cells #[.slice a5 n5' d5] 25))
            have hA3 := Lib.hid ((hA3.out.below hb5).alloc (.cells #[.slice a5 n5' d5] 25))
            have hA4 := Lib.hid ((hA4.out.below hb5).alloc (.cells #[.slice a5 n5' d5] 25))
            have hA5 := Lib.hid ((hA5.out.below hb5).alloc (.cells #[.slice a5 n5' d5] 25))
            have hA6 := Lib.hid ((hA6.out.below hb5).alloc (.cells #[.slice a5 n5' d5] 25))
            have hA8 := Lib.hid (box_lit w5 25 w5.heap.size (.slice a5 n5' d5) rfl)
            have hA9 := Lib.hid (hv5.arg.alloc (.cells #[.slice a5 n5' d5] 25))
            have hA7 := Lib.hid (belA (.cells #[.slice a5 n5' d5] 25) (belT hA7.out hb5))
            clear hb5 hv5 hP1 hP2 hown
            obtain ⟨g0, g1, g2, g3⟩ := hA3.out
            go_wp2_with fail
            clear g0 g1 g2 g3
            refine (take2_any _ _ _ _ _ _ _ _ _ _ _ _ _ _ _ L1 L2 ts xs rs _ hA4 hA5 hA6 (Lib.hid (hX.out.below hA7.out)) (Lib.hid (hR.out.below hA7.out)) hwf1 hwf2 (by omega) (by omega) (by omega) (by omega) (by omega)).mono ?_
            rintro e w6 ⟨v6, rfl, hv6, hb6⟩
            obtain ⟨a6, n6, d6, rfl⟩ := ownT_sl hv6
            have h6l : n6 ≤ 256 := by have := hv6.arg.1; have := tkT_len L1 xs L2 rs ts; omega
            have hA1 := Lib.hid ((hA1.out.below hb6).alloc (.cells #[.slice a6 n6 d6] 25))
            have hA2 := Lib.hid ((hA2.out.below hb6).alloc (.cells #[.slice a6 n6 d6] 25))
            have hA8 := Lib.hid ((hA8.out.below hb6).alloc (.cells #[.slice a6 n6 d6] 25))
            have hA9 := Lib.hid ((hA9.out.below hb6).alloc (.cells #[.slice a6 n6 d6] 25))
            have hC1 := Lib.hid (box_lit w6 25 w6.heap.size (.slice a6 n6 d6) rfl)
            have hC2 := Lib.hid (hv6.arg.alloc (.cells #[.slice a6 n6 d6] 25))
            have hA7 := Lib.hid (belA (.cells #[.slice a6 n6 d6] 25) (belT hA7.out hb6))
            have hE := tkE_01 L1 xs L2 rs ts
            have hinst := Lib.hid (hinst.out xs rs)
            generalize tkE L1 xs L2 rs ts = E at hE hinst ⊢
            generalize tkT L1 xs L2 rs ts = L at hC2 hinst
            have h5l : n5' ≤ 256 := by have := hA9.out.1; omega
            clear hb6 hv6 hA3 hA4 hA5 hA6
            obtain ⟨x0, x1⟩ := hA1.out
            obtain ⟨y0, y1⟩ := hA8.out
            go_wp2_with ((go_at_call 19; refine (num_any _ _ (by omega) (by omega)).mono ?_; rintro e w' ⟨rfl, rfl⟩))
            clear x0 x1 y0 y1
            refine (sameType_any a5 p0 n5' ts.length d5 c0 ts ts _ hA9 hA2 (by omega)).mono ?_
            rintro e w7 ⟨rfl, hb7⟩
            rw [decide_eq_true rfl]
            have hA1 := Lib.hid (hA1.out.below hb7)
            have hA2 := Lib.hid (hA2.out.below hb7)
            have hC1 := Lib.hid (hC1.out.below hb7)
            have hC2 := Lib.hid (hC2.out.below hb7)
            have hA7 := Lib.hid (belT hA7.out hb7)
            clear hb7 hA8 hA9
            rcases hE with rfl | rfl
            · obtain ⟨hi1, hi2⟩ := hinst.out rfl
              obtain ⟨x0, x1⟩ := hA1.out
              obtain ⟨y0, y1⟩ := hC1.out
              have hi1 := Lib.hid hi1
              have hi2 := Lib.hid hi2
              go_wp2_with ((go_at_call 19; refine (num_any _ _ (by omega) (by omega)).mono ?_; rintro e w' ⟨rfl, rfl⟩))
              clear x0 x1 y0 y1
              refine (instance_any p0 a6 ts.length n6 c0 d6 ts L _ hA2 hC2 (by omega) (by omega)).mono ?_
              rintro e w8 ⟨rfl, hb8⟩
              rw [hi1.out, hi2.out]
              have hA7 := Lib.hid (belT hA7.out hb8)
              clear hb8
              go_wp2_with ((go_at_call 19; refine (num_any _ _ (by omega) (by omega)).mono ?_; rintro e w' ⟨rfl, rfl⟩))
              go_ret
              exact ⟨rfl, hA7.out⟩
            · go_wp2_with ((go_at_call 19; refine (num_any _ _ (by omega) (by omega)).mono ?_; rintro e w' ⟨rfl, rfl⟩))
              go_ret
              exact ⟨rfl, hA7.out⟩
theorem own : ownKnob Try.prog.godebug = none := by kernel_rfl
theorem laidOut : laidOutB Try.prog = true := by kernel_rfl
set_option maxRecDepth 100000 in
theorem lifted (os : Os) (started : os.Started) (H : Type) (enc : TypeId × Value → H) :
    ReturnsInHanded {} Try.checked os 8 .any (Rows.schemeOwnSpec.pre6 enc Try.prog Try.f8 Rows.schemeOwnRow.domain false) (Rows.schemeOwnSpec.post enc Try.prog Try.f8 false true false false) := by
  refine returnsInHanded_of_change_sized (C := Try.checked) own started (by kernel_rfl) Try.func8
    (ChangeSpec.witness6 (enc := enc) (C := Try.checked) false ⟨#[], #[.agg #[.slice none 0 0], .slice none 0 0, .slice none 0 0, .slice none 0 0, .slice none 0 0], []⟩ 8 (by kernel_rfl) (by kernel_rfl) (by kernel_rfl) (by kernel_rfl)) ?_
  intro W base args ds gs before hval0 hW hcnd hsz0 _
  have hval : ∀ (j : Nat) t v, Try.f8.params[j]? = some t → args[j]? = some v → Value.okWide Try.prog W .any base t v := hval0
  have hsz : (DataW.weightsEach Try.prog (Try.f8.params.toList ++ Rows.schemeOwnSpec.plain.varTypes Try.prog) (ds ++ gs)).all (· ≤ reachBytes) = true := hsz0
  have hW' := hW
  obtain ⟨p, q, hA0, hV, rfl, hfz, hnd⟩ := hW
  have hA : DataW.TrodAll enc Try.prog W 0 (fun _ => true) true Try.f8.params.toList args.toList ds p := hA0
  rw [Try.params8] at hA hval hsz
  obtain ⟨v0, vs0, d0, ds0, p0, q0, hargs, rfl, rfl, h0, r0⟩ := trodAll_cons hA
  obtain ⟨v1, vs1, d1, ds1, p1, q1, rfl, rfl, rfl, h1, r1⟩ := trodAll_cons r0
  obtain ⟨v2, vs2, d2, ds2, p2, q2, rfl, rfl, rfl, h2, r2⟩ := trodAll_cons r1
  obtain ⟨v3, vs3, d3, ds3, p3, q3, rfl, rfl, rfl, h3, r3⟩ := trodAll_cons r2
  obtain ⟨v4, vs4, d4, ds4, p4, q4, rfl, rfl, rfl, h4, r4⟩ := trodAll_cons r3
  obtain ⟨rfl, rfl, rfl⟩ := trodAll_nil r4
  obtain rfl : args = #[v0, v1, v2, v3, v4] := by cases args; simp_all
  obtain ⟨rfl, rfl⟩ := trodVars_none hV
  have k0 := h0
  have lt0 : ∀ x ∈ p0, x.block < W.heap.size := by obtain ⟨m, hm⟩ := k0; exact DataW.trod_lt m _ _ _ hm
  obtain ⟨cs0, rfl, fit0⟩ := open_struct Try.underlying25 (f := 6) (by kernel_rfl : flat Try.prog 6 25 = some [.sl 23]) (hval 0 25 v0 rfl rfl) h0 (sized_of hsz (j := 0) (t := 25) rfl rfl)
  obtain ⟨_, cr0, rfl, ⟨a0, n0, c0, fu0, y0, rfl, f0, g0⟩, fitb0⟩ := fit_i fit0
  obtain rfl := fit_nil fitb0
  obtain ⟨a1, n1, c1, rfl⟩ := okWide_slice Try.underlying54 (hval 1 54 v1 rfl rfl)
  have k1 := h1
  have lt1 : ∀ x ∈ p1, x.block < W.heap.size := by obtain ⟨m, hm⟩ := k1; exact DataW.trod_lt m _ _ _ hm
  have f1 : ∃ fuel y, DataW.trod enc Try.prog W 0 (fun _ => true) true fuel 54 [.slice a1 n1 c1] = some y ∧ ∀ x ∈ DataW.weights Try.prog 54 y.1, x ≤ reachBytes := by obtain ⟨fu, hf⟩ := h1; exact ⟨fu, _, by simpa [Value.cells] using hf, sized_of hsz (j := 1) (t := 54) rfl rfl⟩
  obtain ⟨a2, n2, c2, rfl⟩ := okWide_slice Try.underlying54 (hval 2 54 v2 rfl rfl)
  have k2 := h2
  have lt2 : ∀ x ∈ p2, x.block < W.heap.size := by obtain ⟨m, hm⟩ := k2; exact DataW.trod_lt m _ _ _ hm
  have f2 : ∃ fuel y, DataW.trod enc Try.prog W 0 (fun _ => true) true fuel 54 [.slice a2 n2 c2] = some y ∧ ∀ x ∈ DataW.weights Try.prog 54 y.1, x ≤ reachBytes := by obtain ⟨fu, hf⟩ := h2; exact ⟨fu, _, by simpa [Value.cells] using hf, sized_of hsz (j := 2) (t := 54) rfl rfl⟩
  obtain ⟨a3, n3, c3, rfl⟩ := okWide_slice Try.underlying57 (hval 3 57 v3 rfl rfl)
  have k3 := h3
  have lt3 : ∀ x ∈ p3, x.block < W.heap.size := by obtain ⟨m, hm⟩ := k3; exact DataW.trod_lt m _ _ _ hm
  have f3 : ∃ fuel y, DataW.trod enc Try.prog W 0 (fun _ => true) true fuel 57 [.slice a3 n3 c3] = some y ∧ ∀ x ∈ DataW.weights Try.prog 57 y.1, x ≤ reachBytes := by obtain ⟨fu, hf⟩ := h3; exact ⟨fu, _, by simpa [Value.cells] using hf, sized_of hsz (j := 3) (t := 57) rfl rfl⟩
  obtain ⟨a4, n4, c4, rfl⟩ := okWide_slice Try.underlying58 (hval 4 58 v4 rfl rfl)
  have k4 := h4
  have lt4 : ∀ x ∈ p4, x.block < W.heap.size := by obtain ⟨m, hm⟩ := k4; exact DataW.trod_lt m _ _ _ hm
  have f4 : ∃ fuel y, DataW.trod enc Try.prog W 0 (fun _ => true) true fuel 58 [.slice a4 n4 c4] = some y ∧ ∀ x ∈ DataW.weights Try.prog 58 y.1, x ≤ reachBytes := by obtain ⟨fu, hf⟩ := h4; exact ⟨fu, _, by simpa [Value.cells] using hf, sized_of hsz (j := 4) (t := 58) rfl rfl⟩
  clear hA0 hval0
  refine (walk a0 n0 c0 a1 n1 c1 a2 n2 c2 a3 n3 c3 a4 n4 c4 W ⟨_, _, f0, g0⟩ f1 f2 f3 f4).mono fun e W' ⟨he, bel⟩ => ?_
  subst he
  exact ⟨_, rfl, _, _, _, [], _, [], hW', trodAll_mk1 (shut_bool Try.underlying4 _), (trodAll_cons_mk (Below.trod laidOut (by kernel_rfl) (of_decide_eq_true (by kernel_rfl)) k0 bel lt0) (trodAll_cons_mk (Below.trod laidOut (by kernel_rfl) (of_decide_eq_true (by kernel_rfl)) k1 bel lt1) (trodAll_cons_mk (Below.trod laidOut (by kernel_rfl) (of_decide_eq_true (by kernel_rfl)) k2 bel lt2) (trodAll_cons_mk (Below.trod laidOut (by kernel_rfl) (of_decide_eq_true (by kernel_rfl)) k3 bel lt3) (trodAll_cons_mk (Below.trod laidOut (by kernel_rfl) (of_decide_eq_true (by kernel_rfl)) k4 bel lt4) trodAll_mk0))))), rfl, bel.frame _, fun h => by cases h⟩
theorem over : Rows.schemeOwnRow.holds Try.pinned (OpenSpec.ofChange Rows.schemeOwnSpec) :=
  OpenClaim.holds_of_wide 8 Try.f8 rfl rfl rfl rfl rfl rfl rfl ⟨rfl, rfl, rfl, rfl, rfl⟩ rfl rfl rfl rfl rfl (by kernel_rfl) Try.func8 (by kernel_rfl)
    (of_decide_eq_true (by kernel_rfl)) (by unfold Func.isWrapper; first | (rw [if_pos (by decide +kernel)]; kernel_rfl) | (rw [if_neg (by decide +kernel)]; exact ⟨rfl, rfl⟩))
    (fun os started H enc _ => lifted os started H enc)
theorem proved : Rows.SchemeOwnSaid := over
end Go.Proofs.Ytjhmdobmbajcgaa.schemeOwn
