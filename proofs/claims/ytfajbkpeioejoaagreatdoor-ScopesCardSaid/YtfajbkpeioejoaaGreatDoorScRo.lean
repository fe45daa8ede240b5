/- The reference's ScopeMay. -/
import Derived.Test.YtfajbkpeioejoaaGreatDoorScRm
import Derived.Test.YtfajbkpeioejoaaGreatDoorScRv
import Derived.BigQuiet
namespace Go.Proofs.YtfajbkpeioejoaaGreatDoor
open Go.RowKit
set_option linter.unusedVariables false
set_option linter.unusedSimpArgs false

theorem rwithin_any (a a2 : Option Addr) (no c n2 c2 : Nat) (ts : List Nd) (hk : ∀ i, i < ts.length → 0 ≤ (ts.getD i nd0).k ∧ (ts.getD i nd0).k ≤ 10) : ∀ f, WiSpec a a2 no c n2 c2 ts f := by
  intro f
  induction f with
  | zero => intro at_ bound w h; omega
  | succ f ih =>
    intro at_ bound w hf hat hsl hD hbd hno hN
    have hkk := hk at_ hat
    have hc : (ts.getD at_ nd0).k = 0 ∨ ((ts.getD at_ nd0).k = 1 ∨ (ts.getD at_ nd0).k = 2) ∨ (ts.getD at_ nd0).k = 3 ∨ (ts.getD at_ nd0).k = 4 ∨ (ts.getD at_ nd0).k = 5 ∨ (ts.getD at_ nd0).k = 6 ∨ (ts.getD at_ nd0).k = 7 ∨ (ts.getD at_ nd0).k = 8 ∨ (ts.getD at_ nd0).k = 9 ∨ (ts.getD at_ nd0).k = 10 := by omega
    rcases hc with h | h | h | h | h | h | h | h | h | h
    · exact wi_0 a a2 no c n2 c2 ts f ih at_ bound w hf hat hsl hD hbd hno hN h
    · exact wi_1 a a2 no c n2 c2 ts f ih at_ bound w hf hat hsl hD hbd hno hN h
    · exact wi_3 a a2 no c n2 c2 ts f ih at_ bound w hf hat hsl hD hbd hno hN h
    · exact wi_4 a a2 no c n2 c2 ts f ih at_ bound w hf hat hsl hD hbd hno hN h
    · exact wi_5 a a2 no c n2 c2 ts f ih at_ bound w hf hat hsl hD hbd hno hN h
    · exact wi_6 a a2 no c n2 c2 ts f ih at_ bound w hf hat hsl hD hbd hno hN h
    · exact wi_7 a a2 no c n2 c2 ts f ih at_ bound w hf hat hsl hD hbd hno hN h
    · exact wi_8 a a2 no c n2 c2 ts f ih at_ bound w hf hat hsl hD hbd hno hN h
    · exact wi_9 a a2 no c n2 c2 ts f ih at_ bound w hf hat hsl hD hbd hno hN h
    · exact wi_10 a a2 no c n2 c2 ts f ih at_ bound w hf hat hsl hD hbd hno hN h
theorem ok_kind {b : Bool} {t : Nd} (h : okNd (okNm b) t = true) : 0 ≤ t.k ∧ t.k ≤ 10 := by
  unfold okNd plainB at h
  simp only [Bool.and_eq_true] at h
  have h1 := h.1.1.1.1
  clear h
  by_cases k0 : t.k = 0; · omega
  rw [if_neg k0] at h1
  by_cases k1 : t.k = 1 ∨ t.k = 2; · omega
  rw [if_neg k1] at h1
  by_cases k3 : t.k = 3; · omega
  rw [if_neg k3] at h1
  by_cases k4 : t.k = 4; · omega
  rw [if_neg k4] at h1
  by_cases k5 : t.k = 5; · omega
  rw [if_neg k5] at h1
  by_cases k6 : t.k = 6; · omega
  rw [if_neg k6] at h1
  by_cases k7 : t.k = 7; · omega
  rw [if_neg k7] at h1
  by_cases k8 : t.k = 8; · omega
  rw [if_neg k8] at h1
  by_cases k9 : t.k = 9; · omega
  rw [if_neg k9] at h1
  have := of_decide_eq_true h1; omega
set_option maxRecDepth 100000 in
set_option maxHeartbeats 8000000 in
theorem rScopeMay_any (a a2 : Option Addr) (n c n2 c2 : Nat) (os : List Or) (ts : List Nd) (w : World) (h : Hid (OArg w a n os)) (hsz : Hid (∀ t ∈ os, OrSz t)) (hl : n ≤ 140737488351232) (h2 : Hid (NArg w a2 n2 ts)) (hsz2 : Hid (∀ t ∈ ts, NdSz t)) (hl2 : n2 ≤ 140737488351232) :
    Calls Tryz.prog 10 #[.agg #[.slice a n c, .slice a2 n2 c2]] w fun e w' => e = .returned (.bool (smayV os ts)) ∧ Below w.heap.size w w' := by
  obtain rfl : n = os.length := h.out.1
  obtain rfl : n2 = ts.length := h2.out.1
  obtain ⟨w0, hw0⟩ : ∃ W, w.alloc (.cells #[.slice a os.length c, .slice a2 ts.length c2] 25) = W := ⟨_, rfl⟩
  have hP : Hid (Pg w0 w.heap.size a os.length c a2 ts.length c2) := Lib.hid (by rw [← hw0]; exact pg_lit _ _ _ rfl _ _ _ _ _ _)
  have hB : Hid (Below w.heap.size w w0) := Lib.hid (by rw [← hw0]; exact below_alc _ _)
  obtain ⟨S, hS⟩ : ∃ q, smayV os ts = q := ⟨_, rfl⟩
  have hS' := Lib.hid ((smay_r os ts).symm.trans hS)
  rw [hS]
  clear hS
  go_enter Tryz.func10, Tryz.ntmps10
  go_upto_region 1 with fail
  (try rw [hw0])
  clear hw0
  have kO := Lib.hid (opsMay_any a os.length c os w0 (Lib.hid (h.out.below hB.out)) hsz hl)
  obtain ⟨b1, hb1⟩ : ∃ q, opsV os = q := ⟨_, rfl⟩
  rw [hb1] at kO
  have hb1 := Lib.hid hb1
  obtain ⟨p0, p1, p2⟩ := hP.out
  go_wp2_with fail
  clear p0 p1 p2
  refine kO.out.mono ?_
  rintro e w1 ⟨rfl, hb⟩
  have hP := Lib.hid (hP.out.below hb)
  have hB := Lib.hid (belT hB.out hb)
  clear hb kO
  cases b1
  · have hf : Hid (S = false) := Lib.hid (by rw [← hS'.out, hb1.out]; rfl)
    go_wp2_with fail
    go_ret
    exact ⟨ret_bb hf.out.symm, hB.out⟩
  have kT := Lib.hid (shaped_any false a2 ts.length c2 ts w1 (Lib.hid (h2.out.below hB.out)) hsz2 hl2)
  obtain ⟨b2, hb2⟩ : ∃ q, treeV (okNm false) ts = q := ⟨_, rfl⟩
  rw [hb2] at kT
  have hb2 := Lib.hid hb2
  obtain ⟨p0, p1, p2⟩ := hP.out
  go_wp2_with fail
  clear p0 p1 p2
  refine kT.out.mono ?_
  rintro e w2 ⟨rfl, hb⟩
  have hP := Lib.hid (hP.out.below hb)
  have hB := Lib.hid (belT hB.out hb)
  clear hb kT
  cases b2
  · have hf : Hid (S = false) := Lib.hid (by rw [← hS'.out, hb1.out, hb2.out]; rfl)
    go_wp2_with fail
    go_ret
    exact ⟨ret_bb hf.out.symm, hB.out⟩
  have hS2 : Hid ((!dupB (opN os) && numsV os.length ts.length ts (ts.length - 1) 0) = S) := Lib.hid (by rw [← hS'.out, hb1.out, hb2.out, Bool.true_and, Bool.true_and])
  have ho4 : os.length ≤ 4 := by
    have := hb1.out; unfold opsV at this; simp only [Bool.and_eq_true, decide_eq_true_eq] at this; exact this.1
  have htr : Hid (treeV (okNm false) ts = true) := hb2
  clear hb1 hb2 hS'
  go_wp2_with fail
  go_loopw [3] (fun iv wr => ∃ i : Nat, i ≤ os.length ∧ iv = .int .i64 i ∧ Hid (Pg wr w.heap.size a os.length c a2 ts.length c2) ∧ Hid (Below w.heap.size w wr) ∧ Hid (Uniq os i)) (fun iv _ => os.length - (intOf iv).toNat)
  case atStart => exact ⟨0, by omega, rfl, hP, hB, Lib.hid fun x hx => by omega⟩
  case round =>
    rename World => wi
    obtain ⟨i, hi, rfl, hP, hB, hU⟩ := hrel
    by_cases hlt : i < os.length
    · have hii : (i : Int) < (os.length : Int) := by omega
      have hi0 : (0 : Int) ≤ (i : Int) := by omega
      obtain ⟨p0, p1, p2⟩ := hP.out
      go_wp2_with fail
      clear p0 p1 p2
      go_loopw [4] (fun jv wr => ∃ j : Nat, j ≤ i ∧ jv = .int .i64 j ∧ Hid (Pg wr w.heap.size a os.length c a2 ts.length c2) ∧ Hid (Below w.heap.size w wr) ∧ Hid (∀ y, y < j → eqS (os.getD i or0).nm (os.getD y or0).nm = false)) (fun jv _ => i - (intOf jv).toNat)
      case atStart => exact ⟨0, by omega, rfl, hP, hB, Lib.hid fun x hx => by omega⟩
      case round =>
        obtain ⟨j, hj, rfl, hP, hB, hJ⟩ := hrel
        obtain ⟨p0, p1, p2⟩ := hP.out
        by_cases hjt : j < i
        · rcases h.out.2 with h0 | ⟨b, off, rfl, hs, hbl⟩
          · rw [h0] at hlt; simp at hlt
          have hO1 := (hs i hlt).below hB.out hbl
          have hO2 := (hs j (by omega)).below hB.out hbl
          have hdu := Lib.hid fun e => dup_of hlt hjt e
          obtain ⟨q, hq⟩ : ∃ q, eqS (os.getD i or0).nm (os.getD j or0).nm = q := ⟨_, rfl⟩
          have hJ2 : Hid (q = false → ∀ y, y < j + 1 → eqS (os.getD i or0).nm (os.getD y or0).nm = false) := Lib.hid fun e y hy => by
            by_cases hyj : y = j
            · subst hyj; rw [hq, e]
            · exact hJ.out y (by omega)
          rw [hq] at hdu
          unfold eqS at hq
          obtain ⟨e0, _, _⟩ := hO1
          obtain ⟨d0, _, _⟩ := hO2
          generalize hui : (os.getD i or0).nm = ui at e0 hq
          generalize huj : (os.getD j or0).nm = uj at d0 hq
          have hui := Lib.hid hui
          have huj := Lib.hid huj
          have hji : (j : Int) < (i : Int) := by omega
          have hjo : (j : Int) < (os.length : Int) := by omega
          have hj0 : (0 : Int) ≤ (j : Int) := by omega
          clear hs
          cases q
          · go_wp2_with fail
            go_quiet (fail)
            go_wp2_with fail
            go_roundw
            case rel => exact ⟨j + 1, by omega, by go_num, Lib.hid (hP.out.below (below_drewN (Below.refl _ _) _)), Lib.hid (below_drewN hB.out _), Lib.hid (by rw [← hui.out]; exact hJ2.out (by first | rfl | trivial))⟩
            case measure => simp [intOf]; omega
          · have hr := Lib.hid (hdu.out (by first | rfl | trivial))
            have hf : Hid (S = false) := Lib.hid (by rw [← hS2.out, hr.out]; rfl)
            clear hdu hJ2
            go_wp2_with fail
            go_quiet (fail)
            go_wp2_with fail
            go_ret
            exact ⟨ret_bb hf.out.symm, below_drewN hB.out _⟩
        · obtain rfl : j = i := by omega
          go_wp2_with fail
          go_roundw
          case rel => exact ⟨j + 1, by omega, by go_num, hP, hB, Lib.hid fun x hx y hy => by
            by_cases hxj : x = j
            · subst hxj; exact hJ.out y hy
            · exact hU.out x (by omega) y hy⟩
          case measure => simp [intOf]; omega
    · obtain rfl : i = os.length := by omega
      have hdp := uniq_nodup hU.out
      have hf : Hid (numsV os.length ts.length ts (ts.length - 1) 0 = S) := Lib.hid (by rw [← hS2.out, hdp]; rfl)
      have htree := htr.out
      unfold treeV at htree
      simp only [Bool.and_eq_true, List.all_eq_true, decide_eq_true_eq] at htree
      obtain ⟨⟨⟨ht1, ht2⟩, ht3⟩, ht4⟩ := htree
      have kW := Lib.hid (rwithin_any a a2 os.length c ts.length c2 ts (fun i hi => ok_kind (ht3 _ (by rw [List.getD_eq_getElem?_getD, List.getElem?_eq_getElem hi]; exact List.getElem_mem hi))) ts.length (ts.length - 1) 0 wi (by omega) (by omega) ht2 (downs_of ht1 ht4) (by omega) (by omega) (Lib.hid (h2.out.below hB.out)))
      rw [hf.out] at kW
      have e1 : IntKind.i64.wrap ((ts.length : Int) - 1) = ((ts.length - 1 : Nat) : Int) := by rw [IntWalk.i64_in _ (by omega)]; omega
      have hii : ¬ ((os.length : Nat) : Int) < (os.length : Int) := by omega
      clear hf hS2 hdp hU ht3 ht4 htr
      obtain ⟨p0, p1, p2⟩ := hP.out
      go_wp2_with fail
      clear p0 p1 p2
      refine kW.out.mono ?_
      rintro e w3 ⟨rfl, hb⟩
      have hB := Lib.hid (belT hB.out hb)
      clear hb kW
      go_wp2_with fail
      go_ret
      exact ⟨rfl, hB.out⟩
end Go.Proofs.YtfajbkpeioejoaaGreatDoor
