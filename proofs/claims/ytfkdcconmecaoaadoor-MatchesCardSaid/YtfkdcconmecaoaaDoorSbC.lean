/- subst.may, firsts. -/
import Derived.Test.YtfkdcconmecaoaaDoorSbB
namespace Go.Proofs.YtfkdcconmecaoaaDoor
open Go.RowKit Go.Maps
set_option linter.unusedVariables false
set_option linter.unusedSimpArgs false

theorem ok_holds (x : Bn) : x.ok = (decide (0 ≤ x.v ∧ x.v < 4096) && holdsB x) := rfl
theorem smay_nil (a : Option Addr) (c : Nat) (w : World) : Calls Tryd.prog 26 #[.slice a 0 c] w fun e w' => e = .returned (.bool true) ∧ Below w.heap.size w w' := by
  go_enter Tryd.func26, Tryd.ntmps26
  go_wp2_with fail
  go_loopw [10] (fun i wr => i = .int .i64 0 ∧ wr = w) (fun _ _ => 0)
  case atStart => exact ⟨rfl, rfl⟩
  case round =>
    obtain ⟨rfl, rfl⟩ := hrel
    go_wp2_with fail
    go_ret
    exact ⟨rfl, Below.refl _ _⟩
set_option maxRecDepth 100000 in
set_option maxHeartbeats 4000000 in
theorem smay_sl (b off cp : Nat) (xs : List Bn) (w : World) (h : Hid (BnSl w b off xs)) (hbs : b < w.heap.size) (hl : xs.length ≤ 140737488351232) :
    Calls Tryd.prog 26 #[.slice (some ⟨b, off, none⟩) xs.length cp] w fun e w' => e = .returned (.bool (bsV xs)) ∧ Below w.heap.size w w' := by
  by_cases h1 : 4096 < xs.length
  · have hv := Lib.hid (bs_len xs h1)
    go_enter Tryd.func26, Tryd.ntmps26
    go_wp2_with fail
    go_ret
    exact ⟨ret_b hv.out.symm, by (repeat' (first | with_reducible exact Below.refl _ _ | with_reducible assumption | with_reducible apply Below.setCell | with_reducible apply Below.alloc | with_reducible apply Below.drew | with_reducible apply below_drewN | with_reducible exact Nat.le_refl _ | (simp; done) | (simp; omega) | omega | exact Nat.le_refl _))⟩
  have hfin : Hid (∀ j, j < xs.length → (xs.getD j bn0).ok = false → bsV xs = false) := Lib.hid (bs_node xs)
  have hokv : Hid (xs.all Bn.ok = true → bsV xs = true) := Lib.hid (bs_all xs (by omega))
  go_enter Tryd.func26, Tryd.ntmps26
  go_wp2_with fail
  go_loopw [10] (fun i wr => ∃ j : Nat, j ≤ xs.length ∧ i = .int .i64 j ∧ Below w.heap.size w wr ∧ Hid ((xs.take j).all Bn.ok = true)) (fun i _ => xs.length - (intOf i).toNat)
  case atStart => exact ⟨0, by omega, rfl, by (repeat' (first | with_reducible exact Below.refl _ _ | with_reducible assumption | with_reducible apply Below.setCell | with_reducible apply Below.alloc | with_reducible apply Below.drew | with_reducible apply below_drewN | with_reducible exact Nat.le_refl _ | (simp; done) | (simp; omega) | omega | exact Nat.le_refl _)), Lib.hid rfl⟩
  case round =>
    obtain ⟨j, hj, rfl, hbw, hall⟩ := hrel
    by_cases hlt : j < xs.length
    · have hT := h.out.below hbw hbs j hlt
      have htk : Hid ((xs.take (j + 1)).all Bn.ok = ((xs.take j).all Bn.ok && (xs.getD j bn0).ok)) := Lib.hid (allT_take xs bn0 Bn.ok j hlt)
      have hfj : Hid ((xs.getD j bn0).ok = false → bsV xs = false) := Lib.hid (hfin.out j hlt)
      generalize xs.getD j bn0 = x at hT htk hfj
      rw [ok_holds] at htk hfj
      obtain ⟨⟨e0, e1, e2, e3, e4, e5, e6, e7⟩, hA, hn⟩ := hT
      have hbr : b < wr.heap.size := by have := hbw.size; omega
      have hlt' : (j : Int) < (xs.length : Int) := by omega
      have hj0 : (0 : Int) ≤ (j : Int) := by omega
      have kH := Lib.hid fun (W : World) (hb : Below wr.heap.size wr W) => holds_any x W (Lib.hid (hA.below hb)) hn
      obtain ⟨m, hm⟩ : ∃ m, holdsB x = m := ⟨_, rfl⟩
      rw [hm] at kH htk hfj
      unfold bnV at kH
      have hbw' := Lib.hid hbw
      clear hm hA hbw
      by_cases hv0 : x.v < 0
      · have hf := Lib.hid (hfj.out (by rw [decide_eq_false (by omega)]; rfl))
        go_wp2_with fail
        go_ret
        exact ⟨ret_b hf.out.symm, hbw'.out.alloc hbw'.out.size _⟩
      by_cases hv1 : 4096 ≤ x.v
      · have hf := Lib.hid (hfj.out (by rw [decide_eq_false (by omega)]; rfl))
        go_wp2_with fail
        go_ret
        exact ⟨ret_b hf.out.symm, hbw'.out.alloc hbw'.out.size _⟩
      have htk2 : Hid ((xs.take (j + 1)).all Bn.ok = ((xs.take j).all Bn.ok && m)) := Lib.hid (by rw [htk.out, decide_eq_true (by omega)]; rfl)
      have hfj2 : Hid (m = false → bsV xs = false) := Lib.hid fun h => hfj.out (by rw [h]; simp)
      go_wp2_with fail
      refine (kH.out _ (below_alc wr _)).mono ?_
      rintro e w1 ⟨rfl, hb1⟩
      have hbw1 := Lib.hid (belT (hbw'.out.alloc hbw'.out.size _) hb1)
      clear hb1 e0 e1 e2 e3 e4 e5 e6 e7
      cases m
      · have hf := Lib.hid (hfj2.out rfl)
        go_wp2_with fail
        go_ret
        exact ⟨ret_b hf.out.symm, hbw1.out⟩
      go_wp2_with fail
      go_roundw
      case rel => exact ⟨j + 1, by omega, by go_num, hbw1.out, Lib.hid (by rw [htk2.out, hall.out]; rfl)⟩
      case measure => simp [intOf]; omega
    · have hval : Hid (bsV xs = true) := Lib.hid (hokv.out (by have := hall.out; rwa [List.take_of_length_le (by omega)] at this))
      go_wp2_with fail
      go_ret
      exact ⟨ret_b hval.out.symm, hbw⟩
theorem smay_any (a : Option Addr) (n c : Nat) (xs : List Bn) (w : World) (h : Hid (BnArg w a n xs)) (hl : n ≤ 140737488351232) :
    Calls Tryd.prog 26 #[.slice a n c] w fun e w' => e = .returned (.bool (bsV xs)) ∧ Below w.heap.size w w' := by
  obtain ⟨rfl, rfl | ⟨b, off, rfl, h1, h2⟩⟩ := h.out
  · exact smay_nil _ _ _
  · exact smay_sl b off c xs w (Lib.hid h1) h2 hl

theorem lawI : Keyed Tryd.prog 3 := int_keyed Tryd.underlying3
theorem zeroI (w : World) : (zeroValue 3).run Tryd.prog w = .ok (.int .i64 0) w := by kernel_rfl
/-- a map of places. -/
def FsMap (w : World) (bm n : Nat) (f : Int → Option Nat) : Prop := ∃ D : DataW Unit, w.ownsMap Tryd.prog 3 (plainElem Tryd.prog 3) bm n D ∧ MapIs D f
theorem FsMap.below {w w' : World} {bm n B : Nat} {f : Int → Option Nat} (h : FsMap w bm n f) (hb : Below B w w') (hB : bm < B) : FsMap w' bm n f := by
  obtain ⟨D, h1, h2⟩ := h
  exact ⟨D, ownsMap_below h1 hb hB, h2⟩
def FsPost (w : World) (n : Nat) (f : Int → Option Nat) (e : Ending) (w' : World) : Prop := ∃ bm, e = .returned (.map (some bm)) ∧ w.heap.size ≤ bm ∧ bm < w'.heap.size ∧ FsMap w' bm n f ∧ Below w.heap.size w w'
theorem fst_nil (ir : Bool) (v : Int) : fst [] ir v = none := rfl
theorem firsts_nil (a : Option Addr) (c : Nat) (ir : Bool) (w : World) : Calls Tryd.prog 59 #[.slice a 0 c, .bool ir] w (FsPost w 0 (fst [] ir)) := by
  have hmm := @run_makeMap Tryd.prog
  go_enter Tryd.func59, Tryd.ntmps59
  go_wp2_with fail
  go_loopw [13] (fun i wr => i = .int .i64 0 ∧ wr = w.alloc (.map #[] 0)) (fun _ _ => 0)
  case atStart => exact ⟨rfl, rfl⟩
  case round =>
    obtain ⟨rfl, rfl⟩ := hrel
    go_wp2_with fail
    go_ret
    exact ⟨w.heap.size, rfl, Nat.le_refl _, by simp, ⟨_, World.ownsMap_made _ _ _ _, mapIs_none⟩, below_alc w _⟩
set_option maxRecDepth 100000 in
set_option maxHeartbeats 4000000 in
theorem firsts_sl (b off cp : Nat) (xs : List Bn) (ir : Bool) (w : World) (h : Hid (BnSl w b off xs)) (hbs : b < w.heap.size) (hl : xs.length ≤ 4096) (hv : Hid (∀ j, j < xs.length → 0 ≤ (xs.getD j bn0).v ∧ (xs.getD j bn0).v < 4096)) :
    Calls Tryd.prog 59 #[.slice (some ⟨b, off, none⟩) xs.length cp, .bool ir] w (FsPost w xs.length (fst xs ir)) := by
  have hmm := @run_makeMap Tryd.prog
  go_enter Tryd.func59, Tryd.ntmps59
  go_wp2_with fail
  go_loopw [13] (fun i wr => ∃ j : Nat, j ≤ xs.length ∧ i = .int .i64 j ∧ Below w.heap.size w wr ∧ w.heap.size < wr.heap.size ∧ Hid (FsMap wr w.heap.size j (fst (xs.take j) ir))) (fun i _ => xs.length - (intOf i).toNat)
  case atStart => exact ⟨0, by omega, rfl, by (repeat' (first | with_reducible exact Below.refl _ _ | with_reducible assumption | with_reducible apply Below.setCell | with_reducible apply Below.alloc | with_reducible apply Below.drew | with_reducible apply below_drewN | with_reducible exact Nat.le_refl _ | (simp; done) | (simp; omega) | omega | exact Nat.le_refl _)), by simp, Lib.hid ⟨_, World.ownsMap_made _ _ _ _, mapIs_none⟩⟩
  case round =>
    obtain ⟨j, hj, rfl, hbw, hws, hm⟩ := hrel
    by_cases hlt : j < xs.length
    · have hT := (h.out.below hbw hbs j hlt).1
      have htk := Lib.hid fun (v : Int) => fst_take (ir := ir) hlt v
      have hvj := hv.out j hlt
      generalize xs.getD j bn0 = x at hT htk hvj
      obtain ⟨D, hown, hmi⟩ := hm.out
      obtain ⟨e0, e1, e2, e3, e4, e5, e6, e7⟩ := hT
      have hbr : b < wr.heap.size := by have := hbw.size; omega
      have hlt' : (j : Int) < (xs.length : Int) := by omega
      have hj0 : (0 : Int) ≤ (j : Int) := by omega
      have hkey : keyOf Tryd.prog 3 (.int .i64 x.v) = some (.int .i64 x.v) := keyOf_int_mk Tryd.underlying3 (by simp [Lit.wf, IntKind.min, IntKind.max, IntKind.signed, IntKind.bits]; omega)
      obtain ⟨hh, hi⟩ := hmi.2 x.v
      have hmi' := Lib.hid hmi
      have hbw' := Lib.hid hbw
      have hd : (∃ f, fst (xs.take j) ir x.v = some f) ∨ fst (xs.take j) ir x.v = none := by
        cases fst (xs.take j) ir x.v with
        | none => exact .inr rfl
        | some f => exact .inl ⟨f, rfl⟩
      rcases hd with ⟨f, hf⟩ | hf
      · have hhas : Maps.has D (.int .i64 x.v) = true := by rw [hh, hf]; rfl
        have hsame : Hid (MapIs D (fst (xs.take (j + 1)) ir)) := Lib.hid (mapIs_congr hmi'.out fun v => by
          rw [htk.out v]
          cases hq : fst (xs.take j) ir v with
          | some y => rfl
          | none =>
            rw [if_neg]; · rfl
            rintro ⟨_, rfl⟩
            rw [hf] at hq; cases hq)
        clear hh hi hmi
        go_wp2_with (at_lookup; refine wpList_lookup_own_ok_int _ rfl _ _ 119 rfl 3 3 .i64 lawI Tryd.underlying119 Tryd.underlying3 (zeroI _) w.heap.size j D rfl (hown.alloc _) _ _ rfl hkey ?_; intro c hat hwc)
        go_roundw
        case rel => exact ⟨j + 1, by omega, by go_num, hbw'.out.alloc hbw'.out.size _, by simp; omega, Lib.hid ⟨D, (hown.alloc _).mono (Nat.le_succ _), hsame.out⟩⟩
        case measure => simp [intOf]; omega
      · have hhas : Maps.has D (.int .i64 x.v) = false := by rw [hh, hf]; rfl
        clear hh hi hmi
        by_cases hir : x.ir = ir
        · have hput : Hid (MapIs (D.put (.int .i64 x.v) (.lit (.int .i64 j))) (fst (xs.take (j + 1)) ir)) := Lib.hid (mapIs_put hmi'.out (by rw [htk.out x.v, hf, if_pos ⟨hir, rfl⟩]; rfl) fun v hne => by
            rw [htk.out v, if_neg (fun h => hne h.2.symm)]
            cases fst (xs.take j) ir v <;> rfl)
          have hir1 : (x.ir == ir) = true := by simpa using hir
          have hwj : (Lit.int .i64 (j : Int)).wf = true := by simp [Lit.wf, IntKind.min, IntKind.max, IntKind.signed, IntKind.bits]; omega
          subst hir
          go_wp2_with (first
            | (at_lookup; refine wpList_lookup_own_ok_int _ rfl _ _ 119 rfl 3 3 .i64 lawI Tryd.underlying119 Tryd.underlying3 (zeroI _) w.heap.size j D rfl (hown.alloc _) _ _ rfl hkey ?_; intro c hat hwc)
            | (at_mapUpdate; refine wpList_mapUpdate_own _ rfl _ _ _ 119 rfl 3 3 lawI Tryd.underlying119 _ w.heap.size j D rfl (hown.alloc _) (by unfold maxLen; omega) _ _ _ rfl rfl hkey _ [] (plainElem_int Tryd.underlying3 hwj) ?_; intro w1 hown1 hgrow1)
            | go_in)
          go_roundw
          case rel => exact ⟨j + 1, by omega, by go_num, (hbw'.out.alloc hbw'.out.size _).grown hgrow1 (by simp; omega) (fun k hk => by cases hk; exact Nat.le_refl _), by have := hgrow1.size; simp at this; omega, Lib.hid ⟨_, hown1, hput.out⟩⟩
          case measure => simp [intOf]; omega
        · have hsame : Hid (MapIs D (fst (xs.take (j + 1)) ir)) := Lib.hid (mapIs_congr hmi'.out fun v => by
            rw [htk.out v, if_neg (fun h => hir h.1)]
            cases fst (xs.take j) ir v <;> rfl)
          have hir1 : (x.ir == ir) = false := by simpa using hir
          clear hir
          go_wp2_with (at_lookup; refine wpList_lookup_own_ok_int _ rfl _ _ 119 rfl 3 3 .i64 lawI Tryd.underlying119 Tryd.underlying3 (zeroI _) w.heap.size j D rfl (hown.alloc _) _ _ rfl hkey ?_; intro c hat hwc)
          go_roundw
          case rel => exact ⟨j + 1, by omega, by go_num, hbw'.out.alloc hbw'.out.size _, by simp; omega, Lib.hid ⟨D, (hown.alloc _).mono (Nat.le_succ _), hsame.out⟩⟩
          case measure => simp [intOf]; omega
    · obtain rfl : j = xs.length := by omega
      have hm' := hm.out
      rw [List.take_length] at hm'
      have hfin := Lib.hid hm'
      clear hm hm'
      go_wp2_with fail
      go_ret
      exact ⟨w.heap.size, rfl, Nat.le_refl _, hws, hfin.out, hbw⟩
theorem firsts_any (a : Option Addr) (n c : Nat) (xs : List Bn) (ir : Bool) (w : World) (h : Hid (BnArg w a n xs)) (hv : bsV xs = true) :
    Calls Tryd.prog 59 #[.slice a n c, .bool ir] w (FsPost w xs.length (fst xs ir)) := by
  obtain ⟨rfl, rfl | ⟨b, off, rfl, h1, h2⟩⟩ := h.out
  · exact firsts_nil _ _ _ _
  · refine firsts_sl b off c xs ir w (Lib.hid h1) h2 ?_ (Lib.hid fun j hj => ?_)
    · unfold bsV at hv; simp only [Bool.and_eq_true, decide_eq_true_eq] at hv; exact hv.1
    · have := bsV_at hv hj
      rw [ok_holds, Bool.and_eq_true, decide_eq_true_eq] at this
      exact this.1
end Go.Proofs.YtfkdcconmecaoaaDoor
