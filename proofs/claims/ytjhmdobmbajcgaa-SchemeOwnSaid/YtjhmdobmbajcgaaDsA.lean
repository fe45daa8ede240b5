/- order.AreDistinct. -/
import Derived.Test.YtjhmdobmbajcgaaVrA
import Derived.Test.YtjhmdobmbajcgaaSbC
namespace Go.Proofs.Ytjhmdobmbajcgaa
open Go.RowKit Go.Maps
set_option linter.unusedVariables false
set_option linter.unusedSimpArgs false

def inV (x : Int) : Bool := decide (0 ≤ x ∧ x < 4096)
/-- are numbers variables, each once? -/
def dsI (l : List Int) : Bool := decide (l.length ≤ 4096) && (l.all inV && decide l.Nodup)
theorem getI_mem {l : List Int} {j : Nat} (hj : j < l.length) : l.getD j 0 ∈ l := by
  rw [List.getD_eq_getElem?_getD, List.getElem?_eq_getElem hj]; exact List.getElem_mem hj
theorem dsI_out {l : List Int} {j : Nat} (hj : j < l.length) (h : inV (l.getD j 0) = false) : dsI l = false := by
  cases hq : dsI l
  · rfl
  · unfold dsI at hq
    simp only [Bool.and_eq_true, List.all_eq_true] at hq
    rw [hq.2.1 _ (getI_mem hj)] at h; cases h
theorem nodup_take {l : List Int} {j : Nat} (hj : j < l.length) : (l.take (j + 1)).Nodup ↔ (l.take j).Nodup ∧ hasI (l.take j) (l.getD j 0) = false := by
  rw [List.take_succ_eq_append_getElem hj, List.nodup_append]
  have e : l.getD j 0 = l[j] := by rw [List.getD_eq_getElem?_getD, List.getElem?_eq_getElem hj]; rfl
  rw [e]
  unfold hasI
  simp only [List.nodup_cons, List.not_mem_nil, not_false_eq_true, List.nodup_nil, and_self, true_and, List.mem_singleton, decide_eq_false_iff_not]
  constructor
  · rintro ⟨h1, h2⟩
    exact ⟨h1, fun hm => h2 _ hm _ rfl rfl⟩
  · rintro ⟨h1, h2⟩
    exact ⟨h1, fun a ha b hb hab => h2 (by rw [← hb, ← hab]; exact ha)⟩
theorem dsI_twice {l : List Int} {j : Nat} (hj : j < l.length) (h : hasI (l.take j) (l.getD j 0) = true) : dsI l = false := by
  cases hq : dsI l
  · rfl
  · unfold dsI at hq
    simp only [Bool.and_eq_true, decide_eq_true_eq] at hq
    have h2 : (l.take (j + 1)).Nodup := List.Sublist.nodup (List.take_sublist _ _) hq.2.2
    rw [(nodup_take hj).1 h2 |>.2] at h; cases h
theorem dsI_long {l : List Int} (h : 4096 < l.length) : dsI l = false := by unfold dsI; rw [decide_eq_false (by omega)]; rfl
/-- what is met up to a place. -/
def dsR (l : List Int) (j : Nat) : Prop := (l.take j).all inV = true ∧ (l.take j).Nodup
theorem dsR_next {l : List Int} {j : Nat} (hj : j < l.length) (h : dsR l j) (h1 : inV (l.getD j 0) = true) (h2 : hasI (l.take j) (l.getD j 0) = false) : dsR l (j + 1) := by
  refine ⟨?_, (nodup_take hj).2 ⟨h.2, h2⟩⟩
  rw [List.take_succ_eq_append_getElem hj, List.all_append, h.1]
  have e : l.getD j 0 = l[j] := by rw [List.getD_eq_getElem?_getD, List.getElem?_eq_getElem hj]; rfl
  rw [e] at h1
  simp [h1]
theorem dsR_end {l : List Int} {j : Nat} (hj : ¬ j < l.length) (hl : l.length ≤ 4096) (h : dsR l j) : dsI l = true := by
  obtain ⟨h1, h2⟩ := h
  rw [List.take_of_length_le (by omega)] at h1 h2
  unfold dsI
  rw [decide_eq_true hl, h1, decide_eq_true h2]; rfl
/-- a set of numbers. -/
def SetIs (w : World) (b n : Nat) (l : List Int) : Prop := ∃ D : DataW Unit, w.ownsMap Try.prog 3 unitElem b n D ∧ IsMap D ∧ ∀ v : Int, Maps.has D (.int .i64 v) = hasI l v
theorem SetIs.below {w w' : World} {b n B : Nat} {l : List Int} (h : SetIs w b n l) (hb : Below B w w') (hB : b < B) : SetIs w' b n l := by
  obtain ⟨D, h1, h2⟩ := h
  exact ⟨D, ownsMap_below h1 hb hB, h2⟩
theorem set_put {D : DataW Unit} {l : List Int} {x : Int} (hD : IsMap D) (h : ∀ v : Int, Maps.has D (.int .i64 v) = hasI l v) : IsMap (D.put (.int .i64 x) (.agg [])) ∧ ∀ v : Int, Maps.has (D.put (.int .i64 x) (.agg [])) (.int .i64 v) = hasI (l ++ [x]) v := by
  refine ⟨hD.put _ _, fun v => ?_⟩
  rw [hasI_app]
  by_cases hv : v = x
  · subst hv
    rw [has_put_same hD (by trivial) _]
    simp
  · have hne : (Lit.int .i64 v) ≠ (Lit.int .i64 x) := fun e => hv (by injection e)
    rw [has_put_other hne _, h v]
    have : (x == v) = false := beq_eq_false_iff_ne.2 fun e => hv e.symm
    rw [this, Bool.or_false]
set_option maxRecDepth 100000 in
set_option maxHeartbeats 4000000 in
theorem distinct_any (a : Option Addr) (n c : Nat) (l : List Int) (w : World) (h : Hid (IsArg w a n l)) (hl : n ≤ 140737488351232) (hw : Hid (∀ x ∈ l, (Lit.int .i64 x).wf = true)) :
    Calls Try.prog 84 #[.slice a n c, .int .i64 4096] w fun e w' => e = .returned (.bool (dsI l)) ∧ Below w.heap.size w w' := by
  obtain ⟨rfl, hA⟩ := h.out
  have hmm := @run_makeMap Try.prog
  have zeroU : ∀ W : World, (zeroValue 152).run Try.prog W = .ok (.agg #[]) W := fun _ => by kernel_rfl
  by_cases h1 : 4096 < l.length
  · have hv := Lib.hid (dsI_long h1)
    go_enter Try.func84, Try.ntmps84
    go_wp2_with fail
    go_ret
    exact ⟨ret_b hv.out.symm, by (repeat' (first | with_reducible exact Below.refl _ _ | with_reducible assumption | with_reducible apply Below.setCell | with_reducible apply Below.alloc | with_reducible apply Below.drew | with_reducible apply below_drewN | with_reducible exact Nat.le_refl _ | (simp; done) | (simp; omega) | omega | exact Nat.le_refl _))⟩
  have zeroU := Lib.hid zeroU
  go_enter Try.func84, Try.ntmps84
  go_wp2_with fail
  go_loopw [17] (fun i wr => ∃ j : Nat, j ≤ l.length ∧ i = .int .i64 j ∧ Below w.heap.size w wr ∧ w.heap.size < wr.heap.size ∧ Hid (dsR l j ∧ SetIs wr w.heap.size j (l.take j))) (fun i _ => l.length - (intOf i).toNat)
  case atStart => exact ⟨0, by omega, rfl, by (repeat' (first | with_reducible exact Below.refl _ _ | with_reducible assumption | with_reducible apply Below.setCell | with_reducible apply Below.alloc | with_reducible apply Below.drew | with_reducible apply below_drewN | with_reducible exact Nat.le_refl _ | (simp; done) | (simp; omega) | omega | exact Nat.le_refl _)), by simp, Lib.hid ⟨⟨rfl, List.nodup_nil⟩, ⟨_, World.ownsMap_made _ _ _ _, isMap_empty, fun v => rfl⟩⟩⟩
  case round =>
    obtain ⟨j, hj, rfl, hbw, hws, hI⟩ := hrel
    by_cases hlt : j < l.length
    · obtain ⟨b, off, rfl, hs, hb⟩ := isArg_at hA hlt
      have hc := hs.below hbw hb j hlt
      have hwx := hw.out _ (getI_mem hlt)
      have hout := Lib.hid (fun h => dsI_out hlt h)
      have htw := Lib.hid (fun h => dsI_twice hlt h)
      have hnx := Lib.hid (fun h1 h2 => dsR_next hlt hI.out.1 h1 h2)
      have htk : Hid (l.take (j + 1) = l.take j ++ [l.getD j 0]) := Lib.hid (by rw [List.take_succ_eq_append_getElem hlt, List.getD_eq_getElem?_getD, List.getElem?_eq_getElem hlt]; rfl)
      obtain ⟨_, D, hown, hmi, hhas⟩ := hI.out
      generalize l.getD j 0 = x at hc hwx hout htw hnx htk
      have hkey : keyOf Try.prog 3 (.int .i64 x) = some (.int .i64 x) := keyOf_int_mk Try.underlying3 hwx
      have hhx := hhas x
      have hput := Lib.hid (set_put (x := x) hmi hhas)
      have hbr : b < wr.heap.size := by have := hbw.size; omega
      have hlt' : (j : Int) < (l.length : Int) := by omega
      have hj0 : (0 : Int) ≤ (j : Int) := by omega
      have hbw' := Lib.hid hbw
      have hz := zeroU.out
      clear hs hmi hhas hbw hA hwx
      cases hq : hasI (l.take j) x
      · rw [hq] at hhx
        by_cases hr : inV x = true
        · have hr2 := of_decide_eq_true (show decide (0 ≤ x ∧ x < 4096) = true from hr)
          have hnx2 := Lib.hid (hnx.out hr hq)
          clear hq hr
          go_wp2_with (first
            | (at_lookup; refine wpList_lookup_own_unit _ rfl _ _ 151 rfl 3 152 lawI Try.underlying151 (hz _) w.heap.size j D rfl hown _ _ rfl hkey ?_)
            | (at_mapUpdate; refine wpList_mapUpdate_own _ rfl _ _ _ 151 rfl 3 152 lawI Try.underlying151 unitElem w.heap.size j D rfl (hown.alloc _) (by unfold maxLen; omega) _ _ _ rfl rfl hkey _ [] unitElem_mk ?_; intro w1 hown1 hgrow1)
            | go_in)
          go_roundw
          case rel => exact ⟨j + 1, by omega, by go_num, (hbw'.out.alloc hbw'.out.size _).grown hgrow1 (by simp; omega) (fun k hk => by cases hk; exact Nat.le_refl _), by have := hgrow1.size; simp at this; omega, Lib.hid ⟨hnx2.out, ⟨_, hown1, hput.out.1, by rw [htk.out]; exact hput.out.2⟩⟩⟩
          case measure => simp [intOf]; omega
        · have hf := Lib.hid (hout.out (by simpa using hr))
          have hr2 : x < 0 ∨ 4096 ≤ x := by
            unfold inV at hr
            simp only [decide_eq_true_eq] at hr
            omega
          clear hq hr
          rcases hr2 with hr2 | hr2
          · go_wp2_with (at_lookup; refine wpList_lookup_own_unit _ rfl _ _ 151 rfl 3 152 lawI Try.underlying151 (hz _) w.heap.size j D rfl hown _ _ rfl hkey ?_)
            go_ret
            exact ⟨ret_b hf.out.symm, hbw'.out.alloc hbw'.out.size _⟩
          · go_wp2_with (at_lookup; refine wpList_lookup_own_unit _ rfl _ _ 151 rfl 3 152 lawI Try.underlying151 (hz _) w.heap.size j D rfl hown _ _ rfl hkey ?_)
            go_ret
            exact ⟨ret_b hf.out.symm, hbw'.out.alloc hbw'.out.size _⟩
      · rw [hq] at hhx
        have hf := Lib.hid (htw.out hq)
        clear hq
        go_wp2_with (at_lookup; refine wpList_lookup_own_unit _ rfl _ _ 151 rfl 3 152 lawI Try.underlying151 (hz _) w.heap.size j D rfl hown _ _ rfl hkey ?_)
        go_ret
        exact ⟨ret_b hf.out.symm, hbw'.out.alloc hbw'.out.size _⟩
    · have hf := Lib.hid (dsR_end hlt (by omega) hI.out.1)
      go_wp2_with fail
      go_ret
      exact ⟨ret_b hf.out.symm, hbw⟩
end Go.Proofs.Ytjhmdobmbajcgaa
