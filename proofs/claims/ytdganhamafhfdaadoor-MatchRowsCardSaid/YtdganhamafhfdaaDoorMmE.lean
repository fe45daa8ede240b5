/- match.Instance. -/
import Derived.Test.YtdganhamafhfdaaDoorMmD
import Derived.Test.YtdganhamafhfdaaDoorSbE
namespace Go.Proofs.YtdganhamafhfdaaDoor
open Go.RowKit Go.Maps
set_option linter.unusedVariables false
set_option linter.unusedSimpArgs false

def instV (ts us : List Ty) : Bool := (tyV ts && tyV us) && instT (treeOf ts) (treeOf us)
def instE (ts us : List Ty) : Int := if tyV ts && tyV us then 0 else 1100
theorem mtAt_new (w : World) (T : TypeId) : MtAt (((w.alloc (.map #[] 0)).alloc (.map #[] 0)).alloc (.cells #[.map (some w.heap.size), .map (some (w.heap.size + 1))] T)) (w.heap.size + 2) w.heap.size (w.heap.size + 1) 0 MS.none := by
  refine ⟨by simp, by rw [World.cell?_alloc_at _ _ _ _ (by simp)]; rfl, by rw [World.cell?_alloc_at _ _ _ _ (by simp)]; rfl, by omega, ⟨fun _ => none, ?_, fun v => trivial⟩, ?_⟩
  · exact ((mapOf_made w).alloc _).alloc _
  · have h := (mapOf_made (w.alloc (.map #[] 0))).alloc (.cells #[.map (some w.heap.size), .map (some (w.heap.size + 1))] T)
    have e : (w.alloc (.map #[] 0)).heap.size = w.heap.size + 1 := by simp
    rw [e] at h
    exact h
theorem tyArg_some {w : World} {a : Option Addr} {n : Nat} {ts : List Ty} (h : TyArg w a n ts) (hv : tyV ts = true) : ∃ b off, a = some ⟨b, off, none⟩ ∧ TySl w b off ts ∧ b < w.heap.size := by
  obtain ⟨_, h0 | h0⟩ := h
  · rw [h0] at hv; simp [tyV] at hv
  · exact h0
set_option maxRecDepth 100000 in
set_option maxHeartbeats 8000000 in
theorem instance_any (a1 a2 : Option Addr) (n1 n2 c1 c2 : Nat) (ts us : List Ty) (w : World) (h : Hid (TyArg w a1 n1 ts)) (h2 : Hid (TyArg w a2 n2 us)) (hl : n1 ≤ 140737488351232) (hl2 : n2 ≤ 140737488351232) :
    Calls Tryd.prog 39 #[.agg #[.slice a1 n1 c1], .agg #[.slice a2 n2 c2]] w fun e w' => e = .returned (.tuple #[.bool (instV ts us), .int .i64 (instE ts us)]) ∧ Below w.heap.size w w' := by
  have kM := Lib.hid fun (W : World) (hb : Below w.heap.size w W) => tyMay_any a1 n1 c1 ts W (Lib.hid (h.out.below hb)) hl
  have kN := Lib.hid fun (W : World) (hb : Below w.heap.size w W) => tyMay_any a2 n2 c2 us W (Lib.hid (h2.out.below hb)) hl2
  have hX := Lib.hid (show BoxAt ((w.alloc (.cells #[.slice a1 n1 c1] 24)).alloc (.cells #[.slice a2 n2 c2] 24)) w.heap.size (.slice a1 n1 c1) from BoxAt.alloc _ (box_lit _ _ _ _ rfl))
  have hY := Lib.hid (show BoxAt ((w.alloc (.cells #[.slice a1 n1 c1] 24)).alloc (.cells #[.slice a2 n2 c2] 24)) (w.heap.size + 1) (.slice a2 n2 c2) from box_lit _ _ _ _ (by simp))
  have hmm := @run_makeMap Tryd.prog
  cases htv : tyV ts
  · have hv : Hid (instV ts us = false ∧ instE ts us = 1100) := Lib.hid (by unfold instV instE; rw [htv]; exact ⟨rfl, rfl⟩)
    rw [htv] at kM
    clear htv h h2 kN hY
    go_enter Tryd.func39, Tryd.ntmps39
    go_wp2_with fail
    refine (kM.out _ (below_alc2 w _ _)).mono ?_
    rintro e w1 ⟨rfl, hb1⟩
    have hB := Lib.hid (belT (below_alc2 w _ _) hb1)
    clear hb1
    go_wp2_with fail
    go_ret2
    exact ⟨by rw [hv.out.1, hv.out.2]; rfl, hB.out⟩
  cases huv : tyV us
  · have hv : Hid (instV ts us = false ∧ instE ts us = 1100) := Lib.hid (by unfold instV instE; rw [htv, huv]; exact ⟨rfl, rfl⟩)
    rw [htv] at kM
    rw [huv] at kN
    clear htv huv h h2
    go_enter Tryd.func39, Tryd.ntmps39
    go_wp2_with fail
    refine (kM.out _ (below_alc2 w _ _)).mono ?_
    rintro e w1 ⟨rfl, hb1⟩
    have hB := belT (below_alc2 w (.cells #[.slice a1 n1 c1] 24) (.cells #[.slice a2 n2 c2] 24)) hb1
    obtain ⟨x0, x1⟩ := hY.out.below hb1
    clear hb1
    go_wp2_with fail
    refine (kN.out _ hB).mono ?_
    rintro e w2 ⟨rfl, hb2⟩
    go_wp2_with fail
    go_ret2
    exact ⟨by rw [hv.out.1, hv.out.2]; rfl, belT hB hb2⟩
  · have hto := tyV_of htv
    have hto2 := tyV_of huv
    have hv : Hid (instV ts us = instT (treeOf ts) (treeOf us) ∧ instE ts us = 0) := Lib.hid (by unfold instV instE; rw [htv, huv]; exact ⟨rfl, rfl⟩)
    obtain ⟨rfl, _⟩ := h.out
    obtain ⟨rfl, _⟩ := h2.out
    obtain ⟨b, off, rfl, hA4, hA5⟩ := tyArg_some h.out htv
    obtain ⟨b', off', rfl, hA6, hA7⟩ := tyArg_some h2.out huv
    have kO := Lib.hid fun (W : World) (hb : Below w.heap.size w W) => shOf_tree b off c1 ts (treeOf ts) W (Lib.hid (hA4.below hb hA5)) (by have := hb.size; omega) htv hto.1 hto.2.2.2.2
    have kO2 := Lib.hid fun (W : World) (hb : Below w.heap.size w W) => shOf_tree b' off' c2 us (treeOf us) W (Lib.hid (hA6.below hb hA7)) (by have := hb.size; omega) huv hto2.1 hto2.2.2.2.2
    have kT := Lib.hid fun (gg gs gm b1 b2 : Nat) (W : World) (hm : MtAt W gm b1 b2 0 MS.none) (hg : Shp W (treeOf ts) gg) (hs : Shp W (treeOf us) gs) => mtMatch_any (treeOf ts) (treeOf us) gg gs gm b1 b2 0 MS.none W (Lib.hid hm) (Lib.hid hg) (Lib.hid hs) hto.1 hto2.1 (fun _ _ h => by cases h) (by have := hto.2.2.2.1; omega)
    rw [htv] at kM
    rw [huv] at kN
    have hin : Hid ((mtT (treeOf ts) (treeOf us) MS.none).isSome = instT (treeOf ts) (treeOf us)) := Lib.hid rfl
    generalize mtT (treeOf ts) (treeOf us) MS.none = R at kT hin
    rw [← hin.out] at hv
    clear htv huv hto hto2 h h2 hA4 hA6 hin
    unfold MkPost at *
    unfold ptrS at *
    go_enter Tryd.func39, Tryd.ntmps39
    go_wp2_with fail
    refine (kM.out _ (below_alc2 w _ _)).mono ?_
    rintro e w1 ⟨rfl, hb1⟩
    have hB := belT (below_alc2 w (.cells #[.slice (some ⟨b, off, none⟩) ts.length c1] 24) (.cells #[.slice (some ⟨b', off', none⟩) us.length c2] 24)) hb1
    have hX := Lib.hid (hX.out.below hb1)
    have hY := Lib.hid (hY.out.below hb1)
    obtain ⟨x0, x1⟩ := hY.out
    clear hb1
    go_wp2_with fail
    refine (kN.out _ hB).mono ?_
    rintro e w2 ⟨rfl, hb2⟩
    have hX := Lib.hid (hX.out.below hb2)
    have hY := Lib.hid (hY.out.below hb2)
    have hB := Lib.hid (belT hB hb2)
    clear hb2 x0 x1
    have hM := mtAt_new w2 127
    have hBX := belA (.cells #[.map (some w2.heap.size), .map (some (w2.heap.size + 1))] 127) (belA (.map #[] 0) (belA (.map #[] 0) hB.out))
    have hXX := ((hX.out.alloc (.map #[] 0)).alloc (.map #[] 0)).alloc (.cells #[.map (some w2.heap.size), .map (some (w2.heap.size + 1))] 127)
    have hYX := ((hY.out.alloc (.map #[] 0)).alloc (.map #[] 0)).alloc (.cells #[.map (some w2.heap.size), .map (some (w2.heap.size + 1))] 127)
    have hsz := hY.out.1
    have hM := Lib.hid hM; have hBX := Lib.hid hBX; have hXX := Lib.hid hXX; have hYX := Lib.hid hYX
    clear hX hY hB kM kN
    go_upto_region 4 with fail
    generalize hWx : (((w2.alloc (.map #[] 0)).alloc (.map #[] 0)).alloc (.cells #[.map (some w2.heap.size), .map (some (w2.heap.size + 1))] 127)) = X at hM hBX hXX hYX ⊢
    generalize w2.heap.size = B2 at hM hsz ⊢
    clear hWx hmm
    have hS0 : ∀ W, Below X.heap.size X W → (W.cell? ⟨w.heap.size, 0, none⟩ = some (.slice (some ⟨b, off, none⟩) ts.length c1) ∧ W.cell? ⟨w.heap.size + 1, 0, none⟩ = some (.slice (some ⟨b', off', none⟩) us.length c2) ∧ w.heap.size + 1 < W.heap.size ∧ Below w.heap.size w W) := fun W hW => ⟨(hXX.out.below hW).2, (hYX.out.below hW).2, (hYX.out.below hW).1, belT hBX.out hW⟩
    have hb3 : Below X.heap.size X X.drew := (Below.refl _ _).drew
    refine wp_region_held_drew (S := fun W => W.cell? ⟨w.heap.size, 0, none⟩ = some (.slice (some ⟨b, off, none⟩) ts.length c1) ∧ W.cell? ⟨w.heap.size + 1, 0, none⟩ = some (.slice (some ⟨b', off', none⟩) us.length c2) ∧ w.heap.size + 1 < W.heap.size ∧ Below w.heap.size w W) (by kernel_rfl) (hS0 _ hb3) (fun hHeld => ?_)
    generalize X.drew = W3 at hb3 hHeld ⊢
    refine rg_take 0 (some 18) (v := ?v1) rfl rfl (by kernel_rfl) (by kernel_rfl) (by kernel_rfl) (fun _ _ _ h => h) (by rfl) ?hy1 (by assumption) ?_
    case hy1 => intro W hSW; (try dsimp only at hSW); go_simp; (try with_reducible rfl)
    try simp only [Act.put, List.setIfInBounds_toArray, List.set_cons_zero, List.set_cons_succ]
    refine rg_take 2 (some 20) (v := ?v2) rfl rfl (by kernel_rfl) (by kernel_rfl) (by kernel_rfl) (fun _ _ _ h => h) (by rfl) ?hy2 (by assumption) ?_
    case hy2 => intro W hSW; (try dsimp only at hSW); go_simp; (try with_reducible rfl)
    try simp only [Act.put, List.setIfInBounds_toArray, List.set_cons_zero, List.set_cons_succ]
    refine rg_one 1 rfl (by kernel_rfl) (by rfl) (fun K hK => ?_)
    go_simp
    (go_at_call 66; refine (kO.out _ (belT hBX.out hb3)).mono ?_; rintro e w4 ⟨gg, rfl, hs4, hb4⟩)
    refine hK.out _ _ (hS0 _ (belT hb3 hb4)) (fun hHeld1 => ?_)
    clear hK K hHeld
    try simp only [Act.put, List.setIfInBounds_toArray, List.set_cons_zero, List.set_cons_succ]
    refine rg_one 3 rfl (by kernel_rfl) (by rfl) (fun K hK => ?_)
    go_simp
    (go_at_call 66; refine (kO2.out _ (belT hBX.out (belT hb3 hb4))).mono ?_; rintro e w5 ⟨gs, rfl, hs5, hb5⟩)
    refine hK.out _ _ (hS0 _ (belT (belT hb3 hb4) hb5)) (fun hHeld3 => ?_)
    clear hK K hHeld1
    try simp only [Act.put, List.setIfInBounds_toArray, List.set_cons_zero, List.set_cons_succ]
    have hmb := hM.out.below (belT (belT hb3 hb4) hb5)
    have hq := Lib.hid hHeld3
    refine rg_one 4 rfl (by kernel_rfl) (by rfl) (fun K hK => ?_)
    go_simp
    (go_at_call 75; refine (kT.out gg gs _ _ _ _ hmb (hs4.keep hb5) hs5).mono ?_; rintro e w6 ⟨rfl, hb6, _⟩)
    refine hK.out _ _ ⟨hb6.cell hq.out.1 (by show ¬ (w.heap.size = B2 ∨ w.heap.size = B2 + 1); omega), hb6.cell hq.out.2.1 (by show ¬ (w.heap.size + 1 = B2 ∨ w.heap.size + 1 = B2 + 1); omega), by have := hb6.size; have := hq.out.2.2.1; omega, hq.out.2.2.2.trans (hb6.below (by have := hq.out.2.2.2.size; omega) (by rintro k (rfl | rfl) <;> omega))⟩ (fun hHeld4 => ?_)
    clear hK K hHeld3
    try simp only [Act.put, List.setIfInBounds_toArray, List.set_cons_zero, List.set_cons_succ]
    refine rg_take 5 (some 4) (v := ?v3) rfl rfl (by kernel_rfl) (by kernel_rfl) (by kernel_rfl) (fun _ _ _ h => h) (by rfl) ?hy3 (by assumption) ?_
    case hy3 => intro W hSW; (try dsimp only at hSW); go_simp; (try with_reducible rfl)
    try simp only [Act.put, List.setIfInBounds_toArray, List.set_cons_zero, List.set_cons_succ]
    refine rg_take 6 (some 5) (v := ?v4) rfl rfl (by kernel_rfl) (by kernel_rfl) (by kernel_rfl) (fun _ _ _ h => h) (by rfl) ?hy4 (by assumption) ?_
    case hy4 => intro W hSW; (try dsimp only at hSW); go_simp; (try with_reducible rfl)
    try simp only [Act.put, List.setIfInBounds_toArray, List.set_cons_zero, List.set_cons_succ]
    refine wpAnyH_done (by kernel_rfl) ?_ _
    go_wp2_with fail
    go_ret2
    exact ⟨by rw [hv.out.1, hv.out.2]; rfl, hHeld4.2.2.2⟩
end Go.Proofs.YtdganhamafhfdaaDoor
