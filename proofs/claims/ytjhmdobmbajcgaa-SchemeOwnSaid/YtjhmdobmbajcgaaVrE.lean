/- slices.Clone; scheme.Close. -/
import Derived.Test.YtjhmdobmbajcgaaVrC
import Derived.Test.YtjhmdobmbajcgaaSbM
import Derived.Deep.RegionHeld3
namespace Go.Proofs.Ytjhmdobmbajcgaa
open Go.RowKit
set_option linter.unusedVariables false
set_option linter.unusedSimpArgs false

set_option maxRecDepth 100000 in
set_option maxHeartbeats 1000000 in
theorem clone_none (n c : Nat) (w : World) (hn : n = 0) :
    Calls Try.prog 58 #[.slice none n c] w fun e w' => ∃ v, e = .returned v ∧ OwnT w.heap.size w' v [] ∧ Below w.heap.size w w' := by
  subst hn
  have heq : ∀ W : World, (binOp .eql 23 (.slice none 0 c) (.slice none 0 0)).run Try.prog W = .ok (.bool true) W := fun _ => by kernel_rfl
  go_enter Try.func58, Try.ntmps58
  go_wp2_with fail
  go_ret
  exact ⟨_, rfl, OwnT.nil _ _, Below.refl _ _⟩
set_option maxRecDepth 100000 in
set_option maxHeartbeats 1000000 in
theorem clone_some (ad : Addr) (n c : Nat) (l : List Ty) (w : World) (hn : n = l.length) (h : Hid (∀ j u, (tyL l)[j]? = some u → (w.alloc (.cells #[] 47)).cell? (ad.add j) = some u)) (hl : l.length * 72 ≤ 140737488351232) :
    Calls Try.prog 58 #[.slice (some ad) n c] w fun e w' => ∃ v, e = .returned v ∧ OwnT w.heap.size w' v l ∧ Below w.heap.size w w' := by
  subst hn
  obtain ⟨i0, hi, hz0, hz1, hz2⟩ := info_parts infoTy
  have hown0 := Lib.hid (OwnT.fresh w)
  have heq : ∀ W : World, (binOp .eql 23 (.slice (some ad) l.length c) (.slice none 0 0)).run Try.prog W = .ok (.bool false) W := fun _ => by kernel_rfl
  go_enter Try.func58, Try.ntmps58
  go_wp2_with (at_builtin; refine wpList_append_own _ rfl (.tmp 5) (.tmp 6) 23 rfl w.heap.size 47 i0 (.agg #[.int .i64 0, .int .i64 0, .int .i64 0, .int .i64 0, .int .i64 0, .int .i64 0, .int .i64 0, .int .i64 0, .int .i64 0]) 9 72 Try.underlying23 hi hz0 hz1 hz2 rfl (by decide) _ 0 [] rfl hown0.out ad l.length c (tyL l) rfl (tyL_len l) h.out (tyL_one l) (by unfold maxLen; omega) (by omega) (by simp) ?_)
  intro v' w1 hown1 hgr _
  have hbel : Below w.heap.size w w1 := ((Below.refl _ _).alloc (Nat.le_refl _) _).grown hgr (by simp) (by intro k hk; simp [Value.ownBlock] at hk; omega)
  (try rw [Nat.zero_add, List.nil_append] at hown1)
  have hown1' := Lib.hid hown1; clear hown1 hgr
  go_wp2_with fail
  go_ret
  exact ⟨v', rfl, hown1'.out, hbel⟩
theorem clone_any (a : Option Addr) (n c : Nat) (l : List Ty) (w : World) (h : Hid (TyArg w a n l)) (hl : n * 72 ≤ 140737488351232) :
    Calls Try.prog 58 #[.slice a n c] w fun e w' => ∃ v, e = .returned v ∧ OwnT w.heap.size w' v l ∧ Below w.heap.size w w' := by
  obtain ⟨hn, h1⟩ := h.out
  by_cases h0 : l = []
  · subst h0
    cases a with
    | none => exact clone_none n c w hn
    | some ad => exact clone_some ad n c [] w hn (Lib.hid (by intro j u hj; simp [tyL] at hj)) (by simp)
  · obtain ⟨b, off, rfl, hs, hb⟩ := Or.resolve_left h1 h0
    refine clone_some _ n c l w hn (Lib.hid fun j u hj => ?_) (by omega)
    have e : (⟨b, off, none⟩ : Addr).add j = ⟨b, off + j, none⟩ := by simp [Addr.add]; try omega
    rw [e, World.cell?_alloc_past _ _ _ hb]
    exact tySl_get hs j u hj
/-- what Close tells. -/
def CloPost (ts : List Ty) (ks ms : List Int) (w : World) (e : Ending) (w' : World) : Prop :=
  if tyV ts then ∃ v1 v2 v3, e = .returned (.tuple #[.agg #[v1, v2, v3], .int .i64 0]) ∧ OwnI w.heap.size w' v1 (woI (tvs (treeOf ts) []) ks) ∧ OwnI w.heap.size w' v2 (woI (rvs (treeOf ts) []) ms) ∧ OwnT w.heap.size w' v3 ts ∧ (∀ k, v1.ownBlock = some k → ¬ v2.ownBlock = some k) ∧ Below w.heap.size w w'
  else e = .returned (.tuple #[.agg #[.slice none 0 0, .slice none 0 0, .slice none 0 0], .int .i64 1200]) ∧ Below w.heap.size w w'
/-- .. and what stays while it is made. -/
def CloS (w : World) (v1 v2 : Value) (l1 l2 : List Int) (W : World) : Prop := Below w.heap.size w W ∧ OwnI (w.heap.size + 2) W v1 l1 ∧ OwnI (w.heap.size + 2) W v2 l2 ∧ w.heap.size + 1 < W.heap.size
theorem CloS.go {w W W' : World} {v1 v2 x : Value} {l1 l2 : List Int} (h : W.cell? ⟨w.heap.size, 0, none⟩ = some x ∧ CloS w v1 v2 l1 l2 W) (hb : Below W.heap.size W W') : W'.cell? ⟨w.heap.size, 0, none⟩ = some x ∧ CloS w v1 v2 l1 l2 W' := by
  obtain ⟨h0, h1, h2, h3, h4⟩ := h
  exact ⟨carry hb (by omega) h0, belT h1 hb, h2.below hb, h3.below hb, by have := hb.size; omega⟩
theorem CloS.set {w W : World} {v1 v2 x u : Value} {l1 l2 : List Int} {o : Nat} (h : W.cell? ⟨w.heap.size, 0, none⟩ = some x ∧ CloS w v1 v2 l1 l2 W) : (W.setCell ⟨w.heap.size + 1, o, none⟩ u).cell? ⟨w.heap.size, 0, none⟩ = some x ∧ CloS w v1 v2 l1 l2 (W.setCell ⟨w.heap.size + 1, o, none⟩ u) := by
  obtain ⟨h0, h1, h2, h3, h4⟩ := h
  exact ⟨setO h0 (by simp), h1.setCell (by show w.heap.size ≤ w.heap.size + 1; omega) _, ownI_put h2 (by omega), ownI_put h3 (by omega), by simpa using h4⟩
/-- three cells that may be written. -/
def Tri (w : World) (W : World) : Prop := (W.cell? ⟨w.heap.size + 1, 0, none⟩ = some (.slice none 0 0) ∧ W.cell? ⟨w.heap.size + 1, 1, none⟩ = some (.slice none 0 0) ∧ W.cell? ⟨w.heap.size + 1, 2, none⟩ = some (.slice none 0 0)) ∧ W.frozen? ⟨w.heap.size + 1, 0, none⟩ = false ∧ W.frozen? ⟨w.heap.size + 1, 1, none⟩ = false ∧ W.frozen? ⟨w.heap.size + 1, 2, none⟩ = false ∧ w.heap.size + 1 < W.heap.size
theorem Tri.below {w W W' : World} (h : Tri w W) (hb : Below W.heap.size W W') : Tri w W' := by
  obtain ⟨⟨c0, c1, c2⟩, f0, f1, f2, hl⟩ := h
  exact ⟨⟨carry hb hl c0, carry hb hl c1, carry hb hl c2⟩, by rw [hb.frozen (p := ⟨w.heap.size + 1, 0, none⟩) hl]; exact f0, by rw [hb.frozen (p := ⟨w.heap.size + 1, 1, none⟩) hl]; exact f1, by rw [hb.frozen (p := ⟨w.heap.size + 1, 2, none⟩) hl]; exact f2, by have := hb.size; omega⟩
theorem tri_mk (w : World) (o : Obj) : Tri w ((w.alloc o).alloc (.cells #[.slice none 0 0, .slice none 0 0, .slice none 0 0] 56)) :=
  ⟨⟨by simp, by simp, by simp⟩, by simp [go_sem], by simp [go_sem], by simp [go_sem], by simp⟩
set_option maxRecDepth 100000 in
set_option maxHeartbeats 8000000 in
theorem close_any (a a2 a3 : Option Addr) (n c n2 c2 n3 c3 : Nat) (ts : List Ty) (ks ms : List Int) (w : World) (h : Hid (TyArg w a n ts)) (h2 : Hid (IsArg w a2 n2 ks)) (h3 : Hid (IsArg w a3 n3 ms)) (hl : n ≤ 140737488351232) (hl2 : n2 ≤ 140737488351232) (hl3 : n3 ≤ 140737488351232) :
    Calls Try.prog 24 #[.agg #[.slice a n c], .slice a2 n2 c2, .slice a3 n3 c3] w (CloPost ts ks ms w) := by
  have kV := Lib.hid fun (W : World) (hb : Below w.heap.size w W) => vars_any a n c ts W (Lib.hid (h.out.below hb)) hl
  have hX := Lib.hid (show BoxAt ((w.alloc (.cells #[.slice a n c] 25)).alloc (.cells #[.slice none 0 0, .slice none 0 0, .slice none 0 0] 56)) w.heap.size (.slice a n c) from BoxAt.alloc _ (box_lit _ _ _ _ rfl))
  have hTr := Lib.hid (tri_mk w (.cells #[.slice a n c] 25))
  unfold CloPost
  unfold VarsPost at kV
  cases htv : tyV ts
  · rw [htv] at kV
    clear htv
    simp only [Bool.false_eq_true, if_false] at kV ⊢
    go_enter Try.func24, Try.ntmps24
    go_wp2_with fail
    refine (kV.out _ (below_alc2 w _ _)).mono ?_
    rintro e w1 ⟨rfl, hb1⟩
    obtain ⟨⟨q0, q1, q2⟩, f0, f1, f2, hz⟩ := hTr.out.below hb1
    have hB := Lib.hid (belT (below_alc2 w _ _) hb1)
    clear hb1
    go_wp2_with fail
    exact bodyPost_ret (v := .tuple #[.agg #[.slice none 0 0, .slice none 0 0, .slice none 0 0], .int .i64 1200]) (by simp [results, Try.results24, go_sem, *]) rfl ⟨rfl, by have := hB.out; (repeat' (first | with_reducible exact Below.refl _ _ | with_reducible assumption | with_reducible apply Below.setCell | with_reducible apply Below.alloc | with_reducible apply Below.drew | with_reducible apply below_drewN | with_reducible exact Nat.le_refl _ | (simp; done) | (simp; omega) | omega | exact Nat.le_refl _))⟩
  · rw [htv] at kV
    have hle := tyV_le htv
    have hto := tyV_of htv
    have t1 := tvs_len (treeOf ts) []
    have t2 := rvs_len (treeOf ts) []
    simp only [List.length_nil] at t1 t2
    simp only [if_true] at kV ⊢
    obtain ⟨L1, hL1⟩ : ∃ l, tvs (treeOf ts) [] = l := ⟨_, rfl⟩
    obtain ⟨L2, hL2⟩ : ∃ l, rvs (treeOf ts) [] = l := ⟨_, rfl⟩
    rw [hL1, hL2] at kV ⊢
    rw [hL1] at t1
    rw [hL2] at t2
    have hnn := h.out.1
    have hn72 : n * 72 ≤ 140737488351232 := by omega
    have kT := Lib.hid fun (W : World) (hb : Below w.heap.size w W) => clone_any a n c ts W (Lib.hid (h.out.below hb)) hn72
    have hb256 : L1.length ≤ 256 ∧ L2.length ≤ 256 := by omega
    have hb256 := Lib.hid hb256
    clear htv hL1 hL2 hto hle t1 t2 hnn
    go_enter Try.func24, Try.ntmps24
    go_wp2_with fail
    refine (kV.out _ (below_alc2 w _ _)).mono ?_
    rintro e w1 ⟨u1, u2, rfl, hu1, hu2, hne, hb1⟩
    obtain ⟨x1, m1, d1, rfl⟩ := ownI_sl hu1
    obtain ⟨x2, m2, d2, rfl⟩ := ownI_sl hu2
    have hTr1 := Lib.hid (hTr.out.below hb1)
    have hst := Lib.hid (show w1.cell? ⟨w.heap.size, 0, none⟩ = some (.slice a n c) ∧ CloS w (.slice x1 m1 d1) (.slice x2 m2 d2) L1 L2 w1 from ⟨(hX.out.below hb1).2, belT (below_alc2 w _ _) hb1, hu1.le (by simp), hu2.le (by simp), hTr1.out.2.2.2.2⟩)
    have hm1 : m1 ≤ 256 := by have := hu1.arg.1; have := hb256.out; omega
    have hm2 : m2 ≤ 256 := by have := hu2.arg.1; have := hb256.out; omega
    have kW1 := Lib.hid fun (W : World) (hW : CloS w (.slice x1 m1 d1) (.slice x2 m2 d2) L1 L2 W) => without_any x1 a2 m1 d1 n2 c2 L1 ks W (Lib.hid hW.2.1.arg) (Lib.hid (h2.out.below hW.1)) (by omega) hl2
    have kW2 := Lib.hid fun (W : World) (hW : CloS w (.slice x1 m1 d1) (.slice x2 m2 d2) L1 L2 W) => without_any x2 a3 m2 d2 n3 c3 L2 ms W (Lib.hid hW.2.2.1.arg) (Lib.hid (h3.out.below hW.1)) (by omega) hl3
    have kT2 := Lib.hid fun (W : World) (hW : CloS w (.slice x1 m1 d1) (.slice x2 m2 d2) L1 L2 W) => kT.out W hW.1
    clear hb1 hu1 hu2 hne kV kT hX hTr
    go_upto_region 4 with fail
    go_region_held3 (fun W => W.cell? ⟨w.heap.size, 0, none⟩ = some (.slice a n c) ∧ CloS w (.slice x1 m1 d1) (.slice x2 m2 d2) L1 L2 W)
      (repeat (first | with_reducible exact hS10.out | with_reducible exact hS9.out | with_reducible exact hS8.out | with_reducible exact hst.out | with_reducible refine CloS.go ?_ ((Below.refl _ _).drew) | with_reducible refine CloS.set ?_))
      ((first
        | (go_at_call 57; have hh := hS8; clear hh; refine (kW2.out _ (And.right (by assumption))).mono ?_; rintro e w9 ⟨v9, rfl, hv9, hb9⟩; have hS9 := Lib.hid (CloS.go (by assumption) hb9); obtain ⟨x9, m9, d9, rfl⟩ := ownI_sl hv9)
        | (go_at_call 57; refine (kW1.out _ (And.right (by assumption))).mono ?_; rintro e w8 ⟨v8, rfl, hv8, hb8⟩; have hS8 := Lib.hid (CloS.go (by assumption) hb8); obtain ⟨x8, m8, d8, rfl⟩ := ownI_sl hv8)
        | (go_at_call 58; refine (kT2.out _ (And.right (by assumption))).mono ?_; rintro e w10 ⟨v10, rfl, hv10, hb10⟩; have hS10 := Lib.hid (CloS.go (by assumption) hb10); obtain ⟨x10, m10, d10, rfl⟩ := ownT_sl hv10; have hTr8 : Tri w w8 := (by first | exact Tri.below (Tri.below hTr1.out ((Below.refl _ _).drew)) hb8 | exact Tri.below hTr1.out hb8); have hTr9 : Tri w w9 := (by first | exact Tri.below hTr8 hb9 | exact Tri.below (Tri.below hTr8 ((Below.refl _ _).drew)) hb9); have hTr4 : Tri w w10 := (by first | exact Tri.below hTr9 hb10 | exact Tri.below (Tri.below hTr9 ((Below.refl _ _).drew)) hb10); obtain ⟨⟨q0, q1, q2⟩, f0, f1, f2, hz⟩ := hTr4)))
    go_wp2_with fail
    have hsz : w.heap.size + 1 < w1.drew.heap.size := hTr1.out.2.2.2.2
    have s8 : w1.drew.heap.size ≤ w8.heap.size := hb8.size
    have s9 : w8.heap.size ≤ w9.heap.size := hb9.size
    have hB10 := hS10.out.2.1
    have hfin : ∀ W, W = (((w10.setCell ⟨w.heap.size + 1, 0, none⟩ (.slice x8 m8 d8)).setCell ⟨w.heap.size + 1, 1, none⟩ (.slice x9 m9 d9)).setCell ⟨w.heap.size + 1, 2, none⟩ (.slice x10 m10 d10)) → ∃ v1 v2 v3, (Ending.returned (.tuple #[.agg #[.slice x8 m8 d8, .slice x9 m9 d9, .slice x10 m10 d10], .int .i64 0])) = .returned (.tuple #[.agg #[v1, v2, v3], .int .i64 0]) ∧ OwnI w.heap.size W v1 (woI L1 ks) ∧ OwnI w.heap.size W v2 (woI L2 ms) ∧ OwnT w.heap.size W v3 ts ∧ (∀ k, v1.ownBlock = some k → ¬ v2.ownBlock = some k) ∧ Below w.heap.size w W := by
      rintro W rfl
      refine ⟨_, _, _, rfl, OwnI.le (ownI_put (ownI_put (ownI_put ((hv8.below hb9).below hb10) hsz) hsz) hsz) (by omega), OwnI.le (ownI_put (ownI_put (ownI_put (hv9.below hb10) (by omega)) (by omega)) (by omega)) (by omega), ownT_le (ownT_put (ownT_put (ownT_put hv10 (by omega)) (by omega)) (by omega)) (by omega), fun k hk hk' => ?_, by have := hB10; (repeat' (first | with_reducible exact Below.refl _ _ | with_reducible assumption | with_reducible apply Below.setCell | with_reducible apply Below.alloc | with_reducible apply Below.drew | with_reducible apply below_drewN | with_reducible exact Nat.le_refl _ | (simp; done) | (simp; omega) | omega | exact Nat.le_refl _))⟩
      have h1 := (own_lt hv8 k hk).2
      have h2 := (own_lt hv9 k hk').1
      omega
    exact bodyPost_ret (v := .tuple #[.agg #[.slice x8 m8 d8, .slice x9 m9 d9, .slice x10 m10 d10], .int .i64 0]) (by simp [results, Try.results24, go_sem, q0, q1, q2, hz]) rfl (hfin _ rfl)
end Go.Proofs.Ytjhmdobmbajcgaa
