/- typ.visit, Vars. -/
import Derived.Test.YtdganhamafhfdaaDoorVrA
import Derived.Test.YtdganhamafhfdaaDoorSbE
import Derived.Test.YtdganhamafhfdaaDoorRcP
import Derived.Deep.RegionHeld3
/- typ.visit, Vars. -/
namespace Go.Proofs.YtdganhamafhfdaaDoor
open Go.RowKit
set_option linter.unusedVariables false
set_option linter.unusedSimpArgs false

set_option maxRecDepth 100000 in
set_option maxHeartbeats 4000000 in
theorem visit_any (p1 p2 B : Nat) (bt off c : Nat) (ts : List Ty) (hbt : bt < B) (hb1 : bt ≠ p1) (hb2 : bt ≠ p2) (hl : ts.length ≤ 256) : ∀ (T : TT) (i : Nat) (w : World) (v1 v2 : Value) (l1 l2 : List Int), Hid (SubAt ts T i) → T.ok = true → Hid (TySl w bt off ts) → Hid (TwoI B p1 0 p2 0 w v1 v2 l1 l2) → l1.length + T.sz ≤ 100000 → l2.length + T.sz ≤ 100000 →
    Calls Tryd.prog 48 #[.slice (some ⟨bt, off, none⟩) ts.length c, .int .i64 i, fnV 49 p1 p2] w (VPost B p1 0 p2 0 w v1 v2 (tvs T l1) (rvs T l2)) := by
  have kF : ∀ (xs : Array Value) (W : World), (callFunc 49 xs).run Tryd.prog W = .ok (.enter 49 xs) W := fun _ _ => by kernel_rfl
  have kF := Lib.hid kF
  intro T
  induction T with
  | base k =>
    intro i w v1 v2 l1 l2 hS hT hN h hz1 hz2
    obtain ⟨hi, hn⟩ := hS.out
    have hk : k = 0 ∨ k = 1 := by simpa [TT.ok] using hT
    have hA := hN.out i hi
    rw [hn] at hA
    obtain ⟨e0, e1, e2, e3, e4, e5, e6, e7, e8⟩ := hA
    simp only [bsT] at e0 e1 e2 e3 e4 e5 e6 e7 e8
    have g3 : (k == 3) = false := beq_eq_false_iff_ne.2 (by omega)
    have g4 : (k != 3) = true := by simpa using g3
    have hbw : bt < w.heap.size := by have := h.out.hB; omega
    have kS := Lib.hid fun (W : World) (hb : Below w.heap.size w W) => vars1_any p1 p2 B (bsT k) W v1 v2 l1 l2 (Lib.hid (h.out.below hb)) (by omega) (by omega)
    have s1 : vs1 (bsT k) l1 = l1 := by unfold vs1 bsT; rw [if_neg (by simp only []; omega)]
    have s2 : vs2 (bsT k) l2 = l2 := by unfold vs2 bsT; rw [if_neg (by simp only []; omega)]
    rw [s1, s2] at kS
    simp only [bsT] at kS
    have hi' : (i : Int) < (ts.length : Int) := by omega
    have hi0 : (0 : Int) ≤ (i : Int) := by omega
    clear hn hk s1 s2 hT
    unfold fnV
    go_enter Tryd.func48, Tryd.ntmps48
    have kF' := kF.out
    go_wp2_with fail
    refine (kS.out _ (below_alc w _)).mono ?_
    rintro e w1 ⟨rfl, v1', v2', hp, hg⟩
    have hpg := Lib.hid (And.intro hp ((GoV.of_below (below_alc w _)).trans hg))
    clear hp hg
    go_wp2_with fail
    go_end0
    exact ⟨rfl, v1', v2', hpg.out.1, hpg.out.2⟩
  | var v =>
    intro i w v1 v2 l1 l2 hS hT hN h hz1 hz2
    obtain ⟨hi, hn⟩ := hS.out
    have hA := hN.out i hi
    rw [hn] at hA
    obtain ⟨e0, e1, e2, e3, e4, e5, e6, e7, e8⟩ := hA
    simp only [vrT] at e0 e1 e2 e3 e4 e5 e6 e7 e8
    have hbw : bt < w.heap.size := by have := h.out.hB; omega
    have kS := Lib.hid fun (W : World) (hb : Below w.heap.size w W) => vars1_any p1 p2 B (vrT v) W v1 v2 l1 l2 (Lib.hid (h.out.below hb)) (by omega) (by omega)
    have s1 : vs1 (vrT v) l1 = tvs (.var v) l1 := rfl
    have s2 : vs2 (vrT v) l2 = l2 := rfl
    rw [s1, s2] at kS
    simp only [vrT] at kS
    have s3 : rvs (.var v) l2 = l2 := rfl
    rw [s3]
    generalize tvs (.var v) l1 = L1 at kS ⊢
    have hi' : (i : Int) < (ts.length : Int) := by omega
    have hi0 : (0 : Int) ≤ (i : Int) := by omega
    clear hn s1 s2 s3 hT
    unfold fnV
    go_enter Tryd.func48, Tryd.ntmps48
    have kF' := kF.out
    go_wp2_with fail
    refine (kS.out _ (below_alc w _)).mono ?_
    rintro e w1 ⟨rfl, v1', v2', hp, hg⟩
    have hpg := Lib.hid (And.intro hp ((GoV.of_below (below_alc w _)).trans hg))
    clear hp hg
    go_wp2_with fail
    go_end0
    exact ⟨rfl, v1', v2', hpg.out.1, hpg.out.2⟩
  | fn a r b iha ihb =>
    intro i w v1 v2 l1 l2 hS hT hN h hz1 hz2
    obtain ⟨hi, j, k, hn, hji, hki, hSa, hSb⟩ := hS.out
    unfold TT.ok at hT
    simp only [Bool.and_eq_true] at hT
    have hsz : (TT.fn a r b).sz = a.sz + b.sz + 1 := rfl
    rw [hsz] at hz1 hz2
    have hA := hN.out i hi
    rw [hn] at hA
    obtain ⟨e0, e1, e2, e3, e4, e5, e6, e7, e8⟩ := hA
    simp only [fnT] at e0 e1 e2 e3 e4 e5 e6 e7 e8
    have hbw : bt < w.heap.size := by have := h.out.hB; omega
    have t1 := tvs_len a l1
    have t2 := rvs_len a l2
    have t3 := addT_len (rvs a l2) r.t
    have kA := Lib.hid fun (W : World) (hb : Below w.heap.size w W) => iha j W v1 v2 l1 l2 (Lib.hid hSa) hT.1.1 (Lib.hid (hN.out.below hb hbw)) (Lib.hid (h.out.below hb)) (by omega) (by omega)
    have kS := Lib.hid fun (W : World) (u1 u2 : Value) (hW : TwoI B p1 0 p2 0 W u1 u2 (tvs a l1) (rvs a l2)) => vars1_any p1 p2 B (fnT j k r) W u1 u2 (tvs a l1) (rvs a l2) (Lib.hid hW) (by omega) (by omega)
    have kB := Lib.hid fun (W : World) (u1 u2 : Value) (hW : TwoI B p1 0 p2 0 W u1 u2 (tvs a l1) (addT (rvs a l2) r.t)) (hNW : TySl W bt off ts) => ihb k W u1 u2 (tvs a l1) (addT (rvs a l2) r.t) (Lib.hid hSb) hT.2 (Lib.hid hNW) (Lib.hid hW) (by omega) (by omega)
    have s1 : vs1 (fnT j k r) (tvs a l1) = tvs a l1 := rfl
    have s2 : vs2 (fnT j k r) (rvs a l2) = addT (rvs a l2) r.t := rfl
    rw [s1, s2] at kS
    have s3 : tvs b (tvs a l1) = tvs (.fn a r b) l1 := rfl
    have s4 : rvs b (addT (rvs a l2) r.t) = rvs (.fn a r b) l2 := rfl
    rw [s3, s4] at kB
    generalize tvs (.fn a r b) l1 = R1 at kB ⊢
    generalize rvs (.fn a r b) l2 = R2 at kB ⊢
    generalize addT (rvs a l2) r.t = M2 at kS kB
    generalize tvs a l1 = M1 at kA kS kB
    generalize rvs a l2 = L2 at kA kS
    simp only [fnT] at kS
    have hi' : (i : Int) < (ts.length : Int) := by omega
    have hi0 : (0 : Int) ≤ (i : Int) := by omega
    have hX0 : Hid (TnAt (w.alloc (.cells #[.int .i64 3, .int .i64 0, .int .i64 j, .int .i64 k, .int .i64 r.a, .int .i64 r.b, .int .i64 r.c, .int .i64 r.d, .int .i64 r.t] 52)) w.heap.size (fnT j k r)) := Lib.hid (TnAt.alc rfl rfl)
    clear hn s1 s2 s3 s4 hT hz1 hz2 t1 t2 t3 hsz iha ihb hSa hSb hS
    unfold fnV at *
    go_enter Tryd.func48, Tryd.ntmps48
    have kF' := kF.out
    go_wp2_with fail
    clear e0 e1 e2 e3 e4 e5 e6 e7 e8
    refine (kA.out _ (below_alc w _)).mono ?_
    rintro e w1 ⟨rfl, u1, u2, hp1, hg1⟩
    have hX1 := Lib.hid (hX0.out.bar hg1.bar (h.out.fresh (Nat.le_refl _)))
    have hN1 := Lib.hid ((hN.out.below (below_alc w _) hbw).bar hg1.bar (h.out.low hbt hb1 hb2))
    have hV1 : Hid (¬ SV p1 p2 u1 u2 w.heap.size) := Lib.hid fun hs => h.out.fresh (Nat.le_refl _) (hg1.away (by simp) hs)
    have hG1 := Lib.hid ((GoV.of_below (below_alc w _)).trans hg1)
    have hP1 := Lib.hid hp1
    have hs1 := hG1.out.bar.size
    clear hp1 hg1
    obtain ⟨x0, x1, x2, x3, x4, x5, x6, x7, x8, x9⟩ := hX1.out
    simp only [fnT] at x1 x2 x3 x4 x5 x6 x7 x8 x9
    go_wp2_with fail
    clear x0 x1 x2 x3 x4 x5 x6 x7 x8 x9
    refine (kS.out _ _ _ hP1.out).mono ?_
    rintro e w2 ⟨rfl, y1, y2, hp2, hg2⟩
    have hX2 := Lib.hid (hX1.out.bar hg2.bar hV1.out)
    have hN2 := Lib.hid (hN1.out.bar hg2.bar (hP1.out.low hbt hb1 hb2))
    have hG2 := Lib.hid (hG1.out.trans hg2)
    have hP2 := Lib.hid hp2
    clear hp2 hg2
    obtain ⟨x0, x1, x2, x3, x4, x5, x6, x7, x8, x9⟩ := hX2.out
    simp only [fnT] at x1 x2 x3 x4 x5 x6 x7 x8 x9
    go_wp2_with fail
    clear x0 x1 x2 x3 x4 x5 x6 x7 x8 x9
    refine (kB.out _ _ _ hP2.out hN2.out).mono ?_
    rintro e w3 ⟨rfl, z1, z2, hp3, hg3⟩
    have hG3 := Lib.hid (hG2.out.trans hg3)
    have hP3 := Lib.hid hp3
    clear hp3 hg3
    go_wp2_with fail
    go_end0
    exact ⟨rfl, z1, z2, hP3.out, hG3.out⟩
def VarsPost (ts : List Ty) (w : World) (e : Ending) (w' : World) : Prop :=
  if tyV ts then ∃ v1 v2, e = .returned (.tuple #[v1, v2, .int .i64 0]) ∧ OwnI w.heap.size w' v1 (tvs (treeOf ts) []) ∧ OwnI w.heap.size w' v2 (rvs (treeOf ts) []) ∧ (∀ k, v1.ownBlock = some k → ¬ v2.ownBlock = some k) ∧ Below w.heap.size w w'
  else e = .returned (.tuple #[.slice none 0 0, .slice none 0 0, .int .i64 700]) ∧ Below w.heap.size w w'
set_option maxRecDepth 100000 in
set_option maxHeartbeats 4000000 in
theorem vars_any (a : Option Addr) (n c : Nat) (ts : List Ty) (w : World) (h : Hid (TyArg w a n ts)) (hl : n ≤ 140737488351232) :
    Calls Tryd.prog 20 #[.agg #[.slice a n c]] w (VarsPost ts w) := by
  have kM := Lib.hid fun (W : World) (hb : Below w.heap.size w W) => tyMay_any a n c ts W (Lib.hid (h.out.below hb)) hl
  unfold VarsPost
  cases htv : tyV ts
  · rw [htv] at kM
    clear htv
    simp only [Bool.false_eq_true, if_false]
    go_enter Tryd.func20, Tryd.ntmps20
    go_wp2_with fail
    refine (kM.out _ (below_alc w _)).mono ?_
    rintro e w1 ⟨rfl, hb1⟩
    have hB := Lib.hid (belT (below_alc w _) hb1)
    clear hb1
    go_wp2_with fail
    go_ret3
    exact ⟨rfl, hB.out⟩
  · rw [htv] at kM
    simp only [if_true]
    have hto := tyV_of htv
    have hle := tyV_le htv
    obtain ⟨rfl, hA2⟩ := h.out
    obtain ⟨b', off', rfl, hA4, hA5⟩ : ∃ b off, a = some ⟨b, off, none⟩ ∧ TySl w b off ts ∧ b < w.heap.size := by
      rcases hA2 with h0 | h0
      · rw [h0] at hle; simp at hle
      · exact h0
    have kV := Lib.hid fun (W : World) (p : Nat) (hb : Below w.heap.size w W) (hp : w.heap.size ≤ p) (hT : TwoI (p + 2) p 0 (p + 1) 0 W (.slice none 0 0) (.slice none 0 0) [] []) => visit_any p (p + 1) (p + 2) b' off' c ts (by omega) (by omega) (by omega) hle.2 (treeOf ts) (ts.length - 1) W (.slice none 0 0) (.slice none 0 0) [] [] (Lib.hid hto.2.2.2.2) hto.1 (Lib.hid (hA4.below hb hA5)) (Lib.hid hT) (by simp; omega) (by simp; omega)
    rw [show ((ts.length - 1 : Nat) : Int) = (ts.length : Int) - 1 by omega] at kV
    generalize tvs (treeOf ts) [] = L1 at kV ⊢
    generalize rvs (treeOf ts) [] = L2 at kV ⊢
    have hX := Lib.hid (box_lit w 24 w.heap.size (.slice (some ⟨b', off', none⟩) ts.length c) rfl)
    clear htv hto hA2
    unfold fnV at kV
    go_enter Tryd.func20, Tryd.ntmps20
    go_wp2_with fail
    refine (kM.out _ (below_alc w _)).mono ?_
    rintro e w1 ⟨rfl, hb1⟩
    have hX1 := Lib.hid (hX.out.below hb1)
    have hB1 := Lib.hid (belT (below_alc w _) hb1)
    clear hb1
    have hs1 := hB1.out.size
    obtain ⟨x0, x1⟩ := hX1.out
    have x2 : w.heap.size < w1.heap.size + 1 + 1 := by omega
    have hT1 : Hid (TwoI (w1.heap.size + 2) w1.heap.size 0 (w1.heap.size + 1) 0 ((w1.alloc (.cells #[.slice none 0 0] 34)).alloc (.cells #[.slice none 0 0] 34)) (.slice none 0 0) (.slice none 0 0) [] []) := Lib.hid ⟨by simp, by simp, by simp [go_sem], by simp [go_sem], OwnI.nil _ _, OwnI.nil _ _, fun k hk => by simp [Value.ownBlock] at hk, by omega, by omega, by simp, .inl (by omega)⟩
    go_wp2_with fail
    clear x0 x1 x2
    refine (kV.out _ w1.heap.size (belA _ (belA _ hB1.out)) (by omega) hT1.out).mono ?_
    rintro e w2 ⟨rfl, u1, u2, hp2, hg2⟩
    have hB2 := Lib.hid ((belA _ (belA _ hB1.out)).trans (hT1.out.belowB hg2 (by have := hB1.out.size; omega) (by have := hB1.out.size; omega)))
    have c1 := hp2.c1
    have c2 := hp2.c2
    have hz : w1.heap.size + 2 ≤ w2.heap.size := hp2.hB
    have hP2 := Lib.hid hp2
    clear hp2 hg2
    go_wp2_with fail
    go_quiet (fail)
    go_wp2_with fail
    go_ret3
    exact ⟨u1, u2, rfl, OwnI.le (hP2.out.i1.below (below_drewN (Below.refl _ _) _)) (by omega), OwnI.le (hP2.out.i2.below (below_drewN (Below.refl _ _) _)) (by omega), hP2.out.ne, below_drewN hB2.out _⟩
end Go.Proofs.YtdganhamafhfdaaDoor

/- slices.Clone. -/
namespace Go.Proofs.YtdganhamafhfdaaDoor
open Go.RowKit
set_option linter.unusedVariables false
set_option linter.unusedSimpArgs false

set_option maxRecDepth 100000 in
set_option maxHeartbeats 1000000 in
theorem clone_none (n c : Nat) (w : World) (hn : n = 0) :
    Calls Tryd.prog 53 #[.slice none n c] w fun e w' => ∃ v, e = .returned v ∧ OwnT w.heap.size w' v [] ∧ Below w.heap.size w w' := by
  subst hn
  have heq : ∀ W : World, (binOp .eql 22 (.slice none 0 c) (.slice none 0 0)).run Tryd.prog W = .ok (.bool true) W := fun _ => by kernel_rfl
  go_enter Tryd.func53, Tryd.ntmps53
  go_wp2_with fail
  go_ret
  exact ⟨_, rfl, OwnT.nil _ _, Below.refl _ _⟩
set_option maxRecDepth 100000 in
set_option maxHeartbeats 1000000 in
theorem clone_some (ad : Addr) (n c : Nat) (l : List Ty) (w : World) (hn : n = l.length) (h : Hid (∀ j u, (tyL l)[j]? = some u → (w.alloc (.cells #[] 52)).cell? (ad.add j) = some u)) (hl : l.length * 72 ≤ 140737488351232) :
    Calls Tryd.prog 53 #[.slice (some ad) n c] w fun e w' => ∃ v, e = .returned v ∧ OwnT w.heap.size w' v l ∧ Below w.heap.size w w' := by
  subst hn
  obtain ⟨i0, hi, hz0, hz1, hz2⟩ := info_parts infoTy
  have hown0 := Lib.hid (OwnT.fresh w)
  have heq : ∀ W : World, (binOp .eql 22 (.slice (some ad) l.length c) (.slice none 0 0)).run Tryd.prog W = .ok (.bool false) W := fun _ => by kernel_rfl
  go_enter Tryd.func53, Tryd.ntmps53
  go_wp2_with (at_builtin; refine wpList_append_own _ rfl (.tmp 5) (.tmp 6) 22 rfl w.heap.size 52 i0 (.agg #[.int .i64 0, .int .i64 0, .int .i64 0, .int .i64 0, .int .i64 0, .int .i64 0, .int .i64 0, .int .i64 0, .int .i64 0]) 9 72 Tryd.underlying22 hi hz0 hz1 hz2 rfl (by decide) _ 0 [] rfl hown0.out ad l.length c (tyL l) rfl (tyL_len l) h.out (tyL_one l) (by unfold maxLen; omega) (by omega) (by simp) ?_)
  intro v' w1 hown1 hgr _
  have hbel : Below w.heap.size w w1 := ((Below.refl _ _).alloc (Nat.le_refl _) _).grown hgr (by simp) (by intro k hk; simp [Value.ownBlock] at hk; omega)
  (try rw [Nat.zero_add, List.nil_append] at hown1)
  have hown1' := Lib.hid hown1; clear hown1 hgr
  go_wp2_with fail
  go_ret
  exact ⟨v', rfl, hown1'.out, hbel⟩
theorem clone_any (a : Option Addr) (n c : Nat) (l : List Ty) (w : World) (h : Hid (TyArg w a n l)) (hl : n * 72 ≤ 140737488351232) :
    Calls Tryd.prog 53 #[.slice a n c] w fun e w' => ∃ v, e = .returned v ∧ OwnT w.heap.size w' v l ∧ Below w.heap.size w w' := by
  obtain ⟨hn, h1⟩ := h.out
  by_cases h0 : l = []
  · subst h0
    cases a with
    | none => exact clone_none n c w hn
    | some ad => exact clone_some ad n c [] w hn (Lib.hid (by intro j u hj; simp [tyL] at hj)) (by simp)
  · obtain ⟨b, off, rfl, hs, hb⟩ := Or.resolve_left h1 h0
    refine clone_some _ n c l w hn (Lib.hid fun j u hj => ?_) (by omega)
    have e : (⟨b, off, none⟩ : Addr).add j = ⟨b, off + j, none⟩ := by simp [Addr.add]; try omega
    rw [e, World.cell?_alloc_past _ _ _ hb]
    exact tySl_get hs j u hj
end Go.Proofs.YtdganhamafhfdaaDoor

/- Numbers in a block just made. -/
namespace Go.Proofs.YtdganhamafhfdaaDoor
open Go.RowKit
set_option linter.unusedVariables false
set_option linter.unusedSimpArgs false

theorem IsArg.alloc {w : World} {a : Option Addr} {n : Nat} {l : List Int} (o : Obj) (h : IsArg w a n l) : IsArg (w.alloc o) a n l := h.below (below_alc w o)
theorem isArg_lit (w : World) (arr : Array Value) (T : TypeId) (g n : Nat) (l : List Int) (hg : g = w.heap.size) (hn : n = l.length) (h : arr.toList = inL l) : IsArg (w.alloc (.cells arr T)) (some ⟨g, 0, none⟩) n l := by
  subst hg
  refine ⟨hn, .inr ⟨_, _, rfl, fun i hi => ?_, by simp⟩⟩
  rw [World.cell?_alloc_at _ _ _ _ rfl, Nat.zero_add, ← Array.getElem?_toList, h, inL_get, List.getD_eq_getElem?_getD, List.getElem?_eq_getElem hi]
  rfl
end Go.Proofs.YtdganhamafhfdaaDoor
