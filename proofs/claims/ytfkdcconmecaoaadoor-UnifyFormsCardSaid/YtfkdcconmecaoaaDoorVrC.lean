/- typ.visit, Vars. -/
import Derived.Test.YtfkdcconmecaoaaDoorVrA
import Derived.Test.YtfkdcconmecaoaaDoorSbE
import Derived.Test.YtfkdcconmecaoaaDoorRcP
import Derived.Deep.RegionHeld3
/- typ.visit, Vars. -/
/- typ.visit, Vars. -/
namespace Go.Proofs.YtfkdcconmecaoaaDoor
open Go.RowKit
set_option linter.unusedVariables false
set_option linter.unusedSimpArgs false

set_option maxRecDepth 100000 in
set_option maxHeartbeats 4000000 in
theorem visit_any (p1 p2 B : Nat) (bt off c : Nat) (ts : List Ty) (hbt : bt < B) (hb1 : bt ≠ p1) (hb2 : bt ≠ p2) (hl : ts.length ≤ 256) : ∀ (T : TT) (i : Nat) (w : World) (v1 v2 : Value) (l1 l2 : List Int), Hid (SubAt ts T i) → T.ok = true → Hid (TySl w bt off ts) → Hid (TwoI B p1 0 p2 0 w v1 v2 l1 l2) → l1.length + T.sz ≤ 100000 → l2.length + T.sz ≤ 100000 →
    Calls Tryd.prog 93 #[.slice (some ⟨bt, off, none⟩) ts.length c, .int .i64 i, fnV 94 p1 p2] w (VPost B p1 0 p2 0 w v1 v2 (tvs T l1) (rvs T l2)) := by
  have kF : ∀ (xs : Array Value) (W : World), (callFunc 94 xs).run Tryd.prog W = .ok (.enter 94 xs) W := fun _ _ => by kernel_rfl
  have kF := Lib.hid kF
  intro T
  induction T with
  | base k =>
    intro i w v1 v2 l1 l2 hS hT hN h hz1 hz2
    obtain ⟨hi, hn⟩ := hS.out
    have hk : k = 0 ∨ k = 1 := by simpa [TT.ok] using hT
    have hA := hN.out i hi
    rw [hn] at hA
    obtain ⟨e0, e1, e2, e3, e4, e5, e6, e7, e8⟩ := hA
    simp only [bsT] at e0 e1 e2 e3 e4 e5 e6 e7 e8
    have g3 : (k == 3) = false := beq_eq_false_iff_ne.2 (by omega)
    have g4 : (k != 3) = true := by simpa using g3
    have hbw : bt < w.heap.size := by have := h.out.hB; omega
    have kS := Lib.hid fun (W : World) (hb : Below w.heap.size w W) => vars1_any p1 p2 B (bsT k) W v1 v2 l1 l2 (Lib.hid (h.out.below hb)) (by omega) (by omega)
    have s1 : vs1 (bsT k) l1 = l1 := by unfold vs1 bsT; rw [if_neg (by simp only []; omega)]
    have s2 : vs2 (bsT k) l2 = l2 := by unfold vs2 bsT; rw [if_neg (by simp only []; omega)]
    rw [s1, s2] at kS
    simp only [bsT] at kS
    have hi' : (i : Int) < (ts.length : Int) := by omega
    have hi0 : (0 : Int) ≤ (i : Int) := by omega
    clear hn hk s1 s2 hT
    unfold fnV
    go_enter Tryd.func93, Tryd.ntmps93
    have kF' := kF.out
    go_wp2_with fail
    refine (kS.out _ (below_alc w _)).mono ?_
    rintro e w1 ⟨rfl, v1', v2', hp, hg⟩
    have hpg := Lib.hid (And.intro hp ((GoV.of_below (below_alc w _)).trans hg))
    clear hp hg
    go_wp2_with fail
    go_end0
    exact ⟨rfl, v1', v2', hpg.out.1, hpg.out.2⟩
  | var v =>
    intro i w v1 v2 l1 l2 hS hT hN h hz1 hz2
    obtain ⟨hi, hn⟩ := hS.out
    have hA := hN.out i hi
    rw [hn] at hA
    obtain ⟨e0, e1, e2, e3, e4, e5, e6, e7, e8⟩ := hA
    simp only [vrT] at e0 e1 e2 e3 e4 e5 e6 e7 e8
    have hbw : bt < w.heap.size := by have := h.out.hB; omega
    have kS := Lib.hid fun (W : World) (hb : Below w.heap.size w W) => vars1_any p1 p2 B (vrT v) W v1 v2 l1 l2 (Lib.hid (h.out.below hb)) (by omega) (by omega)
    have s1 : vs1 (vrT v) l1 = tvs (.var v) l1 := rfl
    have s2 : vs2 (vrT v) l2 = l2 := rfl
    rw [s1, s2] at kS
    simp only [vrT] at kS
    have s3 : rvs (.var v) l2 = l2 := rfl
    rw [s3]
    generalize tvs (.var v) l1 = L1 at kS ⊢
    have hi' : (i : Int) < (ts.length : Int) := by omega
    have hi0 : (0 : Int) ≤ (i : Int) := by omega
    clear hn s1 s2 s3 hT
    unfold fnV
    go_enter Tryd.func93, Tryd.ntmps93
    have kF' := kF.out
    go_wp2_with fail
    refine (kS.out _ (below_alc w _)).mono ?_
    rintro e w1 ⟨rfl, v1', v2', hp, hg⟩
    have hpg := Lib.hid (And.intro hp ((GoV.of_below (below_alc w _)).trans hg))
    clear hp hg
    go_wp2_with fail
    go_end0
    exact ⟨rfl, v1', v2', hpg.out.1, hpg.out.2⟩
  | fn a r b iha ihb =>
    intro i w v1 v2 l1 l2 hS hT hN h hz1 hz2
    obtain ⟨hi, j, k, hn, hji, hki, hSa, hSb⟩ := hS.out
    unfold TT.ok at hT
    simp only [Bool.and_eq_true] at hT
    have hsz : (TT.fn a r b).sz = a.sz + b.sz + 1 := rfl
    rw [hsz] at hz1 hz2
    have hA := hN.out i hi
    rw [hn] at hA
    obtain ⟨e0, e1, e2, e3, e4, e5, e6, e7, e8⟩ := hA
    simp only [fnT] at e0 e1 e2 e3 e4 e5 e6 e7 e8
    have hbw : bt < w.heap.size := by have := h.out.hB; omega
    have t1 := tvs_len a l1
    have t2 := rvs_len a l2
    have t3 := addT_len (rvs a l2) r.t
    have kA := Lib.hid fun (W : World) (hb : Below w.heap.size w W) => iha j W v1 v2 l1 l2 (Lib.hid hSa) hT.1.1 (Lib.hid (hN.out.below hb hbw)) (Lib.hid (h.out.below hb)) (by omega) (by omega)
    have kS := Lib.hid fun (W : World) (u1 u2 : Value) (hW : TwoI B p1 0 p2 0 W u1 u2 (tvs a l1) (rvs a l2)) => vars1_any p1 p2 B (fnT j k r) W u1 u2 (tvs a l1) (rvs a l2) (Lib.hid hW) (by omega) (by omega)
    have kB := Lib.hid fun (W : World) (u1 u2 : Value) (hW : TwoI B p1 0 p2 0 W u1 u2 (tvs a l1) (addT (rvs a l2) r.t)) (hNW : TySl W bt off ts) => ihb k W u1 u2 (tvs a l1) (addT (rvs a l2) r.t) (Lib.hid hSb) hT.2 (Lib.hid hNW) (Lib.hid hW) (by omega) (by omega)
    have s1 : vs1 (fnT j k r) (tvs a l1) = tvs a l1 := rfl
    have s2 : vs2 (fnT j k r) (rvs a l2) = addT (rvs a l2) r.t := rfl
    rw [s1, s2] at kS
    have s3 : tvs b (tvs a l1) = tvs (.fn a r b) l1 := rfl
    have s4 : rvs b (addT (rvs a l2) r.t) = rvs (.fn a r b) l2 := rfl
    rw [s3, s4] at kB
    generalize tvs (.fn a r b) l1 = R1 at kB ⊢
    generalize rvs (.fn a r b) l2 = R2 at kB ⊢
    generalize addT (rvs a l2) r.t = M2 at kS kB
    generalize tvs a l1 = M1 at kA kS kB
    generalize rvs a l2 = L2 at kA kS
    simp only [fnT] at kS
    have hi' : (i : Int) < (ts.length : Int) := by omega
    have hi0 : (0 : Int) ≤ (i : Int) := by omega
    have hX0 : Hid (TnAt (w.alloc (.cells #[.int .i64 3, .int .i64 0, .int .i64 j, .int .i64 k, .int .i64 r.a, .int .i64 r.b, .int .i64 r.c, .int .i64 r.d, .int .i64 r.t] 38)) w.heap.size (fnT j k r)) := Lib.hid (TnAt.alc rfl rfl)
    clear hn s1 s2 s3 s4 hT hz1 hz2 t1 t2 t3 hsz iha ihb hSa hSb hS
    unfold fnV at *
    go_enter Tryd.func93, Tryd.ntmps93
    have kF' := kF.out
    go_wp2_with fail
    clear e0 e1 e2 e3 e4 e5 e6 e7 e8
    refine (kA.out _ (below_alc w _)).mono ?_
    rintro e w1 ⟨rfl, u1, u2, hp1, hg1⟩
    have hX1 := Lib.hid (hX0.out.bar hg1.bar (h.out.fresh (Nat.le_refl _)))
    have hN1 := Lib.hid ((hN.out.below (below_alc w _) hbw).bar hg1.bar (h.out.low hbt hb1 hb2))
    have hV1 : Hid (¬ SV p1 p2 u1 u2 w.heap.size) := Lib.hid fun hs => h.out.fresh (Nat.le_refl _) (hg1.away (by simp) hs)
    have hG1 := Lib.hid ((GoV.of_below (below_alc w _)).trans hg1)
    have hP1 := Lib.hid hp1
    have hs1 := hG1.out.bar.size
    clear hp1 hg1
    obtain ⟨x0, x1, x2, x3, x4, x5, x6, x7, x8, x9⟩ := hX1.out
    simp only [fnT] at x1 x2 x3 x4 x5 x6 x7 x8 x9
    go_wp2_with fail
    clear x0 x1 x2 x3 x4 x5 x6 x7 x8 x9
    refine (kS.out _ _ _ hP1.out).mono ?_
    rintro e w2 ⟨rfl, y1, y2, hp2, hg2⟩
    have hX2 := Lib.hid (hX1.out.bar hg2.bar hV1.out)
    have hN2 := Lib.hid (hN1.out.bar hg2.bar (hP1.out.low hbt hb1 hb2))
    have hG2 := Lib.hid (hG1.out.trans hg2)
    have hP2 := Lib.hid hp2
    clear hp2 hg2
    obtain ⟨x0, x1, x2, x3, x4, x5, x6, x7, x8, x9⟩ := hX2.out
    simp only [fnT] at x1 x2 x3 x4 x5 x6 x7 x8 x9
    go_wp2_with fail
    clear x0 x1 x2 x3 x4 x5 x6 x7 x8 x9
    refine (kB.out _ _ _ hP2.out hN2.out).mono ?_
    rintro e w3 ⟨rfl, z1, z2, hp3, hg3⟩
    have hG3 := Lib.hid (hG2.out.trans hg3)
    have hP3 := Lib.hid hp3
    clear hp3 hg3
    go_wp2_with fail
    go_end0
    exact ⟨rfl, z1, z2, hP3.out, hG3.out⟩
def VarsPost (ts : List Ty) (w : World) (e : Ending) (w' : World) : Prop :=
  if tyV ts then ∃ v1 v2, e = .returned (.tuple #[v1, v2, .int .i64 0]) ∧ OwnI w.heap.size w' v1 (tvs (treeOf ts) []) ∧ OwnI w.heap.size w' v2 (rvs (treeOf ts) []) ∧ (∀ k, v1.ownBlock = some k → ¬ v2.ownBlock = some k) ∧ Below w.heap.size w w'
  else e = .returned (.tuple #[.slice none 0 0, .slice none 0 0, .int .i64 700]) ∧ Below w.heap.size w w'
set_option maxRecDepth 100000 in
set_option maxHeartbeats 4000000 in
theorem vars_any (a : Option Addr) (n c : Nat) (ts : List Ty) (w : World) (h : Hid (TyArg w a n ts)) (hl : n ≤ 140737488351232) :
    Calls Tryd.prog 77 #[.agg #[.slice a n c]] w (VarsPost ts w) := by
  have kM := Lib.hid fun (W : World) (hb : Below w.heap.size w W) => tyMay_any a n c ts W (Lib.hid (h.out.below hb)) hl
  unfold VarsPost
  cases htv : tyV ts
  · rw [htv] at kM
    clear htv
    simp only [Bool.false_eq_true, if_false]
    go_enter Tryd.func77, Tryd.ntmps77
    go_wp2_with fail
    refine (kM.out _ (below_alc w _)).mono ?_
    rintro e w1 ⟨rfl, hb1⟩
    have hB := Lib.hid (belT (below_alc w _) hb1)
    clear hb1
    go_wp2_with fail
    go_ret3
    exact ⟨rfl, hB.out⟩
  · rw [htv] at kM
    simp only [if_true]
    have hto := tyV_of htv
    have hle := tyV_le htv
    obtain ⟨rfl, hA2⟩ := h.out
    obtain ⟨b', off', rfl, hA4, hA5⟩ : ∃ b off, a = some ⟨b, off, none⟩ ∧ TySl w b off ts ∧ b < w.heap.size := by
      rcases hA2 with h0 | h0
      · rw [h0] at hle; simp at hle
      · exact h0
    have kV := Lib.hid fun (W : World) (p : Nat) (hb : Below w.heap.size w W) (hp : w.heap.size ≤ p) (hT : TwoI (p + 2) p 0 (p + 1) 0 W (.slice none 0 0) (.slice none 0 0) [] []) => visit_any p (p + 1) (p + 2) b' off' c ts (by omega) (by omega) (by omega) hle.2 (treeOf ts) (ts.length - 1) W (.slice none 0 0) (.slice none 0 0) [] [] (Lib.hid hto.2.2.2.2) hto.1 (Lib.hid (hA4.below hb hA5)) (Lib.hid hT) (by simp; omega) (by simp; omega)
    rw [show ((ts.length - 1 : Nat) : Int) = (ts.length : Int) - 1 by omega] at kV
    generalize tvs (treeOf ts) [] = L1 at kV ⊢
    generalize rvs (treeOf ts) [] = L2 at kV ⊢
    have hX := Lib.hid (box_lit w 24 w.heap.size (.slice (some ⟨b', off', none⟩) ts.length c) rfl)
    clear htv hto hA2
    unfold fnV at kV
    go_enter Tryd.func77, Tryd.ntmps77
    go_wp2_with fail
    refine (kM.out _ (below_alc w _)).mono ?_
    rintro e w1 ⟨rfl, hb1⟩
    have hX1 := Lib.hid (hX.out.below hb1)
    have hB1 := Lib.hid (belT (below_alc w _) hb1)
    clear hb1
    have hs1 := hB1.out.size
    obtain ⟨x0, x1⟩ := hX1.out
    have x2 : w.heap.size < w1.heap.size + 1 + 1 := by omega
    have hT1 : Hid (TwoI (w1.heap.size + 2) w1.heap.size 0 (w1.heap.size + 1) 0 ((w1.alloc (.cells #[.slice none 0 0] 52)).alloc (.cells #[.slice none 0 0] 52)) (.slice none 0 0) (.slice none 0 0) [] []) := Lib.hid ⟨by simp, by simp, by simp [go_sem], by simp [go_sem], OwnI.nil _ _, OwnI.nil _ _, fun k hk => by simp [Value.ownBlock] at hk, by omega, by omega, by simp, .inl (by omega)⟩
    go_wp2_with fail
    clear x0 x1 x2
    refine (kV.out _ w1.heap.size (belA _ (belA _ hB1.out)) (by omega) hT1.out).mono ?_
    rintro e w2 ⟨rfl, u1, u2, hp2, hg2⟩
    have hB2 := Lib.hid ((belA _ (belA _ hB1.out)).trans (hT1.out.belowB hg2 (by have := hB1.out.size; omega) (by have := hB1.out.size; omega)))
    have c1 := hp2.c1
    have c2 := hp2.c2
    have hz : w1.heap.size + 2 ≤ w2.heap.size := hp2.hB
    have hP2 := Lib.hid hp2
    clear hp2 hg2
    go_wp2_with fail
    go_quiet (fail)
    go_wp2_with fail
    go_ret3
    exact ⟨u1, u2, rfl, OwnI.le (hP2.out.i1.below (below_drewN (Below.refl _ _) _)) (by omega), OwnI.le (hP2.out.i2.below (below_drewN (Below.refl _ _) _)) (by omega), hP2.out.ne, below_drewN hB2.out _⟩
end Go.Proofs.YtfkdcconmecaoaaDoor

/- slices.Clone. -/
namespace Go.Proofs.YtfkdcconmecaoaaDoor
open Go.RowKit
set_option linter.unusedVariables false
set_option linter.unusedSimpArgs false

end Go.Proofs.YtfkdcconmecaoaaDoor

/- Numbers in a block just made. -/
namespace Go.Proofs.YtfkdcconmecaoaaDoor
open Go.RowKit
set_option linter.unusedVariables false
set_option linter.unusedSimpArgs false

theorem IsArg.alloc {w : World} {a : Option Addr} {n : Nat} {l : List Int} (o : Obj) (h : IsArg w a n l) : IsArg (w.alloc o) a n l := h.below (below_alc w o)
theorem isArg_lit (w : World) (arr : Array Value) (T : TypeId) (g n : Nat) (l : List Int) (hg : g = w.heap.size) (hn : n = l.length) (h : arr.toList = inL l) : IsArg (w.alloc (.cells arr T)) (some ⟨g, 0, none⟩) n l := by
  subst hg
  refine ⟨hn, .inr ⟨_, _, rfl, fun i hi => ?_, by simp⟩⟩
  rw [World.cell?_alloc_at _ _ _ _ rfl, Nat.zero_add, ← Array.getElem?_toList, h, inL_get, List.getD_eq_getElem?_getD, List.getElem?_eq_getElem hi]
  rfl
end Go.Proofs.YtfkdcconmecaoaaDoor

/- The reference's names of variables: at, kind, row, walkVars, VarsOf. -/
namespace Go.Proofs.YtfkdcconmecaoaaDoor
open Go.RowKit
set_option linter.unusedVariables false
set_option linter.unusedSimpArgs false

/-- where a number stands. -/
def posI (l : List Int) (v : Int) : Nat := (addI l v).findIdx (· == v)
theorem posI_at {l : List Int} {v : Int} {j : Nat} (hj : j < l.length) (h1 : hasI (l.take j) v = false) (h2 : l.getD j 0 = v) : posI l v = j ∧ addI l v = l := by
  have hm : hasI l v = true := (hasI_iff l v).2 (by rw [← h2, List.getD_eq_getElem?_getD, List.getElem?_eq_getElem hj]; exact List.getElem_mem hj)
  have e : addI l v = l := by unfold addI; rw [hm]; rfl
  refine ⟨?_, e⟩
  unfold posI
  rw [e, List.findIdx_eq hj]
  have e2 : l.getD j 0 = l[j] := by rw [List.getD_eq_getElem?_getD, List.getElem?_eq_getElem hj]; rfl
  refine ⟨by rw [← e2, h2]; simp, fun k hk => ?_⟩
  cases hq : (l[k] == v)
  · rfl
  · have : v ∈ l.take j := by
      rw [List.mem_take_iff_getElem]
      exact ⟨k, by omega, beq_iff_eq.1 hq⟩
    rw [(hasI_iff _ _).2 this] at h1; cases h1
theorem posI_new {l : List Int} {v : Int} (h : hasI l v = false) : posI l v = l.length ∧ addI l v = l ++ [v] := by
  have e : addI l v = l ++ [v] := by unfold addI; rw [h]; rfl
  refine ⟨?_, e⟩
  unfold posI
  rw [e, List.findIdx_eq (by simp)]
  refine ⟨by simp, fun k hk => ?_⟩
  rw [List.getElem_append_left hk]
  cases hq : (l[k] == v)
  · rfl
  · have : v ∈ l := by rw [← beq_iff_eq.1 hq]; exact List.getElem_mem hk
    rw [(hasI_iff _ _).2 this] at h; cases h
set_option maxRecDepth 100000 in
set_option maxHeartbeats 4000000 in
theorem rat_any (B : Nat) (v : Value) (l : List Int) (x : Int) (w : World) (h : Hid (OwnI B w v l)) (hB : B ≤ w.heap.size) (hl : l.length ≤ 100000) :
    Calls Tryd.prog 87 #[v, .int .i64 x] w fun e w' => ∃ v', e = .returned (.tuple #[v', .int .i64 (posI l x : Nat)]) ∧ OwnI B w' v' (addI l x) ∧ Bar (fun k => v.ownBlock = some k) w w' ∧ Moved w v v' := by
  obtain ⟨a, n, c, hv⟩ := ownI_sl h.out
  subst hv
  obtain ⟨hn, hA⟩ := h.out.arg
  subst hn
  obtain ⟨P, hP⟩ : ∃ p, posI l x = p := ⟨_, rfl⟩
  obtain ⟨R, hR⟩ : ∃ p, addI l x = p := ⟨_, rfl⟩
  have hfound := Lib.hid fun (j : Nat) hj h1 h2 => posI_at (l := l) (v := x) (j := j) hj h1 h2
  have hnew := Lib.hid fun h => posI_new (l := l) (v := x) h
  rw [hP, hR] at hfound hnew ⊢
  clear hP hR
  go_enter Tryd.func87, Tryd.ntmps87
  go_wp2_with fail
  go_loopw [6] (fun i wr => ∃ j : Nat, j ≤ l.length ∧ i = .int .i64 j ∧ wr = w ∧ Hid (hasI (l.take j) x = false)) (fun i _ => l.length - (intOf i).toNat)
  case atStart => exact ⟨0, by omega, rfl, rfl, Lib.hid rfl⟩
  case round =>
    obtain ⟨j, hj, rfl, hwr, hno⟩ := hrel
    subst hwr
    by_cases hlt : j < l.length
    · obtain ⟨b, off, rfl, hs, hb⟩ := isArg_at hA hlt
      have hc := hs j hlt
      have htk := Lib.hid (hasI_take hlt x)
      have hfin := Lib.hid (show l.getD j 0 = x → P = j ∧ R = l from fun e => hfound.out j hlt hno.out e)
      generalize l.getD j 0 = y at hc htk hfin
      have hlt' : (j : Int) < (l.length : Int) := by omega
      have hj0 : (0 : Int) ≤ (j : Int) := by omega
      clear hs hA
      cases hq : (y == x)
      · have hq2 := Lib.hid hq
        go_wp2_with fail
        go_roundw
        case rel => exact ⟨j + 1, by omega, by go_num, by first | rfl | trivial, Lib.hid (by rw [htk.out, hno.out, hq2.out]; rfl)⟩
        case measure => simp [intOf]; omega
      · obtain ⟨e1, e2⟩ := hfin.out (beq_iff_eq.1 hq)
        have e1 := Lib.hid e1
        have e2' := Lib.hid e2
        clear e2
        go_wp2_with fail
        go_ret2
        exact ⟨_, by rw [e1.out]; rfl, by rw [e2'.out]; exact h.out, Bar.refl _ _, Moved.refl _ _⟩
    · obtain ⟨e1, e2⟩ := hnew.out (by have := hno.out; rwa [List.take_of_length_le (by omega)] at this)
      have e1' := Lib.hid e1
      have e2' := Lib.hid e2
      clear e1 e2
      go_wp2_with (at_builtin; refine op_inh rfl (.tmp 21) (.tmp 23) _ wr B hB (by (repeat' (first | with_reducible exact Below.refl _ _ | with_reducible assumption | with_reducible apply Below.setCell | with_reducible apply Below.alloc | with_reducible apply Below.drew | with_reducible apply below_drewN | with_reducible exact Nat.le_refl _ | (simp; done) | (simp; omega) | omega | exact Nat.le_refl _))) _ l _ rfl rfl _ (by first | (simp; done) | (simp; omega)) rfl h.out (by omega) ?_)
      intro g3 c3 w3 hO3 hBar3 hM3
      have hO3' := Lib.hid hO3; have hBar3' := Lib.hid hBar3; have hM3' := Lib.hid hM3
      clear hO3 hBar3 hM3
      go_wp2_with fail
      go_ret2
      exact ⟨_, by rw [e1'.out]; first | rfl | simp | (congr 4; omega), by rw [e2'.out]; exact hO3'.out, hBar3'.out, hM3'.out⟩
set_option maxRecDepth 100000 in
set_option maxHeartbeats 4000000 in
theorem nkind_any (g B : Nat) (x : Int) (w : World) (v1 v2 : Value) (l1 l2 : List Int) (h : Hid (TwoI B g 0 g 1 w v1 v2 l1 l2)) (hl1 : l1.length ≤ 100000) (hl2 : l2.length ≤ 100000) :
    Calls Tryd.prog 70 #[.pointer (some ⟨g, 0, none⟩), .int .i64 x] w fun e w' => e = .returned (.int .i64 (posI l1 x : Nat)) ∧ ∃ v1' v2', TwoI B g 0 g 1 w' v1' v2' (addI l1 x) l2 ∧ GoV g g w w' v1 v2 v1' v2' := by
  have c0 := h.out.c1
  have f0 := h.out.f1 0
  have hB1 := h.out.B1; have hBw := h.out.hB
  have hg : g < w.heap.size := by omega
  obtain ⟨a, n, c, hv⟩ := ownI_sl h.out.i1
  have kA := Lib.hid (rat_any B v1 l1 x w (Lib.hid h.out.i1) hBw hl1)
  generalize posI l1 x = P at kA ⊢
  have hfin := Lib.hid fun (w' : World) (v' : Value) (hO : OwnI B w' v' (addI l1 x)) (hb : Bar (fun k => v1.ownBlock = some k) w w') (hm : Moved w v1 v') => h.out.app1 hO hb hm
  have hkeep := Lib.hid fun (w' : World) (hb : Bar (fun k => v1.ownBlock = some k) w w') => (show w'.cell? ⟨g, 0, none⟩ = some v1 ∧ w'.frozen? ⟨g, 0, none⟩ = false ∧ g < w'.heap.size from ⟨hb.cell h.out.c1 (fun e => by have : B ≤ g := (own_lt h.out.i1 _ e).1; omega), by rw [hb.frozen hg (fun e => by have : B ≤ g := (own_lt h.out.i1 _ e).1; omega)]; exact h.out.f1 0, by have := hb.size; omega⟩)
  subst hv
  generalize addI l1 x = R at kA hfin ⊢
  go_enter Tryd.func70, Tryd.ntmps70
  go_wp2_with fail
  refine kA.out.mono ?_
  rintro e w1 ⟨v', rfl, hO, hBar, hM⟩
  obtain ⟨k0, k1, k2⟩ := hkeep.out w1 hBar
  have hF := Lib.hid (hfin.out w1 v' hO hBar hM)
  obtain ⟨a', n', c', hve⟩ := ownI_sl hO
  subst hve
  clear hO hBar hM
  go_wp2_with fail
  go_ret
  exact ⟨rfl, _, _, hF.out.1, hF.out.2⟩
set_option maxRecDepth 100000 in
set_option maxHeartbeats 4000000 in
theorem nrow_any (g B : Nat) (x : Int) (w : World) (v1 v2 : Value) (l1 l2 : List Int) (h : Hid (TwoI B g 0 g 1 w v1 v2 l1 l2)) (hl1 : l1.length ≤ 100000) (hl2 : l2.length ≤ 100000) :
    Calls Tryd.prog 88 #[.pointer (some ⟨g, 0, none⟩), .int .i64 x] w fun e w' => e = .returned (.int .i64 (posI l2 x : Nat)) ∧ ∃ v1' v2', TwoI B g 0 g 1 w' v1' v2' l1 (addI l2 x) ∧ GoV g g w w' v1 v2 v1' v2' := by
  have c0 := h.out.c2
  have f0 := h.out.f2 1
  have hB1 := h.out.B1; have hBw := h.out.hB
  have hg : g < w.heap.size := by omega
  obtain ⟨a, n, c, hv⟩ := ownI_sl h.out.i2
  have kA := Lib.hid (rat_any B v2 l2 x w (Lib.hid h.out.i2) hBw hl2)
  generalize posI l2 x = P at kA ⊢
  have hfin := Lib.hid fun (w' : World) (v' : Value) (hO : OwnI B w' v' (addI l2 x)) (hb : Bar (fun k => v2.ownBlock = some k) w w') (hm : Moved w v2 v') => h.out.app2 hO hb hm
  have hkeep := Lib.hid fun (w' : World) (hb : Bar (fun k => v2.ownBlock = some k) w w') => (show w'.cell? ⟨g, 1, none⟩ = some v2 ∧ w'.frozen? ⟨g, 1, none⟩ = false ∧ g < w'.heap.size from ⟨hb.cell h.out.c2 (fun e => by have : B ≤ g := (own_lt h.out.i2 _ e).1; omega), by rw [hb.frozen hg (fun e => by have : B ≤ g := (own_lt h.out.i2 _ e).1; omega)]; exact h.out.f2 1, by have := hb.size; omega⟩)
  subst hv
  generalize addI l2 x = R at kA hfin ⊢
  go_enter Tryd.func88, Tryd.ntmps88
  go_wp2_with fail
  refine kA.out.mono ?_
  rintro e w1 ⟨v', rfl, hO, hBar, hM⟩
  obtain ⟨k0, k1, k2⟩ := hkeep.out w1 hBar
  have hF := Lib.hid (hfin.out w1 v' hO hBar hM)
  obtain ⟨a', n', c', hve⟩ := ownI_sl hO
  subst hve
  clear hO hBar hM
  go_wp2_with fail
  go_ret
  exact ⟨rfl, _, _, hF.out.1, hF.out.2⟩
end Go.Proofs.YtfkdcconmecaoaaDoor
