/- Layer 10's awake. -/
import Derived.Test.YtfkdcconmecaoaaDoorSfc
import Derived.Test.YtfkdcconmecaoaaDoorArx
import Derived.Test.YtfkdcconmecaoaaDoorSbH
import Derived.Test.YtfkdcconmecaoaaDoorSbK
import Derived.Deep.RegionHeld3
/- Layer 10's awake. -/
namespace Go.Proofs.YtfkdcconmecaoaaDoor
open Go.RowKit
set_option linter.unusedVariables false
set_option linter.unusedSimpArgs false

theorem SenB.up {a0 a1 a2 : Addr} {w w' : World} (h : SenB w.heap.size a0 a1 a2 w) (hb : Below w.heap.size w w') : SenB w'.heap.size a0 a1 a2 w' := by
  obtain ⟨e1, e2, e3, e4, e5, e6, e7⟩ := h.bel hb
  have := hb.size
  exact ⟨e1, by omega, by omega, by omega, by omega, by omega, by omega⟩
def rwP : Rw := ⟨0, 0, 0, 0, -1⟩
def rwO : Rw := ⟨0, 0, 0, 0, 0⟩
def uA : List Ty := [vrT 0, vrT 1, fnT 0 1 rwO]
def uB : List Ty := [ty0, vrT 0, fnT 0 1 rwP]
def uM : List Bo := [.ty 0 (.base 0), .rw 0 rwP, .ty 1 (.base 0)]
theorem uaA : arwL [vrT 0] rwO [vrT 1] = uA := by kernel_rfl
theorem uaB : arwL [ty0] rwP [vrT 0] = uB := by kernel_rfl
theorem ua1 : UnRes 3 uA uB (.ok ⟨uM, 3⟩) := by unfold UnRes; rw [if_pos (by kernel_rfl)]; exact ⟨5, by kernel_rfl⟩
theorem ua2 : UnRes 3 [vrT 0] uA (.error 2) := by unfold UnRes; rw [if_pos (by kernel_rfl)]; exact ⟨5, by kernel_rfl⟩
theorem ua3 : UnRes 3 [ty0] uA (.error 1) := by unfold UnRes; rw [if_pos (by kernel_rfl)]; exact ⟨5, by kernel_rfl⟩
theorem ua4 : UnRes 0 uA uB (.error 0) := by unfold UnRes; rw [if_neg (by intro h; have e : unOk 0 uA uB = false := by kernel_rfl
                                                                          rw [e] at h; cases h)]
theorem bnl3 {xs : List Bn} {b0 b1 b2 : Bo} (h : BnL xs [b0, b1, b2]) : ∃ x0 x1 x2, xs = [x0, x1, x2] ∧ bnRel x0 b0 ∧ bnRel x1 b1 ∧ bnRel x2 b2 := by
  match xs, h with
  | [x0, x1, x2], h => exact ⟨x0, x1, x2, rfl, h.1, h.2.1, h.2.2.1⟩
/-- the three binds that awake looks at. -/
def AwB (W : World) (G : Nat) (a : Option Addr) (c : Nat) : Prop :=
  G < W.heap.size ∧ W.cell? ⟨G, 0, none⟩ = some (.int .i64 0) ∧ W.cell? ⟨G, 1, none⟩ = some (.bool false) ∧ W.cell? ⟨G, 8, none⟩ = some (.int .i64 0) ∧ W.cell? ⟨G, 9, none⟩ = some (.bool true) ∧
  (W.cell? ⟨G, 11, none⟩ = some (.int .i64 0) ∧ W.cell? ⟨G, 12, none⟩ = some (.int .i64 0) ∧ W.cell? ⟨G, 13, none⟩ = some (.int .i64 0) ∧ W.cell? ⟨G, 14, none⟩ = some (.int .i64 0) ∧ W.cell? ⟨G, 15, none⟩ = some (.int .i64 (-1))) ∧
  W.cell? ⟨G, 16, none⟩ = some (.int .i64 1) ∧ W.cell? ⟨G, 18, none⟩ = some (.slice a 1 c) ∧ TyArg W a 1 [ty0]
theorem AwB.below {W W' : World} {G : Nat} {a : Option Addr} {c : Nat} (h : AwB W G a c) (hb : Below W.heap.size W W') : AwB W' G a c := by
  obtain ⟨h0, h1, h2, h3, h4, ⟨h5, h6, h7, h8, h9⟩, h10, h11, h12⟩ := h
  exact ⟨by have := hb.size; omega, carry hb h0 h1, carry hb h0 h2, carry hb h0 h3, carry hb h0 h4, ⟨carry hb h0 h5, carry hb h0 h6, carry hb h0 h7, carry hb h0 h8, carry hb h0 h9⟩, carry hb h0 h10, carry hb h0 h11, h12.below hb⟩
theorem awB_of {B : Nat} {W : World} {v : Value} {xs : List Bn} (hM : MadeIs B W v xs) (hL : BnL xs uM) : ∃ G c' a c, v = .slice (some ⟨G, 0, none⟩) 3 c' ∧ AwB W G a c := by
  obtain ⟨x0, x1, x2, rfl, h0, h1, h2⟩ := bnl3 hL
  obtain ⟨a, n, c', rfl⟩ : ∃ a n c, v = .slice a n c := by
    rcases hM.own.cases with ⟨h, _⟩ | ⟨g, c, h, _⟩
    · exact ⟨_, _, _, h⟩
    · exact ⟨_, _, _, h⟩
  rcases hM.own.cases with ⟨_, h⟩ | ⟨g, c, hv, _, hg, _, hc, _⟩
  · cases h
  · injection hv with e1 e2 e3
    subst e1; subst e2
    have ht := (hM.ty x2 (by simp)).1
    obtain ⟨q0, q1, q2, q3, q4⟩ := h0
    obtain ⟨r0, r1, r2, r3, r4⟩ := h1
    obtain ⟨s0, s1, s2, s3, s4⟩ := h2
    have hn : x2.n = 1 := s3
    have hns : x2.ns = [ty0] := s2.trans (by kernel_rfl)
    rw [hn, hns] at ht
    refine ⟨g, c', x2.ad, x2.c, rfl, hg, hc 0 _ ?_, hc 1 _ ?_, hc 8 _ ?_, hc 9 _ ?_, ⟨hc 11 _ ?_, hc 12 _ ?_, hc 13 _ ?_, hc 14 _ ?_, hc 15 _ ?_⟩, hc 16 _ ?_, hc 18 _ ?_, ht⟩
    all_goals simp [bnL, bnL1, q0, q1, r0, r1, r4, s0, hn, rwP]
theorem aw_go {g : Nat} {W3 W W' : World} (hg : g < W3.heap.size) (H : W.cell? ⟨g, 0, none⟩ = some (.int .i64 0) ∧ W.cell? ⟨g, 1, none⟩ = some (.int .i64 0) ∧ W.cell? ⟨g, 2, none⟩ = some (.int .i64 0) ∧ W.cell? ⟨g, 3, none⟩ = some (.int .i64 0) ∧ W.cell? ⟨g, 4, none⟩ = some (.int .i64 (-1)) ∧ Below W3.heap.size W3 W) (hb : Below W.heap.size W W') :
    W'.cell? ⟨g, 0, none⟩ = some (.int .i64 0) ∧ W'.cell? ⟨g, 1, none⟩ = some (.int .i64 0) ∧ W'.cell? ⟨g, 2, none⟩ = some (.int .i64 0) ∧ W'.cell? ⟨g, 3, none⟩ = some (.int .i64 0) ∧ W'.cell? ⟨g, 4, none⟩ = some (.int .i64 (-1)) ∧ Below W3.heap.size W3 W' := by
  obtain ⟨h0, h1, h2, h3, h4, h5⟩ := H
  have hl : g < W.heap.size := by have := h5.size; omega
  exact ⟨carry hb hl h0, carry hb hl h1, carry hb hl h2, carry hb hl h3, carry hb hl h4, belT h5 hb⟩
theorem aw_set {g k o : Nat} {W3 W : World} {x : Value} (hg : g < W3.heap.size) (hk : W3.heap.size ≤ k) (H : W.cell? ⟨g, 0, none⟩ = some (.int .i64 0) ∧ W.cell? ⟨g, 1, none⟩ = some (.int .i64 0) ∧ W.cell? ⟨g, 2, none⟩ = some (.int .i64 0) ∧ W.cell? ⟨g, 3, none⟩ = some (.int .i64 0) ∧ W.cell? ⟨g, 4, none⟩ = some (.int .i64 (-1)) ∧ Below W3.heap.size W3 W) :
    (W.setCell ⟨k, o, none⟩ x).cell? ⟨g, 0, none⟩ = some (.int .i64 0) ∧ (W.setCell ⟨k, o, none⟩ x).cell? ⟨g, 1, none⟩ = some (.int .i64 0) ∧ (W.setCell ⟨k, o, none⟩ x).cell? ⟨g, 2, none⟩ = some (.int .i64 0) ∧ (W.setCell ⟨k, o, none⟩ x).cell? ⟨g, 3, none⟩ = some (.int .i64 0) ∧ (W.setCell ⟨k, o, none⟩ x).cell? ⟨g, 4, none⟩ = some (.int .i64 (-1)) ∧ Below W3.heap.size W3 (W.setCell ⟨k, o, none⟩ x) := by
  obtain ⟨h0, h1, h2, h3, h4, h5⟩ := H
  have ne : ∀ j, (⟨k, o, none⟩ : Addr) ≠ ⟨g, j, none⟩ := fun j e => by injection e with e _ _; omega
  exact ⟨setO h0 (ne 0), setO h1 (ne 1), setO h2 (ne 2), setO h3 (ne 3), setO h4 (ne 4), h5.setCell (by show W3.heap.size ≤ k; omega) _⟩
/-- the second type's box. -/
def Aw3 (W3 : World) (p3 : Value) (W : World) : Prop := ∃ G a c, p3 = .pointer (some ⟨G, 0, none⟩) ∧ BoxAt W G (.slice a 3 c) ∧ TyArg W a 3 uB ∧ Below W3.heap.size W3 W
theorem aw3a {W3 W : World} {B : Nat} {a : Option Addr} {c : Nat} (hv : OwnT B W (.slice a 3 c) uB) (hb : Below W3.heap.size W3 W) : Aw3 W3 (.pointer (some ⟨W.heap.size, 0, none⟩)) (W.alloc (.cells #[.slice a 3 c] 24)) :=
  ⟨_, a, c, rfl, box_lit _ _ _ _ rfl, hv.arg.alloc _, belA _ hb⟩
theorem aw3b {W3 W : World} {B G : Nat} {a : Option Addr} {c : Nat} {x : Value} (hv : OwnT B W (.slice a 3 c) uB) (hG : BoxFr W G x) (hl : G < B) (h3 : W3.heap.size ≤ G) (hb : Below W3.heap.size W3 W) : Aw3 W3 (.pointer (some ⟨G, 0, none⟩)) (W.setCell ⟨G, 0, none⟩ (.slice a 3 c)) := by
  refine ⟨G, a, c, rfl, ⟨by simpa using hG.1.1, setS hG.1.2⟩, ?_, hb.setCell (by show W3.heap.size ≤ G; omega) _⟩
  refine hv.arg.bar (Bar.set (S := fun k => k = G) ⟨G, 0, none⟩ _ rfl) fun b off e => ?_
  rcases hv.cases with ⟨_, h⟩ | ⟨g, c', h1, h2, _⟩
  · cases h
  · injection h1 with h1 _ _
    rw [h1] at e
    injection e with e; injection e with e _ _
    show ¬ b = G
    omega
theorem e1000 : ((1000 + 0 : Nat) : Int) = 1000 := rfl
theorem e1001 : ((1000 + 1 : Nat) : Int) = 1001 := rfl
theorem e1002 : ((1000 + 2 : Nat) : Int) = 1002 := rfl
end Go.Proofs.YtfkdcconmecaoaaDoor

/- Layer 10's awake, walked. -/
namespace Go.Proofs.YtfkdcconmecaoaaDoor
open Go.RowKit
set_option linter.unusedVariables false
set_option linter.unusedSimpArgs false

theorem aw5_go {g : Nat} {v : Value} {W3 W W' : World} (hg : g < W3.heap.size) (H : W.cell? ⟨g, 0, none⟩ = some v ∧ Below W3.heap.size W3 W) (hb : Below W.heap.size W W') : W'.cell? ⟨g, 0, none⟩ = some v ∧ Below W3.heap.size W3 W' :=
  ⟨carry hb (by have := H.2.size; omega) H.1, belT H.2 hb⟩
theorem rowPP (W : World) : (binOp .eql 36 (.agg #[.int .i64 0, .int .i64 0, .int .i64 0, .int .i64 0, .int .i64 (-1)]) (.agg #[.int .i64 0, .int .i64 0, .int .i64 0, .int .i64 0, .int .i64 (-1)])).run Tryd.prog W = .ok (.bool true) W := by kernel_rfl
theorem aw8_go {g G : Nat} {a : Option Addr} {c : Nat} {W6 W W' : World} (hg : g < W6.heap.size ∧ G < W6.heap.size) (H : W.cell? ⟨g, 0, none⟩ = some (.int .i64 0) ∧ W.cell? ⟨g, 1, none⟩ = some (.int .i64 0) ∧ W.cell? ⟨g, 2, none⟩ = some (.int .i64 0) ∧ W.cell? ⟨g, 3, none⟩ = some (.int .i64 0) ∧ W.cell? ⟨g, 4, none⟩ = some (.int .i64 (-1)) ∧ W.cell? ⟨G, 0, none⟩ = some (.int .i64 0) ∧ W.cell? ⟨G, 1, none⟩ = some (.bool false) ∧ W.cell? ⟨G, 8, none⟩ = some (.int .i64 0) ∧ W.cell? ⟨G, 9, none⟩ = some (.bool true) ∧ W.cell? ⟨G, 11, none⟩ = some (.int .i64 0) ∧ W.cell? ⟨G, 12, none⟩ = some (.int .i64 0) ∧ W.cell? ⟨G, 13, none⟩ = some (.int .i64 0) ∧ W.cell? ⟨G, 14, none⟩ = some (.int .i64 0) ∧ W.cell? ⟨G, 15, none⟩ = some (.int .i64 (-1)) ∧ W.cell? ⟨G, 16, none⟩ = some (.int .i64 1) ∧ W.cell? ⟨G, 18, none⟩ = some (.slice a 1 c) ∧ Below W6.heap.size W6 W) (hb : Below W.heap.size W W') : W'.cell? ⟨g, 0, none⟩ = some (.int .i64 0) ∧ W'.cell? ⟨g, 1, none⟩ = some (.int .i64 0) ∧ W'.cell? ⟨g, 2, none⟩ = some (.int .i64 0) ∧ W'.cell? ⟨g, 3, none⟩ = some (.int .i64 0) ∧ W'.cell? ⟨g, 4, none⟩ = some (.int .i64 (-1)) ∧ W'.cell? ⟨G, 0, none⟩ = some (.int .i64 0) ∧ W'.cell? ⟨G, 1, none⟩ = some (.bool false) ∧ W'.cell? ⟨G, 8, none⟩ = some (.int .i64 0) ∧ W'.cell? ⟨G, 9, none⟩ = some (.bool true) ∧ W'.cell? ⟨G, 11, none⟩ = some (.int .i64 0) ∧ W'.cell? ⟨G, 12, none⟩ = some (.int .i64 0) ∧ W'.cell? ⟨G, 13, none⟩ = some (.int .i64 0) ∧ W'.cell? ⟨G, 14, none⟩ = some (.int .i64 0) ∧ W'.cell? ⟨G, 15, none⟩ = some (.int .i64 (-1)) ∧ W'.cell? ⟨G, 16, none⟩ = some (.int .i64 1) ∧ W'.cell? ⟨G, 18, none⟩ = some (.slice a 1 c) ∧ Below W6.heap.size W6 W' := by
  obtain ⟨h0, h1, h2, h3, h4, h5, h6, h7, h8, h9, h10, h11, h12, h13, h14, h15, h16⟩ := H
  have hl : g < W.heap.size := by have := h16.size; omega
  have hL : G < W.heap.size := by have := h16.size; omega
  exact ⟨carry hb hl h0, carry hb hl h1, carry hb hl h2, carry hb hl h3, carry hb hl h4, carry hb hL h5, carry hb hL h6, carry hb hL h7, carry hb hL h8, carry hb hL h9, carry hb hL h10, carry hb hL h11, carry hb hL h12, carry hb hL h13, carry hb hL h14, carry hb hL h15, belT h16 hb⟩
set_option maxRecDepth 100000 in
set_option maxHeartbeats 8000000 in
theorem awake10_any (a0 a1 a2 : Addr) (w : World) (hE : Hid (SenB w.heap.size a0 a1 a2 w)) : Calls Tryd.prog 9 #[] w fun e w' => e = .returned (.bool true) ∧ Below w.heap.size w w' := by
  go_enter Tryd.func9, Tryd.ntmps9
  go_wp2_with fail
  refine (v10_any 0 _).mono ?_
  rintro e w1 ⟨g1, hg1, rfl, hv1, hb1⟩
  have hR := Lib.hid (show RowAt w1 w.heap.size rwP from RowAt.below (by exact row_lit _ _ _ rwP rfl) hb1)
  have hB := Lib.hid (belT (show Below w.heap.size w _ from by (repeat' (first | with_reducible exact Below.refl _ _ | with_reducible assumption | with_reducible apply Below.setCell | with_reducible apply Below.alloc | with_reducible apply Below.drew | with_reducible apply below_drewN | with_reducible exact Nat.le_refl _ | (simp; done) | (simp; omega) | omega | exact Nat.le_refl _))) hb1)
  have hv1 := Lib.hid hv1
  clear hb1 hg1
  go_wp2_with fail
  refine (v10_any 1 _).mono ?_
  rintro e w2 ⟨g2, hg2, rfl, hv2, hb2⟩
  have hR := Lib.hid (hR.out.below hb2)
  have hB := Lib.hid (belT hB.out hb2)
  have hv1 := Lib.hid (hv1.out.below hb2)
  have hv2 := Lib.hid hv2
  clear hb2 hg2
  go_wp2_with fail
  refine (fun10_any _ _ _ rwO _ _ _ [vrT 0] [vrT 1] _ hv1 hv2 (by simp) (by kernel_rfl) (by kernel_rfl)).mono ?_
  rintro e w3 ⟨v, rfl, hv, hb3⟩
  rw [uaA] at hv
  obtain ⟨a3, n3, c3, rfl⟩ := ownT_sl hv
  obtain rfl : n3 = 3 := hv.arg.1
  have hR := Lib.hid ((hR.out.below hb3).alloc (.cells #[.slice a3 3 c3] 24))
  have hB := Lib.hid (belA (.cells #[.slice a3 3 c3] 24) (belT hB.out hb3))
  have hA := Lib.hid (hv.arg.alloc (.cells #[.slice a3 3 c3] 24))
  have hX := Lib.hid (box_lit w3 24 w3.heap.size (.slice a3 3 c3) rfl)
  clear hb3 hv hv1 hv2
  go_upto_region 3 with fail
  generalize hWe : (w3.alloc (.cells #[.slice a3 3 c3] 24)) = W3 at hR hB hA hX ⊢
  generalize hGe : w3.heap.size = G2 at hX ⊢
  clear hWe hGe
  go_cut [3] (fun p3 W => Aw3 W3 p3 W)
  case first =>
    have hg := Lib.hid hR.out.1
    have hst := Lib.hid (show W3.cell? ⟨w.heap.size, 0, none⟩ = some (.int .i64 0) ∧ W3.cell? ⟨w.heap.size, 1, none⟩ = some (.int .i64 0) ∧ W3.cell? ⟨w.heap.size, 2, none⟩ = some (.int .i64 0) ∧ W3.cell? ⟨w.heap.size, 3, none⟩ = some (.int .i64 0) ∧ W3.cell? ⟨w.heap.size, 4, none⟩ = some (.int .i64 (-1)) ∧ Below W3.heap.size W3 W3 from ⟨hR.out.2.1, hR.out.2.2.1, hR.out.2.2.2.1, hR.out.2.2.2.2.1, hR.out.2.2.2.2.2, Below.refl _ _⟩)
    clear hA hX hB hE
    go_region_held3 (fun W => W.cell? ⟨w.heap.size, 0, none⟩ = some (.int .i64 0) ∧ W.cell? ⟨w.heap.size, 1, none⟩ = some (.int .i64 0) ∧ W.cell? ⟨w.heap.size, 2, none⟩ = some (.int .i64 0) ∧ W.cell? ⟨w.heap.size, 3, none⟩ = some (.int .i64 0) ∧ W.cell? ⟨w.heap.size, 4, none⟩ = some (.int .i64 (-1)) ∧ Below W3.heap.size W3 W)
      (repeat (first | with_reducible exact hS9.out | with_reducible exact hS8.out | with_reducible exact hst.out | with_reducible refine aw_go hg.out ?_ (below_alc _ _) | with_reducible refine aw_go hg.out ?_ ((Below.refl _ _).drew) | with_reducible refine aw_set hg.out (by omega) ?_))
      ((first
        | (go_at_call 16; refine (v10_any 0 _).mono ?_; rintro e w8 ⟨g8, hg8, rfl, hv8, hb8⟩; have hv8 := Lib.hid hv8; have hS8 := Lib.hid (aw_go hg.out (by assumption) hb8); have hs8 := hS8.out.2.2.2.2.2.size; (try (have k1 := BoxFr.below (by repeat (first | with_reducible exact boxfr_lit _ _ _ _ rfl | with_reducible apply BoxFr.drew | with_reducible apply BoxFr.alloc)) hb8)); (try simp at k1))
        | (go_at_call 18; refine (fun10_any _ _ _ rwP _ _ _ [ty0] [vrT 0] _ (Lib.hid (by repeat (first | with_reducible exact tyArg_lit _ _ _ _ _ _ (by first | rfl | simp) rfl rfl | with_reducible refine TyArg.below ?_ ((Below.refl _ _).drew) | with_reducible refine TyArg.alloc _ ?_ | with_reducible refine TyArg.below ?_ hb8))) (Lib.hid (by repeat (first | with_reducible exact hv8.out | with_reducible refine TyArg.below ?_ ((Below.refl _ _).drew) | with_reducible refine TyArg.alloc _ ?_))) (by simp) (by kernel_rfl) (by kernel_rfl)).mono ?_; rintro e w9 ⟨v9, rfl, hv9, hb9⟩; rw [uaB] at hv9; obtain ⟨a9, n9, c9, rfl⟩ := ownT_sl hv9; obtain rfl : n9 = 3 := hv9.arg.1; have hS9 := Lib.hid (aw_go hg.out (by assumption) hb9); (try (have k9 := BoxFr.below (by repeat (first | with_reducible exact k1 | with_reducible exact boxfr_lit _ _ _ _ rfl | with_reducible apply BoxFr.drew | with_reducible apply BoxFr.alloc)) hb9)); (try simp at k9); (try (have k8 := k9; obtain ⟨⟨k91, k92⟩, k93⟩ := k8)))))
    all_goals (go_wp2_with fail; go_meet)
    all_goals have hz8 := hb8.size
    all_goals (try simp at hz8)
    all_goals first
      | with_reducible exact aw3a hv9 hS9.out.2.2.2.2.2
      | (with_reducible refine aw3b hv9 k9 ?_ ?_ hS9.out.2.2.2.2.2 <;> (first | omega | (simp; done) | (simp; omega)))
  case rest =>
    obtain ⟨G, a, c, rfl, hY, hBt, hb⟩ := hcut
    rename World => Wc
    have hR := Lib.hid (hR.out.below hb)
    have hA := Lib.hid (hA.out.below hb)
    have hX := Lib.hid (hX.out.below hb)
    have hB := Lib.hid (belT hB.out hb)
    have hY := Lib.hid hY
    have hBt := Lib.hid hBt
    clear hb
    obtain ⟨x0, x1⟩ := hX.out
    obtain ⟨y0, y1⟩ := hY.out
    go_wp2_with fail
    clear x0 x1 y0 y1
    refine (unify_go a0 a1 a2 _ _ _ _ _ _ uA uB 3 (by omega) _ hA hBt (by omega) (by omega) (Lib.hid (hE.out.up hB.out)) _ (Lib.hid ua1)).mono ?_
    rintro e w4 ⟨⟨v4, xs, rfl, hM, hL⟩, hb⟩
    obtain ⟨G4, c4, a5, c5, rfl, hQ⟩ := awB_of hM hL
    clear hM hL
    have hQ := Lib.hid hQ
    have hR := Lib.hid (hR.out.below hb)
    have hA := Lib.hid (hA.out.below hb)
    have hX := Lib.hid (hX.out.below hb)
    have hY := Lib.hid (hY.out.below hb)
    have hBt := Lib.hid (hBt.out.below hb)
    have hB := Lib.hid (belT hB.out hb)
    clear hb
    go_upto_region 5 with fail
    go_cut [7] (fun s7 W => s7 = .int .i64 1002 ∧ Below w4.heap.size w4 W)
    case first =>
      have hg := Lib.hid hX.out.1
      have hst := Lib.hid (show w4.cell? ⟨G2, 0, none⟩ = some (.slice a3 3 c3) ∧ Below w4.heap.size w4 w4 from ⟨hX.out.2, Below.refl _ _⟩)
      have kU := Lib.hid fun (W : World) (hb : Below w4.heap.size w4 W) (g8 : Nat) (hv8 : Hid (TyArg W (some ⟨g8, 0, none⟩) 1 [vrT 0])) => unify_go a0 a1 a2 (some ⟨g8, 0, none⟩) a3 1 1 3 c3 [vrT 0] uA 3 (by omega) W hv8 (Lib.hid (hA.out.below hb)) (by omega) (by omega) (Lib.hid (hE.out.up (belT hB.out hb))) _ (Lib.hid ua2)
      clear hR hX hY hA hBt hQ hE hB
      go_region_held3 (fun W => W.cell? ⟨G2, 0, none⟩ = some (.slice a3 3 c3) ∧ Below w4.heap.size w4 W)
        (repeat (first | with_reducible exact hS9.out | with_reducible exact hS8.out | with_reducible exact hst.out | with_reducible refine aw5_go hg.out ?_ (below_alc _ _) | with_reducible refine aw5_go hg.out ?_ ((Below.refl _ _).drew)))
        ((first
          | (go_at_call 16; refine (v10_any 0 _).mono ?_; rintro e w8 ⟨g8, hg8, rfl, hv8, hb8⟩; have hv8 := Lib.hid hv8; have hS8 := Lib.hid (aw5_go hg.out (by assumption) hb8))
          | (go_at_call 10; refine (kU.out _ (by repeat (first | with_reducible exact hS8.out.2 | with_reducible refine Below.drew ?_ | with_reducible refine belA _ ?_)) _ (Lib.hid (by repeat (first | with_reducible exact hv8.out | with_reducible refine TyArg.below ?_ ((Below.refl _ _).drew) | with_reducible refine TyArg.alloc _ ?_)))).mono ?_; rintro e w9 ⟨⟨rfl, _⟩, hb9⟩; rw [e1002]; have hS9 := Lib.hid (aw5_go hg.out (by assumption) hb9))))
      all_goals (go_wp2_with fail; go_meet)
      all_goals exact ⟨rfl, hS9.out.2⟩
    case rest =>
      obtain ⟨rfl, hb⟩ := hcut
      rename World => Wd
      have hQ := Lib.hid (hQ.out.below hb)
      have hR := Lib.hid (hR.out.below hb)
      have hA := Lib.hid (hA.out.below hb)
      have hX := Lib.hid (hX.out.below hb)
      have hY := Lib.hid (hY.out.below hb)
      have hBt := Lib.hid (hBt.out.below hb)
      have hB := Lib.hid (belT hB.out hb)
      clear hb
      obtain ⟨x0, x1⟩ := hX.out
      go_wp2_with fail
      clear x0 x1
      refine (unify_go a0 a1 a2 _ _ _ _ _ _ [ty0] uA 3 (by omega) _ (Lib.hid (by exact tyArg_lit _ _ _ _ _ _ rfl rfl rfl)) (Lib.hid (by exact TyArg.alloc _ hA.out)) (by omega) (by omega) (Lib.hid (hE.out.up (belA _ hB.out))) _ (Lib.hid ua3)).mono ?_
      rintro e w5 ⟨⟨rfl, _⟩, hb⟩
      rw [e1001]
      have hQ := Lib.hid ((hQ.out.below (below_alc _ _)).below hb)
      have hR := Lib.hid ((hR.out.alloc _).below hb)
      have hA := Lib.hid ((hA.out.alloc _).below hb)
      have hX := Lib.hid ((hX.out.alloc _).below hb)
      have hY := Lib.hid ((hY.out.alloc _).below hb)
      have hBt := Lib.hid ((hBt.out.alloc _).below hb)
      have hB := Lib.hid (belT (belA _ hB.out) hb)
      clear hb
      obtain ⟨x0, x1⟩ := hX.out
      obtain ⟨y0, y1⟩ := hY.out
      go_wp2_with fail
      clear x0 x1 y0 y1
      refine (unify_go a0 a1 a2 _ _ _ _ _ _ uA uB 0 (by omega) _ hA hBt (by omega) (by omega) (Lib.hid (hE.out.up hB.out)) _ (Lib.hid ua4)).mono ?_
      rintro e w6 ⟨⟨rfl, _⟩, hb⟩
      rw [e1000]
      have hQ := Lib.hid (hQ.out.below hb)
      have hR := Lib.hid (hR.out.below hb)
      have hB := Lib.hid (belT hB.out hb)
      clear hb hA hX hY hBt
      obtain ⟨r0, r1, r2, r3, r4, r5⟩ := hR.out
      obtain ⟨q0, q1, q2, q3, q4, ⟨q5, q6, q7, q8, q9⟩, q10, q11, q12⟩ := hQ.out
      have q12' := Lib.hid q12
      unfold rwP at r1 r2 r3 r4 r5
      clear q12 hE hR
      have hrq := rowPP
      have hg := Lib.hid (show w.heap.size < w6.heap.size ∧ G4 < w6.heap.size from ⟨r0, q0⟩)
      have hst := Lib.hid (show w6.cell? ⟨w.heap.size, 0, none⟩ = some (.int .i64 0) ∧ w6.cell? ⟨w.heap.size, 1, none⟩ = some (.int .i64 0) ∧ w6.cell? ⟨w.heap.size, 2, none⟩ = some (.int .i64 0) ∧ w6.cell? ⟨w.heap.size, 3, none⟩ = some (.int .i64 0) ∧ w6.cell? ⟨w.heap.size, 4, none⟩ = some (.int .i64 (-1)) ∧ w6.cell? ⟨G4, 0, none⟩ = some (.int .i64 0) ∧ w6.cell? ⟨G4, 1, none⟩ = some (.bool false) ∧ w6.cell? ⟨G4, 8, none⟩ = some (.int .i64 0) ∧ w6.cell? ⟨G4, 9, none⟩ = some (.bool true) ∧ w6.cell? ⟨G4, 11, none⟩ = some (.int .i64 0) ∧ w6.cell? ⟨G4, 12, none⟩ = some (.int .i64 0) ∧ w6.cell? ⟨G4, 13, none⟩ = some (.int .i64 0) ∧ w6.cell? ⟨G4, 14, none⟩ = some (.int .i64 0) ∧ w6.cell? ⟨G4, 15, none⟩ = some (.int .i64 (-1)) ∧ w6.cell? ⟨G4, 16, none⟩ = some (.int .i64 1) ∧ w6.cell? ⟨G4, 18, none⟩ = some (.slice a5 1 c5) ∧ Below w6.heap.size w6 w6 from ⟨r1, r2, r3, r4, r5, q1, q2, q3, q4, q5, q6, q7, q8, q9, q10, q11, Below.refl _ _⟩)
      clear r0 r1 r2 r3 r4 r5 q0 q1 q2 q3 q4 q5 q6 q7 q8 q9 q10 q11
      go_upto_region 8 with fail
      simp only [List.append_eq, List.cons_append, List.nil_append]
      go_region_held3 (fun W => W.cell? ⟨w.heap.size, 0, none⟩ = some (.int .i64 0) ∧ W.cell? ⟨w.heap.size, 1, none⟩ = some (.int .i64 0) ∧ W.cell? ⟨w.heap.size, 2, none⟩ = some (.int .i64 0) ∧ W.cell? ⟨w.heap.size, 3, none⟩ = some (.int .i64 0) ∧ W.cell? ⟨w.heap.size, 4, none⟩ = some (.int .i64 (-1)) ∧ W.cell? ⟨G4, 0, none⟩ = some (.int .i64 0) ∧ W.cell? ⟨G4, 1, none⟩ = some (.bool false) ∧ W.cell? ⟨G4, 8, none⟩ = some (.int .i64 0) ∧ W.cell? ⟨G4, 9, none⟩ = some (.bool true) ∧ W.cell? ⟨G4, 11, none⟩ = some (.int .i64 0) ∧ W.cell? ⟨G4, 12, none⟩ = some (.int .i64 0) ∧ W.cell? ⟨G4, 13, none⟩ = some (.int .i64 0) ∧ W.cell? ⟨G4, 14, none⟩ = some (.int .i64 0) ∧ W.cell? ⟨G4, 15, none⟩ = some (.int .i64 (-1)) ∧ W.cell? ⟨G4, 16, none⟩ = some (.int .i64 1) ∧ W.cell? ⟨G4, 18, none⟩ = some (.slice a5 1 c5) ∧ Below w6.heap.size w6 W)
        (repeat (first | with_reducible exact hS9.out | with_reducible exact hst.out | with_reducible refine aw8_go hg.out ?_ (below_alc _ _) | with_reducible refine aw8_go hg.out ?_ ((Below.refl _ _).drew)))
        ((first
          | (go_at_call 11; refine (num_any _ _ (by omega) (by omega)).mono ?_; rintro e w' ⟨rfl, rfl⟩)
          | (go_at_call 13; refine (sameType_any _ _ _ _ _ _ [ty0] [ty0] _ (Lib.hid (by repeat (first | with_reducible exact q12'.out | with_reducible refine TyArg.below ?_ ((Below.refl _ _).drew) | with_reducible refine TyArg.alloc _ ?_))) (Lib.hid (by repeat (first | with_reducible exact tyArg_lit _ _ _ _ _ _ (by first | rfl | simp) rfl rfl | with_reducible refine TyArg.below ?_ ((Below.refl _ _).drew) | with_reducible refine TyArg.alloc _ ?_)) ) (by omega)).mono ?_; rintro e w9 ⟨rfl, hb9⟩; rw [decide_eq_true rfl]; have hS9 := Lib.hid (aw8_go hg.out (by assumption) hb9))))
      all_goals go_wp2_with fail
      all_goals (go_ret; exact ⟨rfl, belT hB.out (by obtain ⟨_, _, _, _, _, _, _, _, _, _, _, _, _, _, _, _, h⟩ := hS9.out; exact h)⟩)
end Go.Proofs.YtfkdcconmecaoaaDoor
