/- Memory just made: numbers, types, rows; layer 12's awake. -/
import Derived.Test.YtjhmdobmbajcgaaTkC
import Derived.Test.YtjhmdobmbajcgaaVrE
import Derived.Test.YtjhmdobmbajcgaaSbM
namespace Go.Proofs.Ytjhmdobmbajcgaa
open Go.RowKit
set_option linter.unusedVariables false
set_option linter.unusedSimpArgs false

theorem IsArg.alloc {w : World} {a : Option Addr} {n : Nat} {l : List Int} (o : Obj) (h : IsArg w a n l) : IsArg (w.alloc o) a n l := h.below (below_alc w o)
theorem TpArg.alloc {w : World} {a : Option Addr} {n : Nat} {l : List Tp} (o : Obj) (h : TpArg w a n l) : TpArg (w.alloc o) a n l := h.below (below_alc w o)
theorem RwArg.alloc {w : World} {a : Option Addr} {n : Nat} {l : List Rw} (o : Obj) (h : RwArg w a n l) : RwArg (w.alloc o) a n l := h.below (below_alc w o)
theorem isArg_lit (w : World) (arr : Array Value) (T : TypeId) (g n : Nat) (l : List Int) (hg : g = w.heap.size) (hn : n = l.length) (h : arr.toList = inL l) : IsArg (w.alloc (.cells arr T)) (some ⟨g, 0, none⟩) n l := by
  subst hg
  refine ⟨hn, .inr ⟨_, _, rfl, fun i hi => ?_, by simp⟩⟩
  rw [World.cell?_alloc_at _ _ _ _ rfl, Nat.zero_add, ← Array.getElem?_toList, h, inL_get, List.getD_eq_getElem?_getD, List.getElem?_eq_getElem hi]
  rfl
theorem tpArg_one (w : World) (T : TypeId) (g : Nat) (x : Tp) (hg : g = w.heap.size) (hx : TpOk w x) : TpArg (w.alloc (.cells #[.slice x.ad x.n x.c] T)) (some ⟨g, 0, none⟩) 1 [x] := by
  subst hg
  refine ⟨rfl, .inr ⟨_, _, rfl, fun i hi => ?_, by simp⟩⟩
  obtain rfl : i = 0 := by simp at hi; omega
  exact ⟨by simp, hx.below (below_alc w _)⟩
theorem rwArg_one (w : World) (T : TypeId) (g : Nat) (r : Rw) (hg : g = w.heap.size) : RwArg (w.alloc (.cells #[.int .i64 r.a, .int .i64 r.b, .int .i64 r.c, .int .i64 r.d, .int .i64 r.t] T)) (some ⟨g, 0, none⟩) 1 [r] := by
  subst hg
  refine ⟨rfl, .inr ⟨_, _, rfl, fun i hi => ?_, by simp⟩⟩
  obtain rfl : i = 0 := by simp at hi; omega
  exact ⟨by simp, by simp, by simp, by simp, by simp⟩
/-- a scheme in a block of its own. -/
def ScAt (w : World) (g : Nat) (v1 v2 v3 : Value) : Prop := g < w.heap.size ∧ w.cell? ⟨g, 0, none⟩ = some v1 ∧ w.cell? ⟨g, 1, none⟩ = some v2 ∧ w.cell? ⟨g, 2, none⟩ = some v3
theorem ScAt.below {w w' : World} {g : Nat} {v1 v2 v3 : Value} (h : ScAt w g v1 v2 v3) (hb : Below w.heap.size w w') : ScAt w' g v1 v2 v3 :=
  ⟨by have := hb.size; have := h.1; omega, carry hb h.1 h.2.1, carry hb h.1 h.2.2.1, carry hb h.1 h.2.2.2⟩
theorem ScAt.alloc {w : World} {g : Nat} {v1 v2 v3 : Value} (o : Obj) (h : ScAt w g v1 v2 v3) : ScAt (w.alloc o) g v1 v2 v3 := h.below (below_alc w o)
theorem sc_lit (w : World) (T : TypeId) (g : Nat) (v1 v2 v3 : Value) (hg : g = w.heap.size) : ScAt (w.alloc (.cells #[v1, v2, v3] T)) g v1 v2 v3 := by
  subst hg
  exact ⟨by simp, by simp, by simp, by simp⟩
theorem wf_small {l : List Int} (h : l.all (fun x => decide (-4294967296 ≤ x ∧ x ≤ 4294967296)) = true) : ∀ x ∈ l, (Lit.int .i64 x).wf = true := by
  intro x hx
  have := of_decide_eq_true (List.all_eq_true.1 h x hx)
  simp [Lit.wf, IntKind.min, IntKind.max, IntKind.signed, IntKind.bits]; omega
def wT : List Ty := [⟨2, 5, 0, 0, 0, 0, 0, 0, 0⟩, ⟨2, 1, 0, 0, 0, 0, 0, 0, 0⟩, ⟨3, 0, 0, 1, 0, 0, 0, 0, 2⟩]
def wB : List Ty := [⟨1, 0, 0, 0, 0, 0, 0, 0, 0⟩]
def wO : List Ty := [⟨1, 0, 0, 0, 0, 0, 0, 0, 0⟩, ⟨2, 1, 0, 0, 0, 0, 0, 0, 0⟩, ⟨3, 0, 0, 1, 0, 0, 0, 0, -1⟩]
def wR : Rw := ⟨0, 0, 0, 0, -1⟩
theorem wa1 : tyV wT = true ∧ woI (tvs (treeOf wT) []) [1] = [5] ∧ woI (rvs (treeOf wT) []) [] = [2] := ⟨by kernel_rfl, by kernel_rfl, by kernel_rfl⟩
theorem wa2 (ad : Option Addr) : tkT [5] [⟨ad, 1, 1, wB⟩] [2] [wR] wT = wO ∧ tkE [5] [⟨ad, 1, 1, wB⟩] [2] [wR] wT = 0 := ⟨by kernel_rfl, by kernel_rfl⟩
theorem wa3 : tkE [5] [] [2] [] wT = 1200 := by kernel_rfl
theorem wa4 : tyV [] = false := by kernel_rfl
set_option maxRecDepth 100000 in
set_option maxHeartbeats 8000000 in
theorem awake12_any (w : World) : Calls Try.prog 30 #[] w fun e w' => e = .returned (.bool true) ∧ Below w.heap.size w w' := by
  go_enter Try.func30, Try.ntmps30
  go_wp2_with fail
  refine (close_any _ _ _ _ _ _ _ _ _ wT [1] [] _ (Lib.hid (by exact TyArg.alloc _ (TyArg.alloc _ (tyArg_lit _ _ _ _ _ _ rfl rfl rfl)))) (Lib.hid (by exact isArg_lit _ _ _ _ _ _ (by simp) rfl rfl)) (Lib.hid (isArg_nil _ _)) (by omega) (by omega) (by omega)).mono ?_
  rintro e w1 hp
  unfold CloPost at hp
  rw [wa1.1, wa1.2.1, wa1.2.2, if_pos rfl] at hp
  obtain ⟨v1, v2, v3, rfl, hv1, hv2, hv3, _, hb1⟩ := hp
  have hB1 := Lib.hid (belT (show Below w.heap.size w _ from by (repeat' (first | with_reducible exact Below.refl _ _ | with_reducible assumption | with_reducible apply Below.setCell | with_reducible apply Below.alloc | with_reducible apply Below.drew | with_reducible apply below_drewN | with_reducible exact Nat.le_refl _ | (simp; done) | (simp; omega) | omega | exact Nat.le_refl _))) hb1)
  obtain ⟨a1, n1, d1, rfl⟩ := ownI_sl hv1
  obtain ⟨a2, n2, d2, rfl⟩ := ownI_sl hv2
  obtain ⟨a3, n3, d3, rfl⟩ := ownT_sl hv3
  have hI1 := Lib.hid hv1.arg
  have hI2 := Lib.hid hv2.arg
  have hT3 := Lib.hid hv3.arg
  have hm1 : n1 = 1 := hv1.arg.1
  have hm2 : n2 = 1 := hv2.arg.1
  have hm3 : n3 = 3 := hv3.arg.1
  subst hm1 hm2 hm3
  clear hv1 hv2 hv3 hb1
  go_wp2_with fail
  refine (take2_any _ _ _ _ _ _ _ _ _ _ _ _ _ _ _ [5] [2] wT [⟨some ⟨w1.heap.size + 1, 0, none⟩, 1, 1, wB⟩] [wR] _ (Lib.hid (by exact IsArg.alloc _ (IsArg.alloc _ (IsArg.alloc _ (IsArg.alloc _ hI1.out))))) (Lib.hid (by exact IsArg.alloc _ (IsArg.alloc _ (IsArg.alloc _ (IsArg.alloc _ hI2.out))))) (Lib.hid (by exact TyArg.alloc _ (TyArg.alloc _ (TyArg.alloc _ (TyArg.alloc _ hT3.out))))) (Lib.hid (by exact TpArg.alloc _ (tpArg_one _ _ _ ⟨some ⟨w1.heap.size + 1, 0, none⟩, 1, 1, wB⟩ (by simp) ⟨tyArg_lit _ _ _ _ _ _ (by simp) rfl rfl, by show (1 : Nat) ≤ 140737488351232; omega⟩))) (Lib.hid (by exact rwArg_one _ _ _ wR (by simp))) (Lib.hid (wf_small rfl)) (Lib.hid (wf_small rfl)) (by omega) (by omega) (by omega) (by omega) (by omega)).mono ?_
  rintro e w2 ⟨v4, rfl, hv4, hb2⟩
  rw [(wa2 _).2]
  rw [(wa2 _).1] at hv4
  have hS2 := Lib.hid (show ScAt w2 w1.heap.size (.slice a1 1 d1) (.slice a2 1 d2) (.slice a3 3 d3) from ScAt.below (by exact .alloc _ (.alloc _ (.alloc _ (sc_lit _ _ _ _ _ _ rfl)))) hb2)
  have hI1 := Lib.hid (IsArg.below (by exact IsArg.alloc _ (IsArg.alloc _ (IsArg.alloc _ (IsArg.alloc _ hI1.out)))) hb2)
  have hI2 := Lib.hid (IsArg.below (by exact IsArg.alloc _ (IsArg.alloc _ (IsArg.alloc _ (IsArg.alloc _ hI2.out)))) hb2)
  have hT3 := Lib.hid (TyArg.below (by exact TyArg.alloc _ (TyArg.alloc _ (TyArg.alloc _ (TyArg.alloc _ hT3.out)))) hb2)
  have hB2 := Lib.hid (belT (belA _ (belA _ (belA _ (belA _ hB1.out)))) hb2)
  obtain ⟨g4, d4, rfl, _, _, _⟩ := ownT_some hv4 (by decide)
  have hT4 := Lib.hid hv4.arg
  clear hv4 hb2
  obtain ⟨q0, q1, q2, q3⟩ := hS2.out
  have q4 : w1.heap.size < w2.heap.size + 1 := by omega
  go_wp2_with fail
  clear q0 q1 q2 q3 q4
  refine (take2_any _ _ _ _ _ _ _ _ _ none 0 0 none 0 0 [5] [2] wT [] [] _ (Lib.hid (hI1.out.alloc _)) (Lib.hid (hI2.out.alloc _)) (Lib.hid (hT3.out.alloc _)) (Lib.hid (tpArg_nil _ _)) (Lib.hid (rwArg_nil _ _)) (Lib.hid (wf_small rfl)) (Lib.hid (wf_small rfl)) (by omega) (by omega) (by omega) (by omega) (by omega)).mono ?_
  rintro e w3 ⟨v5, rfl, hv5, hb3⟩
  rw [wa3]
  have hS3 := Lib.hid (ScAt.below (hS2.out.alloc _) hb3)
  have hI1 := Lib.hid (IsArg.below (hI1.out.alloc _) hb3)
  have hI2 := Lib.hid (IsArg.below (hI2.out.alloc _) hb3)
  have hT4 := Lib.hid (TyArg.below (hT4.out.alloc _) hb3)
  have hX4 := Lib.hid (show BoxAt w3 w2.heap.size (.slice (some ⟨g4, 0, none⟩) wO.length d4) from BoxAt.below (by exact box_lit _ _ _ _ rfl) hb3)
  have hB3 := Lib.hid (belT (belA _ hB2.out) hb3)
  obtain ⟨a5, n5, d5, rfl⟩ := ownT_sl hv5
  clear hb3 hv5
  go_wp2_with fail
  refine (close_any none none none 0 0 0 0 0 0 [] [] [] _ (Lib.hid (tyArg_nil _ _)) (Lib.hid (isArg_nil _ _)) (Lib.hid (isArg_nil _ _)) (by omega) (by omega) (by omega)).mono ?_
  rintro e w4 hp
  unfold CloPost at hp
  rw [wa4, if_neg (by decide)] at hp
  obtain ⟨rfl, hb4⟩ := hp
  have hS4 := Lib.hid (ScAt.below (hS3.out.alloc _) hb4)
  have hI1 := Lib.hid (IsArg.below (hI1.out.alloc _) hb4)
  have hI2 := Lib.hid (IsArg.below (hI2.out.alloc _) hb4)
  have hT4 := Lib.hid (TyArg.below (hT4.out.alloc _) hb4)
  have hX4 := Lib.hid (BoxAt.below (hX4.out.alloc _) hb4)
  have hB4 := Lib.hid (belT (belA _ hB3.out) hb4)
  clear hb4
  obtain ⟨q0, q1, q2, q3⟩ := hS4.out
  have q4 : w1.heap.size < w4.heap.size + 1 := by omega
  have q5 : w1.heap.size < w4.heap.size + 1 + 1 := by omega
  go_wp2_with fail
  clear q0 q1 q2 q3 q4 q5
  refine (sameInts_any _ _ _ _ _ _ [5] [5] _ (Lib.hid (by exact IsArg.alloc _ (IsArg.alloc _ hI1.out))) (Lib.hid (by exact isArg_lit _ _ _ _ _ _ (by simp) rfl rfl)) (by omega)).mono ?_
  rintro e w5 ⟨rfl, hb5⟩
  rw [decide_eq_true rfl]
  have hS5 := Lib.hid (ScAt.below (.alloc _ (hS4.out.alloc _)) hb5)
  have hI2 := Lib.hid (IsArg.below (IsArg.alloc _ (hI2.out.alloc _)) hb5)
  have hT4 := Lib.hid (TyArg.below (TyArg.alloc _ (hT4.out.alloc _)) hb5)
  have hX4 := Lib.hid (BoxAt.below (BoxAt.alloc _ (hX4.out.alloc _)) hb5)
  have hB5 := Lib.hid (belT (belA _ (belA _ hB4.out)) hb5)
  clear hb5
  obtain ⟨q0, q1, q2, q3⟩ := hS5.out
  have q4 : w1.heap.size < w5.heap.size + 1 := by omega
  go_wp2_with fail
  clear q0 q1 q2 q3 q4
  refine (sameInts_any _ _ _ _ _ _ [2] [2] _ (Lib.hid (by exact IsArg.alloc _ hI2.out)) (Lib.hid (by exact isArg_lit _ _ _ _ _ _ rfl rfl rfl)) (by omega)).mono ?_
  rintro e w6 ⟨rfl, hb6⟩
  rw [decide_eq_true rfl]
  have hT6 := Lib.hid (TyArg.below (hT4.out.alloc _) hb6)
  have hX6 := Lib.hid (BoxAt.below (hX4.out.alloc _) hb6)
  have hB6 := Lib.hid (belT (belA _ hB5.out) hb6)
  clear hb6
  obtain ⟨x0, x1⟩ := hX6.out
  have hl3 : wO.length = 3 := rfl
  rw [hl3] at x1
  obtain ⟨ht, hg6⟩ := tyArg_sl hT6.out (by decide)
  have t0 : w6.cell? ⟨g4, 0, none⟩ = some (.int .i64 1) := (ht 0 (by decide)).1
  have t1 : w6.cell? ⟨g4, 10, none⟩ = some (.int .i64 1) := (ht 1 (by decide)).2.1
  have t2 : w6.cell? ⟨g4, 26, none⟩ = some (.int .i64 (-1)) := (ht 2 (by decide)).2.2.2.2.2.2.2.2
  clear ht hl3
  go_wp2_with ((go_at_call 19; refine (num_any _ _ (by omega) (by omega)).mono ?_; rintro e w' ⟨rfl, rfl⟩))
  go_ret
  exact ⟨rfl, hB6.out⟩
end Go.Proofs.Ytjhmdobmbajcgaa
