/- awake of layer 9. -/
import Derived.Test.YtjhmdobmbajcgaaSbF
import Derived.Test.YtjhmdobmbajcgaaSbG
import Derived.Deep.DeepCutAuto
namespace Go.Proofs.Ytjhmdobmbajcgaa
open Go.RowKit
set_option linter.unusedVariables false
set_option linter.unusedSimpArgs false

def aV : List Ty := [⟨2, 2, 0, 0, 0, 0, 0, 0, 0⟩]
def aF : List Ty := [⟨2, 2, 0, 0, 0, 0, 0, 0, 0⟩, ⟨1, 0, 0, 0, 0, 0, 0, 0, 0⟩, ⟨3, 0, 0, 1, 0, 0, 0, 0, 3⟩]
def aR : Rw := ⟨0, 1, 0, 0, -1⟩
def aB (ad : Option Addr) : List Bn := [⟨2, false, ad, 3, 3, aF, rw0⟩, ⟨3, true, none, 0, 0, [], aR⟩]
def aC (ad : Option Addr) : List Bn := [⟨2, false, ad, 1, 1, aV, aR⟩]
def aO : List Ty := [⟨2, 2, 0, 0, 0, 0, 0, 0, 0⟩, ⟨1, 0, 0, 0, 0, 0, 0, 0, 0⟩, ⟨3, 0, 0, 1, 0, 0, 0, 0, 3⟩, ⟨1, 0, 0, 0, 0, 0, 0, 0, 0⟩, ⟨3, 0, 2, 3, 0, 1, 0, 0, -1⟩]
theorem aw1 (ad : Option Addr) : subT (aB ad) aF = aO ∧ subE (aB ad) aF = 0 := ⟨by kernel_rfl, by kernel_rfl⟩
theorem aw2 (ad : Option Addr) : rwV (subR (aB ad) ⟨0, 0, 0, 0, 3⟩) = .agg #[.int .i64 0, .int .i64 1, .int .i64 0, .int .i64 0, .int .i64 (-1)] ∧ subRE (aB ad) ⟨0, 0, 0, 0, 3⟩ = 0 := ⟨by kernel_rfl, by kernel_rfl⟩
theorem aw3 (ad : Option Addr) : subE (aB ad) [] = 900 := by kernel_rfl
theorem aw4 (ad : Option Addr) : subE (aC ad) aV = 900 := by kernel_rfl
def bnL1 (t : Bn) : List Value := [.int .i64 t.v, .bool t.ir, .slice t.ad t.n t.c, .int .i64 t.r.a, .int .i64 t.r.b, .int .i64 t.r.c, .int .i64 t.r.d, .int .i64 t.r.t]
def bnL (l : List Bn) : List Value := l.flatMap bnL1
theorem bnL_get : ∀ (l : List Bn) (i k : Nat), k < 8 → (bnL l)[i * 8 + k]? = (l[i]?).bind fun t => (bnL1 t)[k]?
  | [], i, k, _ => by simp [bnL]
  | t :: l, 0, k, hk => by
    simp only [bnL, List.flatMap_cons, Nat.zero_mul, Nat.zero_add]
    rw [List.getElem?_append_left (by simp [bnL1]; omega)]; rfl
  | t :: l, i + 1, k, hk => by
    have h := bnL_get l i k hk
    simp only [bnL, List.flatMap_cons] at *
    rw [List.getElem?_append_right (by simp [bnL1]; omega), show (i + 1) * 8 + k - (bnL1 t).length = i * 8 + k by simp [bnL1]; omega, h]
    simp
theorem bnAt_of {w : World} {g off : Nat} {l : List Bn} (h : ∀ j u, (bnL l)[j]? = some u → w.cell? ⟨g, off + j, none⟩ = some u) : ∀ i, i < l.length → BnAt w g off (l.getD i bn0) i := by
  intro i hi
  have hg : l[i]? = some (l.getD i bn0) := by rw [List.getD_eq_getElem?_getD, List.getElem?_eq_getElem hi]; rfl
  have k0 := h (i * 8 + 0) (.int .i64 (l.getD i bn0).v) (by rw [bnL_get l i 0 (by omega), hg]; rfl)
  have k1 := h (i * 8 + 1) (.bool (l.getD i bn0).ir) (by rw [bnL_get l i 1 (by omega), hg]; rfl)
  have k2 := h (i * 8 + 2) (.slice (l.getD i bn0).ad (l.getD i bn0).n (l.getD i bn0).c) (by rw [bnL_get l i 2 (by omega), hg]; rfl)
  have k3 := h (i * 8 + 3) (.int .i64 (l.getD i bn0).r.a) (by rw [bnL_get l i 3 (by omega), hg]; rfl)
  have k4 := h (i * 8 + 4) (.int .i64 (l.getD i bn0).r.b) (by rw [bnL_get l i 4 (by omega), hg]; rfl)
  have k5 := h (i * 8 + 5) (.int .i64 (l.getD i bn0).r.c) (by rw [bnL_get l i 5 (by omega), hg]; rfl)
  have k6 := h (i * 8 + 6) (.int .i64 (l.getD i bn0).r.d) (by rw [bnL_get l i 6 (by omega), hg]; rfl)
  have k7 := h (i * 8 + 7) (.int .i64 (l.getD i bn0).r.t) (by rw [bnL_get l i 7 (by omega), hg]; rfl)
  exact ⟨k0, k1, k2, k3, k4, k5, k6, k7⟩
theorem TyArg.alloc {w : World} {a : Option Addr} {n : Nat} {ts : List Ty} (o : Obj) (h : TyArg w a n ts) : TyArg (w.alloc o) a n ts := h.below (below_alc w o)
theorem BnArg.alloc {w : World} {a : Option Addr} {n : Nat} {ts : List Bn} (o : Obj) (h : BnArg w a n ts) : BnArg (w.alloc o) a n ts := h.below (below_alc w o)
theorem tyArg_nil (w : World) (a : Option Addr) : TyArg w a 0 [] := ⟨rfl, .inl rfl⟩
theorem tyArg_lit (w : World) (arr : Array Value) (T : TypeId) (g n : Nat) (ts : List Ty) (hg : g = w.heap.size) (hn : n = ts.length) (h : arr.toList = tyL ts) : TyArg (w.alloc (.cells arr T)) (some ⟨g, 0, none⟩) n ts := by
  refine ⟨hn, .inr ⟨g, 0, rfl, tySl_of fun j u hj => ?_, by simp; omega⟩⟩
  subst hg
  rw [Nat.zero_add, World.cell?_alloc_at _ _ _ _ rfl, ← hj, ← h, Array.getElem?_toList]
theorem bnArg_lit (w : World) (arr : Array Value) (T : TypeId) (g n : Nat) (xs : List Bn) (hg : g = w.heap.size) (hn : n = xs.length) (h : arr.toList = bnL xs) (ht : ∀ x ∈ xs, TyArg w x.ad x.n x.ns ∧ x.n ≤ 140737488351232) : BnArg (w.alloc (.cells arr T)) (some ⟨g, 0, none⟩) n xs := by
  refine ⟨hn, .inr ⟨g, 0, rfl, fun i hi => ⟨bnAt_of (fun j u hj => ?_) i hi, (ht _ (getB_mem hi)).1.alloc _, (ht _ (getB_mem hi)).2⟩, by simp; omega⟩⟩
  subst hg
  rw [Nat.zero_add, World.cell?_alloc_at _ _ _ _ rfl, ← hj, ← h, Array.getElem?_toList]
/-- one cell, a row: in memory. -/
def BoxAt (w : World) (g : Nat) (v : Value) : Prop := g < w.heap.size ∧ w.cell? ⟨g, 0, none⟩ = some v
theorem BoxAt.below {w w' : World} {g : Nat} {v : Value} (h : BoxAt w g v) (hb : Below w.heap.size w w') : BoxAt w' g v := ⟨by have := hb.size; have := h.1; omega, carry hb h.1 h.2⟩
def RowAt (w : World) (g : Nat) (r : Rw) : Prop := g < w.heap.size ∧ w.cell? ⟨g, 0, none⟩ = some (.int .i64 r.a) ∧ w.cell? ⟨g, 1, none⟩ = some (.int .i64 r.b) ∧ w.cell? ⟨g, 2, none⟩ = some (.int .i64 r.c) ∧ w.cell? ⟨g, 3, none⟩ = some (.int .i64 r.d) ∧ w.cell? ⟨g, 4, none⟩ = some (.int .i64 r.t)
theorem RowAt.below {w w' : World} {g : Nat} {r : Rw} (h : RowAt w g r) (hb : Below w.heap.size w w') : RowAt w' g r := ⟨by have := hb.size; have := h.1; omega, carry hb h.1 h.2.1, carry hb h.1 h.2.2.1, carry hb h.1 h.2.2.2.1, carry hb h.1 h.2.2.2.2.1, carry hb h.1 h.2.2.2.2.2⟩
theorem belA {w W : World} (o : Obj) (h : Below w.heap.size w W) : Below w.heap.size w (W.alloc o) := h.alloc h.size _
theorem BoxAt.alloc {w : World} {g : Nat} {v : Value} (o : Obj) (h : BoxAt w g v) : BoxAt (w.alloc o) g v := h.below (below_alc w o)
theorem RowAt.alloc {w : World} {g : Nat} {r : Rw} (o : Obj) (h : RowAt w g r) : RowAt (w.alloc o) g r := h.below (below_alc w o)
theorem tyArg_sl {w : World} {g off n : Nat} {ts : List Ty} (h : TyArg w (some ⟨g, off, none⟩) n ts) (h0 : ts ≠ []) : TySl w g off ts ∧ g < w.heap.size := by
  obtain ⟨_, h1 | ⟨b, o, h1, h2, h3⟩⟩ := h
  · exact absurd h1 h0
  · injection h1 with h1; injection h1 with h4 h5 _; subst h4; subst h5; exact ⟨h2, h3⟩
theorem box_lit (w : World) (T : TypeId) (g : Nat) (v : Value) (hg : g = w.heap.size) : BoxAt (w.alloc (.cells #[v] T)) g v := by
  subst hg
  exact ⟨by simp, by rw [World.cell?_alloc_at _ _ _ _ rfl]; rfl⟩
theorem row_lit (w : World) (T : TypeId) (g : Nat) (r : Rw) (hg : g = w.heap.size) : RowAt (w.alloc (.cells #[.int .i64 r.a, .int .i64 r.b, .int .i64 r.c, .int .i64 r.d, .int .i64 r.t] T)) g r := by
  subst hg
  refine ⟨by simp, ?_, ?_, ?_, ?_, ?_⟩ <;> (rw [World.cell?_alloc_at _ _ _ _ rfl]; rfl)
set_option maxRecDepth 100000 in
set_option maxHeartbeats 4000000 in
theorem awake9_any (w : World) : Calls Try.prog 22 #[] w fun e w' => e = .returned (.bool true) ∧ Below w.heap.size w w' := by
  go_enter Try.func22, Try.ntmps22
  go_wp2_with fail
  refine (subType_any _ _ _ _ _ _ (aB (some ⟨w.heap.size + 1 + 1, 0, none⟩)) aF _ (Lib.hid ?b) (Lib.hid ?f) (by omega) (by omega)).mono ?_
  case b =>
    refine bnArg_lit _ _ _ _ _ _ (by simp) rfl rfl ?_
    intro x hx
    simp only [aB, List.mem_cons, List.not_mem_nil, or_false] at hx
    rcases hx with rfl | rfl
    · exact ⟨.alloc _ (.alloc _ (tyArg_lit _ _ _ _ _ _ (by simp) rfl rfl)), by show (3 : Nat) ≤ 140737488351232; omega⟩
    · exact ⟨tyArg_nil _ _, by decide⟩
  case f => exact .alloc _ (.alloc _ (.alloc _ (tyArg_lit _ _ _ _ _ _ (by simp) rfl rfl)))
  rintro e w1 ⟨v1, rfl, hv1, hb1⟩
  rw [(aw1 _).1] at hv1
  rw [(aw1 _).2]
  obtain ⟨g1, c1, rfl, _, hg1, hc1, hs1⟩ : ∃ g c, v1 = .slice (some ⟨g, 0, none⟩) 5 c ∧ w.heap.size ≤ g ∧ g < w1.heap.size ∧ 5 ≤ c ∧ TySl w1 g 0 aO := by
    rcases hv1.cases with ⟨_, h⟩ | ⟨g, c, h1, h2, h3, h4, h5, h6⟩
    · cases h
    · exact ⟨g, c, h1, by simp at h2; omega, h3, h4, h5⟩
  have hF1 : Hid (TyArg w1 (some ⟨w.heap.size + 1 + 1, 0, none⟩) 3 aF) := Lib.hid (TyArg.below (by exact .alloc _ (.alloc _ (.alloc _ (tyArg_lit _ _ _ _ _ _ (by simp) rfl rfl)))) hb1)
  have hV1 : Hid (TyArg w1 (some ⟨w.heap.size, 0, none⟩) 1 aV) := Lib.hid (TyArg.below (by exact .alloc _ (.alloc _ (.alloc _ (.alloc _ (.alloc _ (tyArg_lit _ _ _ _ _ _ rfl rfl rfl)))))) hb1)
  have hB1 : Hid (BnArg w1 (some ⟨w.heap.size + 1 + 1 + 1 + 1 + 1, 0, none⟩) 2 (aB (some ⟨w.heap.size + 1 + 1, 0, none⟩))) := Lib.hid (BnArg.below (by
    refine bnArg_lit _ _ _ _ _ _ (by simp) rfl rfl ?_
    intro x hx
    simp only [aB, List.mem_cons, List.not_mem_nil, or_false] at hx
    rcases hx with rfl | rfl
    · exact ⟨.alloc _ (.alloc _ (tyArg_lit _ _ _ _ _ _ (by simp) rfl rfl)), by show (3 : Nat) ≤ 140737488351232; omega⟩
    · exact ⟨tyArg_nil _ _, by decide⟩) hb1)
  have hP1 : Hid (BoxAt w1 (w.heap.size + 1) (.slice (some ⟨w.heap.size, 0, none⟩) 1 1)) := Lib.hid (BoxAt.below (by exact .alloc _ (.alloc _ (.alloc _ (.alloc _ (box_lit _ _ _ _ (by simp)))))) hb1)
  have hR1 : Hid (RowAt w1 (w.heap.size + 1 + 1 + 1 + 1) aR) := Lib.hid (RowAt.below (by exact .alloc _ (row_lit _ _ _ aR (by simp))) hb1)
  have hT1 : Hid (TyArg w1 (some ⟨g1, 0, none⟩) 5 aO) := Lib.hid ⟨rfl, .inr ⟨g1, 0, rfl, hs1, hg1⟩⟩
  have hBl1 := Lib.hid (belT (show Below w.heap.size w _ from by (repeat' (first | with_reducible exact Below.refl _ _ | with_reducible assumption | with_reducible apply Below.setCell | with_reducible apply Below.alloc | with_reducible apply Below.drew | with_reducible apply below_drewN | with_reducible exact Nat.le_refl _ | (simp; done) | (simp; omega) | omega | exact Nat.le_refl _))) hb1)
  clear hb1 hv1 hs1 hg1
  go_wp2_with fail
  refine (subRow_any _ _ _ (aB (some ⟨w.heap.size + 1 + 1, 0, none⟩)) ⟨0, 0, 0, 0, 3⟩ _ (Lib.hid (hB1.out.alloc _)) (by omega)).mono ?_
  rintro e w2 ⟨rfl, hb2⟩
  rw [(aw2 _).1, (aw2 _).2]
  have hV2 := Lib.hid ((hV1.out.alloc _).below hb2)
  have hB2 := Lib.hid ((hB1.out.alloc _).below hb2)
  have hP2 := Lib.hid ((hP1.out.alloc _).below hb2)
  have hR2 := Lib.hid ((hR1.out.alloc _).below hb2)
  have hT2 := Lib.hid ((hT1.out.alloc _).below hb2)
  have hX2 : Hid (BoxAt w2 w1.heap.size (.slice (some ⟨g1, 0, none⟩) 5 c1)) := Lib.hid (BoxAt.below (by exact box_lit _ _ _ _ rfl) hb2)
  have hBl2 := Lib.hid (belT (belA _ hBl1.out) hb2)
  clear hb2 hV1 hB1 hP1 hR1 hT1 hBl1 hF1
  go_wp2_with fail
  refine (subType_any _ _ _ _ _ _ (aB (some ⟨w.heap.size + 1 + 1, 0, none⟩)) [] _ (Lib.hid (hB2.out.alloc _)) (Lib.hid (tyArg_nil _ _)) (by omega) (by omega)).mono ?_
  rintro e w3 ⟨v3, rfl, hv3, hb3⟩
  obtain ⟨a3, n3, c3, rfl⟩ := ownT_sl hv3
  rw [aw3]
  have hV3 := Lib.hid ((hV2.out.alloc _).below hb3)
  have hP3 := Lib.hid ((hP2.out.alloc _).below hb3)
  have hR3 := Lib.hid ((hR2.out.alloc _).below hb3)
  have hT3 := Lib.hid ((hT2.out.alloc _).below hb3)
  have hX3 := Lib.hid ((hX2.out.alloc _).below hb3)
  have hY3 : Hid (RowAt w3 w2.heap.size aR) := Lib.hid (RowAt.below (by exact row_lit _ _ _ aR rfl) hb3)
  have hBl3 := Lib.hid (belT (belA _ hBl2.out) hb3)
  clear hb3 hv3 hV2 hB2 hP2 hR2 hT2 hBl2 hX2
  obtain ⟨p0, p1⟩ := hP3.out
  obtain ⟨r0, r1, r2, r3, r4, r5⟩ := hR3.out
  clear hP3
  simp only [aR] at r1 r2 r3 r4 r5
  have p2 : w.heap.size + 1 < w3.heap.size + 1 := by omega
  go_wp2_with fail
  clear p0 p1 p2 r0 r1 r2 r3 r4 r5
  refine (subType_any _ _ _ _ _ _ (aC (some ⟨w.heap.size, 0, none⟩)) aV _ (Lib.hid ?b) (Lib.hid (.alloc _ (hV3.out.alloc _))) (by omega) (by omega)).mono ?_
  case b =>
    refine bnArg_lit _ _ _ _ _ _ (by simp) rfl rfl ?_
    intro x hx
    simp only [aC, List.mem_cons, List.not_mem_nil, or_false] at hx
    obtain rfl := hx
    exact ⟨hV3.out.alloc _, by show (1 : Nat) ≤ 140737488351232; omega⟩
  rintro e w4 ⟨v4, rfl, hv4, hb4⟩
  obtain ⟨a4, n4, c4, rfl⟩ := ownT_sl hv4
  rw [aw4]
  have hR4 := Lib.hid (RowAt.below (.alloc _ (hR3.out.alloc _)) hb4)
  have hT4 := Lib.hid (TyArg.below (.alloc _ (hT3.out.alloc _)) hb4)
  have hX4 := Lib.hid (BoxAt.below (.alloc _ (hX3.out.alloc _)) hb4)
  have hY4 := Lib.hid (RowAt.below (.alloc _ (hY3.out.alloc _)) hb4)
  have hBl4 := Lib.hid (belT (belA _ (belA _ hBl3.out)) hb4)
  clear hb4 hv4 hV3 hR3 hT3 hX3 hY3 hBl3
  obtain ⟨r0, r1, r2, r3, r4, r5⟩ := hR4.out
  obtain ⟨y0, y1, y2, y3, y4, y5⟩ := hY4.out
  obtain ⟨x0, x1⟩ := hX4.out
  obtain ⟨ht, t0⟩ := tyArg_sl hT4.out (by decide)
  have t8 : w4.cell? ⟨g1, 26, none⟩ = some (.int .i64 3) := (ht 2 (by decide)).2.2.2.2.2.2.2.2
  have u2 : w4.cell? ⟨g1, 38, none⟩ = some (.int .i64 2) := (ht 4 (by decide)).2.2.1
  have u4 : w4.cell? ⟨g1, 40, none⟩ = some (.int .i64 0) := (ht 4 (by decide)).2.2.2.2.1
  have u5 : w4.cell? ⟨g1, 41, none⟩ = some (.int .i64 1) := (ht 4 (by decide)).2.2.2.2.2.1
  have u6 : w4.cell? ⟨g1, 42, none⟩ = some (.int .i64 0) := (ht 4 (by decide)).2.2.2.2.2.2.1
  have u7 : w4.cell? ⟨g1, 43, none⟩ = some (.int .i64 0) := (ht 4 (by decide)).2.2.2.2.2.2.2.1
  have u8 : w4.cell? ⟨g1, 44, none⟩ = some (.int .i64 (-1)) := (ht 4 (by decide)).2.2.2.2.2.2.2.2
  simp only [aR] at r1 r2 r3 r4 r5 y1 y2 y3 y4 y5
  clear hR4 hY4 hX4 hT4 ht
  have hrin : ∀ (x0 x1 x2 x3 x4 y0 y1 y2 y3 y4 : Int) (W : World), (Op.equalIn 10000 28 (.agg #[.int .i64 x0, .int .i64 x1, .int .i64 x2, .int .i64 x3, .int .i64 x4]) (.agg #[.int .i64 y0, .int .i64 y1, .int .i64 y2, .int .i64 y3, .int .i64 y4])).run Try.prog W = .ok (rwQ x0 x1 x2 x3 x4 y0 y1 y2 y3 y4) W := fun x0 x1 x2 x3 x4 y0 y1 y2 y3 y4 W => row_in 9997 x0 x1 x2 x3 x4 y0 y1 y2 y3 y4 W
  have hq : rwQ 0 1 0 0 (-1) 0 1 0 0 (-1) = true := by decide
  have hc5 : (4 : Int) < (5 : Int) := by omega
  go_wp2_with fail
  go_quiet ((go_at_call 19; exact Calls.quiet_of_same (num_q _ _ (by omega) (by omega))))
  go_wp2_with fail
  go_ret
  exact ⟨rfl, below_drewN (belA _ hBl4.out) _⟩
end Go.Proofs.Ytjhmdobmbajcgaa
