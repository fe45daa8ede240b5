/- The pairs of types that UnifyForms tries: plain. -/
import Derived.Test.YtfkdcconmecaoaaDoorUfC
namespace Go.Proofs.YtfkdcconmecaoaaDoor
open Go.RowKit
set_option linter.unusedVariables false
set_option linter.unusedSimpArgs false

/-- a row with one operation, closed. -/
def rJ (j : Nat) : Rw := ⟨if j % 4 = 0 then 1 + j else 0, if j % 4 = 1 then 1 + j else 0, if j % 4 = 2 then 1 + j else 0, if j % 4 = 3 then 1 + j else 0, -1⟩
def tN : List Ty := [ty0]
def tT : List Ty := [bsT 1]
def asL (r : Rw) : List (List Ty) := [tN, tN, arwL tN rwP tN, arwL tN rwP tN, arwL tN r tN, arwL [vrT 0] rwP [vrT 0], [vrT 0], arwL [vrT 0] rwP [vrT 1], arwL [vrT 0] rwO (arwL tN rwO tN)]
def bsL (r : Rw) : List (List Ty) := [tT, arwL tN rwP tN, arwL tT rwP tN, arwL tN rwP tT, arwL tN rwP tN, arwL tN rwP tT, arwL [vrT 0] rwP tN, arwL [vrT 1] rwP (arwL [vrT 0] rwP tN), arwL tN rwP (arwL tN r tN)]
def wantL : List Nat := [1, 1, 1, 1, 1, 1, 2, 2, 1]
def unChk (f : Int) (ta tb : List Ty) (k : Nat) : Bool := unOk f ta tb && match oneU 6 ⟨[], f⟩ (treeOf ta) (treeOf tb) with | some (.error e) => e == k | _ => false
theorem unChk_of {f : Int} {ta tb : List Ty} {k : Nat} (h : unChk f ta tb k = true) : UnRes f ta tb (.error k) := by
  unfold unChk at h
  simp only [Bool.and_eq_true] at h
  unfold UnRes
  rw [if_pos h.1]
  refine ⟨6, ?_⟩
  have h2 := h.2
  split at h2
  · rename_i e he; rw [he, eq_of_beq h2]
  · cases h2
def allChk : Bool := (List.range 8).all fun j => (List.range 9).all fun k => unChk 5 ((asL (rJ j)).getD k []) ((bsL (rJ j)).getD k []) (wantL.getD k 0) && unChk 5 ((bsL (rJ j)).getD k []) ((asL (rJ j)).getD k []) (wantL.getD k 0)
theorem allChk_eq : allChk = true := by kernel_rfl
theorem ug_at {j k : Nat} (hj : j < 8) (hk : k < 9) : UnRes 5 ((asL (rJ j)).getD k []) ((bsL (rJ j)).getD k []) (.error (wantL.getD k 0)) ∧ UnRes 5 ((bsL (rJ j)).getD k []) ((asL (rJ j)).getD k []) (.error (wantL.getD k 0)) := by
  have h := allChk_eq
  unfold allChk at h
  rw [List.all_eq_true] at h
  have h := h j (List.mem_range.2 hj)
  rw [List.all_eq_true] at h
  have h := h k (List.mem_range.2 hk)
  simp only [Bool.and_eq_true] at h
  exact ⟨unChk_of h.1, unChk_of h.2⟩
theorem ug_may {j : Nat} (hj : j < 8) : tyV (arwL tN (rJ j) tN) = true := by
  have h : (List.range 8).all (fun j => tyV (arwL tN (rJ j) tN)) = true := by kernel_rfl
  rw [List.all_eq_true] at h
  exact h j (List.mem_range.2 hj)
theorem ug_want {k : Nat} (hk : k < 9) : wantL.getD k 0 = 1 ∨ wantL.getD k 0 = 2 := by
  have h : (List.range 9).all (fun k => wantL.getD k 0 == 1 || wantL.getD k 0 == 2) = true := by kernel_rfl
  rw [List.all_eq_true] at h
  have h := h k (List.mem_range.2 hk)
  simpa using h
theorem ug_no (ta tb : List Ty) (f : Int) (h : unOk f ta tb = false) : UnRes f ta tb (.error 0) := by
  unfold UnRes; rw [if_neg (by rw [h]; intro e; cases e)]
theorem ug_e1 : UnRes 5 tN [] (.error 0) := ug_no _ _ _ (by kernel_rfl)
theorem ug_e2 {d : Int} (h : 1 ≤ d) : UnRes (-d) tN tN (.error 0) := ug_no _ _ _ (by unfold unOk; rw [decide_eq_false (by omega)]; rfl)
theorem ug_e3 {d : Int} (h : 1 ≤ d) : UnRes (4095 + d) tN tN (.error 0) := ug_no _ _ _ (by unfold unOk; rw [decide_eq_false (by omega)]; rfl)
/-- rows of types in memory. -/
def TsAt (W : World) (g : Nat) (l : List (List Ty)) : Prop := g < W.heap.size ∧ ∀ k, k < l.length → ∃ a n c, W.cell? ⟨g, k, none⟩ = some (.slice a n c) ∧ TyArg W a n (l.getD k []) ∧ n ≤ 256
theorem TsAt.below {W W' : World} {g : Nat} {l : List (List Ty)} (h : TsAt W g l) (hb : Below W.heap.size W W') : TsAt W' g l :=
  ⟨by have := hb.size; have := h.1; omega, fun k hk => by obtain ⟨a, n, c, h1, h2, h3⟩ := h.2 k hk; exact ⟨a, n, c, carry hb h.1 h1, h2.below hb, h3⟩⟩
/-- a row of types in a block just made. -/
theorem tsAt_lit (W : World) (T : TypeId) (g : Nat) (hg : g = W.heap.size) (vs : List Value) (l : List (List Ty)) (arr : Array Value) (ha : arr.toList = vs) (hl : vs.length = l.length)
    (h : ∀ k, k < l.length → ∃ a n c, vs.getD k undef = .slice a n c ∧ TyArg W a n (l.getD k []) ∧ n ≤ 256) : TsAt (W.alloc (.cells arr T)) g l := by
  subst hg
  refine ⟨by simp, fun k hk => ?_⟩
  obtain ⟨a, n, c, h1, h2, h3⟩ := h k hk
  refine ⟨a, n, c, ?_, h2.alloc _, h3⟩
  rw [World.cell?_alloc_at _ _ _ _ rfl, ← Array.getElem?_toList, ha]
  rw [List.getD_eq_getElem?_getD, List.getElem?_eq_getElem (by omega), Option.getD_some] at h1
  rw [List.getElem?_eq_getElem (by omega), h1]
/-- the row whose count is told. -/
theorem ug_row {W : World} {g : Nat} (h : RowAt W g rwP) {j : Nat} {p y : Int} (hj : j < 8) (hp : p = (j : Int) % 4) (hy : y = 1 + (j : Int)) : RowAt (W.setCell ⟨g, p.toNat, none⟩ (.int .i64 y)) g (rJ j) := by
  obtain ⟨h0, h1, h2, h3, h4, h5⟩ := h
  have ne : ∀ a b : Nat, a ≠ b → (⟨g, a, none⟩ : Addr) ≠ ⟨g, b, none⟩ := fun a b hab e => by injection e with _ e2 _; exact hab e2
  have hq : p.toNat = j % 4 := by omega
  rw [hq, hy]
  have hc : j % 4 = 0 ∨ j % 4 = 1 ∨ j % 4 = 2 ∨ j % 4 = 3 := by omega
  refine ⟨by simpa using h0, ?_⟩
  rcases hc with e | e | e | e
  · rw [e]; unfold rJ; simp only [e]; exact ⟨setS h1, setO h2 (ne _ _ (by omega)), setO h3 (ne _ _ (by omega)), setO h4 (ne _ _ (by omega)), setO h5 (ne _ _ (by omega))⟩
  · rw [e]; unfold rJ; simp only [e]; exact ⟨setO h1 (ne _ _ (by omega)), setS h2, setO h3 (ne _ _ (by omega)), setO h4 (ne _ _ (by omega)), setO h5 (ne _ _ (by omega))⟩
  · rw [e]; unfold rJ; simp only [e]; exact ⟨setO h1 (ne _ _ (by omega)), setO h2 (ne _ _ (by omega)), setS h3, setO h4 (ne _ _ (by omega)), setO h5 (ne _ _ (by omega))⟩
  · rw [e]; unfold rJ; simp only [e]; exact ⟨setO h1 (ne _ _ (by omega)), setO h2 (ne _ _ (by omega)), setO h3 (ne _ _ (by omega)), setS h4, setO h5 (ne _ _ (by omega))⟩
/-- the boxes of UnifyForms. -/
structure FmW (W : World) (gn gt g6 g7 g8 g9 : Nat) (r : Rw) : Prop where
  b6 : BoxAt W g6 (.slice (some ⟨gn, 0, none⟩) 1 1)
  b7 : BoxAt W g7 (.slice (some ⟨gt, 0, none⟩) 1 1)
  r8 : RowAt W g8 rwP
  r9 : RowAt W g9 r
  tn : TyArg W (some ⟨gn, 0, none⟩) 1 tN
  tt : TyArg W (some ⟨gt, 0, none⟩) 1 tT
theorem FmW.below {W W' : World} {gn gt g6 g7 g8 g9 : Nat} {r : Rw} (h : FmW W gn gt g6 g7 g8 g9 r) (hb : Below W.heap.size W W') : FmW W' gn gt g6 g7 g8 g9 r :=
  ⟨h.b6.below hb, h.b7.below hb, h.r8.below hb, h.r9.below hb, h.tn.below hb, h.tt.below hb⟩
theorem FmW.cells {W0 W : World} {gn gt g6 g7 g8 g9 : Nat} {r : Rw} (h : FmW W0 gn gt g6 g7 g8 g9 r) (hb : Below W0.heap.size W0 W) :
    W.cell? ⟨g6, 0, none⟩ = some (.slice (some ⟨gn, 0, none⟩) 1 1) ∧ W.cell? ⟨g7, 0, none⟩ = some (.slice (some ⟨gt, 0, none⟩) 1 1) ∧ W.cell? ⟨g8, 0, none⟩ = some (.int .i64 0) ∧ W.cell? ⟨g8, 1, none⟩ = some (.int .i64 0) ∧ W.cell? ⟨g8, 2, none⟩ = some (.int .i64 0) ∧ W.cell? ⟨g8, 3, none⟩ = some (.int .i64 0) ∧ W.cell? ⟨g8, 4, none⟩ = some (.int .i64 (-1)) ∧ W.cell? ⟨g9, 0, none⟩ = some (.int .i64 r.a) ∧ W.cell? ⟨g9, 1, none⟩ = some (.int .i64 r.b) ∧ W.cell? ⟨g9, 2, none⟩ = some (.int .i64 r.c) ∧ W.cell? ⟨g9, 3, none⟩ = some (.int .i64 r.d) ∧ W.cell? ⟨g9, 4, none⟩ = some (.int .i64 r.t) ∧ Below W0.heap.size W0 W := by
  have h' := h.below hb
  obtain ⟨_, e0, e1, e2, e3, e4⟩ := h'.r8
  obtain ⟨_, f0, f1, f2, f3, f4⟩ := h'.r9
  exact ⟨h'.b6.2, h'.b7.2, e0, e1, e2, e3, e4, f0, f1, f2, f3, f4, hb⟩
/-- the world when the boxes are made. -/
def FmWorld (w1 : World) (j : Nat) (y : Int) : World := ((((((w1.alloc (.cells #[.int .i64 0, .int .i64 0, .int .i64 0, .int .i64 0, .int .i64 0, .int .i64 0, .int .i64 0, .int .i64 0, .int .i64 0] 38)).alloc (.cells #[.slice (some ⟨w1.heap.size, 0, none⟩) 1 1] 24)).alloc (.cells #[.int .i64 1, .int .i64 0, .int .i64 0, .int .i64 0, .int .i64 0, .int .i64 0, .int .i64 0, .int .i64 0, .int .i64 0] 38)).alloc (.cells #[.slice (some ⟨w1.heap.size + 1 + 1, 0, none⟩) 1 1] 24)).alloc (.cells #[.int .i64 0, .int .i64 0, .int .i64 0, .int .i64 0, .int .i64 (-1)] 36)).alloc (.cells ([Value.int .i64 0, .int .i64 0, .int .i64 0, .int .i64 0, .int .i64 (-1)].set (j % 4) (.int .i64 y)).toArray 36))
theorem rJ_lit {j : Nat} (hj : j < 8) {y : Int} (hy : 1 + (j : Int) = y) : ([Value.int .i64 0, .int .i64 0, .int .i64 0, .int .i64 0, .int .i64 (-1)].set (j % 4) (.int .i64 y)).toArray = #[.int .i64 (rJ j).a, .int .i64 (rJ j).b, .int .i64 (rJ j).c, .int .i64 (rJ j).d, .int .i64 (rJ j).t] := by
  subst hy
  have hc : j % 4 = 0 ∨ j % 4 = 1 ∨ j % 4 = 2 ∨ j % 4 = 3 := by omega
  unfold rJ
  rcases hc with e | e | e | e <;> rw [e] <;> simp
theorem fm_mk (w1 : World) {j : Nat} (hj : j < 8) {y : Int} (hy : 1 + (j : Int) = y) : FmW (FmWorld w1 j y) w1.heap.size (w1.heap.size + 1 + 1) (w1.heap.size + 1) (w1.heap.size + 1 + 1 + 1) (w1.heap.size + 1 + 1 + 1 + 1) (w1.heap.size + 1 + 1 + 1 + 1 + 1) (rJ j) ∧ Below w1.heap.size w1 (FmWorld w1 j y) := by
  unfold FmWorld
  rw [rJ_lit hj hy]
  refine ⟨⟨?_, ?_, ?_, ?_, ?_, ?_⟩, ?_⟩
  · exact BoxAt.alloc _ (BoxAt.alloc _ (BoxAt.alloc _ (BoxAt.alloc _ (box_lit _ _ _ _ (by simp)))))
  · exact BoxAt.alloc _ (BoxAt.alloc _ (box_lit _ _ _ _ (by simp)))
  · exact RowAt.alloc _ (row_lit _ _ _ rwP (by simp))
  · exact row_lit _ _ _ (rJ j) (by simp)
  · exact TyArg.alloc _ (TyArg.alloc _ (TyArg.alloc _ (TyArg.alloc _ (TyArg.alloc _ (tyArg_lit w1 _ _ _ _ _ rfl rfl rfl)))))
  · exact TyArg.alloc _ (TyArg.alloc _ (TyArg.alloc _ (tyArg_lit _ _ _ _ _ _ (by simp) rfl rfl)))
  · exact belA _ (belA _ (belA _ (belA _ (belA _ (below_alc _ _)))))
theorem k3_go {gA gB gW k : Nat} {vA vB vC : Value} {W3 W W' : World} (hg : gA < W3.heap.size ∧ gB < W3.heap.size ∧ gW < W3.heap.size) (H : W.cell? ⟨gA, k, none⟩ = some vA ∧ W.cell? ⟨gB, k, none⟩ = some vB ∧ W.cell? ⟨gW, k, none⟩ = some vC ∧ Below W3.heap.size W3 W) (hb : Below W.heap.size W W') : W'.cell? ⟨gA, k, none⟩ = some vA ∧ W'.cell? ⟨gB, k, none⟩ = some vB ∧ W'.cell? ⟨gW, k, none⟩ = some vC ∧ Below W3.heap.size W3 W' := by
  obtain ⟨h0, h1, h2, h3⟩ := H
  have := h3.size
  exact ⟨carry hb (by omega) h0, carry hb (by omega) h1, carry hb (by omega) h2, belT h3 hb⟩
/-- the numbers that are wanted, in memory. -/
def wantA : Array Value := #[.int .i64 1001, .int .i64 1001, .int .i64 1001, .int .i64 1001, .int .i64 1001, .int .i64 1001, .int .i64 1002, .int .i64 1002, .int .i64 1001]
theorem want_lit (w : World) {k : Nat} (hk : k < 9) {m : Int} (hm : ((1000 + wantL.getD k 0 : Nat) : Int) = m) : (w.alloc (.cells wantA 3)).cell? ⟨w.heap.size, k, none⟩ = some (.int .i64 m) ∧ w.heap.size < (w.alloc (.cells wantA 3)).heap.size := by
  subst hm
  refine ⟨?_, by simp⟩
  rw [World.cell?_alloc_at _ _ _ _ rfl]
  have hc : k = 0 ∨ k = 1 ∨ k = 2 ∨ k = 3 ∨ k = 4 ∨ k = 5 ∨ k = 6 ∨ k = 7 ∨ k = 8 := by omega
  rcases hc with rfl | rfl | rfl | rfl | rfl | rfl | rfl | rfl | rfl <;> rfl
end Go.Proofs.YtfkdcconmecaoaaDoor
