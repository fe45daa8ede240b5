/- awake of layer 9. -/
import Derived.Test.YtfkdcconmecaoaaDoorSbF
import Derived.Test.YtfkdcconmecaoaaDoorSbG
import Derived.Deep.DeepCutAuto
namespace Go.Proofs.YtfkdcconmecaoaaDoor
open Go.RowKit
set_option linter.unusedVariables false
set_option linter.unusedSimpArgs false

def aV : List Ty := [⟨2, 2, 0, 0, 0, 0, 0, 0, 0⟩]
def aF : List Ty := [⟨2, 2, 0, 0, 0, 0, 0, 0, 0⟩, ⟨1, 0, 0, 0, 0, 0, 0, 0, 0⟩, ⟨3, 0, 0, 1, 0, 0, 0, 0, 3⟩]
def aR : Rw := ⟨0, 1, 0, 0, -1⟩
def aB (ad : Option Addr) : List Bn := [⟨2, false, ad, 3, 3, aF, rw0⟩, ⟨3, true, none, 0, 0, [], aR⟩]
def aC (ad : Option Addr) : List Bn := [⟨2, false, ad, 1, 1, aV, aR⟩]
def aO : List Ty := [⟨2, 2, 0, 0, 0, 0, 0, 0, 0⟩, ⟨1, 0, 0, 0, 0, 0, 0, 0, 0⟩, ⟨3, 0, 0, 1, 0, 0, 0, 0, 3⟩, ⟨1, 0, 0, 0, 0, 0, 0, 0, 0⟩, ⟨3, 0, 2, 3, 0, 1, 0, 0, -1⟩]
theorem aw1 (ad : Option Addr) : subT (aB ad) aF = aO ∧ subE (aB ad) aF = 0 := ⟨by kernel_rfl, by kernel_rfl⟩
theorem aw2 (ad : Option Addr) : rwV (subR (aB ad) ⟨0, 0, 0, 0, 3⟩) = .agg #[.int .i64 0, .int .i64 1, .int .i64 0, .int .i64 0, .int .i64 (-1)] ∧ subRE (aB ad) ⟨0, 0, 0, 0, 3⟩ = 0 := ⟨by kernel_rfl, by kernel_rfl⟩
theorem aw3 (ad : Option Addr) : subE (aB ad) [] = 900 := by kernel_rfl
theorem aw4 (ad : Option Addr) : subE (aC ad) aV = 900 := by kernel_rfl
def bnL1 (t : Bn) : List Value := [.int .i64 t.v, .bool t.ir, .slice t.ad t.n t.c, .int .i64 t.r.a, .int .i64 t.r.b, .int .i64 t.r.c, .int .i64 t.r.d, .int .i64 t.r.t]
def bnL (l : List Bn) : List Value := l.flatMap bnL1
theorem bnL_get : ∀ (l : List Bn) (i k : Nat), k < 8 → (bnL l)[i * 8 + k]? = (l[i]?).bind fun t => (bnL1 t)[k]?
  | [], i, k, _ => by simp [bnL]
  | t :: l, 0, k, hk => by
    simp only [bnL, List.flatMap_cons, Nat.zero_mul, Nat.zero_add]
    rw [List.getElem?_append_left (by simp [bnL1]; omega)]; rfl
  | t :: l, i + 1, k, hk => by
    have h := bnL_get l i k hk
    simp only [bnL, List.flatMap_cons] at *
    rw [List.getElem?_append_right (by simp [bnL1]; omega), show (i + 1) * 8 + k - (bnL1 t).length = i * 8 + k by simp [bnL1]; omega, h]
    simp
theorem bnAt_of {w : World} {g off : Nat} {l : List Bn} (h : ∀ j u, (bnL l)[j]? = some u → w.cell? ⟨g, off + j, none⟩ = some u) : ∀ i, i < l.length → BnAt w g off (l.getD i bn0) i := by
  intro i hi
  have hg : l[i]? = some (l.getD i bn0) := by rw [List.getD_eq_getElem?_getD, List.getElem?_eq_getElem hi]; rfl
  have k0 := h (i * 8 + 0) (.int .i64 (l.getD i bn0).v) (by rw [bnL_get l i 0 (by omega), hg]; rfl)
  have k1 := h (i * 8 + 1) (.bool (l.getD i bn0).ir) (by rw [bnL_get l i 1 (by omega), hg]; rfl)
  have k2 := h (i * 8 + 2) (.slice (l.getD i bn0).ad (l.getD i bn0).n (l.getD i bn0).c) (by rw [bnL_get l i 2 (by omega), hg]; rfl)
  have k3 := h (i * 8 + 3) (.int .i64 (l.getD i bn0).r.a) (by rw [bnL_get l i 3 (by omega), hg]; rfl)
  have k4 := h (i * 8 + 4) (.int .i64 (l.getD i bn0).r.b) (by rw [bnL_get l i 4 (by omega), hg]; rfl)
  have k5 := h (i * 8 + 5) (.int .i64 (l.getD i bn0).r.c) (by rw [bnL_get l i 5 (by omega), hg]; rfl)
  have k6 := h (i * 8 + 6) (.int .i64 (l.getD i bn0).r.d) (by rw [bnL_get l i 6 (by omega), hg]; rfl)
  have k7 := h (i * 8 + 7) (.int .i64 (l.getD i bn0).r.t) (by rw [bnL_get l i 7 (by omega), hg]; rfl)
  exact ⟨k0, k1, k2, k3, k4, k5, k6, k7⟩
theorem TyArg.alloc {w : World} {a : Option Addr} {n : Nat} {ts : List Ty} (o : Obj) (h : TyArg w a n ts) : TyArg (w.alloc o) a n ts := h.below (below_alc w o)
theorem BnArg.alloc {w : World} {a : Option Addr} {n : Nat} {ts : List Bn} (o : Obj) (h : BnArg w a n ts) : BnArg (w.alloc o) a n ts := h.below (below_alc w o)
theorem tyArg_nil (w : World) (a : Option Addr) : TyArg w a 0 [] := ⟨rfl, .inl rfl⟩
theorem tyArg_lit (w : World) (arr : Array Value) (T : TypeId) (g n : Nat) (ts : List Ty) (hg : g = w.heap.size) (hn : n = ts.length) (h : arr.toList = tyL ts) : TyArg (w.alloc (.cells arr T)) (some ⟨g, 0, none⟩) n ts := by
  refine ⟨hn, .inr ⟨g, 0, rfl, tySl_of fun j u hj => ?_, by simp; omega⟩⟩
  subst hg
  rw [Nat.zero_add, World.cell?_alloc_at _ _ _ _ rfl, ← hj, ← h, Array.getElem?_toList]
theorem bnArg_lit (w : World) (arr : Array Value) (T : TypeId) (g n : Nat) (xs : List Bn) (hg : g = w.heap.size) (hn : n = xs.length) (h : arr.toList = bnL xs) (ht : ∀ x ∈ xs, TyArg w x.ad x.n x.ns ∧ x.n ≤ 140737488351232) : BnArg (w.alloc (.cells arr T)) (some ⟨g, 0, none⟩) n xs := by
  refine ⟨hn, .inr ⟨g, 0, rfl, fun i hi => ⟨bnAt_of (fun j u hj => ?_) i hi, (ht _ (getB_mem hi)).1.alloc _, (ht _ (getB_mem hi)).2⟩, by simp; omega⟩⟩
  subst hg
  rw [Nat.zero_add, World.cell?_alloc_at _ _ _ _ rfl, ← hj, ← h, Array.getElem?_toList]
/-- one cell, a row: in memory. -/
def BoxAt (w : World) (g : Nat) (v : Value) : Prop := g < w.heap.size ∧ w.cell? ⟨g, 0, none⟩ = some v
theorem BoxAt.below {w w' : World} {g : Nat} {v : Value} (h : BoxAt w g v) (hb : Below w.heap.size w w') : BoxAt w' g v := ⟨by have := hb.size; have := h.1; omega, carry hb h.1 h.2⟩
def RowAt (w : World) (g : Nat) (r : Rw) : Prop := g < w.heap.size ∧ w.cell? ⟨g, 0, none⟩ = some (.int .i64 r.a) ∧ w.cell? ⟨g, 1, none⟩ = some (.int .i64 r.b) ∧ w.cell? ⟨g, 2, none⟩ = some (.int .i64 r.c) ∧ w.cell? ⟨g, 3, none⟩ = some (.int .i64 r.d) ∧ w.cell? ⟨g, 4, none⟩ = some (.int .i64 r.t)
theorem RowAt.below {w w' : World} {g : Nat} {r : Rw} (h : RowAt w g r) (hb : Below w.heap.size w w') : RowAt w' g r := ⟨by have := hb.size; have := h.1; omega, carry hb h.1 h.2.1, carry hb h.1 h.2.2.1, carry hb h.1 h.2.2.2.1, carry hb h.1 h.2.2.2.2.1, carry hb h.1 h.2.2.2.2.2⟩
theorem belA {w W : World} (o : Obj) (h : Below w.heap.size w W) : Below w.heap.size w (W.alloc o) := h.alloc h.size _
theorem BoxAt.alloc {w : World} {g : Nat} {v : Value} (o : Obj) (h : BoxAt w g v) : BoxAt (w.alloc o) g v := h.below (below_alc w o)
theorem RowAt.alloc {w : World} {g : Nat} {r : Rw} (o : Obj) (h : RowAt w g r) : RowAt (w.alloc o) g r := h.below (below_alc w o)
theorem tyArg_sl {w : World} {g off n : Nat} {ts : List Ty} (h : TyArg w (some ⟨g, off, none⟩) n ts) (h0 : ts ≠ []) : TySl w g off ts ∧ g < w.heap.size := by
  obtain ⟨_, h1 | ⟨b, o, h1, h2, h3⟩⟩ := h
  · exact absurd h1 h0
  · injection h1 with h1; injection h1 with h4 h5 _; subst h4; subst h5; exact ⟨h2, h3⟩
theorem box_lit (w : World) (T : TypeId) (g : Nat) (v : Value) (hg : g = w.heap.size) : BoxAt (w.alloc (.cells #[v] T)) g v := by
  subst hg
  exact ⟨by simp, by rw [World.cell?_alloc_at _ _ _ _ rfl]; rfl⟩
theorem row_lit (w : World) (T : TypeId) (g : Nat) (r : Rw) (hg : g = w.heap.size) : RowAt (w.alloc (.cells #[.int .i64 r.a, .int .i64 r.b, .int .i64 r.c, .int .i64 r.d, .int .i64 r.t] T)) g r := by
  subst hg
  refine ⟨by simp, ?_, ?_, ?_, ?_, ?_⟩ <;> (rw [World.cell?_alloc_at _ _ _ _ rfl]; rfl)
end Go.Proofs.YtfkdcconmecaoaaDoor
