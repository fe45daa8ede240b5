/- SchemeForms: the memory that its literals lay. -/
import Derived.Test.YtjhmdobmbajcgaaFmP
namespace Go.Proofs.Ytjhmdobmbajcgaa
open Go.RowKit
set_option linter.unusedVariables false
set_option linter.unusedSimpArgs false

theorem tpArg_two (w : World) (T : TypeId) (g : Nat) (x : Tp) {arr : Array Value} (hg : g = w.heap.size) (harr : arr = #[.slice x.ad x.n x.c, .slice x.ad x.n x.c]) (hx : TpOk w x) : TpArg (w.alloc (.cells arr T)) (some ⟨g, 0, none⟩) 2 [x, x] := by
  subst hg
  subst harr
  refine ⟨rfl, .inr ⟨_, _, rfl, fun i hi => ?_, by simp⟩⟩
  have hi : i < 2 := hi
  have hcs : i = 0 ∨ i = 1 := by omega
  rcases hcs with rfl | rfl
  · exact ⟨by simp, hx.below (below_alc w _)⟩
  · exact ⟨by simp, hx.below (below_alc w _)⟩
def tpRow (b : Nat) : Array Value := #[.slice (some ⟨b + 1 + 1 + 1 + 1 + 1, 0, none⟩) 1 1, .slice (some ⟨b + 1 + 1 + 1 + 1 + 1, 0, none⟩) 1 1]
structure FmW (b : Nat) (W : World) : Prop where
  ty : TyArg W (some ⟨b, 0, none⟩) 3 fT
  ks : IsArg W (some ⟨b + 1 + 1, 0, none⟩) 2 [1, 2]
  ms : IsArg W (some ⟨b + 1 + 1 + 1, 0, none⟩) 1 [3]
  sc : ScAt W (b + 1 + 1 + 1 + 1) (.slice (some ⟨b + 1 + 1, 0, none⟩) 2 2) (.slice (some ⟨b + 1 + 1 + 1, 0, none⟩) 1 1) (.slice (some ⟨b, 0, none⟩) 3 3)
  bx : BoxAt W (b + 1 + 1 + 1 + 1 + 1 + 1) (.slice (some ⟨b + 1 + 1 + 1 + 1 + 1, 0, none⟩) 1 1)
  bs : TyArg W (some ⟨b + 1 + 1 + 1 + 1 + 1, 0, none⟩) 1 [⟨0, 0, 0, 0, 0, 0, 0, 0, 0⟩]
  tp : TpArg W (some ⟨b + 1 + 1 + 1 + 1 + 1 + 1 + 1, 0, none⟩) 2 [fX b, fX b]
  rw : RwArg W (some ⟨b + 1 + 1 + 1 + 1 + 1 + 1 + 1 + 1, 0, none⟩) 1 [fR]
  f20 : W.frozen? ⟨b + 1 + 1, 0, none⟩ = false
  f21 : W.frozen? ⟨b + 1 + 1, 1, none⟩ = false
  f30 : W.frozen? ⟨b + 1 + 1 + 1, 0, none⟩ = false
  f42 : W.frozen? ⟨b + 1 + 1 + 1 + 1, 2, none⟩ = false
  f71 : W.frozen? ⟨b + 1 + 1 + 1 + 1 + 1 + 1 + 1, 1, none⟩ = false
  row : W.heap[b + 1 + 1 + 1 + 1 + 1 + 1 + 1]? = some (.cells (tpRow b) 25 (0, 0))
  lt : b + 1 + 1 + 1 + 1 + 1 + 1 + 1 + 1 < W.heap.size
theorem FmW.below {b : Nat} {W W' : World} (h : FmW b W) (hb : Below W.heap.size W W') : FmW b W' := by
  have hl := h.lt
  have hs := hb.size
  exact ⟨h.ty.below hb, h.ks.below hb, h.ms.below hb, h.sc.below hb, h.bx.below hb, h.bs.below hb, h.tp.below hb, h.rw.below hb, (hb.frozen (p := ⟨b + 1 + 1, 0, none⟩) (show b + 1 + 1 < W.heap.size by omega)).trans h.f20, (hb.frozen (p := ⟨b + 1 + 1, 1, none⟩) (show b + 1 + 1 < W.heap.size by omega)).trans h.f21, (hb.frozen (p := ⟨b + 1 + 1 + 1, 0, none⟩) (show b + 1 + 1 + 1 < W.heap.size by omega)).trans h.f30, (hb.frozen (p := ⟨b + 1 + 1 + 1 + 1, 2, none⟩) (show b + 1 + 1 + 1 + 1 < W.heap.size by omega)).trans h.f42, (hb.frozen (p := ⟨b + 1 + 1 + 1 + 1 + 1 + 1 + 1, 1, none⟩) (show b + 1 + 1 + 1 + 1 + 1 + 1 + 1 < W.heap.size by omega)).trans h.f71, (hb.block _ (by omega)).trans h.row, by omega⟩
set_option maxRecDepth 100000 in
theorem fm_lit (w1 : World) : FmW w1.heap.size (((((((((w1.alloc (.cells #[.int .i64 2, .int .i64 1, .int .i64 0, .int .i64 0, .int .i64 0, .int .i64 0, .int .i64 0, .int .i64 0, .int .i64 0, .int .i64 2, .int .i64 2, .int .i64 0, .int .i64 0, .int .i64 0, .int .i64 0, .int .i64 0, .int .i64 0, .int .i64 0, .int .i64 3, .int .i64 0, .int .i64 0, .int .i64 1, .int .i64 0, .int .i64 0, .int .i64 0, .int .i64 0, .int .i64 3] 47)).alloc (.cells #[.slice (some ⟨w1.heap.size, 0, none⟩) 3 3] 25)).alloc (.cells #[.int .i64 1, .int .i64 2] 3)).alloc (.cells #[.int .i64 3] 3)).alloc (.cells #[.slice (some ⟨w1.heap.size + 1 + 1, 0, none⟩) 2 2, .slice (some ⟨w1.heap.size + 1 + 1 + 1, 0, none⟩) 1 1, .slice (some ⟨w1.heap.size, 0, none⟩) 3 3] 56)).alloc (.cells #[.int .i64 0, .int .i64 0, .int .i64 0, .int .i64 0, .int .i64 0, .int .i64 0, .int .i64 0, .int .i64 0, .int .i64 0] 47)).alloc (.cells #[.slice (some ⟨w1.heap.size + 1 + 1 + 1 + 1 + 1, 0, none⟩) 1 1] 25)).alloc (.cells #[.slice (some ⟨w1.heap.size + 1 + 1 + 1 + 1 + 1, 0, none⟩) 1 1, .slice (some ⟨w1.heap.size + 1 + 1 + 1 + 1 + 1, 0, none⟩) 1 1] 25)).alloc (.cells #[.int .i64 0, .int .i64 0, .int .i64 0, .int .i64 0, .int .i64 (-1)] 28)) := by
  have hbs : TyArg ((((((w1.alloc (.cells #[.int .i64 2, .int .i64 1, .int .i64 0, .int .i64 0, .int .i64 0, .int .i64 0, .int .i64 0, .int .i64 0, .int .i64 0, .int .i64 2, .int .i64 2, .int .i64 0, .int .i64 0, .int .i64 0, .int .i64 0, .int .i64 0, .int .i64 0, .int .i64 0, .int .i64 3, .int .i64 0, .int .i64 0, .int .i64 1, .int .i64 0, .int .i64 0, .int .i64 0, .int .i64 0, .int .i64 3] 47)).alloc (.cells #[.slice (some ⟨w1.heap.size, 0, none⟩) 3 3] 25)).alloc (.cells #[.int .i64 1, .int .i64 2] 3)).alloc (.cells #[.int .i64 3] 3)).alloc (.cells #[.slice (some ⟨w1.heap.size + 1 + 1, 0, none⟩) 2 2, .slice (some ⟨w1.heap.size + 1 + 1 + 1, 0, none⟩) 1 1, .slice (some ⟨w1.heap.size, 0, none⟩) 3 3] 56)).alloc (.cells #[.int .i64 0, .int .i64 0, .int .i64 0, .int .i64 0, .int .i64 0, .int .i64 0, .int .i64 0, .int .i64 0, .int .i64 0] 47)) (some ⟨w1.heap.size + 1 + 1 + 1 + 1 + 1, 0, none⟩) 1 [⟨0, 0, 0, 0, 0, 0, 0, 0, 0⟩] := tyArg_lit _ _ _ _ _ _ (by simp) rfl rfl
  have htp : TpArg ((((((((w1.alloc (.cells #[.int .i64 2, .int .i64 1, .int .i64 0, .int .i64 0, .int .i64 0, .int .i64 0, .int .i64 0, .int .i64 0, .int .i64 0, .int .i64 2, .int .i64 2, .int .i64 0, .int .i64 0, .int .i64 0, .int .i64 0, .int .i64 0, .int .i64 0, .int .i64 0, .int .i64 3, .int .i64 0, .int .i64 0, .int .i64 1, .int .i64 0, .int .i64 0, .int .i64 0, .int .i64 0, .int .i64 3] 47)).alloc (.cells #[.slice (some ⟨w1.heap.size, 0, none⟩) 3 3] 25)).alloc (.cells #[.int .i64 1, .int .i64 2] 3)).alloc (.cells #[.int .i64 3] 3)).alloc (.cells #[.slice (some ⟨w1.heap.size + 1 + 1, 0, none⟩) 2 2, .slice (some ⟨w1.heap.size + 1 + 1 + 1, 0, none⟩) 1 1, .slice (some ⟨w1.heap.size, 0, none⟩) 3 3] 56)).alloc (.cells #[.int .i64 0, .int .i64 0, .int .i64 0, .int .i64 0, .int .i64 0, .int .i64 0, .int .i64 0, .int .i64 0, .int .i64 0] 47)).alloc (.cells #[.slice (some ⟨w1.heap.size + 1 + 1 + 1 + 1 + 1, 0, none⟩) 1 1] 25)).alloc (.cells #[.slice (some ⟨w1.heap.size + 1 + 1 + 1 + 1 + 1, 0, none⟩) 1 1, .slice (some ⟨w1.heap.size + 1 + 1 + 1 + 1 + 1, 0, none⟩) 1 1] 25)) (some ⟨w1.heap.size + 1 + 1 + 1 + 1 + 1 + 1 + 1, 0, none⟩) 2 [fX w1.heap.size, fX w1.heap.size] := tpArg_two _ _ _ _ (by simp) (by rfl) ⟨hbs.alloc _, by show (1 : Nat) ≤ 140737488351232; omega⟩
  refine ⟨?_, ?_, ?_, ?_, ?_, ?_, htp.alloc _, ?_, ?_, ?_, ?_, ?_, ?_, ?_, by simp⟩
  · exact .alloc _ (.alloc _ (.alloc _ (.alloc _ (.alloc _ (.alloc _ (.alloc _ (.alloc _ (tyArg_lit _ _ _ _ _ _ rfl rfl rfl))))))))
  · exact .alloc _ (.alloc _ (.alloc _ (.alloc _ (.alloc _ (.alloc _ (isArg_lit _ _ _ _ _ _ (by simp) rfl rfl))))))
  · exact .alloc _ (.alloc _ (.alloc _ (.alloc _ (.alloc _ (isArg_lit _ _ _ _ _ _ (by simp) rfl rfl)))))
  · exact .alloc _ (.alloc _ (.alloc _ (.alloc _ (sc_lit _ _ _ _ _ _ (by simp)))))
  · exact .alloc _ (.alloc _ (box_lit _ _ _ _ (by simp)))
  · exact .alloc _ (.alloc _ (.alloc _ hbs))
  · exact rwArg_one _ _ _ fR (by simp)
  · simp [go_sem]
  · simp [go_sem]
  · simp [go_sem]
  · simp [go_sem]
  · simp [go_sem]
  · rw [(below_alc _ _).block _ (by simp)]
    rw [show w1.heap.size + 1 + 1 + 1 + 1 + 1 + 1 + 1 = ((((((((w1.alloc (.cells #[.int .i64 2, .int .i64 1, .int .i64 0, .int .i64 0, .int .i64 0, .int .i64 0, .int .i64 0, .int .i64 0, .int .i64 0, .int .i64 2, .int .i64 2, .int .i64 0, .int .i64 0, .int .i64 0, .int .i64 0, .int .i64 0, .int .i64 0, .int .i64 0, .int .i64 3, .int .i64 0, .int .i64 0, .int .i64 1, .int .i64 0, .int .i64 0, .int .i64 0, .int .i64 0, .int .i64 3] 47)).alloc (.cells #[.slice (some ⟨w1.heap.size, 0, none⟩) 3 3] 25)).alloc (.cells #[.int .i64 1, .int .i64 2] 3)).alloc (.cells #[.int .i64 3] 3)).alloc (.cells #[.slice (some ⟨w1.heap.size + 1 + 1, 0, none⟩) 2 2, .slice (some ⟨w1.heap.size + 1 + 1 + 1, 0, none⟩) 1 1, .slice (some ⟨w1.heap.size, 0, none⟩) 3 3] 56)).alloc (.cells #[.int .i64 0, .int .i64 0, .int .i64 0, .int .i64 0, .int .i64 0, .int .i64 0, .int .i64 0, .int .i64 0, .int .i64 0] 47)).alloc (.cells #[.slice (some ⟨w1.heap.size + 1 + 1 + 1 + 1 + 1, 0, none⟩) 1 1] 25))).heap.size from by simp]
    exact heap_alloc_last _ (.cells (tpRow w1.heap.size) 25)
end Go.Proofs.Ytjhmdobmbajcgaa
