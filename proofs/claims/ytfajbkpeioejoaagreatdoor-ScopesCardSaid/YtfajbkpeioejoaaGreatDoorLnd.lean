/- LendProgram. -/
import Derived.Test.YtfajbkpeioejoaaGreatDoorPrg
import Derived.Test.YtfajbkpeioejoaaGreatDoorNaF
import Derived.OneCell
namespace Go.Proofs.YtfajbkpeioejoaaGreatDoor
open Go.RowKit
set_option linter.unusedVariables false
set_option linter.unusedSimpArgs false

def KeepL (w W : World) : Prop := Below w.heap.size w W ∧ w.heap.size + 1 < W.heap.size ∧ (∀ o, W.frozen? ⟨w.heap.size + 1, o, none⟩ = false) ∧ ∃ u v, W.cell? ⟨w.heap.size + 1, 0, none⟩ = some u ∧ W.cell? ⟨w.heap.size + 1, 1, none⟩ = some v
theorem KeepL.go {w W W' : World} (h : KeepL w W) (hb : Below W.heap.size W W') : KeepL w W' := by
  obtain ⟨h1, h2, h3, u, v, h4, h5⟩ := h
  refine ⟨belT h1 hb, by have := hb.size; omega, fun o => by rw [hb.frozen (p := ⟨w.heap.size + 1, o, none⟩) h2]; exact h3 o, u, v, carry hb h2 h4, carry hb h2 h5⟩
theorem ln_step {w W W' : World} {x y : Value} (h : W.cell? ⟨w.heap.size, 0, none⟩ = some x ∧ W.cell? ⟨w.heap.size, 1, none⟩ = some y ∧ KeepL w W) (hb : Below W.heap.size W W') : W'.cell? ⟨w.heap.size, 0, none⟩ = some x ∧ W'.cell? ⟨w.heap.size, 1, none⟩ = some y ∧ KeepL w W' :=
  ⟨carry hb (by have := h.2.2.2.1; omega) h.1, carry hb (by have := h.2.2.2.1; omega) h.2.1, h.2.2.go hb⟩
theorem ln_start {w : World} {x y : Value} {T T' : TypeId} : ((w.alloc (.cells #[x, y] T)).alloc (.cells #[.slice none 0 0, .slice none 0 0] T')).drew.cell? ⟨w.heap.size, 0, none⟩ = some x ∧ ((w.alloc (.cells #[x, y] T)).alloc (.cells #[.slice none 0 0, .slice none 0 0] T')).drew.cell? ⟨w.heap.size, 1, none⟩ = some y ∧ KeepL w ((w.alloc (.cells #[x, y] T)).alloc (.cells #[.slice none 0 0, .slice none 0 0] T')).drew := by
  refine ⟨?_, ?_, ?_, ?_, ?_, .slice none 0 0, .slice none 0 0, ?_, ?_⟩
  · show ((w.alloc (.cells #[x, y] T)).alloc (.cells #[.slice none 0 0, .slice none 0 0] T')).cell? _ = _; simp
  · show ((w.alloc (.cells #[x, y] T)).alloc (.cells #[.slice none 0 0, .slice none 0 0] T')).cell? _ = _; simp
  · (repeat' (first | with_reducible exact Below.refl _ _ | with_reducible assumption | with_reducible apply Below.setCell | with_reducible apply Below.alloc | with_reducible apply Below.drew | with_reducible apply below_drewN | with_reducible exact Nat.le_refl _ | (simp; done) | (simp; omega) | omega | exact Nat.le_refl _))
  · show _ < ((w.alloc (.cells #[x, y] T)).alloc (.cells #[.slice none 0 0, .slice none 0 0] T')).heap.size; simp
  · intro o; show ((w.alloc (.cells #[x, y] T)).alloc (.cells #[.slice none 0 0, .slice none 0 0] T')).frozen? _ = _; simp [go_sem]
  · show ((w.alloc (.cells #[x, y] T)).alloc (.cells #[.slice none 0 0, .slice none 0 0] T')).cell? _ = _; simp
  · show ((w.alloc (.cells #[x, y] T)).alloc (.cells #[.slice none 0 0, .slice none 0 0] T')).cell? _ = _; simp
theorem ln_keep {w W : World} {x y : Value} (h : W.cell? ⟨w.heap.size, 0, none⟩ = some x ∧ W.cell? ⟨w.heap.size, 1, none⟩ = some y ∧ KeepL w W) : Below w.heap.size w W := h.2.2.1

theorem ln_cells {w W W' : World} {x y : Value} (h : W.cell? ⟨w.heap.size, 0, none⟩ = some x ∧ W.cell? ⟨w.heap.size, 1, none⟩ = some y ∧ KeepL w W) (hb : Below W.heap.size W W') :
    W'.frozen? ⟨w.heap.size + 1, 0, none⟩ = false ∧ W'.frozen? ⟨w.heap.size + 1, 1, none⟩ = false ∧ ∃ u v, W'.cell? ⟨w.heap.size + 1, 0, none⟩ = some u ∧ W'.cell? ⟨w.heap.size + 1, 1, none⟩ = some v := by
  obtain ⟨_, _, h3, u, v, h4, h5⟩ := h.2.2.go hb
  exact ⟨h3 0, h3 1, u, v, h4, h5⟩
theorem ln_store {w W : World} {x y p q : Value} (h : W.cell? ⟨w.heap.size, 0, none⟩ = some x ∧ W.cell? ⟨w.heap.size, 1, none⟩ = some y ∧ KeepL w W) :
    ((W.setCell ⟨w.heap.size + 1, 0, none⟩ p).setCell ⟨w.heap.size + 1, 1, none⟩ q).cell? ⟨w.heap.size, 0, none⟩ = some x ∧ ((W.setCell ⟨w.heap.size + 1, 0, none⟩ p).setCell ⟨w.heap.size + 1, 1, none⟩ q).cell? ⟨w.heap.size, 1, none⟩ = some y ∧ KeepL w ((W.setCell ⟨w.heap.size + 1, 0, none⟩ p).setCell ⟨w.heap.size + 1, 1, none⟩ q) := by
  obtain ⟨h1, h2, h3, h4, h5, u, v, h6, h7⟩ := h
  have hq : (W.setCell ⟨w.heap.size + 1, 0, none⟩ p).cell? ⟨w.heap.size + 1, 1, none⟩ = some v := by rw [cell_set _ _ _ _ _ _ _ h6, if_neg (by omega)]; exact h7
  have rd : ∀ b o, ((W.setCell ⟨w.heap.size + 1, 0, none⟩ p).setCell ⟨w.heap.size + 1, 1, none⟩ q).cell? ⟨b, o, none⟩ = if b = w.heap.size + 1 ∧ o = 1 then some q else if b = w.heap.size + 1 ∧ o = 0 then some p else W.cell? ⟨b, o, none⟩ := fun b o => by
    rw [cell_set _ _ _ _ _ _ _ hq, cell_set _ _ _ _ _ _ _ h6]
  refine ⟨?_, ?_, ?_, ?_, ?_, p, q, ?_, ?_⟩
  · rw [rd, if_neg (by omega), if_neg (by omega)]; exact h1
  · rw [rd, if_neg (by omega), if_neg (by omega)]; exact h2
  · exact (h3.setCell (p := ⟨w.heap.size + 1, 0, none⟩) (by show _ ≤ w.heap.size + 1; omega) _).setCell (p := ⟨w.heap.size + 1, 1, none⟩) (by show _ ≤ w.heap.size + 1; omega) _
  · simpa using h4
  · intro o; simp [go_sem, h5]
  · rw [rd, if_neg (by omega), if_pos ⟨rfl, rfl⟩]
  · rw [rd, if_pos ⟨rfl, rfl⟩]
theorem own_le {B B' : Nat} {w : World} {e : TypeId} {size : Nat} {v : Value} {n : Nat} {xs : List Value} (h : w.ownsRow B' e size v n xs) (hB : B ≤ B' := by omega) : w.ownsRow B e size v n xs := by
  refine ⟨h.1, ?_⟩
  rcases h.2 with h | ⟨g', cap, cur, e1, e2, e3⟩
  · exact .inl h
  · exact .inr ⟨g', cap, cur, e1, by omega, e3⟩
theorem lentO_set {B B' : Nat} {w : World} {g n c : Nat} {l : List Or} (h : OwnO.Lent B' w g n c l) (hB : B ≤ B') {k o : Nat} (hk : k < B') (v : Value) : OwnO.Lent B (w.setCell ⟨k, o, none⟩ v) g n c l := by
  obtain ⟨h1, h2, h3, h4⟩ := h
  refine ⟨h1, h2, by omega, ?_⟩
  have h5 : OwnO B w (.slice (some ⟨g, 0, none⟩) (n + 2) c) (l ++ [orMk, orMk]) := by
    refine ⟨h4.1, ?_⟩
    rcases h4.2 with h | ⟨g', cap, cur, e1, e2, e3⟩
    · exact .inl h
    · exact .inr ⟨g', cap, cur, e1, by omega, e3⟩
  exact ownsRow_setCell_other h5 (by simp [Value.ownBlock]; omega) v
theorem lentN_set {B B' : Nat} {w : World} {g n c : Nat} {l : List Nd} (h : OwnN.Lent B' w g n c l) (hB : B ≤ B') {k o : Nat} (hk : k < B') (v : Value) : OwnN.Lent B (w.setCell ⟨k, o, none⟩ v) g n c l := by
  obtain ⟨h1, h2, h3, h4⟩ := h
  refine ⟨h1, h2, by omega, ?_⟩
  have h5 : OwnN B w (.slice (some ⟨g, 0, none⟩) (n + 2) c) (l ++ [ndMk, ndMk]) := by
    refine ⟨h4.1, ?_⟩
    rcases h4.2 with h | ⟨g', cap, cur, e1, e2, e3⟩
    · exact .inl h
    · exact .inr ⟨g', cap, cur, e1, by omega, e3⟩
  exact ownsRow_setCell_other h5 (by simp [Value.ownBlock]; omega) v
def LendPost (os : List Or) (ts : List Nd) (w : World) (n n2 : Nat) (e : Ending) (w' : World) : Prop := ∃ g c g2 c2, e = .returned (.agg #[.slice (some ⟨g, 0, none⟩) n c, .slice (some ⟨g2, 0, none⟩) n2 c2]) ∧ OwnO.Lent w.heap.size w' g n c os ∧ OwnN.Lent w.heap.size w' g2 n2 c2 ts ∧ Below w.heap.size w w'
set_option maxRecDepth 100000 in
set_option maxHeartbeats 4000000 in
theorem lendProgram_any (a a2 : Option Addr) (n c n2 c2 : Nat) (os : List Or) (ts : List Nd) (w : World) (h : Hid (OArg w a n os)) (h2 : Hid (NArg w a2 n2 ts)) (hl : n * 32 ≤ 140737488351232) (hl2 : n2 * 112 ≤ 140737488351232) :
    Calls Tryz.prog 4 #[.agg #[.slice a n c, .slice a2 n2 c2]] w (LendPost os ts w n n2) := by
  have kO := Lib.hid fun (W : World) (hb : Below w.heap.size w W) => LendOps_any a n c os W (Lib.hid (h.out.below hb)) hl
  have kN := Lib.hid fun (W : World) (hb : Below w.heap.size w W) => LendNodes_any a2 n2 c2 ts W (Lib.hid (h2.out.below hb)) hl2
  go_enter Tryz.func4, Tryz.ntmps4
  go_wp2_with fail
  go_region_held3 (fun W => W.cell? ⟨w.heap.size, 0, none⟩ = some (.slice a n c) ∧ W.cell? ⟨w.heap.size, 1, none⟩ = some (.slice a2 n2 c2) ∧ KeepL w W)
    (first | exact ln_store (by assumption) | exact ln_step (by assumption) hbO | exact ln_step (by assumption) hbN | exact ln_start)
    (first | (go_at_call 14; refine (kO.out _ (ln_keep (by assumption))).mono ?_; rintro e wO ⟨gO, cO, rfl, hLO, hbO⟩) | (go_at_call 15; refine (kN.out _ (ln_keep (by assumption))).mono ?_; rintro e wN ⟨gN, cN, rfl, hLN, hbN⟩; have hcN := Lib.hid (ln_cells (by assumption) hbN); obtain ⟨fN0, fN1, uN, vN, cN0, cN1⟩ := hcN.out))
  have hf := Lib.hid (ln_keep (by assumption))
  have hO1 := Lib.hid (lentO_set (B := w.heap.size + 2) (lentO_set (B := w.heap.size + 2) (hLO.below hbN) (by show _ ≤ ((w.alloc _).alloc _).heap.size; simp) (k := w.heap.size + 1) (o := 0) (by show _ < ((w.alloc _).alloc _).heap.size; simp) (.slice (some ⟨gO, 0, none⟩) n cO)) (Nat.le_refl _) (k := w.heap.size + 1) (o := 1) (by omega) (.slice (some ⟨gN, 0, none⟩) n2 cN))
  have hws : w.heap.size + 2 ≤ wO.heap.size := by
    have h3 := hbO.size
    have h4 : ∀ (o1 o2 : Obj), ((w.alloc o1).alloc o2).drew.heap.size = w.heap.size + 2 := fun o1 o2 => by show ((w.alloc o1).alloc o2).heap.size = _; simp
    rw [h4] at h3; exact h3
  have hN1 := Lib.hid (lentN_set (B := w.heap.size + 2) (lentN_set (B := w.heap.size + 2) hLN hws (k := w.heap.size + 1) (o := 0) (by omega) (.slice (some ⟨gO, 0, none⟩) n cO)) (Nat.le_refl _) (k := w.heap.size + 1) (o := 1) (by omega) (.slice (some ⟨gN, 0, none⟩) n2 cN))
  have hd0 : ((wN.setCell ⟨w.heap.size + 1, 0, none⟩ (.slice (some ⟨gO, 0, none⟩) n cO)).setCell ⟨w.heap.size + 1, 1, none⟩ (.slice (some ⟨gN, 0, none⟩) n2 cN)).cell? ⟨w.heap.size + 1, 0, none⟩ = some (.slice (some ⟨gO, 0, none⟩) n cO) := by
    rw [cell_set _ _ _ _ _ _ vN (by rw [cell_set _ _ _ _ _ _ _ cN0, if_neg (by omega)]; exact cN1), if_neg (by omega), cell_set _ _ _ _ _ _ _ cN0, if_pos ⟨rfl, rfl⟩]
  have hd1 : ((wN.setCell ⟨w.heap.size + 1, 0, none⟩ (.slice (some ⟨gO, 0, none⟩) n cO)).setCell ⟨w.heap.size + 1, 1, none⟩ (.slice (some ⟨gN, 0, none⟩) n2 cN)).cell? ⟨w.heap.size + 1, 1, none⟩ = some (.slice (some ⟨gN, 0, none⟩) n2 cN) := by
    rw [cell_set _ _ _ _ _ _ vN (by rw [cell_set _ _ _ _ _ _ _ cN0, if_neg (by omega)]; exact cN1), if_pos ⟨rfl, rfl⟩]
  obtain ⟨W, hW⟩ : ∃ W, ((wN.setCell ⟨w.heap.size + 1, 0, none⟩ (.slice (some ⟨gO, 0, none⟩) n cO)).setCell ⟨w.heap.size + 1, 1, none⟩ (.slice (some ⟨gN, 0, none⟩) n2 cN)) = W := ⟨_, rfl⟩
  rw [hW] at hf hO1 hN1 hd0 hd1 ⊢
  clear hW hLO hLN hbO hbN hcN fN0 fN1 cN0 cN1
  go_wp2_with fail
  exact bodyPost_ret (v := .agg #[.slice (some ⟨gO, 0, none⟩) n cO, .slice (some ⟨gN, 0, none⟩) n2 cN]) (by simp [results, Tryz.results4, go_sem, hd0, hd1]) rfl ⟨gO, cO, gN, cN, rfl, ⟨hO1.out.1, hO1.out.2.1, by have := hO1.out.2.2.1; omega, own_le hO1.out.2.2.2⟩, ⟨hN1.out.1, hN1.out.2.1, by have := hN1.out.2.2.1; omega, own_le hN1.out.2.2.2⟩, hf.out⟩
end Go.Proofs.YtfajbkpeioejoaaGreatDoor
