/- The reference's engine for targets: a frame more. -/
import Derived.Test.YtnjalpcmjkahkaaZt25
import Derived.Deep.RegionLaw
set_option maxRecDepth 100000
set_option maxHeartbeats 8000000
namespace Go.Proofs.Ytnjalpcmjkahkaa
open Go.RowKit
set_option linter.unusedVariables false
set_option linter.unusedSimpArgs false
theorem EcC.setS {w : World} {G : Nat} {tv sv : Value} {m : Ec} (h : EcC w G tv sv m) (sv' : Value) : EcC (w.setCell ⟨G, 1, none⟩ sv') G tv sv' m :=
 ⟨by simp; exact h.lt, h.ty.set _ _, fun o => by simp [h.fz], (cS h.c0).trans (by simp), (cS h.c1).trans (by simp), (cS h.c2).trans (by simp), (cS h.c3).trans (by simp), (cS h.c4).trans (by simp), (cS h.c5).trans (by simp), (cS h.c6).trans (by simp), (cS h.c7).trans (by simp), (cS h.c8).trans (by simp), (cS h.c9).trans (by simp), (cS h.c10).trans (by simp), (cS h.c11).trans (by simp), (cS h.c12).trans (by simp), (cS h.c13).trans (by simp), (cS h.c14).trans (by simp), bsS h.bs h.kG, h.kG, fun k hk => by simp; exact h.kl k hk⟩
theorem own_ltX {B : Nat} {w : World} {v : Value} {l : List Fx} (h : OwnX B w v l) : ∀ k, v.ownBlock = some k → B ≤ k ∧ k < w.heap.size := World.ownsRow.lt h
theorem push_end {B : Nat} {w : World} {v : Value} {l : List Fx} (h : OwnX B w v (l ++ [fx0])) : ∃ g c, v = .slice (some ⟨g, 0, none⟩) (l.length + 1) c ∧ B ≤ g ∧ g < w.heap.size ∧ l.length + 1 ≤ c ∧ (w.cell? ⟨g, l.length * 10, none⟩ = some (.int .i64 0) ∧ w.cell? ⟨g, l.length * 10 + 1, none⟩ = some (.int .i64 0) ∧ w.cell? ⟨g, l.length * 10 + 2, none⟩ = some (.pointer none) ∧ w.cell? ⟨g, l.length * 10 + 3, none⟩ = some (.int .i64 0) ∧ w.cell? ⟨g, l.length * 10 + 4, none⟩ = some (.int .i64 0) ∧ w.cell? ⟨g, l.length * 10 + 5, none⟩ = some (.int .i64 0) ∧ w.cell? ⟨g, l.length * 10 + 6, none⟩ = some (.pointer none) ∧ w.cell? ⟨g, l.length * 10 + 7, none⟩ = some (.slice none 0 0) ∧ w.cell? ⟨g, l.length * 10 + 8, none⟩ = some (.pointer none) ∧ w.cell? ⟨g, l.length * 10 + 9, none⟩ = some (.pointer none)) ∧ ∀ o, w.frozen? ⟨g, o, none⟩ = false := by
 rcases h.cases with ⟨_, h0⟩ | ⟨g, c, h1, h2, h3, h4, h5, h6⟩
 ·simp at h0
 ·rw [List.length_append, List.length_singleton] at h1 h4
  have := h5 l.length (by simp)
  have e : (l ++ [fx0]).getD l.length fx0 = fx0 := by simp [List.getD]
  rw [e] at this
  unfold FxAt at this
  simp only [Nat.zero_add] at this
  exact ⟨g, c, h1, h2, h3, h4, this, h6⟩
theorem push_bp (P : Ending → World → Prop) (tm : Array Value) (w : World) (k : P (.returned (.tuple #[])) w) : bodyPost Try.prog Try.f45 P Exit.normal { tmps := tm, defers := [] } w := by
 go_end0
 exact k
def PxP (B G : Nat) (tv sv : Value) (m : Ec) (l : List Fx) (w : World) (e : Ending) (w' : World) : Prop :=
 ∃ sv', e = .returned (.tuple #[]) ∧ EcC w' G tv sv' m ∧ OwnX B w' sv' l ∧ Bar (Bp G sv) w w' ∧ ∀ g, sv'.ownBlock = some g → sv.ownBlock = some g ∨ w.heap.size ≤ g
theorem push17_any (B G : Nat) (tv sv : Value) (l : List Fx) (m : Ec) (f : Fx) (w : World) (h : Hid (EcC w G tv sv m)) (ho : Hid (OwnX B w sv l)) (hB : G < B ∧ B ≤ w.heap.size) (hl : l.length ≤ 100000) (hkS : ∀ k, sv.ownBlock = some k → ¬ m.w0.2 k) :
  Calls Try.prog 45 #[.pointer (some ⟨G, 0, none⟩), .int .i64 f.st, .int .i64 f.nd, .pointer f.en, f.th.val] w (PxP B G tv sv m (l ++ [f]) w) := by
 obtain ⟨a, c, rfl⟩ := own_slX ho.out
 obtain ⟨st, nd, en, t⟩ := f
 obtain ⟨tk, tn, td, te, t1, t2⟩ := t
 unfold V7.val
 dsimp only
 obtain ⟨W0, hW0⟩ : ∃ W, w.alloc (.cells #[.int .i64 tk, .int .i64 tn, .int .i64 td, .pointer te, .slice none 0 0, .pointer t1, .pointer t2] 67) = W := ⟨_, rfl⟩
 have hb0 : Below w.heap.size w W0 := by rw [← hW0]; exact below_alc _ _
 have hs0 : W0.heap.size = w.heap.size + 1 := by rw [← hW0]; simp
 have y0 : W0.cell? ⟨w.heap.size, 0, none⟩ = some (.int .i64 tk) := by rw [← hW0]; simp [go_sem]
 have y1 : W0.cell? ⟨w.heap.size, 1, none⟩ = some (.int .i64 tn) := by rw [← hW0]; simp [go_sem]
 have y2 : W0.cell? ⟨w.heap.size, 2, none⟩ = some (.int .i64 td) := by rw [← hW0]; simp [go_sem]
 have y3 : W0.cell? ⟨w.heap.size, 3, none⟩ = some (.pointer te) := by rw [← hW0]; simp [go_sem]
 have y4 : W0.cell? ⟨w.heap.size, 4, none⟩ = some (.slice none 0 0) := by rw [← hW0]; simp [go_sem]
 have y5 : W0.cell? ⟨w.heap.size, 5, none⟩ = some (.pointer t1) := by rw [← hW0]; simp [go_sem]
 have y6 : W0.cell? ⟨w.heap.size, 6, none⟩ = some (.pointer t2) := by rw [← hW0]; simp [go_sem]
 have h2 := Lib.hid (h.out.below hb0)
 have ho2 := Lib.hid (ho.out.below hb0)
 have hc1 := h2.out.c1
 have hfr := h2.out.fz
 have hgW : G < W0.heap.size := by omega
 have hbx : w.heap.size < W0.heap.size := by omega
 have hq : Hid ((l.length + [fx0].length) ≤ 1000000) := Lib.hid (by simp; omega)
 have hBW : B ≤ W0.heap.size := by omega
 have hnG : ¬ (Value.slice a l.length c).ownBlock = some G := fun e => by have := (own_ltX ho.out G e).1; omega
 have hnb : ¬ (Value.slice a l.length c).ownBlock = some w.heap.size := fun e => by have := (own_ltX ho.out _ e).2; omega
 have hlG := h.out.lt
 have hfin : Hid (∀ g1 c2 w2, OwnX B w2 (.slice (some ⟨g1, 0, none⟩) (l.length + 1) c2) (l ++ [fx0]) → Bar (fun k => (Value.slice a l.length c).ownBlock = some k) W0.drew w2 → (∀ g, (Value.slice (some ⟨g1, 0, none⟩) (l.length + 1) c2).ownBlock = some g → (Value.slice a l.length c).ownBlock = some g ∨ W0.heap.size ≤ g) →
   PxP B G tv (.slice a l.length c) m (l ++ [⟨st, nd, en, ⟨tk, tn, td, te, t1, t2⟩⟩]) w (.returned (.tuple #[])) (((((((((((w2.setCell ⟨g1, l.length * 10, none⟩ (.int .i64 st)).setCell ⟨g1, l.length * 10 + 1, none⟩ (.int .i64 nd)).setCell ⟨g1, l.length * 10 + 2, none⟩ (.pointer en)).setCell ⟨g1, l.length * 10 + 3, none⟩ (.int .i64 tk)).setCell ⟨g1, l.length * 10 + 4, none⟩ (.int .i64 tn)).setCell ⟨g1, l.length * 10 + 5, none⟩ (.int .i64 td)).setCell ⟨g1, l.length * 10 + 6, none⟩ (.pointer te)).setCell ⟨g1, l.length * 10 + 7, none⟩ (.slice none 0 0)).setCell ⟨g1, l.length * 10 + 8, none⟩ (.pointer t1)).setCell ⟨g1, l.length * 10 + 9, none⟩ (.pointer t2)).setCell ⟨G, 1, none⟩ (.slice (some ⟨g1, 0, none⟩) (l.length + 1) c2))) := Lib.hid fun g1 c2 w2 k1 k2 k3 => by
  have hd : Below W0.heap.size W0 W0.drew := (Below.refl _ _).drew
  obtain ⟨k4, k5⟩ := k1.last ⟨st, nd, en, ⟨tk, tn, td, te, t1, t2⟩⟩
  dsimp only at k4 k5
  have hg1 := (own_ltX k1 g1 rfl)
  have hg1G : g1 ≠ G := by omega
  have ho1 := k3 g1 rfl
  have hk1 : ¬ m.w0.2 g1 := fun hk => by
   rcases ho1 with h3 | h3
   ·exact hkS g1 h3 hk
   ·have := h.out.kl g1 hk; omega
  have hbar : Bar (Bp G (.slice a l.length c)) w (((((((((((w2.setCell ⟨g1, l.length * 10, none⟩ (.int .i64 st)).setCell ⟨g1, l.length * 10 + 1, none⟩ (.int .i64 nd)).setCell ⟨g1, l.length * 10 + 2, none⟩ (.pointer en)).setCell ⟨g1, l.length * 10 + 3, none⟩ (.int .i64 tk)).setCell ⟨g1, l.length * 10 + 4, none⟩ (.int .i64 tn)).setCell ⟨g1, l.length * 10 + 5, none⟩ (.int .i64 td)).setCell ⟨g1, l.length * 10 + 6, none⟩ (.pointer te)).setCell ⟨g1, l.length * 10 + 7, none⟩ (.slice none 0 0)).setCell ⟨g1, l.length * 10 + 8, none⟩ (.pointer t1)).setCell ⟨g1, l.length * 10 + 9, none⟩ (.pointer t2)).setCell ⟨G, 1, none⟩ (.slice (some ⟨g1, 0, none⟩) (l.length + 1) c2)) :=
   (((Bar.of_below (S := Bp G (.slice a l.length c)) (belT hb0 hd)).trans k2 fun k _ hk => .inr hk).trans k5 fun k hk e => by
    have e : k = g1 := e
    rcases ho1 with h3 | h3
    ·exact .inr (by rw [e]; exact h3)
    ·omega).trans (Bar.set (S := Bp G (.slice a l.length c)) ⟨G, 1, none⟩ _ (.inl rfl)) fun _ _ hk => hk
  have hown : ∀ k, (Value.slice (some ⟨g1, 0, none⟩) (l.length + 1) c2).ownBlock = some k → ¬ (Bq G) k := fun k hk e => by
   have hk : g1 = k := by injection hk
   have e : k = G := e
   omega
  exact ⟨_, rfl, ((((h2.out.below hd).bar k2 hnG hkS).bar k5 (fun e => hg1G e.symm) fun k e => by have e : k = g1 := e; rw [e]; exact hk1)).setS _, by
   have := Bar.own (Bar.set (S := Bq G) ⟨G, 1, none⟩ (.slice (some ⟨g1, 0, none⟩) (l.length + 1) c2) rfl) k4 (by intro k hk; exact hown k hk)
   unfold OwnX at this ⊢
   exact this, hbar, fun g hg => (k3 g hg).imp id fun h => by omega⟩
 have hfin2 : Hid (∀ g1 c2 w2, OwnX B w2 (.slice (some ⟨g1, 0, none⟩) (l.length + 1) c2) (l ++ [fx0]) → Bar (fun k => (Value.slice a l.length c).ownBlock = some k) W0.drew w2 → (∀ g, (Value.slice (some ⟨g1, 0, none⟩) (l.length + 1) c2).ownBlock = some g → (Value.slice a l.length c).ownBlock = some g ∨ W0.heap.size ≤ g) →
   PxP B G tv (.slice a l.length c) m (l ++ [⟨st, nd, en, ⟨tk, tn, td, te, t1, t2⟩⟩]) w (.returned (.tuple #[])) (((((((((((w2.setCell ⟨G, 1, none⟩ (.slice (some ⟨g1, 0, none⟩) (l.length + 1) c2)).setCell ⟨g1, l.length * 10, none⟩ (.int .i64 st)).setCell ⟨g1, l.length * 10 + 1, none⟩ (.int .i64 nd)).setCell ⟨g1, l.length * 10 + 2, none⟩ (.pointer en)).setCell ⟨g1, l.length * 10 + 3, none⟩ (.int .i64 tk)).setCell ⟨g1, l.length * 10 + 4, none⟩ (.int .i64 tn)).setCell ⟨g1, l.length * 10 + 5, none⟩ (.int .i64 td)).setCell ⟨g1, l.length * 10 + 6, none⟩ (.pointer te)).setCell ⟨g1, l.length * 10 + 7, none⟩ (.slice none 0 0)).setCell ⟨g1, l.length * 10 + 8, none⟩ (.pointer t1)).setCell ⟨g1, l.length * 10 + 9, none⟩ (.pointer t2))) := Lib.hid fun g1 c2 w2 k1 k2 k3 => by
  have hd : Below W0.heap.size W0 W0.drew := (Below.refl _ _).drew
  have hg1 := (own_ltX k1 g1 rfl)
  have hg1G : g1 ≠ G := by omega
  have ho1 := k3 g1 rfl
  have hk1 : ¬ m.w0.2 g1 := fun hk => by
   rcases ho1 with h3 | h3
   ·exact hkS g1 h3 hk
   ·have := h.out.kl g1 hk; omega
  have hown : ∀ k, (Value.slice (some ⟨g1, 0, none⟩) (l.length + 1) c2).ownBlock = some k → ¬ (Bq G) k := fun k hk e => by
   have hk : g1 = k := by injection hk
   have e : k = G := e
   omega
  have k1' : OwnX B (w2.setCell ⟨G, 1, none⟩ (.slice (some ⟨g1, 0, none⟩) (l.length + 1) c2)) (.slice (some ⟨g1, 0, none⟩) (l.length + 1) c2) (l ++ [fx0]) := by
   have := Bar.own (Bar.set (S := Bq G) ⟨G, 1, none⟩ (.slice (some ⟨g1, 0, none⟩) (l.length + 1) c2) rfl) k1 hown
   unfold OwnX at this ⊢
   exact this
  obtain ⟨k4, k5⟩ := k1'.last ⟨st, nd, en, ⟨tk, tn, td, te, t1, t2⟩⟩
  dsimp only at k4 k5
  have hbar := (((Bar.of_below (S := Bp G (.slice a l.length c)) (belT hb0 hd)).trans k2 fun k _ hk => .inr hk).trans (Bar.set (S := Bp G (.slice a l.length c)) ⟨G, 1, none⟩ (.slice (some ⟨g1, 0, none⟩) (l.length + 1) c2) (.inl rfl)) fun _ _ hk => hk).trans k5 fun k hk e => by
    have e : k = g1 := e
    rcases ho1 with h3 | h3
    ·exact .inr (by rw [e]; exact h3)
    ·omega
  exact ⟨_, rfl, (((h2.out.below hd).bar k2 hnG hkS).setS _).bar k5 (fun e => hg1G e.symm) fun k e => by have e : k = g1 := e; rw [e]; exact hk1, k4, hbar, fun g hg => (k3 g hg).imp id fun h => by omega⟩
 have hW0 := Lib.hid hW0
 have hb0 := Lib.hid hb0
 have hs0 := Lib.hid hs0
 go_enter Try.func45, Try.ntmps45
 go_upto_region 1 with fail
 rename_i e1 e2 e3
 clear e1 e2 e3 hW0 h ho h2 hkS hl hB hlG
 have hlt : (l.length : Int) < (l.length : Int) + 1 := by omega
 go_region_law ((refine step_fxr rfl (.tmp 13) (.tmp 20) W0 B hBW (.slice a l.length c) l [fx0] _ rfl rfl 1 rfl rfl rfl ho2.out hq.out ?_; intro v' w2 hown2 hb2 hop2; obtain ⟨g1, c2, rfl, q1, q2, q3, ⟨q40, q41, q42, q43, q44, q45, q46, q47, q48, q49⟩, q5⟩ := push_end hown2; have hc2 : w2.cell? ⟨G, 1, none⟩ = some (.slice a l.length c) := hb2.cell hc1 hnG; have hown2 := Lib.hid hown2; have hop2 := Lib.hid hop2; have hgw2 : G < w2.heap.size := Nat.lt_of_lt_of_le hgW hb2.size; have hbw2 : w.heap.size < w2.heap.size := Nat.lt_of_lt_of_le hbx hb2.size; have hf2 : w2.frozen? ⟨G, 1, none⟩ = false := (hb2.frozen (a := ⟨G, 1, none⟩) hgW hnG).trans (hfr 1); have z0 := hb2.cell y0 hnb; have z1 := hb2.cell y1 hnb; have z2 := hb2.cell y2 hnb; have z3 := hb2.cell y3 hnb; have z4 := hb2.cell y4 hnb; have z5 := hb2.cell y5 hnb; have z6 := hb2.cell y6 hnb; have hg1G : g1 ≠ G := fun e => (hop2.out g1 rfl).elim (fun h3 => hnG (e ▸ h3)) (fun h3 => by omega); have hg1b : g1 ≠ w.heap.size := fun e => (hop2.out g1 rfl).elim (fun h3 => hnb (e ▸ h3)) (fun h3 => by omega); have hb2 := Lib.hid hb2))
 all_goals
  refine push_bp _ _ _ ?_
  have hx := hfin.out _ _ _ hown2.out hb2.out hop2.out
  first
  | with_reducible exact hx
  | with_reducible exact hfin2.out _ _ _ hown2.out hb2.out hop2.out
end Go.Proofs.Ytnjalpcmjkahkaa
