/- target.May: rows of nodes in memory; the closure. -/
import Derived.Test.YtnjalpcmjkahkaaTgC
import Derived.Test.YtnjalpcmjkahkaaTgP
namespace Go.Proofs.Ytnjalpcmjkahkaa
open Go.RowKit
set_option linter.unusedVariables false
set_option linter.unusedSimpArgs false

def tg0 : Tg := ⟨0, 0, 0, 0, 0, 0, 0, 0, 0⟩
/-- node i of a row of nodes, in memory. -/
def TgAt (w : World) (b off : Nat) (t : Tg) (i : Nat) : Prop :=
  w.cell? ⟨b, off + i * 9, none⟩ = some (.int .i64 t.k) ∧ w.cell? ⟨b, off + i * 9 + 1, none⟩ = some (.int .i64 t.a) ∧ w.cell? ⟨b, off + i * 9 + 2, none⟩ = some (.int .i64 t.b) ∧
  w.cell? ⟨b, off + i * 9 + 3, none⟩ = some (.int .i64 t.c) ∧ w.cell? ⟨b, off + i * 9 + 4, none⟩ = some (.int .i64 t.n) ∧ w.cell? ⟨b, off + i * 9 + 5, none⟩ = some (.int .i64 t.x) ∧
  w.cell? ⟨b, off + i * 9 + 6, none⟩ = some (.int .i64 t.y) ∧ w.cell? ⟨b, off + i * 9 + 7, none⟩ = some (.int .i64 t.z) ∧ w.cell? ⟨b, off + i * 9 + 8, none⟩ = some (.int .i64 t.w)
theorem TgAt.below {B : Nat} {w w' : World} {b off i : Nat} {t : Tg} (h : TgAt w b off t i) (hb : Below B w w') (hB : b < B) : TgAt w' b off t i := by
  unfold TgAt at *
  have e : ∀ o, w'.cell? ⟨b, o, none⟩ = w.cell? ⟨b, o, none⟩ := fun o => hb.cell (p := ⟨b, o, none⟩) hB
  simp only [e]; exact h
/-- a slice of nodes that lies below block B. -/
def TgSl (w : World) (b off : Nat) (ts : List Tg) : Prop := ∀ i, i < ts.length → TgAt w b off (ts.getD i tg0) i
theorem TgSl.below {B : Nat} {w w' : World} {b off : Nat} {ts : List Tg} (h : TgSl w b off ts) (hb : Below B w w') (hB : b < B) : TgSl w' b off ts :=
  fun i hi => (h i hi).below hb hB

set_option maxHeartbeats 400000 in
theorem may1_any (b off cp p at_ : Nat) (ts : List Tg) (w : World) (hp : w.cell? ⟨p, 0, none⟩ = some (.slice (some ⟨b, off, none⟩) ts.length cp)) (h : Hid (TgSl w b off ts)) (hat : at_ < ts.length) (hl : ts.length ≤ 140737488351232) :
    Calls Try.prog 28 #[.int .i64 at_, .pointer (some ⟨p, 0, none⟩)] w fun e w' => e = .returned (kidV (kidsL (ts.getD at_ tg0).k (ts.getD at_ tg0).a (ts.getD at_ tg0).b (ts.getD at_ tg0).c)) ∧ Below w.heap.size w w' := by
  have hT := h.out at_ hat
  generalize ts.getD at_ tg0 = t at hT
  obtain ⟨e0, e1, e2, e3, e4, e5, e6, e7, e8⟩ := hT
  have hbs := World.block_lt_of_cell? _ _ e0
  have hps := World.block_lt_of_cell? _ _ hp
  simp only [] at hbs hps
  go_enter Try.func28, Try.ntmps28
  go_wp2_with fail
  refine (children_any _ _ _ _ _ _ _ _ _ _).mono ?_
  rintro e w1 ⟨rfl, hb1⟩
  obtain ⟨hc1, hf1⟩ := bcell hb1
  have hz1_0 : w.heap.size < w1.heap.size := by have := hb1.size; (try simp at this); omega
  rw [kidV_eq]
  go_wp2_with fail
  exact bodyPost_ret (v := kidV (kidsL t.k t.a t.b t.c)) (by simp [results, Try.results28, go_sem, kidV, hc1, hf1]) rfl ⟨rfl, by (repeat' (first | with_reducible exact Below.refl _ _ | with_reducible assumption | with_reducible apply Below.setCell | with_reducible apply Below.alloc | with_reducible apply Below.drew | with_reducible apply below_drewN | with_reducible exact Nat.le_refl _ | (simp; done) | (simp; omega) | omega | exact Nat.le_refl _)); exact belT (by (repeat' (first | with_reducible exact Below.refl _ _ | with_reducible assumption | with_reducible apply Below.setCell | with_reducible apply Below.alloc | with_reducible apply Below.drew | with_reducible apply below_drewN | with_reducible exact Nat.le_refl _ | (simp; done) | (simp; omega) | omega | exact Nat.le_refl _))) hb1⟩
theorem allT_take {α : Type} (l : List α) (d : α) (p : α → Bool) (j : Nat) (h : j < l.length) : (l.take (j + 1)).all p = ((l.take j).all p && p (l.getD j d)) := by
  rw [List.take_succ_eq_append_getElem h, List.all_append]
  simp [h]
def okT (t : Tg) : Bool := plainT t.k t.a t.b t.c t.n t.x t.y t.z t.w && numT t.k t.n && okNames t.k t.n t.x t.y t.z t.w
def nodesOk (ts : List Tg) : Bool := ts.all okT

end Go.Proofs.Ytnjalpcmjkahkaa
