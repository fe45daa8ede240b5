/- The machine of layer 21: a frame more. -/
import Derived.Test.YtnjalpcmjkahkaaZt19
import Derived.Deep.RegionLaw
set_option maxRecDepth 100000
set_option maxHeartbeats 8000000
namespace Go.Proofs.Ytnjalpcmjkahkaa
open Go.RowKit
set_option linter.unusedVariables false
set_option linter.unusedSimpArgs false
theorem step_frr {ops : Array Oper} {o : Oper} {a : Act} {K : Act → World → Prop} {Q : Exit → Act → World → Prop} {E : Prop} (hgd : o.guard = none) (s x : Operand) (W : World) (B : Nat) (hB : B ≤ W.heap.size) (ov : Value) (l ys : List Fr) (arr : Array Value)
  (ho : o.op = .call { callee := .builtin .append, args := #[s, x], argTypes := #[50, 50] })
  (hs : a.eval s = ov) (m : Nat) (hm : m = ys.length) (hx : a.eval x = .slice (some ⟨W.heap.size, 0, none⟩) m m) (harr : arr.toList = frL ys) (hown : OwnF B W ov l) (hlen : l.length + ys.length ≤ 1000000)
  (h : ∀ v' w', OwnF B w' v' (l ++ ys) → Bar (fun k => ov.ownBlock = some k) W.drew w' → (∀ g, v'.ownBlock = some g → ov.ownBlock = some g ∨ W.heap.size ≤ g) → K (a.put o.dst v') w') :
  if Region.wanted o (yielded ops a.tmps) = true then Oper.wp Try.prog o a (W.alloc (.cells arr 129)).drew K Q else E := by
 subst hm
 have hw : Region.wanted o (yielded ops a.tmps) = true := by simp [Region.wanted, hgd]
 rw [if_pos hw]
 obtain ⟨v', w', hr, h1, h2, h3⟩ := run_appF (W := (W.alloc (.cells arr 129)).drew) B (by simp; omega) o.type ov l (hown.below (((Below.refl _ _).alloc (Nat.le_refl _) _).drew)) ⟨W.heap.size, 0, none⟩ ys.length ys.length ys rfl (fun j u hj => by
  have e : (⟨W.heap.size, 0, none⟩ : Addr).add j = ⟨W.heap.size, j, none⟩ := by simp [Addr.add]; try omega
  show (W.alloc _).cell? _ = _
  rw [e, World.cell?_alloc_at _ _ _ _ rfl, ← hj, ← harr, Array.getElem?_toList]) hlen
 unfold Oper.wp
 simp [execOp, ho, resolve, invoke, builtin, hs, hx, hr, Result.andThen]
 refine h v' w' h1 ?_ fun g hg => ?_
 ·have hsz := h2.size
  simp at hsz
  exact ⟨h2.os, h2.tape, h2.output, by simp; omega, fun k hk hn => (h2.block k (by simp; simp at hk; omega) hn).trans (Below.heap_alloc W _ k (by simp at hk; omega))⟩
 ·rcases h3 g hg with h | h
  ·exact .inl h
  ·exact .inr (by simp at h; omega)
theorem own_slF {B : Nat} {w : World} {v : Value} {l : List Fr} (h : OwnF B w v l) : ∃ a c, v = .slice a l.length c := by
 rcases h.2 with ⟨h1, h0⟩ | ⟨g, cap, cur, h1, _⟩
 ·exact ⟨none, 0, by rw [h1, h0]⟩
 ·exact ⟨_, _, h1⟩
theorem McC.setS {w : World} {G : Nat} {tv fv sv : Value} {m : Mc} (h : McC w G tv fv sv m) (sv' : Value) : McC (w.setCell ⟨G, 5, none⟩ sv') G tv fv sv' m :=
 ⟨by simp; exact h.lt, h.ty.set _ _, fun o => by simp [h.fz], (cS h.c0).trans (by simp), (cS h.c1).trans (by simp), (cS h.c2).trans (by simp), (cS h.c3).trans (by simp), (cS h.c4).trans (by simp), (cS h.c5).trans (by simp), (cS h.c6).trans (by simp), (cS h.c7).trans (by simp), (cS h.c8).trans (by simp), (cS h.c9).trans (by simp), (cS h.c10).trans (by simp), (cS h.c11).trans (by simp), (cS h.c12).trans (by simp), (cS h.c13).trans (by simp), bsS h.bs h.kG, h.kG, fun k hk => by simp; exact h.kl k hk⟩
def Fr.val (f : Fr) : Value := .agg #[.int .i64 f.st, .int .i64 f.nd, .pointer f.en, .int .i64 f.th.a, .int .i64 f.th.b, .pointer f.th.c, .pointer f.th.d, .pointer f.th.e]
def Bp (G : Nat) (sv : Value) : Nat → Prop := fun k => k = G ∨ sv.ownBlock = some k
def PuP (B G : Nat) (tv fv sv : Value) (m : Mc) (l : List Fr) (w : World) (e : Ending) (w' : World) : Prop :=
 ∃ sv', e = .returned (.tuple #[]) ∧ McC w' G tv fv sv' m ∧ OwnF B w' sv' l ∧ Bar (Bp G sv) w w' ∧ ∀ g, sv'.ownBlock = some g → sv.ownBlock = some g ∨ w.heap.size ≤ g
theorem fr_box (w W : World) (f : Fr) (hW : w.alloc (.cells #[.int .i64 f.st, .int .i64 f.nd, .pointer f.en, .int .i64 f.th.a, .int .i64 f.th.b, .pointer f.th.c, .pointer f.th.d, .pointer f.th.e] 129) = W) : (W.cell? ⟨w.heap.size, 0, none⟩ = some (.int .i64 f.st) ∧ W.cell? ⟨w.heap.size, 1, none⟩ = some (.int .i64 f.nd) ∧ W.cell? ⟨w.heap.size, 2, none⟩ = some (.pointer f.en) ∧ W.cell? ⟨w.heap.size, 3, none⟩ = some (.int .i64 f.th.a) ∧ W.cell? ⟨w.heap.size, 4, none⟩ = some (.int .i64 f.th.b) ∧ W.cell? ⟨w.heap.size, 5, none⟩ = some (.pointer f.th.c) ∧ W.cell? ⟨w.heap.size, 6, none⟩ = some (.pointer f.th.d) ∧ W.cell? ⟨w.heap.size, 7, none⟩ = some (.pointer f.th.e)) ∧ Below w.heap.size w W ∧ W.heap.size = w.heap.size + 1 := by
 subst hW
 refine ⟨⟨?_, ?_, ?_, ?_, ?_, ?_, ?_, ?_⟩, below_alc _ _, by simp⟩ <;> (rw [World.cell?_alloc_at _ _ _ _ rfl]; rfl)
theorem push_any (B G : Nat) (tv fv sv : Value) (l : List Fr) (m : Mc) (f : Fr) (w : World) (h : Hid (McC w G tv fv sv m)) (ho : Hid (OwnF B w sv l)) (hB : G < B ∧ B ≤ w.heap.size) (hl : l.length ≤ 100000) (hkS : ∀ k, sv.ownBlock = some k → ¬ m.w0.2 k) :
  Calls Try.prog 80 #[.pointer (some ⟨G, 0, none⟩), f.val] w (PuP B G tv fv sv m (l ++ [f]) w) := by
 obtain ⟨a, c, rfl⟩ := own_slF ho.out
 have hG := h.out.lt
 have hc5 := h.out.c5; have hfz := h.out.fz
 obtain ⟨st, nd, en, t⟩ := f
 obtain ⟨ta, tb, tc, td, te⟩ := t
 unfold Fr.val
 dsimp only
 go_enter Try.func80, Try.ntmps80
 go_upto_region 1 with fail
 obtain ⟨W0, hW0⟩ : ∃ W, w.alloc (.cells #[.int .i64 st, .int .i64 nd, .pointer en, .int .i64 ta, .int .i64 tb, .pointer tc, .pointer td, .pointer te] 129) = W := ⟨_, rfl⟩
 obtain ⟨⟨y0, y1, y2, y3, y4, y5, y6, y7⟩, hb0, hs0⟩ := fr_box w W0 ⟨st, nd, en, ⟨ta, tb, tc, td, te⟩⟩ hW0
 rw [hW0]
 clear hW0 hc5 hfz
 have h2 := Lib.hid (h.out.below hb0)
 have ho2 := Lib.hid (ho.out.below hb0)
 have hb0 := Lib.hid hb0
 have hc5 := h2.out.c5
 have hfr := h2.out.fz
 have hgW : G < W0.heap.size := by omega
 have hq : Hid ((l.length + [(⟨st, nd, en, ⟨ta, tb, tc, td, te⟩⟩ : Fr)].length) ≤ 1000000) := Lib.hid (by simp; omega)
 have hBW : B ≤ W0.heap.size := by omega
 have hnG : ¬ (Value.slice a l.length c).ownBlock = some G := fun e => by have := (own_lt ho.out G e).1; omega
 have hfin : Hid (∀ a2 c2 w2, OwnF B w2 (.slice a2 (l.length + 1) c2) (l ++ [⟨st, nd, en, ⟨ta, tb, tc, td, te⟩⟩]) → Bar (fun k => (Value.slice a l.length c).ownBlock = some k) W0.drew w2 → (∀ g, (Value.slice a2 (l.length + 1) c2).ownBlock = some g → (Value.slice a l.length c).ownBlock = some g ∨ W0.heap.size ≤ g) → PuP B G tv fv (.slice a l.length c) m (l ++ [⟨st, nd, en, ⟨ta, tb, tc, td, te⟩⟩]) w (.returned (.tuple #[])) (w2.setCell ⟨G, 5, none⟩ (.slice a2 (l.length + 1) c2))) := Lib.hid fun a2 c2 w2 k1 k2 k3 => by
  have hd : Below W0.heap.size W0 W0.drew := (Below.refl _ _).drew
  have hbar : Bar (Bp G (.slice a l.length c)) w (w2.setCell ⟨G, 5, none⟩ (.slice a2 (l.length + 1) c2)) :=
   ((Bar.of_below (S := Bp G (.slice a l.length c)) (belT hb0.out hd)).trans k2 fun k _ hk => .inr hk).trans (Bar.set (S := Bp G (.slice a l.length c)) ⟨G, 5, none⟩ _ (.inl rfl)) fun _ _ hk => hk
  have hown : ∀ k, (Value.slice a2 (l.length + 1) c2).ownBlock = some k → ¬ (Bq G) k := fun k hk e => by
   have := (own_lt k1 k hk).1
   have e : k = G := e
   omega
  exact ⟨_, rfl, ((h2.out.below hd).bar k2 hnG hkS).setS _, Bar.own (Bar.set (S := Bq G) ⟨G, 5, none⟩ _ rfl) k1 hown, hbar, fun g hg => (k3 g hg).imp id fun h => by omega⟩
 clear hs0
 go_region_law ((refine step_frr rfl (.tmp 8) (.tmp 10) W0 B hBW (.slice a l.length c) l [⟨st, nd, en, ⟨ta, tb, tc, td, te⟩⟩] _ rfl rfl 1 rfl rfl rfl ho2.out hq.out ?_; intro v' w2 hown2 hb2 hop2; obtain ⟨a2, c2, rfl⟩ := own_slF hown2; have hc2 : w2.cell? ⟨G, 5, none⟩ = some (.slice a l.length c) := hb2.cell hc5 hnG; rw [List.length_append, List.length_singleton] at hown2 hop2; have hown2 := Lib.hid hown2; have hb2' := Lib.hid hb2; have hop2 := Lib.hid hop2; have hgw2 : G < w2.heap.size := Nat.lt_of_lt_of_le hgW hb2.size; have hf2 : w2.frozen? ⟨G, 5, none⟩ = false := (hb2.frozen (a := ⟨G, 5, none⟩) hgW hnG).trans (hfr 5)))
 all_goals
  clear hb2 hc5 hfr hgW y0 y1 y2 y3 y4 y5 y6 y7
  go_end0
  exact hfin.out _ _ _ hown2.out hb2'.out hop2.out
end Go.Proofs.Ytnjalpcmjkahkaa
