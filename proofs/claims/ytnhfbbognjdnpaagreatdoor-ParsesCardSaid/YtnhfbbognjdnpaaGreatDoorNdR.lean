/- Nodes appended to a row of one's own: where the row lies then. -/
import Derived.Test.YtnhfbbognjdnpaaGreatDoorNdO
import Derived.Test.YtnhfbbognjdnpaaGreatDoorBarA
import Derived.Laws.OwnMore
import Derived.Laws.AppendOwn
namespace Go.Proofs.YtnhfbbognjdnpaaGreatDoor
open Go.RowKit
set_option linter.unusedVariables false
set_option linter.unusedSimpArgs false

theorem run_appN2 {W : World} (B : Nat) (hB : B ≤ W.heap.size) (ty : TypeId) (v : Value) (l : List Nd) (hown : OwnN B W v l) (ad : Addr) (m c : Nat) (ys : List Nd) (hm : m = ys.length) (hnews : ∀ j u, (ndL ys)[j]? = some u → W.cell? (ad.add j) = some u) (hlen : l.length + ys.length ≤ 1000000) :
    ∃ v' w', (Builtin.append_ #[23, 23] ty #[v, .slice (some ad) m c]).run Tryz.prog W = .ok v' w' ∧ OwnN B w' v' (l ++ ys) ∧ Bar (fun k => v.ownBlock = some k) W w' ∧ (∀ g, v'.ownBlock = some g → v.ownBlock = some g ∨ W.heap.size ≤ g) := by
  subst hm
  obtain ⟨i0, hi, hz0, hz1, hz2⟩ := info_parts infoNd
  obtain ⟨v', w', hr, h1, h2, h3⟩ := run_append_own (P := Tryz.prog) (w := W) B 23 ty 66 i0 (.agg #[.int .i64 0, .int .i64 0, .int .i64 0, .int .i64 0, .int .i64 0, .string ByteArray.empty, .string ByteArray.empty, .string ByteArray.empty, .string ByteArray.empty, .int .i64 0]) 10 112 Tryz.underlying23 hi hz0 hz1 hz2 rfl (by decide) v l.length (ndL l) hown ad ys.length c (ndL ys) (ndL_len ys) hnews (ndL_one ys) (by unfold maxLen; omega) (by omega) hB
  have h1' : OwnN B w' v' (l ++ ys) := by unfold OwnN; rw [ndL_app, List.length_append]; exact h1
  have hbar : Bar (fun k => v.ownBlock = some k) W w' := ⟨h2.os, h2.tape, h2.output, h2.size, fun k hk hn => h2.block k hk (fun e => hn e.symm)⟩
  refine ⟨v', w', hr, h1', hbar, ?_⟩
  rcases hown.2 with ⟨e1, e0⟩ | ⟨g, cap, cur, e1, hBg, hg, hc, hcm, hcs, htk⟩
  · have hl0 : l = [] := List.eq_nil_of_length_eq_zero e0
    subst hl0; subst e1
    intro k hk
    by_cases h0 : ys.length = 0
    · have := h3.2 ⟨rfl, h0⟩; rw [this] at hk; cases hk
    · have hr2 := run_append_nil (P := Tryz.prog) W 23 ty 66 i0 (.agg #[.int .i64 0, .int .i64 0, .int .i64 0, .int .i64 0, .int .i64 0, .string ByteArray.empty, .string ByteArray.empty, .string ByteArray.empty, .string ByteArray.empty, .int .i64 0]) Tryz.underlying23 hi hz0 ad ys.length c (ndL ys) (by rw [ndL_len, hz1]) hnews (by omega) (by omega) (by rw [hz2]; omega)
      rw [hr] at hr2
      injection hr2 with e1 e2
      subst e1
      have hk : W.heap.size = k := Option.some.inj hk
      exact .inr (by omega)
  · subst e1
    by_cases hroom : l.length + ys.length ≤ cap
    · have hfit : l.length * i0.size + (ndL ys).length ≤ cur.size := by
        rw [hz1, hcs, ndL_len]
        have := Nat.mul_le_mul_right 10 hroom
        rw [Nat.add_mul] at this; omega
      have hr2 := run_append_room (P := Tryz.prog) W 23 ty 66 i0 Tryz.underlying23 hi g l.length cap cur hg ad ys.length c (ndL ys) (by rw [ndL_len, hz1]) hnews (ndL_one ys) hroom hfit
      rw [hr] at hr2
      injection hr2 with e1 e2
      intro k hk
      exact .inl (by rw [e1] at hk; exact hk)
    · have hr2 := run_append_grow (P := Tryz.prog) W 23 ty 66 i0 (.agg #[.int .i64 0, .int .i64 0, .int .i64 0, .int .i64 0, .int .i64 0, .string ByteArray.empty, .string ByteArray.empty, .string ByteArray.empty, .string ByteArray.empty, .int .i64 0]) Tryz.underlying23 hi hz0 ⟨g, 0, none⟩ l.length cap (ndL l) (by rw [ndL_len, hz1]) (fun j u hj => World.ownsRow.cells (show W.ownsRow B 66 10 (.slice (some ⟨g, 0, none⟩) l.length cap) l.length (ndL l) from hown) rfl j u hj) ad ys.length c (ndL ys) (by rw [ndL_len, hz1]) hnews (by omega) (by omega) (by rw [hz2]; exact growslice_fits (by omega) (by omega))
      rw [hr] at hr2
      injection hr2 with e1 e2
      have hob : v'.ownBlock = some W.heap.size := by rw [e1]; rfl
      intro k hk
      exact .inr (by rw [hob] at hk; injection hk with hk; omega)
/-- an append of nodes that lie in the block that was made last, told by the blocks that stay. -/
theorem op_ndr {ops : Array Oper} {rest : List Oper} {o : Oper} {a : Act} {Q : Exit → Act → World → Prop} (hgd : o.guard = none) (s x : Operand) (W : World) (B : Nat) (hB : B ≤ W.heap.size) (ov : Value) (l ys : List Nd) (arr : Array Value)
    (ho : o.op = .call { callee := .builtin .append, args := #[s, x], argTypes := #[23, 23] })
    (hs : a.eval s = ov) (m : Nat) (hm : m = ys.length) (hx : a.eval x = .slice (some ⟨W.heap.size, 0, none⟩) m m) (harr : arr.toList = ndL ys) (hown : OwnN B W ov l) (hlen : l.length + ys.length ≤ 1000000)
    (h : ∀ v' w', OwnN B w' v' (l ++ ys) → Bar (fun k => ov.ownBlock = some k) W w' → (∀ g, v'.ownBlock = some g → ov.ownBlock = some g ∨ W.heap.size ≤ g) → wpList Tryz.prog ops Q rest (a.put o.dst v') w') :
    wpList Tryz.prog ops Q (o :: rest) a (W.alloc (.cells arr 66)) := by
  subst hm
  refine wpList_plain hgd fun K hK => ?_
  obtain ⟨v', w', hr, h1, h2, h3⟩ := run_appN2 (W := W.alloc (.cells arr 66)) B (by simp; omega) o.type ov l (hown.below (below_alc W _)) ⟨W.heap.size, 0, none⟩ ys.length ys.length ys rfl (fun j u hj => by
    have e : (⟨W.heap.size, 0, none⟩ : Addr).add j = ⟨W.heap.size, j, none⟩ := by simp [Addr.add]; try omega
    rw [e, World.cell?_alloc_at _ _ _ _ rfl, ← hj, ← harr, Array.getElem?_toList]) hlen
  unfold Oper.wp execOp
  simp only [ho, resolve, invoke, builtin, Sem.run_bind, Sem.run_pure, Result.andThen_ok, List.map_toArray, List.map_cons, List.map_nil, hs, hx, hr]
  refine hK _ _ (h v' w' h1 ?_ fun g hg => ?_)
  · have hsz := h2.size
    simp at hsz
    exact ⟨h2.os, h2.tape, h2.output, by omega, fun k hk hn => (h2.block k (by simp; omega) hn).trans (Below.heap_alloc W _ k (by omega))⟩
  · rcases h3 g hg with h | h
    · exact .inl h
    · exact .inr (by simp at h; omega)
end Go.Proofs.YtnhfbbognjdnpaaGreatDoor
