/- shape.Fun. -/
import Derived.Test.YtfkdcconmecaoaaDoorSbP
import Derived.Deep.RegionHeld3
namespace Go.Proofs.YtfkdcconmecaoaaDoor
open Go.RowKit
set_option linter.unusedVariables false
set_option linter.unusedSimpArgs false

def KeepF (w : World) (ga gb : Nat) (W : World) : Prop := Below w.heap.size w W ∧ w.heap.size < W.heap.size ∧ ga < w.heap.size ∧ gb < w.heap.size
def FunS (w : World) (r : Rw) (ga gb : Nat) (na nb : Int) (ca cb : Bool) (W : World) : Prop :=
  W.cell? ⟨w.heap.size, 0, none⟩ = some (.int .i64 r.a) ∧ W.cell? ⟨w.heap.size, 1, none⟩ = some (.int .i64 r.b) ∧ W.cell? ⟨w.heap.size, 2, none⟩ = some (.int .i64 r.c) ∧ W.cell? ⟨w.heap.size, 3, none⟩ = some (.int .i64 r.d) ∧ W.cell? ⟨w.heap.size, 4, none⟩ = some (.int .i64 r.t) ∧
  W.cell? ⟨ga, 9, none⟩ = some (.int .i64 na) ∧ W.cell? ⟨ga, 10, none⟩ = some (.bool ca) ∧ W.cell? ⟨gb, 9, none⟩ = some (.int .i64 nb) ∧ W.cell? ⟨gb, 10, none⟩ = some (.bool cb) ∧ KeepF w ga gb W
theorem funS_step {w : World} {r : Rw} {ga gb : Nat} {na nb : Int} {ca cb : Bool} {W W' : World} (h : FunS w r ga gb na nb ca cb W) (hb : Below W.heap.size W W') : FunS w r ga gb na nb ca cb W' := by
  obtain ⟨h0, h1, h2, h3, h4, h5, h6, h7, h8, k0, k1, k2, k3⟩ := h
  have hw := k0.size
  have hs := hb.size
  exact ⟨carry hb k1 h0, carry hb k1 h1, carry hb k1 h2, carry hb k1 h3, carry hb k1 h4, carry hb (by omega) h5, carry hb (by omega) h6, carry hb (by omega) h7, carry hb (by omega) h8, belT k0 hb, by omega, k2, k3⟩
theorem funS_start {w : World} {r : Rw} {ga gb : Nat} {na nb : Int} {ca cb : Bool} (hla : ga < w.heap.size) (hlb : gb < w.heap.size) (a9 : w.cell? ⟨ga, 9, none⟩ = some (.int .i64 na)) (a10 : w.cell? ⟨ga, 10, none⟩ = some (.bool ca)) (b9 : w.cell? ⟨gb, 9, none⟩ = some (.int .i64 nb)) (b10 : w.cell? ⟨gb, 10, none⟩ = some (.bool cb)) {T : TypeId} :
    FunS w r ga gb na nb ca cb (w.alloc (.cells #[.int .i64 r.a, .int .i64 r.b, .int .i64 r.c, .int .i64 r.d, .int .i64 r.t] T)).drew := by
  have hb : Below w.heap.size w (w.alloc (.cells #[.int .i64 r.a, .int .i64 r.b, .int .i64 r.c, .int .i64 r.d, .int .i64 r.t] T)).drew := ((Below.refl _ _).alloc (Nat.le_refl _) _).drew
  have e : ∀ o, ((w.alloc (.cells #[.int .i64 r.a, .int .i64 r.b, .int .i64 r.c, .int .i64 r.d, .int .i64 r.t] T)).drew).cell? ⟨w.heap.size, o, none⟩ = (w.alloc (.cells #[.int .i64 r.a, .int .i64 r.b, .int .i64 r.c, .int .i64 r.d, .int .i64 r.t] T)).cell? ⟨w.heap.size, o, none⟩ := fun _ => rfl
  refine ⟨by rw [e]; simp, by rw [e]; simp, by rw [e]; simp, by rw [e]; simp, by rw [e]; simp, carry hb hla a9, carry hb hla a10, carry hb hlb b9, carry hb hlb b10, hb, ?_, hla, hlb⟩
  show _ < (w.alloc _).heap.size
  simp
theorem funS_bel {w : World} {r : Rw} {ga gb : Nat} {na nb : Int} {ca cb : Bool} {W : World} (h : FunS w r ga gb na nb ca cb W) : Below w.heap.size w W := h.2.2.2.2.2.2.2.2.2.1
theorem below_unalloc {w W : World} {o : Obj} (h : Below w.heap.size w (W.alloc o)) (hs : w.heap.size ≤ W.heap.size) : Below w.heap.size w W :=
  ⟨h.os, h.tape, h.output, hs, fun k hk => (Lib.alloc_old W o k (Nat.lt_of_lt_of_le hk hs)).symm.trans (h.block k hk)⟩
theorem funS_last {w : World} {r : Rw} {ga gb : Nat} {na nb : Int} {ca cb : Bool} {W : World} {o : Obj} (h : FunS w r ga gb na nb ca cb (W.alloc o)) : Below w.heap.size w W :=
  below_unalloc (funS_bel h) (by have := h.2.2.2.2.2.2.2.2.2.2.1; simp at this; omega)
set_option maxRecDepth 100000 in
set_option maxHeartbeats 2000000 in
theorem shFun_any (a b : TT) (r : Rw) (ga gb : Nat) (w : World) (ha : Hid (Shp w a ga)) (hb : Hid (Shp w b gb)) (hz : a.sz + b.sz ≤ 1000000) :
    Calls Tryd.prog 55 #[ptrS ga, .agg #[.int .i64 r.a, .int .i64 r.b, .int .i64 r.c, .int .i64 r.d, .int .i64 r.t], ptrS gb] w (MkPost (.fn a r b) w) := by
  obtain ⟨pa, pb, hA⟩ := ha.out.blk
  obtain ⟨qa, qb, hB⟩ := hb.out.blk
  have cA := shC_of hA
  have cB := shC_of hB
  have a9 := cA.c9; have a10 := cA.c10
  have b9 := cB.c9; have b10 := cB.c10
  have hla := ha.out.lt
  have hlb := hb.out.lt
  clear hA hB cA cB
  unfold ptrS
  have kC := Lib.hid fun (W : World) => cntMay_any r.a r.b r.c r.d r.t W
  obtain ⟨cr, hcr⟩ : ∃ cr, cntR r.a r.b r.c r.d = cr := ⟨_, rfl⟩
  rw [hcr] at kC
  obtain ⟨ca, hca⟩ : ∃ ca, a.cnt = ca := ⟨_, rfl⟩
  obtain ⟨cb, hcb⟩ : ∃ cb, b.cnt = cb := ⟨_, rfl⟩
  rw [hca] at a10
  rw [hcb] at b10
  have hrc : Hid (∀ x, x = (ca && cb && cr) → x = (a.cnt && b.cnt && r.cnt)) := Lib.hid (by intro x h; rw [h, hca, hcb]; unfold Rw.cnt; rw [hcr])
  clear hca hcb hcr
  have hfin : Hid (∀ (W : World) (x : Bool) (N : Nat), Below w.heap.size w W → x = (ca && cb && cr) → N = W.heap.size → MkPost (.fn a r b) w (.returned (ptrS N)) (W.alloc (.cells #[.int .i64 3, .int .i64 0, ptrS ga, ptrS gb, .int .i64 r.a, .int .i64 r.b, .int .i64 r.c, .int .i64 r.d, .int .i64 r.t, .int .i64 ((a.sz : Int) + (b.sz : Int) + 1), .bool x] 116))) := Lib.hid fun W x N hW hx hN => by
    subst hN; exact ⟨W.heap.size, rfl, shp_new (ha.out.keep hW) (hb.out.keep hW) (by omega) (hrc.out x hx), hW.alloc hW.size _⟩
  obtain ⟨na, hna⟩ : ∃ n, a.sz = n := ⟨_, rfl⟩
  obtain ⟨nb, hnb⟩ : ∃ n, b.sz = n := ⟨_, rfl⟩
  rw [hna] at a9 hfin hz
  rw [hnb] at b9 hfin hz
  clear hna hnb hrc
  have hst := Lib.hid fun (T : TypeId) => funS_start (r := r) (T := T) hla hlb a9 a10 b9 b10
  clear ha hb
  cases ca
  · go_enter Tryd.func55, Tryd.ntmps55
    go_wp2_with fail
    go_region
    go_wp2_with fail
    go_ret
    exact hfin.out (w.alloc (.cells #[.int .i64 r.a, .int .i64 r.b, .int .i64 r.c, .int .i64 r.d, .int .i64 r.t] 36)).drew false (w.heap.size + 1) (by (repeat' (first | with_reducible exact Below.refl _ _ | with_reducible assumption | with_reducible apply Below.setCell | with_reducible apply Below.alloc | with_reducible apply Below.drew | with_reducible apply below_drewN | with_reducible exact Nat.le_refl _ | (simp; done) | (simp; omega) | omega | exact Nat.le_refl _))) rfl (by show _ = (w.alloc _).heap.size; simp)
  cases cb
  · go_enter Tryd.func55, Tryd.ntmps55
    go_wp2_with fail
    go_region
    go_wp2_with fail
    go_ret
    exact hfin.out (w.alloc (.cells #[.int .i64 r.a, .int .i64 r.b, .int .i64 r.c, .int .i64 r.d, .int .i64 r.t] 36)).drew false (w.heap.size + 1) (by (repeat' (first | with_reducible exact Below.refl _ _ | with_reducible assumption | with_reducible apply Below.setCell | with_reducible apply Below.alloc | with_reducible apply Below.drew | with_reducible apply below_drewN | with_reducible exact Nat.le_refl _ | (simp; done) | (simp; omega) | omega | exact Nat.le_refl _))) rfl (by show _ = (w.alloc _).heap.size; simp)
  clear a9 a10 b9 b10
  have hw1 : IntKind.i64.wrap ((na : Int) + (nb : Int)) = (na : Int) + (nb : Int) := IntWalk.i64_in _ (by omega)
  have hw2 : IntKind.i64.wrap ((na : Int) + (nb : Int) + 1) = (na : Int) + (nb : Int) + 1 := IntWalk.i64_in _ (by omega)
  cases cr
  · go_enter Tryd.func55, Tryd.ntmps55
    go_wp2_with fail
    go_region_held3 (fun W => W.cell? ⟨w.heap.size, 0, none⟩ = some (.int .i64 r.a) ∧ W.cell? ⟨w.heap.size, 1, none⟩ = some (.int .i64 r.b) ∧ W.cell? ⟨w.heap.size, 2, none⟩ = some (.int .i64 r.c) ∧ W.cell? ⟨w.heap.size, 3, none⟩ = some (.int .i64 r.d) ∧ W.cell? ⟨w.heap.size, 4, none⟩ = some (.int .i64 r.t) ∧ W.cell? ⟨ga, 9, none⟩ = some (.int .i64 na) ∧ W.cell? ⟨ga, 10, none⟩ = some (.bool true) ∧ W.cell? ⟨gb, 9, none⟩ = some (.int .i64 nb) ∧ W.cell? ⟨gb, 10, none⟩ = some (.bool true) ∧ KeepF w ga gb W)
      (first | exact funS_step (by assumption) (below_alc w1 _) | exact funS_step (by assumption) hb1 | exact hst.out _)
      (first | (go_at_call 83; refine (kC.out _).mono ?_; rintro e w1 ⟨rfl, hb1⟩))
    have hBl := Lib.hid (funS_last (by assumption))
    go_wp2_with fail
    go_ret
    exact hfin.out _ _ _ hBl.out rfl rfl
  · go_enter Tryd.func55, Tryd.ntmps55
    go_wp2_with fail
    go_region_held3 (fun W => W.cell? ⟨w.heap.size, 0, none⟩ = some (.int .i64 r.a) ∧ W.cell? ⟨w.heap.size, 1, none⟩ = some (.int .i64 r.b) ∧ W.cell? ⟨w.heap.size, 2, none⟩ = some (.int .i64 r.c) ∧ W.cell? ⟨w.heap.size, 3, none⟩ = some (.int .i64 r.d) ∧ W.cell? ⟨w.heap.size, 4, none⟩ = some (.int .i64 r.t) ∧ W.cell? ⟨ga, 9, none⟩ = some (.int .i64 na) ∧ W.cell? ⟨ga, 10, none⟩ = some (.bool true) ∧ W.cell? ⟨gb, 9, none⟩ = some (.int .i64 nb) ∧ W.cell? ⟨gb, 10, none⟩ = some (.bool true) ∧ KeepF w ga gb W)
      (first | exact funS_step (by assumption) (below_alc w1 _) | exact funS_step (by assumption) hb1 | exact hst.out _)
      (first | (go_at_call 83; refine (kC.out _).mono ?_; rintro e w1 ⟨rfl, hb1⟩))
    have hBl := Lib.hid (funS_last (by assumption))
    go_wp2_with fail
    go_ret
    exact hfin.out _ _ _ hBl.out rfl rfl
end Go.Proofs.YtfkdcconmecaoaaDoor
