/- Shapes: PutRow, of function values with any captured variables. -/
import Derived.Test.YtfkdcconmecaoaaDoorShC
import Derived.Test.YtfkdcconmecaoaaDoorShE
/- Shapes: PutRow, of function values with any captured variables. -/
namespace Go.Proofs.YtfkdcconmecaoaaDoor
open Go.RowKit
set_option linter.unusedVariables false
set_option linter.unusedSimpArgs false

/-- a function value, bound to values, with captured variables: what it tells of a type variable. -/
def FnTg (F : Nat) (bs cs : Array Value) (σ : Int → Option TT) (w0 : World) : Prop :=
  ∀ (v : Int) (W : World), 0 ≤ v ∧ v < 4096 → Below w0.heap.size w0 W → Calls Tryd.prog F (bs ++ #[.int .i64 v] ++ cs) W
    fun e w' => (match σ v with
      | none => ∃ x, e = .returned (.tuple #[.pointer x, .bool false])
      | some U => ∃ g, e = .returned (.tuple #[ptrS g, .bool true]) ∧ Shp w' U g) ∧ Below W.heap.size W w'
/-- .. of a row variable. -/
def FnRg (F : Nat) (bs cs : Array Value) (ρ : Int → Option Rw) (w0 : World) : Prop :=
  ∀ (v : Int) (W : World), 0 ≤ v ∧ v < 4096 → Below w0.heap.size w0 W → Calls Tryd.prog F (bs ++ #[.int .i64 v] ++ cs) W
    fun e w' => (match ρ v with
      | none => ∃ q, e = .returned (.tuple #[rwV q, .bool false])
      | some q => e = .returned (.tuple #[rwV q, .bool true])) ∧ Below W.heap.size W w'
theorem FnTg.below {F : Nat} {bs cs : Array Value} {σ : Int → Option TT} {w w' : World} (h : FnTg F bs cs σ w) (hb : Below w.heap.size w w') : FnTg F bs cs σ w' := fun v W hr hW => h v W hr (hb.trans (hW.mono hb.size))
theorem FnRg.below {F : Nat} {bs cs : Array Value} {ρ : Int → Option Rw} {w w' : World} (h : FnRg F bs cs ρ w) (hb : Below w.heap.size w w') : FnRg F bs cs ρ w' := fun v W hr hW => h v W hr (hb.trans (hW.mono hb.size))
abbrev fnW (F : Nat) (bs cs : Array Value) : Value := .func (.func F) bs cs
set_option maxRecDepth 100000 in
set_option maxHeartbeats 4000000 in
theorem putRowG_any (F : Nat) (bs cs : Array Value) (ρ : Int → Option Rw) (w0 : World) (kF : Hid (∀ (xs : Array Value) (W : World), (callFunc F xs).run Tryd.prog W = .ok (.enter F xs) W)) (kR : Hid (FnRg F bs cs ρ w0)) (hρ : ∀ v q, ρ v = some q → q.may = true)
    (r : Rw) (hr : r.may = true) (w : World) (hb : Hid (Below w0.heap.size w0 w)) :
    Calls Tryd.prog 58 #[rwV r, fnW F bs cs] w fun e w' => e = .returned (rwV (putR ρ r)) ∧ Below w.heap.size w w' := by
  unfold rwV fnW
  by_cases ht : r.t < 0
  · have hv : putR ρ r = r := by unfold putR; rw [if_pos ht]
    rw [hv]
    clear hv
    go_enter Tryd.func58, Tryd.ntmps58
    go_wp2_with fail
    exact bodyPost_ret (v := .agg #[.int .i64 r.a, .int .i64 r.b, .int .i64 r.c, .int .i64 r.d, .int .i64 r.t]) (by simp [results, Tryd.results58, go_sem, *]) rfl ⟨rfl, by (repeat' (first | with_reducible exact Below.refl _ _ | with_reducible assumption | with_reducible apply Below.setCell | with_reducible apply Below.alloc | with_reducible apply Below.drew | with_reducible apply below_drewN | with_reducible exact Nat.le_refl _ | (simp; done) | (simp; omega) | omega | exact Nat.le_refl _))⟩
  have htl := may_tail hr
  have kR2 := Lib.hid fun (W : World) (h : Below w0.heap.size w0 W) => kR.out r.t W (by omega) h
  cases hq : ρ r.t with
  | none =>
    have hv : putR ρ r = r := by unfold putR; rw [if_neg ht, hq]
    rw [hv]
    simp only [hq] at kR2
    clear hv hq
    go_enter Tryd.func58, Tryd.ntmps58
    have kF' := kF.out
    go_wp2_with fail
    refine (kR2.out _ (hb.out.trans ((below_alc2 w _ _).mono hb.out.size))).mono ?_
    rintro e w1 ⟨⟨q0, rfl⟩, hb1⟩
    obtain ⟨hc1, hf1⟩ := bcell hb1
    have hz1_0 : w.heap.size < w1.heap.size := by have := hb1.size; (try simp at this); omega
    have hz1_1 : w.heap.size + 1 < w1.heap.size := by have := hb1.size; (try simp at this); omega
    have hcl1_0_0 : w1.cell? ⟨w.heap.size, 0, none⟩ = some (.int .i64 r.a) := by rw [hc1 _ _ (by simp; try omega)]; simp
    have hfl1_0_0 : w1.frozen? ⟨w.heap.size, 0, none⟩ = false := by rw [hf1 _ _ (by simp; try omega)]; simp
    have hcl1_0_1 : w1.cell? ⟨w.heap.size, 1, none⟩ = some (.int .i64 r.b) := by rw [hc1 _ _ (by simp; try omega)]; simp
    have hfl1_0_1 : w1.frozen? ⟨w.heap.size, 1, none⟩ = false := by rw [hf1 _ _ (by simp; try omega)]; simp
    have hcl1_0_2 : w1.cell? ⟨w.heap.size, 2, none⟩ = some (.int .i64 r.c) := by rw [hc1 _ _ (by simp; try omega)]; simp
    have hfl1_0_2 : w1.frozen? ⟨w.heap.size, 2, none⟩ = false := by rw [hf1 _ _ (by simp; try omega)]; simp
    have hcl1_0_3 : w1.cell? ⟨w.heap.size, 3, none⟩ = some (.int .i64 r.d) := by rw [hc1 _ _ (by simp; try omega)]; simp
    have hfl1_0_3 : w1.frozen? ⟨w.heap.size, 3, none⟩ = false := by rw [hf1 _ _ (by simp; try omega)]; simp
    have hcl1_0_4 : w1.cell? ⟨w.heap.size, 4, none⟩ = some (.int .i64 r.t) := by rw [hc1 _ _ (by simp; try omega)]; simp
    have hfl1_0_4 : w1.frozen? ⟨w.heap.size, 4, none⟩ = false := by rw [hf1 _ _ (by simp; try omega)]; simp
    have hcl1_1_0 : w1.cell? ⟨w.heap.size + 1, 0, none⟩ = some (.int .i64 0) := by rw [hc1 _ _ (by simp; try omega)]; simp
    have hfl1_1_0 : w1.frozen? ⟨w.heap.size + 1, 0, none⟩ = false := by rw [hf1 _ _ (by simp; try omega)]; simp
    have hcl1_1_1 : w1.cell? ⟨w.heap.size + 1, 1, none⟩ = some (.int .i64 0) := by rw [hc1 _ _ (by simp; try omega)]; simp
    have hfl1_1_1 : w1.frozen? ⟨w.heap.size + 1, 1, none⟩ = false := by rw [hf1 _ _ (by simp; try omega)]; simp
    have hcl1_1_2 : w1.cell? ⟨w.heap.size + 1, 2, none⟩ = some (.int .i64 0) := by rw [hc1 _ _ (by simp; try omega)]; simp
    have hfl1_1_2 : w1.frozen? ⟨w.heap.size + 1, 2, none⟩ = false := by rw [hf1 _ _ (by simp; try omega)]; simp
    have hcl1_1_3 : w1.cell? ⟨w.heap.size + 1, 3, none⟩ = some (.int .i64 0) := by rw [hc1 _ _ (by simp; try omega)]; simp
    have hfl1_1_3 : w1.frozen? ⟨w.heap.size + 1, 3, none⟩ = false := by rw [hf1 _ _ (by simp; try omega)]; simp
    have hcl1_1_4 : w1.cell? ⟨w.heap.size + 1, 4, none⟩ = some (.int .i64 0) := by rw [hc1 _ _ (by simp; try omega)]; simp
    have hfl1_1_4 : w1.frozen? ⟨w.heap.size + 1, 4, none⟩ = false := by rw [hf1 _ _ (by simp; try omega)]; simp
    have hB := Lib.hid (belT (below_alc2 w _ _) hb1)
    clear hc1 hf1 hb1 kF'
    go_wp2_with fail
    have hbb := hB.out
    exact bodyPost_ret (v := .agg #[.int .i64 r.a, .int .i64 r.b, .int .i64 r.c, .int .i64 r.d, .int .i64 r.t]) (by simp [results, Tryd.results58, go_sem, *]) rfl ⟨rfl, by (repeat' (first | with_reducible exact Below.refl _ _ | with_reducible assumption | with_reducible apply Below.setCell | with_reducible apply Below.alloc | with_reducible apply Below.drew | with_reducible apply below_drewN | with_reducible exact Nat.le_refl _ | (simp; done) | (simp; omega) | omega | exact Nat.le_refl _))⟩
  | some q =>
    have hv : putR ρ r = ⟨q.a + r.a, q.b + r.b, q.c + r.c, q.d + r.d, q.t⟩ := by unfold putR; rw [if_neg ht, hq]
    rw [hv]
    have hqm := of_decide_eq_true (show mayR q.a q.b q.c q.d q.t = true from hρ _ _ hq)
    have hrm := of_decide_eq_true (show mayR r.a r.b r.c r.d r.t = true from hr)
    simp only [hq] at kR2
    clear hv hq hr htl
    have hix0 : ∀ W : World, (Instr.index 34 (.agg #[.int .i64 r.a, .int .i64 r.b, .int .i64 r.c, .int .i64 r.d]) (.int .i64 0)).run Tryd.prog W = .ok (.int .i64 r.a) W := fun _ => by kernel_rfl
    have hix1 : ∀ W : World, (Instr.index 34 (.agg #[.int .i64 r.a, .int .i64 r.b, .int .i64 r.c, .int .i64 r.d]) (.int .i64 1)).run Tryd.prog W = .ok (.int .i64 r.b) W := fun _ => by kernel_rfl
    have hix2 : ∀ W : World, (Instr.index 34 (.agg #[.int .i64 r.a, .int .i64 r.b, .int .i64 r.c, .int .i64 r.d]) (.int .i64 2)).run Tryd.prog W = .ok (.int .i64 r.c) W := fun _ => by kernel_rfl
    have hix3 : ∀ W : World, (Instr.index 34 (.agg #[.int .i64 r.a, .int .i64 r.b, .int .i64 r.c, .int .i64 r.d]) (.int .i64 3)).run Tryd.prog W = .ok (.int .i64 r.d) W := fun _ => by kernel_rfl
    go_enter Tryd.func58, Tryd.ntmps58
    have kF' := kF.out
    go_wp2_with fail
    refine (kR2.out _ (hb.out.trans ((below_alc2 w _ _).mono hb.out.size))).mono ?_
    rintro e w1 ⟨rfl, hb1⟩
    obtain ⟨hc1, hf1⟩ := bcell hb1
    have hz1_0 : w.heap.size < w1.heap.size := by have := hb1.size; (try simp at this); omega
    have hz1_1 : w.heap.size + 1 < w1.heap.size := by have := hb1.size; (try simp at this); omega
    have hcl1_0_0 : w1.cell? ⟨w.heap.size, 0, none⟩ = some (.int .i64 r.a) := by rw [hc1 _ _ (by simp; try omega)]; simp
    have hfl1_0_0 : w1.frozen? ⟨w.heap.size, 0, none⟩ = false := by rw [hf1 _ _ (by simp; try omega)]; simp
    have hcl1_0_1 : w1.cell? ⟨w.heap.size, 1, none⟩ = some (.int .i64 r.b) := by rw [hc1 _ _ (by simp; try omega)]; simp
    have hfl1_0_1 : w1.frozen? ⟨w.heap.size, 1, none⟩ = false := by rw [hf1 _ _ (by simp; try omega)]; simp
    have hcl1_0_2 : w1.cell? ⟨w.heap.size, 2, none⟩ = some (.int .i64 r.c) := by rw [hc1 _ _ (by simp; try omega)]; simp
    have hfl1_0_2 : w1.frozen? ⟨w.heap.size, 2, none⟩ = false := by rw [hf1 _ _ (by simp; try omega)]; simp
    have hcl1_0_3 : w1.cell? ⟨w.heap.size, 3, none⟩ = some (.int .i64 r.d) := by rw [hc1 _ _ (by simp; try omega)]; simp
    have hfl1_0_3 : w1.frozen? ⟨w.heap.size, 3, none⟩ = false := by rw [hf1 _ _ (by simp; try omega)]; simp
    have hcl1_0_4 : w1.cell? ⟨w.heap.size, 4, none⟩ = some (.int .i64 r.t) := by rw [hc1 _ _ (by simp; try omega)]; simp
    have hfl1_0_4 : w1.frozen? ⟨w.heap.size, 4, none⟩ = false := by rw [hf1 _ _ (by simp; try omega)]; simp
    have hcl1_1_0 : w1.cell? ⟨w.heap.size + 1, 0, none⟩ = some (.int .i64 0) := by rw [hc1 _ _ (by simp; try omega)]; simp
    have hfl1_1_0 : w1.frozen? ⟨w.heap.size + 1, 0, none⟩ = false := by rw [hf1 _ _ (by simp; try omega)]; simp
    have hcl1_1_1 : w1.cell? ⟨w.heap.size + 1, 1, none⟩ = some (.int .i64 0) := by rw [hc1 _ _ (by simp; try omega)]; simp
    have hfl1_1_1 : w1.frozen? ⟨w.heap.size + 1, 1, none⟩ = false := by rw [hf1 _ _ (by simp; try omega)]; simp
    have hcl1_1_2 : w1.cell? ⟨w.heap.size + 1, 2, none⟩ = some (.int .i64 0) := by rw [hc1 _ _ (by simp; try omega)]; simp
    have hfl1_1_2 : w1.frozen? ⟨w.heap.size + 1, 2, none⟩ = false := by rw [hf1 _ _ (by simp; try omega)]; simp
    have hcl1_1_3 : w1.cell? ⟨w.heap.size + 1, 3, none⟩ = some (.int .i64 0) := by rw [hc1 _ _ (by simp; try omega)]; simp
    have hfl1_1_3 : w1.frozen? ⟨w.heap.size + 1, 3, none⟩ = false := by rw [hf1 _ _ (by simp; try omega)]; simp
    have hcl1_1_4 : w1.cell? ⟨w.heap.size + 1, 4, none⟩ = some (.int .i64 0) := by rw [hc1 _ _ (by simp; try omega)]; simp
    have hfl1_1_4 : w1.frozen? ⟨w.heap.size + 1, 4, none⟩ = false := by rw [hf1 _ _ (by simp; try omega)]; simp
    have hB := Lib.hid (belT (below_alc2 w _ _) hb1)
    have hfr : ∀ o, w1.frozen? ⟨w.heap.size + 1, o, none⟩ = false := fun o => by rw [hf1 _ _ (by simp)]; simp [go_sem]
    have hkr : Hid (∀ o, KeepR w w1 (w1.alloc o)) := Lib.hid fun o => ⟨hB.out.alloc (by omega) _, hz1_1, by simp, fun o' => by rw [(below_alc w1 o).frozen (p := ⟨w.heap.size + 1, o', none⟩) hz1_1]; exact hfr o', fun o' ho => by
      rw [(below_alc w1 o).cell (p := ⟨w.heap.size + 1, o', none⟩) hz1_1]
      have h5 : o' = 0 ∨ o' = 1 ∨ o' = 2 ∨ o' = 3 ∨ o' = 4 := by omega
      rcases h5 with rfl | rfl | rfl | rfl | rfl
      · exact ⟨_, hcl1_1_0⟩
      · exact ⟨_, hcl1_1_1⟩
      · exact ⟨_, hcl1_1_2⟩
      · exact ⟨_, hcl1_1_3⟩
      · exact ⟨_, hcl1_1_4⟩⟩
    clear hc1 hf1 hb1 kF' hfr
    go_wp2_with fail
    go_loopw [25] (fun i wr => ∃ k : Nat, k ≤ 4 ∧ i = .int .i64 k ∧ Hid (PrInv w w1 q r k wr)) (fun i _ => 4 - (intOf i).toNat)
    case atStart => exact ⟨0, by omega, rfl, Lib.hid ⟨⟨by simp, by simp, by simp, by simp, by simp, by simp [go_sem], by simp⟩, hkr.out _⟩⟩
    case round =>
      obtain ⟨k, hk, rfl, hk2⟩ := hrel
      have hk5 : k = 0 ∨ k = 1 ∨ k = 2 ∨ k = 3 ∨ k = 4 := by omega
      rcases hk5 with rfl | rfl | rfl | rfl | rfl
      · have hrc : RC w1.heap.size q.a q.b q.c q.d q.t wr := hk2.out.1
        have hRC := Lib.hid hrc
        have hB := Lib.hid hk2.out.2
        obtain ⟨q0, q1, q2, q3, q4, q5, q6⟩ := hrc
        have z0 := q5 0
        have hwr0 : IntKind.i64.wrap (q.a + r.a) = q.a + r.a := IntWalk.i64_in _ (by omega)
        clear hk2 q5
        go_wp2_with fail
        go_roundw
        case rel => exact ⟨1, by omega, rfl, Lib.hid ⟨RC.set0 hRC.out, keepR_set hB.out⟩⟩
        case measure => simp [intOf]
      · have hrc : RC w1.heap.size (q.a + r.a) q.b q.c q.d q.t wr := hk2.out.1
        have hRC := Lib.hid hrc
        have hB := Lib.hid hk2.out.2
        obtain ⟨q0, q1, q2, q3, q4, q5, q6⟩ := hrc
        have z1 := q5 1
        have hwr1 : IntKind.i64.wrap (q.b + r.b) = q.b + r.b := IntWalk.i64_in _ (by omega)
        clear hk2 q5
        go_wp2_with fail
        go_roundw
        case rel => exact ⟨2, by omega, rfl, Lib.hid ⟨RC.set1 hRC.out, keepR_set hB.out⟩⟩
        case measure => simp [intOf]
      · have hrc : RC w1.heap.size (q.a + r.a) (q.b + r.b) q.c q.d q.t wr := hk2.out.1
        have hRC := Lib.hid hrc
        have hB := Lib.hid hk2.out.2
        obtain ⟨q0, q1, q2, q3, q4, q5, q6⟩ := hrc
        have z2 := q5 2
        have hwr2 : IntKind.i64.wrap (q.c + r.c) = q.c + r.c := IntWalk.i64_in _ (by omega)
        clear hk2 q5
        go_wp2_with fail
        go_roundw
        case rel => exact ⟨3, by omega, rfl, Lib.hid ⟨RC.set2 hRC.out, keepR_set hB.out⟩⟩
        case measure => simp [intOf]
      · have hrc : RC w1.heap.size (q.a + r.a) (q.b + r.b) (q.c + r.c) q.d q.t wr := hk2.out.1
        have hRC := Lib.hid hrc
        have hB := Lib.hid hk2.out.2
        obtain ⟨q0, q1, q2, q3, q4, q5, q6⟩ := hrc
        have z3 := q5 3
        have hwr3 : IntKind.i64.wrap (q.d + r.d) = q.d + r.d := IntWalk.i64_in _ (by omega)
        clear hk2 q5
        go_wp2_with fail
        go_roundw
        case rel => exact ⟨4, by omega, rfl, Lib.hid ⟨RC.set3 hRC.out, keepR_set hB.out⟩⟩
        case measure => simp [intOf]
      · have hrc : RC w1.heap.size (q.a + r.a) (q.b + r.b) (q.c + r.c) (q.d + r.d) q.t wr := hk2.out.1
        obtain ⟨hB1, hB2, hB3, hB4, hB5⟩ := hk2.out.2
        obtain ⟨q0, q1, q2, q3, q4, q5, q6⟩ := hrc
        obtain ⟨v0, g0⟩ := hB5 0 (by omega); obtain ⟨v1, g1⟩ := hB5 1 (by omega); obtain ⟨v2, g2⟩ := hB5 2 (by omega); obtain ⟨v3, g3⟩ := hB5 3 (by omega); obtain ⟨v4, g4⟩ := hB5 4 (by omega)
        have f0 := hB4 0; have f1 := hB4 1; have f2 := hB4 2; have f3 := hB4 3; have f4 := hB4 4
        clear hk2 q5 hB4 hB5
        go_wp2_with fail
        exact bodyPost_ret (v := .agg #[.int .i64 (q.a + r.a), .int .i64 (q.b + r.b), .int .i64 (q.c + r.c), .int .i64 (q.d + r.d), .int .i64 q.t]) (by simp [results, Tryd.results58, go_sem, *]) rfl ⟨rfl, by (repeat' (first | with_reducible exact Below.refl _ _ | with_reducible assumption | with_reducible apply Below.setCell | with_reducible apply Below.alloc | with_reducible apply Below.drew | with_reducible apply below_drewN | with_reducible exact Nat.le_refl _ | (simp; done) | (simp; omega) | omega | exact Nat.le_refl _))⟩
end Go.Proofs.YtfkdcconmecaoaaDoor

/- Shapes: Put, of function values with any captured variables. -/
namespace Go.Proofs.YtfkdcconmecaoaaDoor
open Go.RowKit
set_option linter.unusedVariables false
set_option linter.unusedSimpArgs false

set_option maxRecDepth 100000 in
set_option maxHeartbeats 8000000 in
theorem putG_any (F1 : Nat) (bs1 cs1 : Array Value) (F2 : Nat) (bs2 cs2 : Array Value) (σ : Int → Option TT) (ρ : Int → Option Rw) (w0 : World) (kF1 : Hid (∀ (xs : Array Value) (W : World), (callFunc F1 xs).run Tryd.prog W = .ok (.enter F1 xs) W)) (kF2 : Hid (∀ (xs : Array Value) (W : World), (callFunc F2 xs).run Tryd.prog W = .ok (.enter F2 xs) W))
    (h1 : Hid (FnTg F1 bs1 cs1 σ w0)) (h2 : Hid (FnRg F2 bs2 cs2 ρ w0)) (hρ : ∀ v q, ρ v = some q → q.may = true) :
    ∀ (T : TT) (g : Nat) (w : World), Hid (Shp w T g) → Hid (Below w0.heap.size w0 w) → T.ok = true → (putT σ ρ T).sz ≤ 1000000 →
    Calls Tryd.prog 29 #[ptrS g, fnW F1 bs1 cs1, fnW F2 bs2 cs2] w (MkPost (putT σ ρ T) w) := by
  intro T
  induction T with
  | base k =>
    intro g w hS hb hT hz
    have c0 := (shC_of hS.out.2).c0
    have hgl := hS.out.lt
    have hk := hS.out.1
    have hfin : Hid (MkPost (putT σ ρ (.base k)) w (.returned (ptrS g)) w) := Lib.hid ⟨g, rfl, hS.out, Below.refl _ _⟩
    generalize putT σ ρ (.base k) = P at hfin
    unfold ptrS fnW at *
    rcases hk with rfl | rfl
    all_goals
      go_enter Tryd.func29, Tryd.ntmps29
      go_wp2_with fail
      go_ret
      exact hfin.out
  | var v =>
    intro g w hS hb hT hz
    have c0 := (shC_of (show w.heap[g]? = _ from hS.out)).c0
    have c1 := (shC_of (show w.heap[g]? = _ from hS.out)).c1
    have hgl := hS.out.lt
    have hr : 0 ≤ v ∧ v < 4096 := by unfold TT.ok at hT; simp only [Bool.and_eq_true, decide_eq_true_eq] at hT; exact hT
    have k1 := Lib.hid (h1.out v w hr hb.out)
    cases hq : σ v with
    | none =>
      simp only [hq] at k1
      have hfin : Hid (∀ W, Below w.heap.size w W → MkPost (putT σ ρ (.var v)) w (.returned (ptrS g)) W) := Lib.hid fun W hW => ⟨g, rfl, by unfold putT; rw [hq]; exact hS.out.keep hW, hW⟩
      generalize putT σ ρ (.var v) = P at hfin
      have kF' := kF1.out
      clear hq hT hz hr
      unfold ptrS fnW at *
      go_enter Tryd.func29, Tryd.ntmps29
      go_wp2_with fail
      refine k1.out.mono ?_
      rintro e w1 ⟨⟨x, rfl⟩, hb1⟩
      go_wp2_with fail
      go_ret
      exact hfin.out _ hb1
    | some U =>
      simp only [hq] at k1
      have hfin : Hid (∀ W g', Shp W U g' → Below w.heap.size w W → MkPost (putT σ ρ (.var v)) w (.returned (ptrS g')) W) := Lib.hid fun W g' hg hW => ⟨g', rfl, by unfold putT; rw [hq]; exact hg, hW⟩
      generalize putT σ ρ (.var v) = P at hfin
      have kF' := kF1.out
      clear hq hT hz hr
      unfold ptrS fnW at *
      go_enter Tryd.func29, Tryd.ntmps29
      go_wp2_with fail
      refine k1.out.mono ?_
      rintro e w1 ⟨⟨g', rfl, hg'⟩, hb1⟩
      go_wp2_with fail
      go_ret
      exact hfin.out _ _ hg' hb1
  | fn a r b iha ihb =>
    intro g w hS hb hT hz
    obtain ⟨ga, gb, hB, hA, hBb⟩ := hS.out
    have hC := shC_of hB
    have hgl := hS.out.lt
    have c0 := hC.c0; have c2 := hC.c2; have c3 := hC.c3; have c4 := hC.c4; have c5 := hC.c5; have c6 := hC.c6; have c7 := hC.c7; have c8 := hC.c8
    unfold TT.ok at hT
    simp only [Bool.and_eq_true] at hT
    have hzz : (putT σ ρ a).sz + (putT σ ρ b).sz + 1 ≤ 1000000 := hz
    have kA := Lib.hid fun (W : World) (h : Below w.heap.size w W) => iha ga W (Lib.hid (hA.keep h)) (Lib.hid (hb.out.trans (h.mono hb.out.size))) hT.1.1 (by omega)
    have kB := Lib.hid fun (W : World) (h : Below w.heap.size w W) => ihb gb W (Lib.hid (hBb.keep h)) (Lib.hid (hb.out.trans (h.mono hb.out.size))) hT.2 (by omega)
    have kR := Lib.hid fun (W : World) (h : Below w.heap.size w W) => putRowG_any F2 bs2 cs2 ρ w0 kF2 h2 hρ r hT.1.2 W (Lib.hid (hb.out.trans (h.mono hb.out.size)))
    have hAB := Lib.hid (And.intro hA hBb)
    have hpt : Hid (putT σ ρ (.fn a r b) = .fn (putT σ ρ a) (putR ρ r) (putT σ ρ b)) := Lib.hid rfl
    generalize putT σ ρ (.fn a r b) = P at hpt
    generalize putT σ ρ a = A' at kA hpt hzz
    generalize putT σ ρ b = B' at kB hpt hzz
    generalize putR ρ r = r' at kR hpt
    clear hz hT hB hC hA hBb iha ihb
    unfold ptrS fnW rwV at *
    go_enter Tryd.func29, Tryd.ntmps29
    go_upto_region 7 with fail
    go_cut [9, 10, 11] (fun s9 s10 s11 wx => PutMid w A' r' B' s9 s10 s11 wx)
    case first =>
      have hst0 : Hid (w.cell? ⟨g, 2, none⟩ = some (.pointer (some ⟨ga, 0, none⟩)) ∧ w.cell? ⟨g, 3, none⟩ = some (.pointer (some ⟨gb, 0, none⟩)) ∧ w.cell? ⟨g, 4, none⟩ = some (.int .i64 r.a) ∧ w.cell? ⟨g, 5, none⟩ = some (.int .i64 r.b) ∧ w.cell? ⟨g, 6, none⟩ = some (.int .i64 r.c) ∧ w.cell? ⟨g, 7, none⟩ = some (.int .i64 r.d) ∧ w.cell? ⟨g, 8, none⟩ = some (.int .i64 r.t) ∧ KeepP w g w) := Lib.hid ⟨c2, c3, c4, c5, c6, c7, c8, Below.refl _ _, hgl⟩
      have hst : Hid (w.drew.cell? ⟨g, 2, none⟩ = some (.pointer (some ⟨ga, 0, none⟩)) ∧ w.drew.cell? ⟨g, 3, none⟩ = some (.pointer (some ⟨gb, 0, none⟩)) ∧ w.drew.cell? ⟨g, 4, none⟩ = some (.int .i64 r.a) ∧ w.drew.cell? ⟨g, 5, none⟩ = some (.int .i64 r.b) ∧ w.drew.cell? ⟨g, 6, none⟩ = some (.int .i64 r.c) ∧ w.drew.cell? ⟨g, 7, none⟩ = some (.int .i64 r.d) ∧ w.drew.cell? ⟨g, 8, none⟩ = some (.int .i64 r.t) ∧ KeepP w g w.drew) := Lib.hid ⟨c2, c3, c4, c5, c6, c7, c8, (Below.refl _ _).drew, hgl⟩
      clear c0 c2 c3 c4 c5 c6 c7 c8 hb hS hAB hpt
      go_region_held3 (fun W => W.cell? ⟨g, 2, none⟩ = some (.pointer (some ⟨ga, 0, none⟩)) ∧ W.cell? ⟨g, 3, none⟩ = some (.pointer (some ⟨gb, 0, none⟩)) ∧ W.cell? ⟨g, 4, none⟩ = some (.int .i64 r.a) ∧ W.cell? ⟨g, 5, none⟩ = some (.int .i64 r.b) ∧ W.cell? ⟨g, 6, none⟩ = some (.int .i64 r.c) ∧ W.cell? ⟨g, 7, none⟩ = some (.int .i64 r.d) ∧ W.cell? ⟨g, 8, none⟩ = some (.int .i64 r.t) ∧ KeepP w g W)
        (first | with_reducible exact hS3.out | with_reducible exact hS2.out | with_reducible exact hS1.out | with_reducible exact hst.out | with_reducible exact putS_go hS3.out (below_alc w3 _) | with_reducible exact putS_go hS2.out (below_alc w2 _) | with_reducible exact putS_go hS1.out (below_alc w1 _) | with_reducible exact putS_go hst0.out ((below_alc w _).drew) | with_reducible exact putS_set (by omega) (putS_set (by omega) (putS_set (by omega) (putS_set (by omega) (putS_set (by omega) hS3.out)))))
        (first | (go_at_call 58; refine (kR.out _ (putS_bel (by assumption))).mono ?_; rintro e w2 ⟨rfl, hb2⟩; have hS2 := Lib.hid (putS_go (by assumption) hb2); have hz2 := (putS_bel hS2.out).size; (try (with_reducible (have hk02 := row_on hb2 hk01))); (try (with_reducible (have hk12 := row_on hb2 (alloc_last w1 _))))) | (go_at_call 29; have hG := hS2; refine (kB.out _ (putS_bel (by assumption))).mono ?_; rintro e w3 ⟨g3, rfl, hs3, hb3⟩; have hS3 := Lib.hid (putS_go (by assumption) hb3); have hz3 := (putS_bel hS3.out).size; (try (with_reducible (have hk := row_on hb3 hk02))); (try (with_reducible (have hk := row_on hb3 hk12))); (try (with_reducible (have hk := row_on hb3 (alloc_last w2 _)))); (try (have hxx := row_cells hk; obtain ⟨x0, x1, x2, x3, x4, y0, y1, y2, y3, y4⟩ := hxx))) | (go_at_call 29; refine (kA.out _ (putS_bel (by assumption))).mono ?_; rintro e w1 ⟨g1, rfl, hs1, hb1⟩; have hS1 := Lib.hid (putS_go (by assumption) hb1); have hz1 := (putS_bel hS1.out).size; (try (with_reducible (have hk01 := row_on hb1 (alc_d w _))))))
      all_goals (go_wp2_with fail; go_meet)
      all_goals
        have hs13 : Shp w3 A' g1 := by
          first | with_reducible exact (hs1.keep hb2).keep hb3 | with_reducible exact (hs1.keep (belT (below_alc _ _) hb2)).keep hb3 | with_reducible exact (hs1.keep hb2).keep (belT (below_alc _ _) hb3)
        have hbel3 := putS_bel hS3.out
        first
          | with_reducible exact pm_new hs13 hs3 hbel3
          | exact pm_set hk (by omega) hs13 hs3 hbel3
    case rest =>
      obtain ⟨g1, k, g3, rfl, rfl, rfl, hs1, hs3, hbc, hkl, q0, q1, q2, q3, q4⟩ := hcut
      have hC2 : ∀ (o : Nat) (v : Value), w.cell? ⟨g, o, none⟩ = some v → wc.cell? ⟨g, o, none⟩ = some v := fun o v hv => (hbc.cell (p := ⟨g, o, none⟩) hgl).trans hv
      have d2 := hC2 _ _ c2; have d3 := hC2 _ _ c3; have d4 := hC2 _ _ c4; have d5 := hC2 _ _ c5; have d6 := hC2 _ _ c6; have d7 := hC2 _ _ c7; have d8 := hC2 _ _ c8
      have hA0 := hAB.out.1.keep hbc
      have hB0 := hAB.out.2.keep hbc
      have hgc : g < wc.heap.size := by have := hbc.size; omega
      obtain ⟨x1, hx1⟩ : ∃ x, decide (g1 ≠ ga) = x := ⟨_, rfl⟩
      obtain ⟨x3, hx3⟩ : ∃ x, decide (g3 ≠ gb) = x := ⟨_, rfl⟩
      obtain ⟨x2, hx2⟩ : ∃ x, rwQ r'.a r'.b r'.c r'.d r'.t r.a r.b r.c r.d r.t = x := ⟨_, rfl⟩
      have hn1 : ∀ n, (binOp .neq 65 (.pointer (some ⟨g1, 0, none⟩)) (.pointer (some ⟨ga, 0, none⟩))).run Tryd.prog (wc.drewN n) = .ok (.bool x1) (wc.drewN n) := fun n => by
        rw [← hx1]; exact neq_shp (w := wc.drewN n) (hs1.keep (below_drewN (Below.refl _ _) n)) (hA0.keep (below_drewN (Below.refl _ _) n))
      have hn3 : ∀ n, (binOp .neq 65 (.pointer (some ⟨g3, 0, none⟩)) (.pointer (some ⟨gb, 0, none⟩))).run Tryd.prog (wc.drewN n) = .ok (.bool x3) (wc.drewN n) := fun n => by
        rw [← hx3]; exact neq_shp (w := wc.drewN n) (hs3.keep (below_drewN (Below.refl _ _) n)) (hB0.keep (below_drewN (Below.refl _ _) n))
      have hin := fun (x0 x1 x2 x3 x4 y0 y1 y2 y3 y4 : Int) (W : World) => row_in 9997 x0 x1 x2 x3 x4 y0 y1 y2 y3 y4 W
      simp only [Nat.reduceAdd] at hin
      have hsame : Hid (x1 = false → x2 = true → x3 = false → P = .fn a r b) := Lib.hid fun e1 e2 e3 => by
        subst e1 e2 e3
        have f1 : g1 = ga := by simpa using hx1
        have f3 : g3 = gb := by simpa using hx3
        subst f1 f3
        rw [hpt.out, Shp.one hs1 hA0, Shp.one hs3 hB0]
        congr 1
        obtain ⟨ra, rb, rc, rd, rt⟩ := r
        obtain ⟨ra', rb', rc', rd', rt'⟩ := r'
        unfold rwQ at hx2
        simp only [Bool.and_eq_true, beq_iff_eq] at hx2
        obtain ⟨⟨h1, h2, h3, h4⟩, h5⟩ := hx2
        rw [h1, h2, h3, h4, h5]
      have hS' := Lib.hid fun (W : World) (h : Below w.heap.size w W) => hS.out.keep h
      have kF := Lib.hid fun (W : World) (h : Below wc.heap.size wc W) => shFun_any A' B' r' g1 g3 W (Lib.hid (hs1.keep h)) (Lib.hid (hs3.keep h)) (by omega)
      have hbc' := Lib.hid hbc
      clear hC2 hA0 hB0 hAB hs1 hs3 hbc hS hx1 hx3 hb kA kB kR
      clear c0 c2 c3 c4 c5 c6 c7 c8
      cases x1
      · cases x2
        · go_wp2_with fail
          go_quiet (fail)
          go_wp2_with fail
          refine (kF.out _ (below_drewN (Below.refl _ _) nq)).mono ?_
          rintro e w9 ⟨g9, rfl, hs9, hb9⟩
          go_wp2_with fail
          go_ret
          exact ⟨g9, rfl, by rw [hpt.out]; exact hs9, hbc'.out.trans ((below_drewN (Below.refl _ _) nq).trans (hb9.mono hbc'.out.size))⟩
        · cases x3
          · have hP := Lib.hid (hsame.out rfl rfl rfl)
            go_wp2_with fail
            go_quiet (fail)
            go_wp2_with fail
            go_ret
            exact ⟨g, rfl, by rw [hP.out]; exact hS'.out _ (below_drewN hbc'.out nq), below_drewN hbc'.out nq⟩
          · go_wp2_with fail
            go_quiet (fail)
            go_wp2_with fail
            refine (kF.out _ (below_drewN (Below.refl _ _) nq)).mono ?_
            rintro e w9 ⟨g9, rfl, hs9, hb9⟩
            go_wp2_with fail
            go_ret
            exact ⟨g9, rfl, by rw [hpt.out]; exact hs9, hbc'.out.trans ((below_drewN (Below.refl _ _) nq).trans (hb9.mono hbc'.out.size))⟩
      · go_wp2_with fail
        go_quiet (fail)
        go_wp2_with fail
        refine (kF.out _ (below_drewN (Below.refl _ _) nq)).mono ?_
        rintro e w9 ⟨g9, rfl, hs9, hb9⟩
        go_wp2_with fail
        go_ret
        exact ⟨g9, rfl, by rw [hpt.out]; exact hs9, hbc'.out.trans ((below_drewN (Below.refl _ _) nq).trans (hb9.mono hbc'.out.size))⟩
end Go.Proofs.YtfkdcconmecaoaaDoor
