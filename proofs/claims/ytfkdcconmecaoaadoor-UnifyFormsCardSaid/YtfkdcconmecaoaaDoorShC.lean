/- Shapes: PutRow. -/
import Derived.Test.YtfkdcconmecaoaaDoorShF
namespace Go.Proofs.YtfkdcconmecaoaaDoor
open Go.RowKit
set_option linter.unusedVariables false
set_option linter.unusedSimpArgs false

/-- a function value with two captured variables: what it tells of a type variable. -/
def FnT (F p1 p2 : Nat) (σ : Int → Option TT) (w0 : World) : Prop :=
  ∀ (v : Int) (W : World), 0 ≤ v ∧ v < 4096 → Below w0.heap.size w0 W → Calls Tryd.prog F #[.int .i64 v, .pointer (some ⟨p1, 0, none⟩), .pointer (some ⟨p2, 0, none⟩)] W
    fun e w' => (match σ v with
      | none => e = .returned (.tuple #[.pointer none, .bool false])
      | some U => ∃ g, e = .returned (.tuple #[ptrS g, .bool true]) ∧ Shp w' U g) ∧ Below W.heap.size W w'
/-- .. of a row variable. -/
def FnR (F p1 p2 : Nat) (ρ : Int → Option Rw) (w0 : World) : Prop :=
  ∀ (v : Int) (W : World), 0 ≤ v ∧ v < 4096 → Below w0.heap.size w0 W → Calls Tryd.prog F #[.int .i64 v, .pointer (some ⟨p1, 0, none⟩), .pointer (some ⟨p2, 0, none⟩)] W
    fun e w' => (match ρ v with
      | none => e = .returned (.tuple #[.agg #[.int .i64 0, .int .i64 0, .int .i64 0, .int .i64 0, .int .i64 0], .bool false])
      | some q => e = .returned (.tuple #[.agg #[.int .i64 q.a, .int .i64 q.b, .int .i64 q.c, .int .i64 q.d, .int .i64 q.t], .bool true])) ∧ Below W.heap.size W w'
theorem below_alc2 (w : World) (o o2 : Obj) : Below w.heap.size w ((w.alloc o).alloc o2) := ((Below.refl _ _).alloc (Nat.le_refl _) _).alloc (by simp) _
abbrev fnV (F p1 p2 : Nat) : Value := .func (.func F) #[] #[.pointer (some ⟨p1, 0, none⟩), .pointer (some ⟨p2, 0, none⟩)]
abbrev rwV (r : Rw) : Value := .agg #[.int .i64 r.a, .int .i64 r.b, .int .i64 r.c, .int .i64 r.d, .int .i64 r.t]
def RC (B : Nat) (n0 n1 n2 n3 t : Int) (W : World) : Prop := W.cell? ⟨B, 0, none⟩ = some (.int .i64 n0) ∧ W.cell? ⟨B, 1, none⟩ = some (.int .i64 n1) ∧ W.cell? ⟨B, 2, none⟩ = some (.int .i64 n2) ∧ W.cell? ⟨B, 3, none⟩ = some (.int .i64 n3) ∧ W.cell? ⟨B, 4, none⟩ = some (.int .i64 t) ∧ (∀ o, W.frozen? ⟨B, o, none⟩ = false) ∧ B < W.heap.size
theorem RC.below {B : Nat} {n0 n1 n2 n3 t : Int} {W W1 : World} (h : RC B n0 n1 n2 n3 t W) (hb : Below W.heap.size W W1) : RC B n0 n1 n2 n3 t W1 := by
  obtain ⟨h0, h1, h2, h3, h4, h5, h6⟩ := h
  exact ⟨carry hb h6 h0, carry hb h6 h1, carry hb h6 h2, carry hb h6 h3, carry hb h6 h4, fun o => by rw [hb.frozen (p := ⟨B, o, none⟩) h6]; exact h5 o, by have := hb.size; omega⟩
theorem setS {W : World} {p : Addr} {v u : Value} (h : W.cell? p = some u) : (W.setCell p v).cell? p = some v := by
  rw [World.cell?_setCell_same _ _ _ h]
theorem setO {W : World} {p q : Addr} {v u : Value} (h : W.cell? p = some u) (hne : q ≠ p) : (W.setCell q v).cell? p = some u := (World.cell?_setCell_other _ _ _ _ hne).trans h
theorem RC.set0 {B : Nat} {n0 n1 n2 n3 t v : Int} {W : World} (h : RC B n0 n1 n2 n3 t W) : RC B v n1 n2 n3 t (W.setCell ⟨B, 0, none⟩ (.int .i64 v)) := by
  obtain ⟨h0, h1, h2, h3, h4, h5, h6⟩ := h
  exact ⟨setS h0, setO h1 (by simp), setO h2 (by simp), setO h3 (by simp), setO h4 (by simp), fun o => by rw [show (W.setCell ⟨B, 0, none⟩ (.int .i64 v)).frozen? ⟨B, o, none⟩ = W.frozen? ⟨B, o, none⟩ from by simp [go_sem]]; exact h5 o, by simpa using h6⟩
theorem RC.set1 {B : Nat} {n0 n1 n2 n3 t v : Int} {W : World} (h : RC B n0 n1 n2 n3 t W) : RC B n0 v n2 n3 t (W.setCell ⟨B, 1, none⟩ (.int .i64 v)) := by
  obtain ⟨h0, h1, h2, h3, h4, h5, h6⟩ := h
  exact ⟨setO h0 (by simp), setS h1, setO h2 (by simp), setO h3 (by simp), setO h4 (by simp), fun o => by rw [show (W.setCell ⟨B, 1, none⟩ (.int .i64 v)).frozen? ⟨B, o, none⟩ = W.frozen? ⟨B, o, none⟩ from by simp [go_sem]]; exact h5 o, by simpa using h6⟩
theorem RC.set2 {B : Nat} {n0 n1 n2 n3 t v : Int} {W : World} (h : RC B n0 n1 n2 n3 t W) : RC B n0 n1 v n3 t (W.setCell ⟨B, 2, none⟩ (.int .i64 v)) := by
  obtain ⟨h0, h1, h2, h3, h4, h5, h6⟩ := h
  exact ⟨setO h0 (by simp), setO h1 (by simp), setS h2, setO h3 (by simp), setO h4 (by simp), fun o => by rw [show (W.setCell ⟨B, 2, none⟩ (.int .i64 v)).frozen? ⟨B, o, none⟩ = W.frozen? ⟨B, o, none⟩ from by simp [go_sem]]; exact h5 o, by simpa using h6⟩
theorem RC.set3 {B : Nat} {n0 n1 n2 n3 t v : Int} {W : World} (h : RC B n0 n1 n2 n3 t W) : RC B n0 n1 n2 v t (W.setCell ⟨B, 3, none⟩ (.int .i64 v)) := by
  obtain ⟨h0, h1, h2, h3, h4, h5, h6⟩ := h
  exact ⟨setO h0 (by simp), setO h1 (by simp), setO h2 (by simp), setS h3, setO h4 (by simp), fun o => by rw [show (W.setCell ⟨B, 3, none⟩ (.int .i64 v)).frozen? ⟨B, o, none⟩ = W.frozen? ⟨B, o, none⟩ from by simp [go_sem]]; exact h5 o, by simpa using h6⟩
def KeepR (w w1 : World) (W : World) : Prop := Below w.heap.size w W ∧ w.heap.size + 1 < w1.heap.size ∧ w1.heap.size < W.heap.size ∧ (∀ o, W.frozen? ⟨w.heap.size + 1, o, none⟩ = false) ∧ ∀ o, o < 5 → ∃ v, W.cell? ⟨w.heap.size + 1, o, none⟩ = some v
theorem keepR_set {w w1 W : World} {o : Nat} {v : Value} (h : KeepR w w1 W) : KeepR w w1 (W.setCell ⟨w1.heap.size, o, none⟩ v) := by
  obtain ⟨h1, h2, h3, h4, h5⟩ := h
  refine ⟨h1.setCell (show w.heap.size ≤ w1.heap.size by omega) _, h2, by simpa using h3, fun o => by rw [World.frozen?_setCell]; exact h4 o, fun o ho => ?_⟩
  obtain ⟨x, hx⟩ := h5 o ho
  exact ⟨x, by rw [World.cell?_setCell_other _ _ _ _ (by intro e; injection e; omega)]; exact hx⟩
/-- the row that PutRow reckons, part by part. -/
def PrInv (w w1 : World) (q r : Rw) (k : Nat) (W : World) : Prop := RC w1.heap.size (if 0 < k then q.a + r.a else q.a) (if 1 < k then q.b + r.b else q.b) (if 2 < k then q.c + r.c else q.c) (if 3 < k then q.d + r.d else q.d) q.t W ∧ KeepR w w1 W
set_option maxRecDepth 100000 in
set_option maxHeartbeats 4000000 in
theorem putRow_any (F p1 p2 : Nat) (ρ : Int → Option Rw) (w0 : World) (kF : Hid (∀ (xs : Array Value) (W : World), (callFunc F xs).run Tryd.prog W = .ok (.enter F xs) W)) (kR : Hid (FnR F p1 p2 ρ w0)) (hρ : ∀ v q, ρ v = some q → q.may = true)
    (r : Rw) (hr : r.may = true) (w : World) (hb : Hid (Below w0.heap.size w0 w)) :
    Calls Tryd.prog 58 #[rwV r, fnV F p1 p2] w fun e w' => e = .returned (rwV (putR ρ r)) ∧ Below w.heap.size w w' := by
  unfold rwV fnV
  by_cases ht : r.t < 0
  · have hv : putR ρ r = r := by unfold putR; rw [if_pos ht]
    rw [hv]
    clear hv
    go_enter Tryd.func58, Tryd.ntmps58
    go_wp2_with fail
    exact bodyPost_ret (v := .agg #[.int .i64 r.a, .int .i64 r.b, .int .i64 r.c, .int .i64 r.d, .int .i64 r.t]) (by simp [results, Tryd.results58, go_sem, *]) rfl ⟨rfl, by (repeat' (first | with_reducible exact Below.refl _ _ | with_reducible assumption | with_reducible apply Below.setCell | with_reducible apply Below.alloc | with_reducible apply Below.drew | with_reducible apply below_drewN | with_reducible exact Nat.le_refl _ | (simp; done) | (simp; omega) | omega | exact Nat.le_refl _))⟩
  have htl := may_tail hr
  have kR2 := Lib.hid fun (W : World) (h : Below w0.heap.size w0 W) => kR.out r.t W (by omega) h
  cases hq : ρ r.t with
  | none =>
    have hv : putR ρ r = r := by unfold putR; rw [if_neg ht, hq]
    rw [hv]
    simp only [hq] at kR2
    clear hv hq
    go_enter Tryd.func58, Tryd.ntmps58
    have kF' := kF.out
    go_wp2_with fail
    refine (kR2.out _ (hb.out.trans ((below_alc2 w _ _).mono hb.out.size))).mono ?_
    rintro e w1 ⟨rfl, hb1⟩
    obtain ⟨hc1, hf1⟩ := bcell hb1
    have hz1_0 : w.heap.size < w1.heap.size := by have := hb1.size; (try simp at this); omega
    have hz1_1 : w.heap.size + 1 < w1.heap.size := by have := hb1.size; (try simp at this); omega
    have hcl1_0_0 : w1.cell? ⟨w.heap.size, 0, none⟩ = some (.int .i64 r.a) := by rw [hc1 _ _ (by simp; try omega)]; simp
    have hfl1_0_0 : w1.frozen? ⟨w.heap.size, 0, none⟩ = false := by rw [hf1 _ _ (by simp; try omega)]; simp
    have hcl1_0_1 : w1.cell? ⟨w.heap.size, 1, none⟩ = some (.int .i64 r.b) := by rw [hc1 _ _ (by simp; try omega)]; simp
    have hfl1_0_1 : w1.frozen? ⟨w.heap.size, 1, none⟩ = false := by rw [hf1 _ _ (by simp; try omega)]; simp
    have hcl1_0_2 : w1.cell? ⟨w.heap.size, 2, none⟩ = some (.int .i64 r.c) := by rw [hc1 _ _ (by simp; try omega)]; simp
    have hfl1_0_2 : w1.frozen? ⟨w.heap.size, 2, none⟩ = false := by rw [hf1 _ _ (by simp; try omega)]; simp
    have hcl1_0_3 : w1.cell? ⟨w.heap.size, 3, none⟩ = some (.int .i64 r.d) := by rw [hc1 _ _ (by simp; try omega)]; simp
    have hfl1_0_3 : w1.frozen? ⟨w.heap.size, 3, none⟩ = false := by rw [hf1 _ _ (by simp; try omega)]; simp
    have hcl1_0_4 : w1.cell? ⟨w.heap.size, 4, none⟩ = some (.int .i64 r.t) := by rw [hc1 _ _ (by simp; try omega)]; simp
    have hfl1_0_4 : w1.frozen? ⟨w.heap.size, 4, none⟩ = false := by rw [hf1 _ _ (by simp; try omega)]; simp
    have hcl1_1_0 : w1.cell? ⟨w.heap.size + 1, 0, none⟩ = some (.int .i64 0) := by rw [hc1 _ _ (by simp; try omega)]; simp
    have hfl1_1_0 : w1.frozen? ⟨w.heap.size + 1, 0, none⟩ = false := by rw [hf1 _ _ (by simp; try omega)]; simp
    have hcl1_1_1 : w1.cell? ⟨w.heap.size + 1, 1, none⟩ = some (.int .i64 0) := by rw [hc1 _ _ (by simp; try omega)]; simp
    have hfl1_1_1 : w1.frozen? ⟨w.heap.size + 1, 1, none⟩ = false := by rw [hf1 _ _ (by simp; try omega)]; simp
    have hcl1_1_2 : w1.cell? ⟨w.heap.size + 1, 2, none⟩ = some (.int .i64 0) := by rw [hc1 _ _ (by simp; try omega)]; simp
    have hfl1_1_2 : w1.frozen? ⟨w.heap.size + 1, 2, none⟩ = false := by rw [hf1 _ _ (by simp; try omega)]; simp
    have hcl1_1_3 : w1.cell? ⟨w.heap.size + 1, 3, none⟩ = some (.int .i64 0) := by rw [hc1 _ _ (by simp; try omega)]; simp
    have hfl1_1_3 : w1.frozen? ⟨w.heap.size + 1, 3, none⟩ = false := by rw [hf1 _ _ (by simp; try omega)]; simp
    have hcl1_1_4 : w1.cell? ⟨w.heap.size + 1, 4, none⟩ = some (.int .i64 0) := by rw [hc1 _ _ (by simp; try omega)]; simp
    have hfl1_1_4 : w1.frozen? ⟨w.heap.size + 1, 4, none⟩ = false := by rw [hf1 _ _ (by simp; try omega)]; simp
    have hB := Lib.hid (belT (below_alc2 w _ _) hb1)
    clear hc1 hf1 hb1 kF'
    go_wp2_with fail
    have hbb := hB.out
    exact bodyPost_ret (v := .agg #[.int .i64 r.a, .int .i64 r.b, .int .i64 r.c, .int .i64 r.d, .int .i64 r.t]) (by simp [results, Tryd.results58, go_sem, *]) rfl ⟨rfl, by (repeat' (first | with_reducible exact Below.refl _ _ | with_reducible assumption | with_reducible apply Below.setCell | with_reducible apply Below.alloc | with_reducible apply Below.drew | with_reducible apply below_drewN | with_reducible exact Nat.le_refl _ | (simp; done) | (simp; omega) | omega | exact Nat.le_refl _))⟩
  | some q =>
    have hv : putR ρ r = ⟨q.a + r.a, q.b + r.b, q.c + r.c, q.d + r.d, q.t⟩ := by unfold putR; rw [if_neg ht, hq]
    rw [hv]
    have hqm := of_decide_eq_true (show mayR q.a q.b q.c q.d q.t = true from hρ _ _ hq)
    have hrm := of_decide_eq_true (show mayR r.a r.b r.c r.d r.t = true from hr)
    simp only [hq] at kR2
    clear hv hq hr htl
    have hix0 : ∀ W : World, (Instr.index 34 (.agg #[.int .i64 r.a, .int .i64 r.b, .int .i64 r.c, .int .i64 r.d]) (.int .i64 0)).run Tryd.prog W = .ok (.int .i64 r.a) W := fun _ => by kernel_rfl
    have hix1 : ∀ W : World, (Instr.index 34 (.agg #[.int .i64 r.a, .int .i64 r.b, .int .i64 r.c, .int .i64 r.d]) (.int .i64 1)).run Tryd.prog W = .ok (.int .i64 r.b) W := fun _ => by kernel_rfl
    have hix2 : ∀ W : World, (Instr.index 34 (.agg #[.int .i64 r.a, .int .i64 r.b, .int .i64 r.c, .int .i64 r.d]) (.int .i64 2)).run Tryd.prog W = .ok (.int .i64 r.c) W := fun _ => by kernel_rfl
    have hix3 : ∀ W : World, (Instr.index 34 (.agg #[.int .i64 r.a, .int .i64 r.b, .int .i64 r.c, .int .i64 r.d]) (.int .i64 3)).run Tryd.prog W = .ok (.int .i64 r.d) W := fun _ => by kernel_rfl
    go_enter Tryd.func58, Tryd.ntmps58
    have kF' := kF.out
    go_wp2_with fail
    refine (kR2.out _ (hb.out.trans ((below_alc2 w _ _).mono hb.out.size))).mono ?_
    rintro e w1 ⟨rfl, hb1⟩
    obtain ⟨hc1, hf1⟩ := bcell hb1
    have hz1_0 : w.heap.size < w1.heap.size := by have := hb1.size; (try simp at this); omega
    have hz1_1 : w.heap.size + 1 < w1.heap.size := by have := hb1.size; (try simp at this); omega
    have hcl1_0_0 : w1.cell? ⟨w.heap.size, 0, none⟩ = some (.int .i64 r.a) := by rw [hc1 _ _ (by simp; try omega)]; simp
    have hfl1_0_0 : w1.frozen? ⟨w.heap.size, 0, none⟩ = false := by rw [hf1 _ _ (by simp; try omega)]; simp
    have hcl1_0_1 : w1.cell? ⟨w.heap.size, 1, none⟩ = some (.int .i64 r.b) := by rw [hc1 _ _ (by simp; try omega)]; simp
    have hfl1_0_1 : w1.frozen? ⟨w.heap.size, 1, none⟩ = false := by rw [hf1 _ _ (by simp; try omega)]; simp
    have hcl1_0_2 : w1.cell? ⟨w.heap.size, 2, none⟩ = some (.int .i64 r.c) := by rw [hc1 _ _ (by simp; try omega)]; simp
    have hfl1_0_2 : w1.frozen? ⟨w.heap.size, 2, none⟩ = false := by rw [hf1 _ _ (by simp; try omega)]; simp
    have hcl1_0_3 : w1.cell? ⟨w.heap.size, 3, none⟩ = some (.int .i64 r.d) := by rw [hc1 _ _ (by simp; try omega)]; simp
    have hfl1_0_3 : w1.frozen? ⟨w.heap.size, 3, none⟩ = false := by rw [hf1 _ _ (by simp; try omega)]; simp
    have hcl1_0_4 : w1.cell? ⟨w.heap.size, 4, none⟩ = some (.int .i64 r.t) := by rw [hc1 _ _ (by simp; try omega)]; simp
    have hfl1_0_4 : w1.frozen? ⟨w.heap.size, 4, none⟩ = false := by rw [hf1 _ _ (by simp; try omega)]; simp
    have hcl1_1_0 : w1.cell? ⟨w.heap.size + 1, 0, none⟩ = some (.int .i64 0) := by rw [hc1 _ _ (by simp; try omega)]; simp
    have hfl1_1_0 : w1.frozen? ⟨w.heap.size + 1, 0, none⟩ = false := by rw [hf1 _ _ (by simp; try omega)]; simp
    have hcl1_1_1 : w1.cell? ⟨w.heap.size + 1, 1, none⟩ = some (.int .i64 0) := by rw [hc1 _ _ (by simp; try omega)]; simp
    have hfl1_1_1 : w1.frozen? ⟨w.heap.size + 1, 1, none⟩ = false := by rw [hf1 _ _ (by simp; try omega)]; simp
    have hcl1_1_2 : w1.cell? ⟨w.heap.size + 1, 2, none⟩ = some (.int .i64 0) := by rw [hc1 _ _ (by simp; try omega)]; simp
    have hfl1_1_2 : w1.frozen? ⟨w.heap.size + 1, 2, none⟩ = false := by rw [hf1 _ _ (by simp; try omega)]; simp
    have hcl1_1_3 : w1.cell? ⟨w.heap.size + 1, 3, none⟩ = some (.int .i64 0) := by rw [hc1 _ _ (by simp; try omega)]; simp
    have hfl1_1_3 : w1.frozen? ⟨w.heap.size + 1, 3, none⟩ = false := by rw [hf1 _ _ (by simp; try omega)]; simp
    have hcl1_1_4 : w1.cell? ⟨w.heap.size + 1, 4, none⟩ = some (.int .i64 0) := by rw [hc1 _ _ (by simp; try omega)]; simp
    have hfl1_1_4 : w1.frozen? ⟨w.heap.size + 1, 4, none⟩ = false := by rw [hf1 _ _ (by simp; try omega)]; simp
    have hB := Lib.hid (belT (below_alc2 w _ _) hb1)
    have hfr : ∀ o, w1.frozen? ⟨w.heap.size + 1, o, none⟩ = false := fun o => by rw [hf1 _ _ (by simp)]; simp [go_sem]
    have hkr : Hid (∀ o, KeepR w w1 (w1.alloc o)) := Lib.hid fun o => ⟨hB.out.alloc (by omega) _, hz1_1, by simp, fun o' => by rw [(below_alc w1 o).frozen (p := ⟨w.heap.size + 1, o', none⟩) hz1_1]; exact hfr o', fun o' ho => by
      rw [(below_alc w1 o).cell (p := ⟨w.heap.size + 1, o', none⟩) hz1_1]
      have h5 : o' = 0 ∨ o' = 1 ∨ o' = 2 ∨ o' = 3 ∨ o' = 4 := by omega
      rcases h5 with rfl | rfl | rfl | rfl | rfl
      · exact ⟨_, hcl1_1_0⟩
      · exact ⟨_, hcl1_1_1⟩
      · exact ⟨_, hcl1_1_2⟩
      · exact ⟨_, hcl1_1_3⟩
      · exact ⟨_, hcl1_1_4⟩⟩
    clear hc1 hf1 hb1 kF' hfr
    go_wp2_with fail
    go_loopw [25] (fun i wr => ∃ k : Nat, k ≤ 4 ∧ i = .int .i64 k ∧ Hid (PrInv w w1 q r k wr)) (fun i _ => 4 - (intOf i).toNat)
    case atStart => exact ⟨0, by omega, rfl, Lib.hid ⟨⟨by simp, by simp, by simp, by simp, by simp, by simp [go_sem], by simp⟩, hkr.out _⟩⟩
    case round =>
      obtain ⟨k, hk, rfl, hk2⟩ := hrel
      have hk5 : k = 0 ∨ k = 1 ∨ k = 2 ∨ k = 3 ∨ k = 4 := by omega
      rcases hk5 with rfl | rfl | rfl | rfl | rfl
      · have hrc : RC w1.heap.size q.a q.b q.c q.d q.t wr := hk2.out.1
        have hRC := Lib.hid hrc
        have hB := Lib.hid hk2.out.2
        obtain ⟨q0, q1, q2, q3, q4, q5, q6⟩ := hrc
        have z0 := q5 0
        have hwr0 : IntKind.i64.wrap (q.a + r.a) = q.a + r.a := IntWalk.i64_in _ (by omega)
        clear hk2 q5
        go_wp2_with fail
        go_roundw
        case rel => exact ⟨1, by omega, rfl, Lib.hid ⟨RC.set0 hRC.out, keepR_set hB.out⟩⟩
        case measure => simp [intOf]
      · have hrc : RC w1.heap.size (q.a + r.a) q.b q.c q.d q.t wr := hk2.out.1
        have hRC := Lib.hid hrc
        have hB := Lib.hid hk2.out.2
        obtain ⟨q0, q1, q2, q3, q4, q5, q6⟩ := hrc
        have z1 := q5 1
        have hwr1 : IntKind.i64.wrap (q.b + r.b) = q.b + r.b := IntWalk.i64_in _ (by omega)
        clear hk2 q5
        go_wp2_with fail
        go_roundw
        case rel => exact ⟨2, by omega, rfl, Lib.hid ⟨RC.set1 hRC.out, keepR_set hB.out⟩⟩
        case measure => simp [intOf]
      · have hrc : RC w1.heap.size (q.a + r.a) (q.b + r.b) q.c q.d q.t wr := hk2.out.1
        have hRC := Lib.hid hrc
        have hB := Lib.hid hk2.out.2
        obtain ⟨q0, q1, q2, q3, q4, q5, q6⟩ := hrc
        have z2 := q5 2
        have hwr2 : IntKind.i64.wrap (q.c + r.c) = q.c + r.c := IntWalk.i64_in _ (by omega)
        clear hk2 q5
        go_wp2_with fail
        go_roundw
        case rel => exact ⟨3, by omega, rfl, Lib.hid ⟨RC.set2 hRC.out, keepR_set hB.out⟩⟩
        case measure => simp [intOf]
      · have hrc : RC w1.heap.size (q.a + r.a) (q.b + r.b) (q.c + r.c) q.d q.t wr := hk2.out.1
        have hRC := Lib.hid hrc
        have hB := Lib.hid hk2.out.2
        obtain ⟨q0, q1, q2, q3, q4, q5, q6⟩ := hrc
        have z3 := q5 3
        have hwr3 : IntKind.i64.wrap (q.d + r.d) = q.d + r.d := IntWalk.i64_in _ (by omega)
        clear hk2 q5
        go_wp2_with fail
        go_roundw
        case rel => exact ⟨4, by omega, rfl, Lib.hid ⟨RC.set3 hRC.out, keepR_set hB.out⟩⟩
        case measure => simp [intOf]
      · have hrc : RC w1.heap.size (q.a + r.a) (q.b + r.b) (q.c + r.c) (q.d + r.d) q.t wr := hk2.out.1
        obtain ⟨hB1, hB2, hB3, hB4, hB5⟩ := hk2.out.2
        obtain ⟨q0, q1, q2, q3, q4, q5, q6⟩ := hrc
        obtain ⟨v0, g0⟩ := hB5 0 (by omega); obtain ⟨v1, g1⟩ := hB5 1 (by omega); obtain ⟨v2, g2⟩ := hB5 2 (by omega); obtain ⟨v3, g3⟩ := hB5 3 (by omega); obtain ⟨v4, g4⟩ := hB5 4 (by omega)
        have f0 := hB4 0; have f1 := hB4 1; have f2 := hB4 2; have f3 := hB4 3; have f4 := hB4 4
        clear hk2 q5 hB4 hB5
        go_wp2_with fail
        exact bodyPost_ret (v := .agg #[.int .i64 (q.a + r.a), .int .i64 (q.b + r.b), .int .i64 (q.c + r.c), .int .i64 (q.d + r.d), .int .i64 q.t]) (by simp [results, Tryd.results58, go_sem, *]) rfl ⟨rfl, by (repeat' (first | with_reducible exact Below.refl _ _ | with_reducible assumption | with_reducible apply Below.setCell | with_reducible apply Below.alloc | with_reducible apply Below.drew | with_reducible apply below_drewN | with_reducible exact Nat.le_refl _ | (simp; done) | (simp; omega) | omega | exact Nat.le_refl _))⟩
end Go.Proofs.YtfkdcconmecaoaaDoor
