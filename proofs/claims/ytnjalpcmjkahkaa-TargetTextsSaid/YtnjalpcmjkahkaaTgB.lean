/- names, children, areNames of package target. -/
import Derived.Test.YtnjalpcmjkahkaaTgA
import Derived.Deep.DeepCutAuto
namespace Go.Proofs.Ytnjalpcmjkahkaa
open Go.RowKit
set_option linter.unusedVariables false
set_option linter.unusedSimpArgs false

def namesT (k n x y z w : Int) : List Int := if k = 0 then [n] else if k = 3 ∨ k = 6 ∨ k = 11 then [x] else if k = 4 then [x, y] else if k = 12 then [x, y, z, w] else []

/-- a slice value that holds these numbers, in memory behind block B. -/
def IsInts (B : Nat) (w : World) (v : Value) (l : List Int) : Prop :=
  (v = .slice none 0 0 ∧ l = []) ∨ ∃ g c, B ≤ g ∧ g < w.heap.size ∧ v = .slice (some ⟨g, 0, none⟩) l.length c ∧ ∀ i, i < l.length → w.cell? ⟨g, i, none⟩ = some (.int .i64 (l.getD i 0))

theorem lit_cells (W : World) (g : Nat) (l : List Int) (T : TypeId) (hg : g = W.heap.size) {arr : Array Value} (ha : arr = (l.map (Value.int .i64)).toArray) : ∀ i, i < l.length → (W.alloc (.cells arr T)).cell? ⟨g, i, none⟩ = some (.int .i64 (l.getD i 0)) := by
  intro i hi
  subst hg ha
  rw [World.cell?_alloc_new]
  simp [hi]

def NamesPost (k n x y z ww : Int) (w : World) (e : Ending) (w' : World) : Prop := ∃ v, e = .returned v ∧ IsInts w.heap.size w' v (namesT k n x y z ww) ∧ Below w.heap.size w w'

set_option maxHeartbeats 400000 in
theorem names_any (k a b c n x y z ww : Int) (w : World) :
    Calls Try.prog 36 #[.agg #[.int .i64 k, .int .i64 a, .int .i64 b, .int .i64 c, .int .i64 n, .int .i64 x, .int .i64 y, .int .i64 z, .int .i64 ww]] w (NamesPost k n x y z ww w) := by
  go_enter Try.func36, Try.ntmps36
  have hk : k = 0 ∨ k = 3 ∨ k = 4 ∨ k = 6 ∨ k = 11 ∨ k = 12 ∨ (k ≠ 0 ∧ k ≠ 3 ∧ k ≠ 4 ∧ k ≠ 6 ∧ k ≠ 11 ∧ k ≠ 12) := by omega
  rcases hk with rfl | rfl | rfl | rfl | rfl | rfl | hk
  · go_wp2_with fail
    go_ret
    refine ⟨_, rfl, .inr ⟨w.heap.size + 1, 1, by omega, by simp, rfl, ?_⟩, by (repeat' (first | with_reducible exact Below.refl _ _ | with_reducible assumption | with_reducible apply Below.setCell | with_reducible apply Below.alloc | with_reducible apply Below.drew | with_reducible apply below_drewN | with_reducible exact Nat.le_refl _ | (simp; done) | (simp; omega) | omega | exact Nat.le_refl _))⟩
    exact lit_cells _ _ [n] _ (by simp) rfl
  · go_wp2_with fail
    go_ret
    refine ⟨_, rfl, .inr ⟨w.heap.size + 1, 1, by omega, by simp, rfl, ?_⟩, by (repeat' (first | with_reducible exact Below.refl _ _ | with_reducible assumption | with_reducible apply Below.setCell | with_reducible apply Below.alloc | with_reducible apply Below.drew | with_reducible apply below_drewN | with_reducible exact Nat.le_refl _ | (simp; done) | (simp; omega) | omega | exact Nat.le_refl _))⟩
    exact lit_cells _ _ [x] _ (by simp) rfl
  · go_wp2_with fail
    go_ret
    refine ⟨_, rfl, .inr ⟨w.heap.size + 1, 2, by omega, by simp, rfl, ?_⟩, by (repeat' (first | with_reducible exact Below.refl _ _ | with_reducible assumption | with_reducible apply Below.setCell | with_reducible apply Below.alloc | with_reducible apply Below.drew | with_reducible apply below_drewN | with_reducible exact Nat.le_refl _ | (simp; done) | (simp; omega) | omega | exact Nat.le_refl _))⟩
    exact lit_cells _ _ [x, y] _ (by simp) rfl
  · go_wp2_with fail
    go_ret
    refine ⟨_, rfl, .inr ⟨w.heap.size + 1, 1, by omega, by simp, rfl, ?_⟩, by (repeat' (first | with_reducible exact Below.refl _ _ | with_reducible assumption | with_reducible apply Below.setCell | with_reducible apply Below.alloc | with_reducible apply Below.drew | with_reducible apply below_drewN | with_reducible exact Nat.le_refl _ | (simp; done) | (simp; omega) | omega | exact Nat.le_refl _))⟩
    exact lit_cells _ _ [x] _ (by simp) rfl
  · go_wp2_with fail
    go_ret
    refine ⟨_, rfl, .inr ⟨w.heap.size + 1, 1, by omega, by simp, rfl, ?_⟩, by (repeat' (first | with_reducible exact Below.refl _ _ | with_reducible assumption | with_reducible apply Below.setCell | with_reducible apply Below.alloc | with_reducible apply Below.drew | with_reducible apply below_drewN | with_reducible exact Nat.le_refl _ | (simp; done) | (simp; omega) | omega | exact Nat.le_refl _))⟩
    exact lit_cells _ _ [x] _ (by simp) rfl
  · go_wp2_with fail
    go_ret
    refine ⟨_, rfl, .inr ⟨w.heap.size + 1, 4, by omega, by simp, rfl, ?_⟩, by (repeat' (first | with_reducible exact Below.refl _ _ | with_reducible assumption | with_reducible apply Below.setCell | with_reducible apply Below.alloc | with_reducible apply Below.drew | with_reducible apply below_drewN | with_reducible exact Nat.le_refl _ | (simp; done) | (simp; omega) | omega | exact Nat.le_refl _))⟩
    exact lit_cells _ _ [x, y, z, ww] _ (by simp) rfl
  · go_wp2_with fail
    go_ret
    refine ⟨_, rfl, .inl ⟨rfl, ?_⟩, by (repeat' (first | with_reducible exact Below.refl _ _ | with_reducible assumption | with_reducible apply Below.setCell | with_reducible apply Below.alloc | with_reducible apply Below.drew | with_reducible apply below_drewN | with_reducible exact Nat.le_refl _ | (simp; done) | (simp; omega) | omega | exact Nat.le_refl _))⟩
    unfold namesT; (repeat' split) <;> first | (exfalso; omega) | rfl

theorem all_take (l : List Int) (p : Int → Bool) (j : Nat) (h : j < l.length) : (l.take (j + 1)).all p = ((l.take j).all p && p (l.getD j 0)) := by
  rw [List.take_succ_eq_append_getElem h, List.all_append]
  simp [h]
theorem all_no (l : List Int) (p : Int → Bool) (j : Nat) (h : j ≤ l.length) (hn : (l.take j).all p = false) : l.all p = false := by
  cases hc : l.all p
  · rfl
  · rw [List.all_eq_true] at hc
    have : (l.take j).all p = true := by
      rw [List.all_eq_true]; intro x hx; exact hc x (List.mem_of_mem_take hx)
    rw [this] at hn; cases hn

def okNames (k n x y z w : Int) : Bool := (namesT k n x y z w).all nameT

set_option maxHeartbeats 400000 in
theorem areNames_any (k a b c n x y z ww : Int) (w : World) :
    Calls Try.prog 26 #[.agg #[.int .i64 k, .int .i64 a, .int .i64 b, .int .i64 c, .int .i64 n, .int .i64 x, .int .i64 y, .int .i64 z, .int .i64 ww]] w fun e w' => e = .returned (.bool (okNames k n x y z ww)) ∧ Below w.heap.size w w' := by
  go_enter Try.func26, Try.ntmps26
  go_wp2_with fail
  refine (names_any _ _ _ _ _ _ _ _ _ _).mono ?_
  rintro e w1 ⟨v, rfl, hv, hb1⟩
  obtain ⟨l, hl⟩ : ∃ l, namesT k n x y z ww = l := ⟨_, rfl⟩
  have hok : okNames k n x y z ww = l.all nameT := by unfold okNames; rw [hl]
  rw [hl] at hv
  have hlen : l.length ≤ 4 := by rw [← hl]; unfold namesT; (repeat' split) <;> simp
  have hok' := Lib.hid hok
  clear hl hok
  rcases hv with ⟨rfl, rfl⟩ | ⟨g, cp, hg, hgs, rfl, hcell⟩
  · go_wp2_with fail
    go_loop [8] (fun i => i = .int .i64 0) (fun _ => 0)
    case atStart => rfl
    case round =>
      obtain rfl := hrel
      go_wp2_with fail
      go_ret
      exact ⟨ret_b (by rw [hok'.out]; rfl), belT (by (repeat' (first | with_reducible exact Below.refl _ _ | with_reducible assumption | with_reducible apply Below.setCell | with_reducible apply Below.alloc | with_reducible apply Below.drew | with_reducible apply below_drewN | with_reducible exact Nat.le_refl _ | (simp; done) | (simp; omega) | omega | exact Nat.le_refl _))) hb1⟩
  · have hc := Lib.hid hcell; clear hcell
    go_wp2_with fail
    go_loop [8] (fun i => ∃ j : Nat, j ≤ l.length ∧ i = .int .i64 j ∧ Hid ((l.take j).all nameT = true)) (fun i => l.length - (intOf i).toNat)
    case atStart => exact ⟨0, by omega, rfl, Lib.hid rfl⟩
    case round =>
      obtain ⟨j, hj, rfl, hall⟩ := hrel
      by_cases hlt : j < l.length
      · have hcj := hc.out j hlt
        have htk : Hid ((l.take (j + 1)).all nameT = ((l.take j).all nameT && nameT (l.getD j 0))) := Lib.hid (all_take l nameT j hlt)
        generalize l.getD j 0 = q at hcj htk
        by_cases hq0 : q < 0
        · go_wp2_with fail
          go_ret
          exact ⟨ret_b (by rw [hok'.out]; exact (all_no l nameT (j + 1) (by omega) (by rw [htk.out]; have : nameT q = false := decide_eq_false (by omega); rw [this]; simp)).symm), belT (by (repeat' (first | with_reducible exact Below.refl _ _ | with_reducible assumption | with_reducible apply Below.setCell | with_reducible apply Below.alloc | with_reducible apply Below.drew | with_reducible apply below_drewN | with_reducible exact Nat.le_refl _ | (simp; done) | (simp; omega) | omega | exact Nat.le_refl _))) hb1⟩
        by_cases hq1 : 8192 ≤ q
        · go_wp2_with fail
          go_ret
          exact ⟨ret_b (by rw [hok'.out]; exact (all_no l nameT (j + 1) (by omega) (by rw [htk.out]; have : nameT q = false := decide_eq_false (by omega); rw [this]; simp)).symm), belT (by (repeat' (first | with_reducible exact Below.refl _ _ | with_reducible assumption | with_reducible apply Below.setCell | with_reducible apply Below.alloc | with_reducible apply Below.drew | with_reducible apply below_drewN | with_reducible exact Nat.le_refl _ | (simp; done) | (simp; omega) | omega | exact Nat.le_refl _))) hb1⟩
        · go_wp2_with fail
          go_round
          case rel => exact ⟨j + 1, by omega, by go_num, Lib.hid (by rw [htk.out, hall.out]; exact decide_eq_true (by omega))⟩
          case measure => simp [intOf]; omega
      · go_wp2_with fail
        go_ret
        exact ⟨ret_b (by rw [hok'.out]; have := hall.out; rw [List.take_of_length_le (by omega)] at this; exact this.symm), belT (by (repeat' (first | with_reducible exact Below.refl _ _ | with_reducible assumption | with_reducible apply Below.setCell | with_reducible apply Below.alloc | with_reducible apply Below.drew | with_reducible apply below_drewN | with_reducible exact Nat.le_refl _ | (simp; done) | (simp; omega) | omega | exact Nat.le_refl _))) hb1⟩
end Go.Proofs.Ytnjalpcmjkahkaa
