/- Contract of SpoilBinds at row binds. -/
import Derived.Test.YtlbopoidjnaokaaDoorRwJ
import Derived.Test.YtlbopoidjnaokaaDoorRwS
namespace Go.Proofs.YtlbopoidjnaokaaDoor
open Go.RowKit
set_option linter.unusedVariables false
set_option linter.unusedSimpArgs false

theorem spoilTy_nil (w : World) : Calls Tryd.prog 37 #[.slice none 0 0] w fun e w' => e = .returned (.tuple #[]) ∧ w = w' := by
  go_enter Tryd.func37, Tryd.ntmps37
  go_wp2_with fail
  go_loop [2] (fun i => i = .int .i64 0) (fun _ => 0)
  case atStart => rfl
  case round =>
    obtain rfl := hrel
    go_wp2_with fail
    go_end0
    exact ⟨rfl, rfl⟩
theorem spoilType_nil (w : World) : Calls Tryd.prog 29 #[.agg #[.slice none 0 0]] w fun e w' => e = .returned (.tuple #[]) ∧ Below w.heap.size w w' := by
  go_enter Tryd.func29, Tryd.ntmps29
  go_wp2_with fail
  refine (spoilTy_nil _).mono ?_
  rintro e w' ⟨rfl, rfl⟩
  go_wp2_with fail
  go_end0
  exact ⟨rfl, by (repeat' (first | with_reducible exact Below.refl _ _ | with_reducible assumption | with_reducible apply Below.setCell | with_reducible apply Below.alloc | with_reducible apply Below.drew | with_reducible apply below_drewN | with_reducible exact Nat.le_refl _ | (simp; done) | (simp; omega) | omega | exact Nat.le_refl _))⟩
theorem spoilBinds0 (a : Option Addr) (w : World) : Calls Tryd.prog 19 #[.slice a 0 0] w fun e w' => e = .returned (.tuple #[]) ∧ w = w' := by
  go_enter Tryd.func19, Tryd.ntmps19
  go_wp2_with fail
  go_loop [2] (fun i => i = .int .i64 0) (fun _ => 0)
  case atStart => rfl
  case round =>
    obtain rfl := hrel
    go_wp2_with fail
    go_end0
    exact ⟨rfl, rfl⟩
def SbI (g n : Nat) (l : List Bd) (w : World) (j : Nat) (wr : World) : Prop := Below g w wr ∧ g < wr.heap.size ∧ (∀ o, wr.frozen? ⟨g, o, none⟩ = false) ∧ ∀ k, j ≤ k → k < n → (wr.cell? ⟨g, k * 8, none⟩ = some (.int .i64 (l.getD k ⟨0, 0, 0, 0, 0, 0⟩).v) ∧ wr.cell? ⟨g, k * 8 + 2, none⟩ = some (.slice none 0 0))
set_option maxHeartbeats 1000000 in
theorem spoilBinds1 (g n : Nat) (l : List Bd) (w : World) (hn : n ≤ 2) (hi : Hid (SbI g n l w 0 w)) :
    Calls Tryd.prog 19 #[.slice (some ⟨g, 0, none⟩) n n] w fun e w' => e = .returned (.tuple #[]) ∧ Below g w w' := by
  go_enter Tryd.func19, Tryd.ntmps19
  go_wp2_with fail
  go_loopw [2] (fun i wr => ∃ j : Nat, j ≤ n ∧ i = .int .i64 j ∧ Hid (SbI g n l w j wr)) (fun i _ => n - (intOf i).toNat)
  case atStart => exact ⟨0, by omega, rfl, hi⟩
  case round =>
    obtain ⟨j, hj, rfl, hI⟩ := hrel
    by_cases hlt : j < n
    · obtain ⟨hc, hc2⟩ := hI.out.2.2.2 j (Nat.le_refl _) hlt
      have hg := hI.out.2.1
      generalize (l.getD j ⟨0, 0, 0, 0, 0, 0⟩).v = t at hc
      have hlt' : (j : Int) < (n : Int) := by omega
      have hj0 : (0 : Int) ≤ (j : Int) := by omega
      go_wp2_with fail
      refine (spoilType_nil _).mono ?_
      rintro e w9 ⟨rfl, hb9⟩
      have hc9 : w9.cell? ⟨g, j * 8, none⟩ = some (.int .i64 t) := carry hb9 hg hc
      have hz : w9.frozen? ⟨g, j * 8, none⟩ = false := by rw [hb9.frozen (p := ⟨g, j * 8, none⟩) hg]; exact hI.out.2.2.1 _
      have hb9' := Lib.hid hb9
      clear hb9 hc hc2
      go_wp2_with fail
      go_roundw
      case rel =>
        refine ⟨j + 1, by omega, by go_num, Lib.hid ⟨(hI.out.1.trans (hb9'.out.mono (by omega))).setCell (Nat.le_refl _) _, ?_, ?_, ?_⟩⟩
        · have := hb9'.out.size; simp; omega
        · intro o
          rw [show (w9.setCell ⟨g, j * 8, none⟩ _).frozen? ⟨g, o, none⟩ = w9.frozen? ⟨g, o, none⟩ from by simp [go_sem], hb9'.out.frozen (p := ⟨g, o, none⟩) hg]
          exact hI.out.2.2.1 _
        · intro k hk1 hk2
          obtain ⟨q1, q2⟩ := hI.out.2.2.2 k (by omega) hk2
          rw [World.cell?_setCell_other _ _ _ _ (by intro e; injection e with _ e2; omega), World.cell?_setCell_other _ _ _ _ (by intro e; injection e with _ e2; omega)]
          exact ⟨carry hb9'.out hg q1, carry hb9'.out hg q2⟩
      case measure => simp [intOf]; omega
    · go_wp2_with fail
      go_end0
      exact ⟨rfl, hI.out.1⟩
theorem bdsJs_below {B : Nat} {w w1 : World} {v : Value} {l : List Bd} (h : BdsJs B w v l) (hb : Below w.heap.size w w1) : BdsJs B w1 v l := by
  rcases h with h | ⟨g, h1, h2, h3, h4⟩
  · exact .inl h
  · exact .inr ⟨g, h1, ⟨by have := hb.size; omega, fun o => by rw [hb.frozen (p := ⟨g, o, none⟩) h2.1]; exact h2.2 o⟩, h3, fun i hi => bdAt_below (h4 i hi) hb h2.1⟩
theorem spoilBinds_any {B : Nat} {v : Value} {l : List Bd} (w : World) (h : BdsJs B w v l) (hl : l.length ≤ 2) :
    Calls Tryd.prog 19 #[v] w fun e w' => e = .returned (.tuple #[]) ∧ Below B w w' := by
  rcases h with ⟨rfl, rfl⟩ | ⟨g, h1, h2, rfl, h4⟩
  · exact (spoilBinds0 _ w).mono fun e w' ⟨he, hw⟩ => ⟨he, by subst hw; exact Below.refl _ _⟩
  · refine (spoilBinds1 g l.length l w hl (Lib.hid ⟨Below.refl _ _, h2.1, h2.2, fun k _ hk => ⟨(h4 k hk).1, (h4 k hk).2.2.1⟩⟩)).mono ?_
    rintro e w' ⟨rfl, hb⟩
    exact ⟨rfl, hb.mono h1⟩
end Go.Proofs.YtlbopoidjnaokaaDoor
