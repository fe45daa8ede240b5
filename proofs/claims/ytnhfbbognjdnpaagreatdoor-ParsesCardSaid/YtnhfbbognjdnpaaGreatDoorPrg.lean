/- Programs lent and kept; nodes written over. -/
import Derived.Test.YtnhfbbognjdnpaaGreatDoorNdO
import Derived.Test.YtnhfbbognjdnpaaGreatDoorNaH
import Derived.Deep.RegionHeld3
namespace Go.Proofs.YtnhfbbognjdnpaaGreatDoor
open Go.RowKit
set_option linter.unusedVariables false
set_option linter.unusedSimpArgs false

theorem allR_self {f : Nd → Nd → Bool} (hf : ∀ t, f t t = true) (l : List Nd) (n : Nat) : allR f l l n = true := by
  unfold allR; rw [List.all_eq_true]; intro j _; exact hf _
theorem sameV_self {f : Nd → Nd → Bool} (hf : ∀ t, f t t = true) (l : List Nd) : sameV f l l = true := by
  unfold sameV; rw [allR_self hf, decide_eq_true rfl]; rfl
theorem ndE_self (t : Nd) : ndE t t = true := by unfold ndE ndQ; simp
theorem ndS_self (t : Nd) : ndS t t = true := by unfold ndS ndQ; simp
theorem sameVO_self (l : List Or) : sameVO orE l l = true := by
  unfold sameVO allRO
  rw [decide_eq_true rfl, Bool.true_and, List.all_eq_true]
  intro j _; unfold orE orQ; simp
theorem mkE : ndQ 0 0 0 0 0 ⟨#[]⟩ ⟨#[]⟩ ⟨#[]⟩ ⟨#[]⟩ 77777 0 0 0 0 0 ⟨#[]⟩ ⟨#[]⟩ ⟨#[]⟩ ⟨#[]⟩ 77777 = true := by unfold ndQ; simp
theorem mkO : orQ ⟨#[]⟩ 0 77777 ⟨#[]⟩ 0 77777 = true := by unfold orQ; simp

theorem spoilN_nil (w : World) : Calls Tryz.prog 25 #[.slice none 0 0] w fun e w' => e = .returned (.tuple #[]) ∧ w = w' := by
  go_enter Tryz.func25, Tryz.ntmps25
  go_wp2_with fail
  go_loop [2] (fun i => i = .int .i64 0) (fun _ => 0)
  case atStart => rfl
  case round =>
    obtain rfl := hrel
    go_wp2_with fail
    go_end0
    exact ⟨rfl, rfl⟩
set_option maxHeartbeats 1000000 in
theorem spoilN_sl (g cp : Nat) (l : List Nd) (w : World) (h : Hid (NdSl w g 0 l)) (hf : Hid (∀ o, w.frozen? ⟨g, o, none⟩ = false)) (hl : l.length ≤ 1099511627776) :
    Calls Tryz.prog 25 #[.slice (some ⟨g, 0, none⟩) l.length cp] w fun e w' => e = .returned (.tuple #[]) ∧ Below g w w' ∧ Only g w w' := by
  go_enter Tryz.func25, Tryz.ntmps25
  go_wp2_with fail
  go_loopw [2] (fun i wr => ∃ j : Nat, j ≤ l.length ∧ i = .int .i64 j ∧ Hid (Below g w wr ∧ Only g w wr ∧ ∀ k, j ≤ k → k < l.length → wr.cell? ⟨g, k * 10 + 9, none⟩ = some (.int .i64 (l.getD k nd0).p))) (fun i _ => l.length - (intOf i).toNat)
  case atStart => exact ⟨0, by omega, rfl, Lib.hid ⟨Below.refl _ _, Only.refl _ _, fun k _ hk => by have := (h.out k hk).2.2.2.2.2.2.2.2.2; simpa using this⟩⟩
  case round =>
    obtain ⟨j, hj, rfl, hI⟩ := hrel
    by_cases hlt : j < l.length
    · have hc := hI.out.2.2 j (Nat.le_refl _) hlt
      have hz : wr.frozen? ⟨g, j * 10 + 9, none⟩ = false := by rw [hI.out.2.1.2.2]; exact hf.out _
      generalize (l.getD j nd0).p = t at hc
      have hlt' : (j : Int) < (l.length : Int) := by omega
      have hj0 : (0 : Int) ≤ (j : Int) := by omega
      go_wp2_with fail
      go_roundw
      case rel =>
        refine ⟨j + 1, by omega, by go_num, Lib.hid ⟨hI.out.1.setCell (Nat.le_refl _) _, hI.out.2.1.set _, fun k hk hk2 => ?_⟩⟩
        rw [World.cell?_setCell_other _ _ _ _ (by intro e; injection e with _ e2; simp at e2; omega)]
        exact hI.out.2.2 k (by omega) hk2
      case measure => simp [intOf]; omega
    · go_wp2_with fail
      go_end0
      exact ⟨rfl, hI.out.1, hI.out.2.1⟩
end Go.Proofs.YtnhfbbognjdnpaaGreatDoor
