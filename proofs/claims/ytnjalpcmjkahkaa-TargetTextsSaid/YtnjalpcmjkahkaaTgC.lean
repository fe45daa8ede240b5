/- children of package target. -/
import Derived.Test.YtnjalpcmjkahkaaTgB
import Derived.Laws.CopyRow
import Derived.Deep.WholeRow
namespace Go.Proofs.Ytnjalpcmjkahkaa
open Go.RowKit
set_option linter.unusedVariables false
set_option linter.unusedSimpArgs false

theorem copy_of (W : World) (g : Nat) (l : List Int) (n : Nat) (hn : l.length = n) (h3 : n ≤ 3) (hg : g < W.heap.size) (hc : ∀ i, i < l.length → W.cell? ⟨g, i, none⟩ = some (.int .i64 (l.getD i 0))) (T : TypeId) (G : Nat) (hG : G = W.heap.size) :
    (Builtin.copy_ #[46, 46] 3 #[.slice (some ⟨G, 1, none⟩) 3 3, .slice (some ⟨g, 0, none⟩) n n]).run Try.prog (W.alloc (.cells #[.int .i64 0, .int .i64 0, .int .i64 0, .int .i64 0] T)) =
      .ok (goInt n) (W.alloc (.cells ([Value.int .i64 0] ++ l.map (Value.int .i64) ++ [Value.int .i64 0, .int .i64 0, .int .i64 0, .int .i64 0].drop (1 + n)).toArray T)) := by
  subst hG
  have h := run_copy_row (P := Try.prog) (W.alloc (.cells #[.int .i64 0, .int .i64 0, .int .i64 0, .int .i64 0] T)) 46 46 3 3 W.heap.size 1 3 3 ⟨g, 0, none⟩ n n #[.int .i64 0, .int .i64 0, .int .i64 0, .int .i64 0] T (l.map (Value.int .i64)) Try.underlying46 (by kernel_rfl) (MapKept.heap_alloc W _).1 (by rw [List.length_map, hn]; show n = min n 3; omega) ?_ (by simp; omega) (by simp [Value.oneCell'])
  · rw [h, World.setRow_alloc_new]
    simp [hn]
  · intro j v hj
    have hj' : j < l.length := by
      have := List.getElem?_eq_some_iff.1 hj
      simpa using this.1
    have e : (⟨g, 0, none⟩ : Addr).add j = ⟨g, j, none⟩ := by simp [Addr.add]; try omega
    rw [e, World.cell?_alloc_past _ _ _ hg, hc j hj']
    rw [List.getElem?_map, List.getElem?_eq_getElem hj'] at hj
    simp at hj
    rw [← hj]; simp [hj']
def kidV (l : List Int) : Value := .agg #[.int .i64 l.length, .int .i64 (l.getD 0 0), .int .i64 (l.getD 1 0), .int .i64 (l.getD 2 0)]

set_option maxHeartbeats 400000 in
theorem of1 (g : Nat) (p : Int) (w : World) (hg : g < w.heap.size) (hc : ∀ i, i < [p].length → w.cell? ⟨g, i, none⟩ = some (.int .i64 ([p].getD i 0))) :
    Calls Try.prog 37 #[.slice (some ⟨g, 0, none⟩) 1 1] w fun e w' => e = .returned (kidV [p]) ∧ Below w.heap.size w w' := by
  have hcp := copy_of (w.alloc (.cells #[.int .i64 0, .int .i64 0, .int .i64 0, .int .i64 0] 77)) g [p] 1 rfl (by omega) (by simp; omega) (fun i hi => by rw [World.cell?_alloc_past _ _ _ hg]; exact hc i hi) 77 (w.heap.size + 1) (by simp)
  simp only [List.map_cons, List.map_nil, List.cons_append, List.nil_append, List.drop_succ_cons, List.drop_zero, Nat.reduceAdd, List.append_nil, List.drop_nil] at hcp
  clear hc
  go_enter Try.func37, Try.ntmps37
  go_wp2_with fail
  exact bodyPost_ret (v := kidV [p]) (by simp [results, Try.results37, go_sem, kidV]) rfl ⟨rfl, by (repeat' (first | with_reducible exact Below.refl _ _ | with_reducible assumption | with_reducible apply Below.setCell | with_reducible apply Below.alloc | with_reducible apply Below.drew | with_reducible apply below_drewN | with_reducible exact Nat.le_refl _ | (simp; done) | (simp; omega) | omega | exact Nat.le_refl _))⟩
set_option maxHeartbeats 400000 in
theorem of2 (g : Nat) (p q : Int) (w : World) (hg : g < w.heap.size) (hc : ∀ i, i < [p, q].length → w.cell? ⟨g, i, none⟩ = some (.int .i64 ([p, q].getD i 0))) :
    Calls Try.prog 37 #[.slice (some ⟨g, 0, none⟩) 2 2] w fun e w' => e = .returned (kidV [p, q]) ∧ Below w.heap.size w w' := by
  have hcp := copy_of (w.alloc (.cells #[.int .i64 0, .int .i64 0, .int .i64 0, .int .i64 0] 77)) g [p, q] 2 rfl (by omega) (by simp; omega) (fun i hi => by rw [World.cell?_alloc_past _ _ _ hg]; exact hc i hi) 77 (w.heap.size + 1) (by simp)
  simp only [List.map_cons, List.map_nil, List.cons_append, List.nil_append, List.drop_succ_cons, List.drop_zero, Nat.reduceAdd, List.append_nil, List.drop_nil] at hcp
  clear hc
  go_enter Try.func37, Try.ntmps37
  go_wp2_with fail
  exact bodyPost_ret (v := kidV [p, q]) (by simp [results, Try.results37, go_sem, kidV]) rfl ⟨rfl, by (repeat' (first | with_reducible exact Below.refl _ _ | with_reducible assumption | with_reducible apply Below.setCell | with_reducible apply Below.alloc | with_reducible apply Below.drew | with_reducible apply below_drewN | with_reducible exact Nat.le_refl _ | (simp; done) | (simp; omega) | omega | exact Nat.le_refl _))⟩
set_option maxHeartbeats 400000 in
theorem of3 (g : Nat) (p q r : Int) (w : World) (hg : g < w.heap.size) (hc : ∀ i, i < [p, q, r].length → w.cell? ⟨g, i, none⟩ = some (.int .i64 ([p, q, r].getD i 0))) :
    Calls Try.prog 37 #[.slice (some ⟨g, 0, none⟩) 3 3] w fun e w' => e = .returned (kidV [p, q, r]) ∧ Below w.heap.size w w' := by
  have hcp := copy_of (w.alloc (.cells #[.int .i64 0, .int .i64 0, .int .i64 0, .int .i64 0] 77)) g [p, q, r] 3 rfl (by omega) (by simp; omega) (fun i hi => by rw [World.cell?_alloc_past _ _ _ hg]; exact hc i hi) 77 (w.heap.size + 1) (by simp)
  simp only [List.map_cons, List.map_nil, List.cons_append, List.nil_append, List.drop_succ_cons, List.drop_zero, Nat.reduceAdd, List.append_nil, List.drop_nil] at hcp
  clear hc
  go_enter Try.func37, Try.ntmps37
  go_wp2_with fail
  exact bodyPost_ret (v := kidV [p, q, r]) (by simp [results, Try.results37, go_sem, kidV]) rfl ⟨rfl, by (repeat' (first | with_reducible exact Below.refl _ _ | with_reducible assumption | with_reducible apply Below.setCell | with_reducible apply Below.alloc | with_reducible apply Below.drew | with_reducible apply below_drewN | with_reducible exact Nat.le_refl _ | (simp; done) | (simp; omega) | omega | exact Nat.le_refl _))⟩
set_option maxHeartbeats 400000 in
theorem of0 (w : World) :
    Calls Try.prog 37 #[.slice none 0 0] w fun e w' => e = .returned (kidV []) ∧ Below w.heap.size w w' := by
  have hcp := fun (W : World) (a : Addr) => run_copy_nil (P := Try.prog) W 46 46 3 3 a 3 3 Try.underlying46 (by kernel_rfl)
  go_enter Try.func37, Try.ntmps37
  go_wp2_with fail
  exact bodyPost_ret (v := kidV []) (by simp [results, Try.results37, go_sem, kidV]) rfl ⟨rfl, by (repeat' (first | with_reducible exact Below.refl _ _ | with_reducible assumption | with_reducible apply Below.setCell | with_reducible apply Below.alloc | with_reducible apply Below.drew | with_reducible apply below_drewN | with_reducible exact Nat.le_refl _ | (simp; done) | (simp; omega) | omega | exact Nat.le_refl _))⟩

theorem kidV_eq (l : List Int) : kidV l = .agg #[.int .i64 l.length, .int .i64 (l.getD 0 0), .int .i64 (l.getD 1 0), .int .i64 (l.getD 2 0)] := rfl

def kidsL (k a b c : Int) : List Int := if k = 3 ∨ k = 4 ∨ k = 9 then [a] else if k = 5 ∨ k = 6 ∨ k = 8 ∨ k = 10 ∨ k = 11 then [a, b] else if k = 7 ∨ k = 12 then [a, b, c] else []

set_option maxHeartbeats 2000000 in
theorem children_any (k a b c n x y z ww : Int) (w : World) :
    Calls Try.prog 29 #[.agg #[.int .i64 k, .int .i64 a, .int .i64 b, .int .i64 c, .int .i64 n, .int .i64 x, .int .i64 y, .int .i64 z, .int .i64 ww]] w fun e w' => e = .returned (kidV (kidsL k a b c)) ∧ Below w.heap.size w w' := by
  go_enter Try.func29, Try.ntmps29
  have hk : (k = 3 ∨ k = 4 ∨ k = 9) ∨ (k = 5 ∨ k = 6 ∨ k = 8 ∨ k = 10 ∨ k = 11) ∨ (k = 7 ∨ k = 12) ∨ (¬ (k = 3 ∨ k = 4 ∨ k = 9) ∧ ¬ (k = 5 ∨ k = 6 ∨ k = 8 ∨ k = 10 ∨ k = 11) ∧ ¬ (k = 7 ∨ k = 12)) := by omega
  rcases hk with hk | hk | hk | ⟨h1, h2, h3⟩
  · have hkl : Hid (kidsL k a b c = [a]) := Lib.hid (by unfold kidsL; rw [if_pos hk])
    rcases hk with rfl | rfl | rfl
    all_goals
      go_wp2_with fail
      refine (of1 _ _ _ (by simp) (lit_cells _ _ [a] _ (by simp) rfl)).mono ?_
      rintro e w1 ⟨rfl, hb1⟩
      obtain ⟨hc1, hf1⟩ := bcell hb1
      have hz1 : w.heap.size + 1 < w1.heap.size := by have := hb1.size; (try simp at this); omega
      rw [kidV_eq]
      simp only [List.length_cons, List.length_nil, List.getD_cons_zero, List.getD_cons_succ, List.getD_nil, Nat.reduceAdd]
      go_wp2_with fail
      exact bodyPost_ret (v := kidV [a]) (by simp [results, Try.results29, go_sem, kidV, hc1, hf1, hz1]) rfl ⟨by rw [hkl.out], by (repeat' (first | with_reducible exact Below.refl _ _ | with_reducible assumption | with_reducible apply Below.setCell | with_reducible apply Below.alloc | with_reducible apply Below.drew | with_reducible apply below_drewN | with_reducible exact Nat.le_refl _ | (simp; done) | (simp; omega) | omega | exact Nat.le_refl _)); exact belT (by (repeat' (first | with_reducible exact Below.refl _ _ | with_reducible assumption | with_reducible apply Below.setCell | with_reducible apply Below.alloc | with_reducible apply Below.drew | with_reducible apply below_drewN | with_reducible exact Nat.le_refl _ | (simp; done) | (simp; omega) | omega | exact Nat.le_refl _))) hb1⟩
  · have hkl : Hid (kidsL k a b c = [a, b]) := Lib.hid (by unfold kidsL; rw [if_neg (by omega), if_pos hk])
    rcases hk with rfl | rfl | rfl | rfl | rfl
    all_goals
      go_wp2_with fail
      refine (of2 _ _ _ _ (by simp) (lit_cells _ _ [a, b] _ (by simp) rfl)).mono ?_
      rintro e w1 ⟨rfl, hb1⟩
      obtain ⟨hc1, hf1⟩ := bcell hb1
      have hz1 : w.heap.size + 1 < w1.heap.size := by have := hb1.size; (try simp at this); omega
      rw [kidV_eq]
      simp only [List.length_cons, List.length_nil, List.getD_cons_zero, List.getD_cons_succ, List.getD_nil, Nat.reduceAdd]
      go_wp2_with fail
      exact bodyPost_ret (v := kidV [a, b]) (by simp [results, Try.results29, go_sem, kidV, hc1, hf1, hz1]) rfl ⟨by rw [hkl.out], by (repeat' (first | with_reducible exact Below.refl _ _ | with_reducible assumption | with_reducible apply Below.setCell | with_reducible apply Below.alloc | with_reducible apply Below.drew | with_reducible apply below_drewN | with_reducible exact Nat.le_refl _ | (simp; done) | (simp; omega) | omega | exact Nat.le_refl _)); exact belT (by (repeat' (first | with_reducible exact Below.refl _ _ | with_reducible assumption | with_reducible apply Below.setCell | with_reducible apply Below.alloc | with_reducible apply Below.drew | with_reducible apply below_drewN | with_reducible exact Nat.le_refl _ | (simp; done) | (simp; omega) | omega | exact Nat.le_refl _))) hb1⟩
  · have hkl : Hid (kidsL k a b c = [a, b, c]) := Lib.hid (by unfold kidsL; rw [if_neg (by omega), if_neg (by omega), if_pos hk])
    rcases hk with rfl | rfl
    all_goals
      go_wp2_with fail
      refine (of3 _ _ _ _ _ (by simp) (lit_cells _ _ [a, b, c] _ (by simp) rfl)).mono ?_
      rintro e w1 ⟨rfl, hb1⟩
      obtain ⟨hc1, hf1⟩ := bcell hb1
      have hz1 : w.heap.size + 1 < w1.heap.size := by have := hb1.size; (try simp at this); omega
      rw [kidV_eq]
      simp only [List.length_cons, List.length_nil, List.getD_cons_zero, List.getD_cons_succ, List.getD_nil, Nat.reduceAdd]
      go_wp2_with fail
      exact bodyPost_ret (v := kidV [a, b, c]) (by simp [results, Try.results29, go_sem, kidV, hc1, hf1, hz1]) rfl ⟨by rw [hkl.out], by (repeat' (first | with_reducible exact Below.refl _ _ | with_reducible assumption | with_reducible apply Below.setCell | with_reducible apply Below.alloc | with_reducible apply Below.drew | with_reducible apply below_drewN | with_reducible exact Nat.le_refl _ | (simp; done) | (simp; omega) | omega | exact Nat.le_refl _)); exact belT (by (repeat' (first | with_reducible exact Below.refl _ _ | with_reducible assumption | with_reducible apply Below.setCell | with_reducible apply Below.alloc | with_reducible apply Below.drew | with_reducible apply below_drewN | with_reducible exact Nat.le_refl _ | (simp; done) | (simp; omega) | omega | exact Nat.le_refl _))) hb1⟩
  · have hkl : Hid (kidsL k a b c = []) := Lib.hid (by unfold kidsL; rw [if_neg h1, if_neg h2, if_neg h3])
    have e3 : (k == 3) = false := by simp; omega
    have e4 : (k == 4) = false := by simp; omega
    have e9 : (k == 9) = false := by simp; omega
    have e5 : (k == 5) = false := by simp; omega
    have e6 : (k == 6) = false := by simp; omega
    have e8 : (k == 8) = false := by simp; omega
    have e10 : (k == 10) = false := by simp; omega
    have e11 : (k == 11) = false := by simp; omega
    have e7 : (k == 7) = false := by simp; omega
    have e12 : (k == 12) = false := by simp; omega
    clear h1 h2 h3
    go_wp2_with fail
    refine (of0 _).mono ?_
    rintro e w1 ⟨rfl, hb1⟩
    obtain ⟨hc1, hf1⟩ := bcell hb1
    have hz1 : w.heap.size + 1 < w1.heap.size := by have := hb1.size; (try simp at this); omega
    rw [kidV_eq]
    simp only [List.length_cons, List.length_nil, List.getD_cons_zero, List.getD_cons_succ, List.getD_nil, Nat.reduceAdd]
    go_wp2_with fail
    exact bodyPost_ret (v := kidV []) (by simp [results, Try.results29, go_sem, kidV, hc1, hf1, hz1]) rfl ⟨by rw [hkl.out], by (repeat' (first | with_reducible exact Below.refl _ _ | with_reducible assumption | with_reducible apply Below.setCell | with_reducible apply Below.alloc | with_reducible apply Below.drew | with_reducible apply below_drewN | with_reducible exact Nat.le_refl _ | (simp; done) | (simp; omega) | omega | exact Nat.le_refl _)); exact belT (by (repeat' (first | with_reducible exact Below.refl _ _ | with_reducible assumption | with_reducible apply Below.setCell | with_reducible apply Below.alloc | with_reducible apply Below.drew | with_reducible apply below_drewN | with_reducible exact Nat.le_refl _ | (simp; done) | (simp; omega) | omega | exact Nat.le_refl _))) hb1⟩
end Go.Proofs.Ytnjalpcmjkahkaa
