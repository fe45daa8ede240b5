/- names, children, areNames of package target. -/
import Derived.Test.YtnjalpcmjkahkaaZt1
import Derived.Deep.DeepCutAuto
import Derived.Laws.CopyRow
import Derived.Deep.WholeRow
set_option maxRecDepth 100000
set_option maxHeartbeats 8000000
namespace Go.Proofs.Ytnjalpcmjkahkaa
open Go.RowKit
set_option linter.unusedVariables false
set_option linter.unusedSimpArgs false
def namesT (k n x y z w : Int) : List Int := if k = 0 then [n] else if k = 3 ∨ k = 6 ∨ k = 11 then [x] else if k = 4 then [x, y] else if k = 12 then [x, y, z, w] else []
def IsInts (B : Nat) (w : World) (v : Value) (l : List Int) : Prop :=
 (v = .slice none 0 0 ∧ l = []) ∨ ∃ g c, B ≤ g ∧ g < w.heap.size ∧ v = .slice (some ⟨g, 0, none⟩) l.length c ∧ ∀ i, i < l.length → w.cell? ⟨g, i, none⟩ = some (.int .i64 (l.getD i 0))
theorem lit_cells (W : World) (g : Nat) (l : List Int) (T : TypeId) (hg : g = W.heap.size) {arr : Array Value} (ha : arr = (l.map (Value.int .i64)).toArray) : ∀ i, i < l.length → (W.alloc (.cells arr T)).cell? ⟨g, i, none⟩ = some (.int .i64 (l.getD i 0)) := by
 intro i hi
 subst hg ha
 rw [World.cell?_alloc_new]
 simp [hi]
def NamesPost (k n x y z ww : Int) (w : World) (e : Ending) (w' : World) : Prop := ∃ v, e = .returned v ∧ IsInts w.heap.size w' v (namesT k n x y z ww) ∧ Below w.heap.size w w'
theorem names_any (k a b c n x y z ww : Int) (w : World) :
  Calls Try.prog 36 #[.agg #[.int .i64 k, .int .i64 a, .int .i64 b, .int .i64 c, .int .i64 n, .int .i64 x, .int .i64 y, .int .i64 z, .int .i64 ww]] w (NamesPost k n x y z ww w) := by
 go_enter Try.func36, Try.ntmps36
 have hk : k = 0 ∨ k = 3 ∨ k = 4 ∨ k = 6 ∨ k = 11 ∨ k = 12 ∨ (k ≠ 0 ∧ k ≠ 3 ∧ k ≠ 4 ∧ k ≠ 6 ∧ k ≠ 11 ∧ k ≠ 12) := by omega
 rcases hk with rfl | rfl | rfl | rfl | rfl | rfl | hk
 ·go_wp2_with fail
  go_ret
  refine ⟨_, rfl, .inr ⟨w.heap.size + 1, 1, by omega, by simp, rfl, ?_⟩, by (repeat' (first | (with_reducible first | exact bR _ _ | assumption | apply bS | apply bA | apply bD | apply bN | exact bL _) | (simp; done) | (simp; omega) | omega | exact bL _))⟩
  exact lit_cells _ _ [n] _ (by simp) rfl
 ·go_wp2_with fail
  go_ret
  refine ⟨_, rfl, .inr ⟨w.heap.size + 1, 1, by omega, by simp, rfl, ?_⟩, by (repeat' (first | (with_reducible first | exact bR _ _ | assumption | apply bS | apply bA | apply bD | apply bN | exact bL _) | (simp; done) | (simp; omega) | omega | exact bL _))⟩
  exact lit_cells _ _ [x] _ (by simp) rfl
 ·go_wp2_with fail
  go_ret
  refine ⟨_, rfl, .inr ⟨w.heap.size + 1, 2, by omega, by simp, rfl, ?_⟩, by (repeat' (first | (with_reducible first | exact bR _ _ | assumption | apply bS | apply bA | apply bD | apply bN | exact bL _) | (simp; done) | (simp; omega) | omega | exact bL _))⟩
  exact lit_cells _ _ [x, y] _ (by simp) rfl
 ·go_wp2_with fail
  go_ret
  refine ⟨_, rfl, .inr ⟨w.heap.size + 1, 1, by omega, by simp, rfl, ?_⟩, by (repeat' (first | (with_reducible first | exact bR _ _ | assumption | apply bS | apply bA | apply bD | apply bN | exact bL _) | (simp; done) | (simp; omega) | omega | exact bL _))⟩
  exact lit_cells _ _ [x] _ (by simp) rfl
 ·go_wp2_with fail
  go_ret
  refine ⟨_, rfl, .inr ⟨w.heap.size + 1, 1, by omega, by simp, rfl, ?_⟩, by (repeat' (first | (with_reducible first | exact bR _ _ | assumption | apply bS | apply bA | apply bD | apply bN | exact bL _) | (simp; done) | (simp; omega) | omega | exact bL _))⟩
  exact lit_cells _ _ [x] _ (by simp) rfl
 ·go_wp2_with fail
  go_ret
  refine ⟨_, rfl, .inr ⟨w.heap.size + 1, 4, by omega, by simp, rfl, ?_⟩, by (repeat' (first | (with_reducible first | exact bR _ _ | assumption | apply bS | apply bA | apply bD | apply bN | exact bL _) | (simp; done) | (simp; omega) | omega | exact bL _))⟩
  exact lit_cells _ _ [x, y, z, ww] _ (by simp) rfl
 ·go_wp2_with fail
  go_ret
  refine ⟨_, rfl, .inl ⟨rfl, ?_⟩, by (repeat' (first | (with_reducible first | exact bR _ _ | assumption | apply bS | apply bA | apply bD | apply bN | exact bL _) | (simp; done) | (simp; omega) | omega | exact bL _))⟩
  unfold namesT; (repeat' split) <;> first | (exfalso; omega) | rfl
theorem all_take (l : List Int) (p : Int → Bool) (j : Nat) (h : j < l.length) : (l.take (j + 1)).all p = ((l.take j).all p && p (l.getD j 0)) := by
 rw [List.take_succ_eq_append_getElem h, List.all_append]
 simp [h]
theorem all_no (l : List Int) (p : Int → Bool) (j : Nat) (h : j ≤ l.length) (hn : (l.take j).all p = false) : l.all p = false := by
 cases hc : l.all p
 ·rfl
 ·rw [List.all_eq_true] at hc
  have : (l.take j).all p = true := by
   rw [List.all_eq_true]; intro x hx; exact hc x (List.mem_of_mem_take hx)
  rw [this] at hn; cases hn
def okNames (k n x y z w : Int) : Bool := (namesT k n x y z w).all nameT
theorem areNames_any (k a b c n x y z ww : Int) (w : World) :
  Calls Try.prog 26 #[.agg #[.int .i64 k, .int .i64 a, .int .i64 b, .int .i64 c, .int .i64 n, .int .i64 x, .int .i64 y, .int .i64 z, .int .i64 ww]] w fun e w' => e = .returned (.bool (okNames k n x y z ww)) ∧ Below w.heap.size w w' := by
 go_enter Try.func26, Try.ntmps26
 go_wp2_with fail
 refine (names_any _ _ _ _ _ _ _ _ _ _).mono ?_
 rintro e w1 ⟨v, rfl, hv, hb1⟩
 obtain ⟨l, hl⟩ : ∃ l, namesT k n x y z ww = l := ⟨_, rfl⟩
 have hok : okNames k n x y z ww = l.all nameT := by unfold okNames; rw [hl]
 rw [hl] at hv
 have hlen : l.length ≤ 4 := by rw [← hl]; unfold namesT; (repeat' split) <;> simp
 have hok' := Lib.hid hok
 clear hl hok
 rcases hv with ⟨rfl, rfl⟩ | ⟨g, cp, hg, hgs, rfl, hcell⟩
 ·go_wp2_with fail
  go_loop [8] (fun i => i = .int .i64 0) (fun _ => 0)
  case atStart => rfl
  case round =>
   obtain rfl := hrel
   go_wp2_with fail
   go_ret
   exact ⟨ret_b (by rw [hok'.out]; rfl), belT (by (repeat' (first | (with_reducible first | exact bR _ _ | assumption | apply bS | apply bA | apply bD | apply bN | exact bL _) | (simp; done) | (simp; omega) | omega | exact bL _))) hb1⟩
 ·have hc := Lib.hid hcell; clear hcell
  go_wp2_with fail
  go_loop [8] (fun i => ∃ j : Nat, j ≤ l.length ∧ i = .int .i64 j ∧ Hid ((l.take j).all nameT = true)) (fun i => l.length - (intOf i).toNat)
  case atStart => exact ⟨0, by omega, rfl, Lib.hid rfl⟩
  case round =>
   obtain ⟨j, hj, rfl, hall⟩ := hrel
   by_cases hlt : j < l.length
   ·have hcj := hc.out j hlt
    have htk : Hid ((l.take (j + 1)).all nameT = ((l.take j).all nameT && nameT (l.getD j 0))) := Lib.hid (all_take l nameT j hlt)
    generalize l.getD j 0 = q at hcj htk
    by_cases hq0 : q < 0
    ·go_wp2_with fail
     go_ret
     exact ⟨ret_b (by rw [hok'.out]; exact (all_no l nameT (j + 1) (by omega) (by rw [htk.out]; have : nameT q = false := decide_eq_false (by omega); rw [this]; simp)).symm), belT (by (repeat' (first | (with_reducible first | exact bR _ _ | assumption | apply bS | apply bA | apply bD | apply bN | exact bL _) | (simp; done) | (simp; omega) | omega | exact bL _))) hb1⟩
    by_cases hq1 : 8192 ≤ q
    ·go_wp2_with fail
     go_ret
     exact ⟨ret_b (by rw [hok'.out]; exact (all_no l nameT (j + 1) (by omega) (by rw [htk.out]; have : nameT q = false := decide_eq_false (by omega); rw [this]; simp)).symm), belT (by (repeat' (first | (with_reducible first | exact bR _ _ | assumption | apply bS | apply bA | apply bD | apply bN | exact bL _) | (simp; done) | (simp; omega) | omega | exact bL _))) hb1⟩
    ·go_wp2_with fail
     go_round
     case rel => exact ⟨j + 1, by omega, by go_num, Lib.hid (by rw [htk.out, hall.out]; exact decide_eq_true (by omega))⟩
     case measure => simp [intOf]; omega
   ·go_wp2_with fail
    go_ret
    exact ⟨ret_b (by rw [hok'.out]; have := hall.out; rw [List.take_of_length_le (by omega)] at this; exact this.symm), belT (by (repeat' (first | (with_reducible first | exact bR _ _ | assumption | apply bS | apply bA | apply bD | apply bN | exact bL _) | (simp; done) | (simp; omega) | omega | exact bL _))) hb1⟩
open Go.RowKit
theorem copy_of (W : World) (g : Nat) (l : List Int) (n : Nat) (hn : l.length = n) (h3 : n ≤ 3) (hg : g < W.heap.size) (hc : ∀ i, i < l.length → W.cell? ⟨g, i, none⟩ = some (.int .i64 (l.getD i 0))) (T : TypeId) (G : Nat) (hG : G = W.heap.size) :
  (Builtin.copy_ #[46, 46] 3 #[.slice (some ⟨G, 1, none⟩) 3 3, .slice (some ⟨g, 0, none⟩) n n]).run Try.prog (W.alloc (.cells #[.int .i64 0, .int .i64 0, .int .i64 0, .int .i64 0] T)) =
   .ok (goInt n) (W.alloc (.cells ([Value.int .i64 0] ++ l.map (Value.int .i64) ++ [Value.int .i64 0, .int .i64 0, .int .i64 0, .int .i64 0].drop (1 + n)).toArray T)) := by
 subst hG
 have h := run_copy_row (P := Try.prog) (W.alloc (.cells #[.int .i64 0, .int .i64 0, .int .i64 0, .int .i64 0] T)) 46 46 3 3 W.heap.size 1 3 3 ⟨g, 0, none⟩ n n #[.int .i64 0, .int .i64 0, .int .i64 0, .int .i64 0] T (l.map (Value.int .i64)) Try.underlying46 (by kernel_rfl) (MapKept.heap_alloc W _).1 (by rw [List.length_map, hn]; show n = min n 3; omega) ?_ (by simp; omega) (by simp [Value.oneCell'])
 ·rw [h, World.setRow_alloc_new]
  simp [hn]
 ·intro j v hj
  have hj' : j < l.length := by
   have := List.getElem?_eq_some_iff.1 hj
   simpa using this.1
  have e : (⟨g, 0, none⟩ : Addr).add j = ⟨g, j, none⟩ := by simp [Addr.add]; try omega
  rw [e, World.cell?_alloc_past _ _ _ hg, hc j hj']
  rw [List.getElem?_map, List.getElem?_eq_getElem hj'] at hj
  simp at hj
  rw [← hj]; simp [hj']
def kidV (l : List Int) : Value := .agg #[.int .i64 l.length, .int .i64 (l.getD 0 0), .int .i64 (l.getD 1 0), .int .i64 (l.getD 2 0)]
theorem of1 (g : Nat) (p : Int) (w : World) (hg : g < w.heap.size) (hc : ∀ i, i < [p].length → w.cell? ⟨g, i, none⟩ = some (.int .i64 ([p].getD i 0))) :
  Calls Try.prog 37 #[.slice (some ⟨g, 0, none⟩) 1 1] w fun e w' => e = .returned (kidV [p]) ∧ Below w.heap.size w w' := by
 have hcp := copy_of (w.alloc (.cells #[.int .i64 0, .int .i64 0, .int .i64 0, .int .i64 0] 77)) g [p] 1 rfl (by omega) (by simp; omega) (fun i hi => by rw [World.cell?_alloc_past _ _ _ hg]; exact hc i hi) 77 (w.heap.size + 1) (by simp)
 simp only [List.map_cons, List.map_nil, List.cons_append, List.nil_append, List.drop_succ_cons, List.drop_zero, Nat.reduceAdd, List.append_nil, List.drop_nil] at hcp
 clear hc
 go_enter Try.func37, Try.ntmps37
 go_wp2_with fail
 exact bodyPost_ret (v := kidV [p]) (by simp [results, Try.results37, go_sem, kidV]) rfl ⟨rfl, by (repeat' (first | (with_reducible first | exact bR _ _ | assumption | apply bS | apply bA | apply bD | apply bN | exact bL _) | (simp; done) | (simp; omega) | omega | exact bL _))⟩
theorem of2 (g : Nat) (p q : Int) (w : World) (hg : g < w.heap.size) (hc : ∀ i, i < [p, q].length → w.cell? ⟨g, i, none⟩ = some (.int .i64 ([p, q].getD i 0))) :
  Calls Try.prog 37 #[.slice (some ⟨g, 0, none⟩) 2 2] w fun e w' => e = .returned (kidV [p, q]) ∧ Below w.heap.size w w' := by
 have hcp := copy_of (w.alloc (.cells #[.int .i64 0, .int .i64 0, .int .i64 0, .int .i64 0] 77)) g [p, q] 2 rfl (by omega) (by simp; omega) (fun i hi => by rw [World.cell?_alloc_past _ _ _ hg]; exact hc i hi) 77 (w.heap.size + 1) (by simp)
 simp only [List.map_cons, List.map_nil, List.cons_append, List.nil_append, List.drop_succ_cons, List.drop_zero, Nat.reduceAdd, List.append_nil, List.drop_nil] at hcp
 clear hc
 go_enter Try.func37, Try.ntmps37
 go_wp2_with fail
 exact bodyPost_ret (v := kidV [p, q]) (by simp [results, Try.results37, go_sem, kidV]) rfl ⟨rfl, by (repeat' (first | (with_reducible first | exact bR _ _ | assumption | apply bS | apply bA | apply bD | apply bN | exact bL _) | (simp; done) | (simp; omega) | omega | exact bL _))⟩
theorem of3 (g : Nat) (p q r : Int) (w : World) (hg : g < w.heap.size) (hc : ∀ i, i < [p, q, r].length → w.cell? ⟨g, i, none⟩ = some (.int .i64 ([p, q, r].getD i 0))) :
  Calls Try.prog 37 #[.slice (some ⟨g, 0, none⟩) 3 3] w fun e w' => e = .returned (kidV [p, q, r]) ∧ Below w.heap.size w w' := by
 have hcp := copy_of (w.alloc (.cells #[.int .i64 0, .int .i64 0, .int .i64 0, .int .i64 0] 77)) g [p, q, r] 3 rfl (by omega) (by simp; omega) (fun i hi => by rw [World.cell?_alloc_past _ _ _ hg]; exact hc i hi) 77 (w.heap.size + 1) (by simp)
 simp only [List.map_cons, List.map_nil, List.cons_append, List.nil_append, List.drop_succ_cons, List.drop_zero, Nat.reduceAdd, List.append_nil, List.drop_nil] at hcp
 clear hc
 go_enter Try.func37, Try.ntmps37
 go_wp2_with fail
 exact bodyPost_ret (v := kidV [p, q, r]) (by simp [results, Try.results37, go_sem, kidV]) rfl ⟨rfl, by (repeat' (first | (with_reducible first | exact bR _ _ | assumption | apply bS | apply bA | apply bD | apply bN | exact bL _) | (simp; done) | (simp; omega) | omega | exact bL _))⟩
theorem of0 (w : World) :
  Calls Try.prog 37 #[.slice none 0 0] w fun e w' => e = .returned (kidV []) ∧ Below w.heap.size w w' := by
 have hcp := fun (W : World) (a : Addr) => run_copy_nil (P := Try.prog) W 46 46 3 3 a 3 3 Try.underlying46 (by kernel_rfl)
 go_enter Try.func37, Try.ntmps37
 go_wp2_with fail
 exact bodyPost_ret (v := kidV []) (by simp [results, Try.results37, go_sem, kidV]) rfl ⟨rfl, by (repeat' (first | (with_reducible first | exact bR _ _ | assumption | apply bS | apply bA | apply bD | apply bN | exact bL _) | (simp; done) | (simp; omega) | omega | exact bL _))⟩
theorem kidV_eq (l : List Int) : kidV l = .agg #[.int .i64 l.length, .int .i64 (l.getD 0 0), .int .i64 (l.getD 1 0), .int .i64 (l.getD 2 0)] := rfl
def kidsL (k a b c : Int) : List Int := if k = 3 ∨ k = 4 ∨ k = 9 then [a] else if k = 5 ∨ k = 6 ∨ k = 8 ∨ k = 10 ∨ k = 11 then [a, b] else if k = 7 ∨ k = 12 then [a, b, c] else []
theorem children_any (k a b c n x y z ww : Int) (w : World) :
  Calls Try.prog 29 #[.agg #[.int .i64 k, .int .i64 a, .int .i64 b, .int .i64 c, .int .i64 n, .int .i64 x, .int .i64 y, .int .i64 z, .int .i64 ww]] w fun e w' => e = .returned (kidV (kidsL k a b c)) ∧ Below w.heap.size w w' := by
 go_enter Try.func29, Try.ntmps29
 have hk : (k = 3 ∨ k = 4 ∨ k = 9) ∨ (k = 5 ∨ k = 6 ∨ k = 8 ∨ k = 10 ∨ k = 11) ∨ (k = 7 ∨ k = 12) ∨ (¬ (k = 3 ∨ k = 4 ∨ k = 9) ∧ ¬ (k = 5 ∨ k = 6 ∨ k = 8 ∨ k = 10 ∨ k = 11) ∧ ¬ (k = 7 ∨ k = 12)) := by omega
 rcases hk with hk | hk | hk | ⟨h1, h2, h3⟩
 ·have hkl : Hid (kidsL k a b c = [a]) := Lib.hid (by unfold kidsL; rw [if_pos hk])
  rcases hk with rfl | rfl | rfl
  all_goals
   go_wp2_with fail
   refine (of1 _ _ _ (by simp) (lit_cells _ _ [a] _ (by simp) rfl)).mono ?_
   rintro e w1 ⟨rfl, hb1⟩
   obtain ⟨hc1, hf1⟩ := bcell hb1
   have hz1 : w.heap.size + 1 < w1.heap.size := by have := hb1.size; (try simp at this); omega
   rw [kidV_eq]
   simp only [List.length_cons, List.length_nil, List.getD_cons_zero, List.getD_cons_succ, List.getD_nil, Nat.reduceAdd]
   go_wp2_with fail
   exact bodyPost_ret (v := kidV [a]) (by simp [results, Try.results29, go_sem, kidV, hc1, hf1, hz1]) rfl ⟨by rw [hkl.out], by (repeat' (first | (with_reducible first | exact bR _ _ | assumption | apply bS | apply bA | apply bD | apply bN | exact bL _) | (simp; done) | (simp; omega) | omega | exact bL _)); exact belT (by (repeat' (first | (with_reducible first | exact bR _ _ | assumption | apply bS | apply bA | apply bD | apply bN | exact bL _) | (simp; done) | (simp; omega) | omega | exact bL _))) hb1⟩
 ·have hkl : Hid (kidsL k a b c = [a, b]) := Lib.hid (by unfold kidsL; rw [if_neg (by omega), if_pos hk])
  rcases hk with rfl | rfl | rfl | rfl | rfl
  all_goals
   go_wp2_with fail
   refine (of2 _ _ _ _ (by simp) (lit_cells _ _ [a, b] _ (by simp) rfl)).mono ?_
   rintro e w1 ⟨rfl, hb1⟩
   obtain ⟨hc1, hf1⟩ := bcell hb1
   have hz1 : w.heap.size + 1 < w1.heap.size := by have := hb1.size; (try simp at this); omega
   rw [kidV_eq]
   simp only [List.length_cons, List.length_nil, List.getD_cons_zero, List.getD_cons_succ, List.getD_nil, Nat.reduceAdd]
   go_wp2_with fail
   exact bodyPost_ret (v := kidV [a, b]) (by simp [results, Try.results29, go_sem, kidV, hc1, hf1, hz1]) rfl ⟨by rw [hkl.out], by (repeat' (first | (with_reducible first | exact bR _ _ | assumption | apply bS | apply bA | apply bD | apply bN | exact bL _) | (simp; done) | (simp; omega) | omega | exact bL _)); exact belT (by (repeat' (first | (with_reducible first | exact bR _ _ | assumption | apply bS | apply bA | apply bD | apply bN | exact bL _) | (simp; done) | (simp; omega) | omega | exact bL _))) hb1⟩
 ·have hkl : Hid (kidsL k a b c = [a, b, c]) := Lib.hid (by unfold kidsL; rw [if_neg (by omega), if_neg (by omega), if_pos hk])
  rcases hk with rfl | rfl
  all_goals
   go_wp2_with fail
   refine (of3 _ _ _ _ _ (by simp) (lit_cells _ _ [a, b, c] _ (by simp) rfl)).mono ?_
   rintro e w1 ⟨rfl, hb1⟩
   obtain ⟨hc1, hf1⟩ := bcell hb1
   have hz1 : w.heap.size + 1 < w1.heap.size := by have := hb1.size; (try simp at this); omega
   rw [kidV_eq]
   simp only [List.length_cons, List.length_nil, List.getD_cons_zero, List.getD_cons_succ, List.getD_nil, Nat.reduceAdd]
   go_wp2_with fail
   exact bodyPost_ret (v := kidV [a, b, c]) (by simp [results, Try.results29, go_sem, kidV, hc1, hf1, hz1]) rfl ⟨by rw [hkl.out], by (repeat' (first | (with_reducible first | exact bR _ _ | assumption | apply bS | apply bA | apply bD | apply bN | exact bL _) | (simp; done) | (simp; omega) | omega | exact bL _)); exact belT (by (repeat' (first | (with_reducible first | exact bR _ _ | assumption | apply bS | apply bA | apply bD | apply bN | exact bL _) | (simp; done) | (simp; omega) | omega | exact bL _))) hb1⟩
 ·have hkl : Hid (kidsL k a b c = []) := Lib.hid (by unfold kidsL; rw [if_neg h1, if_neg h2, if_neg h3])
  have e3 : (k == 3) = false := by simp; omega
  have e4 : (k == 4) = false := by simp; omega
  have e9 : (k == 9) = false := by simp; omega
  have e5 : (k == 5) = false := by simp; omega
  have e6 : (k == 6) = false := by simp; omega
  have e8 : (k == 8) = false := by simp; omega
  have e10 : (k == 10) = false := by simp; omega
  have e11 : (k == 11) = false := by simp; omega
  have e7 : (k == 7) = false := by simp; omega
  have e12 : (k == 12) = false := by simp; omega
  clear h1 h2 h3
  go_wp2_with fail
  refine (of0 _).mono ?_
  rintro e w1 ⟨rfl, hb1⟩
  obtain ⟨hc1, hf1⟩ := bcell hb1
  have hz1 : w.heap.size + 1 < w1.heap.size := by have := hb1.size; (try simp at this); omega
  rw [kidV_eq]
  simp only [List.length_cons, List.length_nil, List.getD_cons_zero, List.getD_cons_succ, List.getD_nil, Nat.reduceAdd]
  go_wp2_with fail
  exact bodyPost_ret (v := kidV []) (by simp [results, Try.results29, go_sem, kidV, hc1, hf1, hz1]) rfl ⟨by rw [hkl.out], by (repeat' (first | (with_reducible first | exact bR _ _ | assumption | apply bS | apply bA | apply bD | apply bN | exact bL _) | (simp; done) | (simp; omega) | omega | exact bL _)); exact belT (by (repeat' (first | (with_reducible first | exact bR _ _ | assumption | apply bS | apply bA | apply bD | apply bN | exact bL _) | (simp; done) | (simp; omega) | omega | exact bL _))) hb1⟩
end Go.Proofs.Ytnjalpcmjkahkaa
