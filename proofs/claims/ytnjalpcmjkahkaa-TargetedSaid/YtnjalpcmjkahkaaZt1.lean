/- Target nodes as plain data; contracts of the small functions of layer 19. -/
import Derived.Test.YtnjalpcmjkahkaaZt0
import Derived.Test.YtnjalpcmjkahkaaChecked
import Derived.WalkKit
import Derived.ProofKit
import Derived.Below
import Derived.Lib.Hide
import Derived.IntWalk
import Derived.Outline
import Derived.BigQuiet
import Derived.RegionTactic
import Derived.BigRegion
import Derived.Deep.QuietTactic
set_option maxRecDepth 100000
set_option maxHeartbeats 8000000
namespace Go.Proofs.Ytnjalpcmjkahkaa
open Go.RowKit
set_option linter.unusedVariables false
set_option linter.unusedSimpArgs false
structure Tg where
 k : Int
 a : Int
 b : Int
 c : Int
 n : Int
 x : Int
 y : Int
 z : Int
 w : Int
 deriving DecidableEq
def Tg.val (t : Tg) : Value := .agg #[.int .i64 t.k, .int .i64 t.a, .int .i64 t.b, .int .i64 t.c, .int .i64 t.n, .int .i64 t.x, .int .i64 t.y, .int .i64 t.z, .int .i64 t.w]
theorem bcell {W w1 : World} (hb : Below W.heap.size W w1) : (∀ b o, b < W.heap.size → w1.cell? ⟨b, o, none⟩ = W.cell? ⟨b, o, none⟩) ∧ (∀ b o, b < W.heap.size → w1.frozen? ⟨b, o, none⟩ = W.frozen? ⟨b, o, none⟩) :=
 ⟨fun b o h => hb.cell (p := ⟨b, o, none⟩) h, fun b o h => hb.frozen (p := ⟨b, o, none⟩) h⟩
theorem belT {a b c : World} (h : Below a.heap.size a b) (k : Below b.heap.size b c) : Below a.heap.size a c := h.trans (k.mono h.size)
theorem ret_i {k : IntKind} {a b : Int} (h : a = b) : Ending.returned (.int k a) = .returned (.int k b) := by rw [h]
theorem ret_b {a b : Bool} (h : a = b) : Ending.returned (.bool a) = .returned (.bool b) := by rw [h]
def kidsT (k : Int) : Int := if k = 3 ∨ k = 4 ∨ k = 9 then 1 else if k = 5 ∨ k = 6 ∨ k = 8 ∨ k = 10 ∨ k = 11 then 2 else if k = 7 ∨ k = 12 then 3 else if k = 0 ∨ k = 1 ∨ k = 2 then 0 else -1
theorem tkids_any (k : Int) (w : World) :
  Calls Try.prog 40 #[.int .i64 k] w fun e w' => e = .returned (.int .i64 (kidsT k)) ∧ w = w' := by
 go_enter Try.func40, Try.ntmps40
 go_wp2_with fail
 all_goals go_ret
 all_goals exact ⟨ret_i (by unfold kidsT; (try simp only [beq_iff_eq, beq_eq_false_iff_ne, bne_iff_ne, decide_eq_true_eq, decide_eq_false_iff_not] at *); (repeat' split) <;> omega), rfl⟩
def nameT (x : Int) : Bool := decide (0 ≤ x ∧ x < 8192)
theorem name_any (x : Int) (w : World) :
  Calls Try.prog 41 #[.int .i64 x] w fun e w' => e = .returned (.bool (nameT x)) ∧ w = w' := by
 go_enter Try.func41, Try.ntmps41
 go_wp2_with fail
 all_goals go_ret
 all_goals exact ⟨ret_b (by unfold nameT; (try simp only [beq_iff_eq, beq_eq_false_iff_ne, bne_iff_ne, ne_eq] at *); (first | rfl | exact decide_eq_decide.2 (by omega) | exact (decide_eq_false (by omega)).symm | exact (decide_eq_true (by omega)).symm | (rw [Bool.eq_iff_iff]; simp; omega))), rfl⟩
def numT (k n : Int) : Bool := decide ((k = 1 → 0 ≤ n ∧ n ≤ 1073741823) ∧ (k = 2 → n = 0 ∨ n = 1) ∧ (k = 8 → 0 ≤ n ∧ n ≤ 5) ∧ (k = 10 ∨ k = 12 → 0 ≤ n ∧ n < 4))
def plainT (k a b c n x y z w : Int) : Bool :=
 if k = 0 ∨ k = 1 ∨ k = 2 then decide (a = 0 ∧ b = 0 ∧ c = 0 ∧ x = 0 ∧ y = 0 ∧ z = 0 ∧ w = 0)
 else if k = 3 then decide (b = 0 ∧ c = 0 ∧ n = 0 ∧ y = 0 ∧ z = 0 ∧ w = 0)
 else if k = 4 then decide (b = 0 ∧ c = 0 ∧ n = 0 ∧ z = 0 ∧ w = 0)
 else if k = 5 then decide (c = 0 ∧ n = 0 ∧ x = 0 ∧ y = 0 ∧ z = 0 ∧ w = 0)
 else if k = 6 ∨ k = 11 then decide (c = 0 ∧ n = 0 ∧ y = 0 ∧ z = 0 ∧ w = 0)
 else if k = 7 then decide (n = 0 ∧ x = 0 ∧ y = 0 ∧ z = 0 ∧ w = 0)
 else if k = 8 ∨ k = 10 then decide (c = 0 ∧ x = 0 ∧ y = 0 ∧ z = 0 ∧ w = 0)
 else if k = 9 then decide (b = 0 ∧ c = 0 ∧ n = 0 ∧ x = 0 ∧ y = 0 ∧ z = 0 ∧ w = 0)
 else decide (k = 12)
theorem isNum_any (k a b c n x y z ww : Int) (w : World) :
  Calls Try.prog 25 #[.agg #[.int .i64 k, .int .i64 a, .int .i64 b, .int .i64 c, .int .i64 n, .int .i64 x, .int .i64 y, .int .i64 z, .int .i64 ww]] w fun e w' => e = .returned (.bool (numT k n)) ∧ Below w.heap.size w w' := by
 go_enter Try.func25, Try.ntmps25
 go_wp2_with fail
 all_goals go_ret
 all_goals exact ⟨ret_b (by unfold numT; (try simp only [beq_iff_eq, beq_eq_false_iff_ne, bne_iff_ne, ne_eq] at *); (first | rfl | exact decide_eq_decide.2 (by omega) | exact (decide_eq_false (by omega)).symm | exact (decide_eq_true (by omega)).symm | (rw [Bool.eq_iff_iff]; simp; omega))), by (repeat' (first | (with_reducible first | exact bR _ _ | assumption | apply bS | apply bA | apply bD | apply bN | exact bL _) | (simp; done) | (simp; omega) | omega | exact bL _))⟩
def bgK (g : Nat → Int) : List Int → Int → Int
 | [], k => k
 | c :: cs, k => if c = k - 1 ∧ 1 ≤ k then (if g (k - 1).toNat < 0 then -1 else bgK g cs (g (k - 1).toNat)) else -1
def bgF (ks : Nat → List Int) : Nat → Nat → Int
 | 0, _ => -1
 | f + 1, i => bgK (bgF ks f) (ks i).reverse i
def bg (ks : Nat → List Int) (i : Nat) : Int := bgF ks (i + 1) i
theorem bgK_le (g : Nat → Int) (hg : ∀ j, g j ≤ j) : ∀ (cs : List Int) (k : Int), 0 ≤ k → bgK g cs k ≤ k := by
 intro cs
 induction cs with
 | nil => intro k _; exact Int.le_refl k
 | cons c cs ih =>
  intro k hk
  unfold bgK
  by_cases h1 : c = k - 1 ∧ 1 ≤ k
  ·rw [if_pos h1]
   have hgk := hg (k - 1).toNat
   by_cases h2 : g (k - 1).toNat < 0
   ·rw [if_pos h2]; omega
   ·rw [if_neg h2]
    have := ih (g (k - 1).toNat) (by omega)
    omega
  ·rw [if_neg h1]; omega
theorem bgK_congr (g h : Nat → Int) (hg : ∀ j, g j ≤ j) : ∀ (cs : List Int) (k : Int), (∀ j : Nat, (j : Int) < k → g j = h j) → bgK g cs k = bgK h cs k := by
 intro cs
 induction cs with
 | nil => intro k _; rfl
 | cons c cs ih =>
  intro k hk
  unfold bgK
  by_cases h1 : c = k - 1 ∧ 1 ≤ k
  ·rw [if_pos h1, if_pos h1, ← hk (k - 1).toNat (by omega)]
   have hgk := hg (k - 1).toNat
   by_cases h2 : g (k - 1).toNat < 0
   ·rw [if_pos h2, if_pos h2]
   ·rw [if_neg h2, if_neg h2]
    exact ih _ (fun j hj => hk j (by omega))
  ·rw [if_neg h1, if_neg h1]
theorem bgF_le (ks : Nat → List Int) : ∀ (f i : Nat), bgF ks f i ≤ i := by
 intro f
 induction f with
 | zero => intro i; unfold bgF; omega
 | succ f ih => intro i; unfold bgF; exact bgK_le _ ih _ _ (by omega)
theorem bgF_fuel (ks : Nat → List Int) : ∀ (f i g : Nat), i < f → i < g → bgF ks f i = bgF ks g i := by
 intro f
 induction f with
 | zero => intro i g h; omega
 | succ f ih =>
  intro i g h1 h2
  cases g with
  | zero => omega
  | succ g =>
   unfold bgF
   apply bgK_congr _ _ (bgF_le ks f)
   intro j hj
   exact ih j g (by omega) (by omega)
theorem bg_eq (ks : Nat → List Int) (i : Nat) : bg ks i = bgK (bg ks) (ks i).reverse i := by
 conv => lhs; unfold bg bgF
 apply bgK_congr _ _ (bgF_le ks i)
 intro j hj
 unfold bg
 exact bgF_fuel ks _ _ _ (by omega) (by omega)
theorem bg_le (ks : Nat → List Int) (i : Nat) : bg ks i ≤ i := bgF_le ks _ i
theorem bgK_cover (g : Nat → Int) (hg : ∀ j, g j ≤ j) : ∀ (cs : List Int) (k : Int), 0 ≤ k → 0 ≤ bgK g cs k →
  (∀ j : Nat, (j : Int) < k → 0 ≤ g j → ∀ m : Nat, g j ≤ m → m ≤ j → 0 ≤ g m) →
  ∀ m : Nat, bgK g cs k ≤ m → (m : Int) < k → 0 ≤ g m := by
 intro cs
 induction cs with
 | nil => intro k _ _ _ m h1 h2; unfold bgK at h1; omega
 | cons c cs ih =>
  intro k hk hpos hcov m h1 h2
  unfold bgK at hpos h1
  by_cases hc : c = k - 1 ∧ 1 ≤ k
  ·rw [if_pos hc] at hpos h1
   by_cases hn : g (k - 1).toNat < 0
   ·rw [if_pos hn] at hpos; omega
   ·rw [if_neg hn] at hpos h1
    by_cases hm : (m : Int) < g (k - 1).toNat
    ·have hgk := hg (k - 1).toNat
     exact ih _ (by omega) hpos (fun j hj h0 => hcov j (by omega) h0) m h1 hm
    ·exact hcov (k - 1).toNat (by omega) (by omega) m (by omega) (by omega)
  ·rw [if_neg hc] at hpos; omega
theorem bg_cover (ks : Nat → List Int) : ∀ (n i : Nat), i < n → 0 ≤ bg ks i → ∀ m : Nat, bg ks i ≤ m → m ≤ i → 0 ≤ bg ks m := by
 intro n
 induction n with
 | zero => intro i h; omega
 | succ n ih =>
  intro i hi h0 m h1 h2
  by_cases hm : m = i
  ·rw [hm]; exact h0
  ·rw [bg_eq] at h0 h1
   exact bgK_cover (bg ks) (bg_le ks) _ i (by omega) h0 (fun j hj h0j m' h1' h2' => ih j (by omega) h0j m' h1' h2') m h1 (by omega)
theorem bg_all {ks : Nat → List Int} {n : Nat} (h : bg ks n = 0) (m : Nat) (hm : m ≤ n) : 0 ≤ bg ks m :=
 bg_cover ks (n + 1) n (by omega) (by omega) m (by omega) hm
end Go.Proofs.Ytnjalpcmjkahkaa
