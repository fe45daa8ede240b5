/- The reference's prim, at negative numbers too. -/
import Derived.Test.YtnjalpcmjkahkaaZt13
import Derived.Test.YtnjalpcmjkahkaaZt14
import Derived.Test.YtnjalpcmjkahkaaZt17
import Derived.Test.YtnjalpcmjkahkaaZt22
import Derived.Test.YtnjalpcmjkahkaaZt41
import Derived.Test.YtnjalpcmjkahkaaChecked
import Derived.WalkKit
import Derived.ProofKit
import Derived.Below
import Derived.Lib.Hide
import Derived.IntWalk
set_option maxRecDepth 100000
set_option maxHeartbeats 8000000
namespace Go.Proofs.Ytnjalpcmjkahkaa
open Go.RowKit
set_option linter.unusedVariables false
set_option linter.unusedSimpArgs false
def r17V (k n : Int) : Value := .agg #[.int .i64 k, .int .i64 n, .int .i64 0, .pointer none, .slice none 0 0, .pointer none, .pointer none]
def rprV (o : Int × Int) : Value := if o.1 = 3 then .tuple #[r17V 0 0, .int .i64 o.2] else .tuple #[r17V o.1 o.2, .int .i64 (-1)]
theorem rtruth_any (b : Bool) (w : World) :
  Calls Try.prog 51 #[.bool b] w fun e w' => e = .returned (r17V 1 (if b then 1 else 0)) ∧ Below w.heap.size w w' := by
 cases b
 ·go_enter Try.func51, Try.ntmps51
  go_wp2_with fail
  refine bodyPost_ret (v := r17V 1 0) (by simp [results, Try.results51, go_sem, r17V]) rfl ⟨rfl, by (repeat' (first | (with_reducible first | exact bR _ _ | assumption | apply bS | apply bA | apply bD | apply bN | exact bL _) | (simp; done) | (simp; omega) | omega | exact bL _))⟩
 ·go_enter Try.func51, Try.ntmps51
  go_wp2_with fail
  refine bodyPost_ret (v := r17V 1 1) (by simp [results, Try.results51, go_sem, r17V]) rfl ⟨rfl, by (repeat' (first | (with_reducible first | exact bR _ _ | assumption | apply bS | apply bA | apply bD | apply bN | exact bL _) | (simp; done) | (simp; omega) | omega | exact bL _))⟩
theorem bx7 {w w9 : World} {a b c d e f g : Value} {T : TypeId} (hb : Below (w.alloc (.cells #[a, b, c, d, e, f, g] T)).heap.size (w.alloc (.cells #[a, b, c, d, e, f, g] T)) w9) :
  (w9.cell? ⟨w.heap.size, 0, none⟩ = some a ∧ w9.cell? ⟨w.heap.size, 1, none⟩ = some b ∧ w9.cell? ⟨w.heap.size, 2, none⟩ = some c ∧ w9.cell? ⟨w.heap.size, 3, none⟩ = some d ∧ w9.cell? ⟨w.heap.size, 4, none⟩ = some e ∧ w9.cell? ⟨w.heap.size, 5, none⟩ = some f ∧ w9.cell? ⟨w.heap.size, 6, none⟩ = some g) ∧ (∀ o, w9.frozen? ⟨w.heap.size, o, none⟩ = false) ∧ Below w.heap.size w w9 ∧ w.heap.size < w9.heap.size := by
 have hB := Bar.of_below (S := fun _ => False) hb
 have hsz := hb.size
 simp at hsz
 refine ⟨⟨hB.cell (by simp [go_sem]) id, hB.cell (by simp [go_sem]) id, hB.cell (by simp [go_sem]) id, hB.cell (by simp [go_sem]) id, hB.cell (by simp [go_sem]) id, hB.cell (by simp [go_sem]) id, hB.cell (by simp [go_sem]) id⟩, fun o => ?_, belT (below_alc w _) hb, by omega⟩
 rw [hB.frozen (a := ⟨w.heap.size, o, none⟩) (by simp) id]
 simp [go_sem]
theorem rprim2_any (p u v : Int) (w : World) (hp : 0 ≤ p ∧ p ≤ 5) (hu : -1073741824 ≤ u ∧ u ≤ 1073741823) (hv : -1073741824 ≤ v ∧ v ≤ 1073741823) :
  Calls Try.prog 48 #[.int .i64 p, .int .i64 u, .int .i64 v] w fun e w' => e = .returned (rprV (prmV p u v)) ∧ Below w.heap.size w w' := by
 have hm : -1152921504606846976 ≤ u * v ∧ u * v ≤ 1152921504606846976 := by
  have e := Int.natAbs_mul u v
  have m : u.natAbs * v.natAbs ≤ 1073741824 * 1073741824 := Nat.mul_le_mul (by omega) (by omega)
  omega
 have hd : v ≠ 0 → -1073741824 ≤ u.tdiv v ∧ u.tdiv v ≤ 1073741824 := fun _ => by
  have e := Int.natAbs_tdiv u v
  have e : (u.tdiv v).natAbs = u.natAbs / v.natAbs := e
  have m := Nat.div_le_self u.natAbs v.natAbs
  omega
 have kT := fun (b : Bool) (W : World) => Lib.hid (rtruth_any b W)
 have w1 : IntKind.i64.wrap (u + v) = u + v := IntWalk.i64_in _ (by omega)
 have w2 : IntKind.i64.wrap (u - v) = u - v := IntWalk.i64_in _ (by omega)
 have w3 : IntKind.i64.wrap (u * v) = u * v := IntWalk.i64_in _ (by omega)
 have hc : p = 0 ∨ p = 1 ∨ p = 2 ∨ p = 3 ∨ p = 4 ∨ p = 5 := by omega
 rcases hc with rfl | rfl | rfl | rfl | rfl | rfl
 ·obtain ⟨X, hX⟩ : ∃ X, u + v = X := ⟨_, rfl⟩
  have hV : prmV 0 u v = numO X := by rw [← hX]; rfl
  rw [hV]
  rw [hX] at w1 
  by_cases hA : 1073741823 < X
  ·have e : rprV (numO X) = .tuple #[r17V 0 0, .int .i64 0] := by unfold numO; rw [if_pos (.inr hA)]; rfl
   rw [e]
   go_enter Try.func48, Try.ntmps48
   go_wp2_with fail
   refine bodyPost_ret (v := .tuple #[r17V 0 0, .int .i64 0]) (by simp [results, Try.results48, go_sem, r17V]) rfl ⟨rfl, by (repeat' (first | (with_reducible first | exact bR _ _ | assumption | apply bS | apply bA | apply bD | apply bN | exact bL _) | (simp; done) | (simp; omega) | omega | exact bL _))⟩
  ·by_cases hB : X < -1073741824
   ·have e : rprV (numO X) = .tuple #[r17V 0 0, .int .i64 0] := by unfold numO; rw [if_pos (.inl hB)]; rfl
    rw [e]
    go_enter Try.func48, Try.ntmps48
    go_wp2_with fail
    refine bodyPost_ret (v := .tuple #[r17V 0 0, .int .i64 0]) (by simp [results, Try.results48, go_sem, r17V]) rfl ⟨rfl, by (repeat' (first | (with_reducible first | exact bR _ _ | assumption | apply bS | apply bA | apply bD | apply bN | exact bL _) | (simp; done) | (simp; omega) | omega | exact bL _))⟩
   ·have e : rprV (numO X) = .tuple #[r17V 0 X, .int .i64 (-1)] := by unfold numO; rw [if_neg (by omega)]; rfl
    rw [e]
    go_enter Try.func48, Try.ntmps48
    go_wp2_with fail
    refine bodyPost_ret (v := .tuple #[r17V 0 X, .int .i64 (-1)]) (by simp [results, Try.results48, go_sem, r17V]) rfl ⟨rfl, by (repeat' (first | (with_reducible first | exact bR _ _ | assumption | apply bS | apply bA | apply bD | apply bN | exact bL _) | (simp; done) | (simp; omega) | omega | exact bL _))⟩
 ·obtain ⟨X, hX⟩ : ∃ X, u - v = X := ⟨_, rfl⟩
  have hV : prmV 1 u v = numO X := by rw [← hX]; rfl
  rw [hV]
  rw [hX] at w2 
  by_cases hA : 1073741823 < X
  ·have e : rprV (numO X) = .tuple #[r17V 0 0, .int .i64 0] := by unfold numO; rw [if_pos (.inr hA)]; rfl
   rw [e]
   go_enter Try.func48, Try.ntmps48
   go_wp2_with fail
   refine bodyPost_ret (v := .tuple #[r17V 0 0, .int .i64 0]) (by simp [results, Try.results48, go_sem, r17V]) rfl ⟨rfl, by (repeat' (first | (with_reducible first | exact bR _ _ | assumption | apply bS | apply bA | apply bD | apply bN | exact bL _) | (simp; done) | (simp; omega) | omega | exact bL _))⟩
  ·by_cases hB : X < -1073741824
   ·have e : rprV (numO X) = .tuple #[r17V 0 0, .int .i64 0] := by unfold numO; rw [if_pos (.inl hB)]; rfl
    rw [e]
    go_enter Try.func48, Try.ntmps48
    go_wp2_with fail
    refine bodyPost_ret (v := .tuple #[r17V 0 0, .int .i64 0]) (by simp [results, Try.results48, go_sem, r17V]) rfl ⟨rfl, by (repeat' (first | (with_reducible first | exact bR _ _ | assumption | apply bS | apply bA | apply bD | apply bN | exact bL _) | (simp; done) | (simp; omega) | omega | exact bL _))⟩
   ·have e : rprV (numO X) = .tuple #[r17V 0 X, .int .i64 (-1)] := by unfold numO; rw [if_neg (by omega)]; rfl
    rw [e]
    go_enter Try.func48, Try.ntmps48
    go_wp2_with fail
    refine bodyPost_ret (v := .tuple #[r17V 0 X, .int .i64 (-1)]) (by simp [results, Try.results48, go_sem, r17V]) rfl ⟨rfl, by (repeat' (first | (with_reducible first | exact bR _ _ | assumption | apply bS | apply bA | apply bD | apply bN | exact bL _) | (simp; done) | (simp; omega) | omega | exact bL _))⟩
 ·obtain ⟨X, hX⟩ : ∃ X, u * v = X := ⟨_, rfl⟩
  have hV : prmV 2 u v = numO X := by rw [← hX]; rfl
  rw [hV]
  rw [hX] at w3 hm
  by_cases hA : 1073741823 < X
  ·have e : rprV (numO X) = .tuple #[r17V 0 0, .int .i64 0] := by unfold numO; rw [if_pos (.inr hA)]; rfl
   rw [e]
   go_enter Try.func48, Try.ntmps48
   go_wp2_with fail
   refine bodyPost_ret (v := .tuple #[r17V 0 0, .int .i64 0]) (by simp [results, Try.results48, go_sem, r17V]) rfl ⟨rfl, by (repeat' (first | (with_reducible first | exact bR _ _ | assumption | apply bS | apply bA | apply bD | apply bN | exact bL _) | (simp; done) | (simp; omega) | omega | exact bL _))⟩
  ·by_cases hB : X < -1073741824
   ·have e : rprV (numO X) = .tuple #[r17V 0 0, .int .i64 0] := by unfold numO; rw [if_pos (.inl hB)]; rfl
    rw [e]
    go_enter Try.func48, Try.ntmps48
    go_wp2_with fail
    refine bodyPost_ret (v := .tuple #[r17V 0 0, .int .i64 0]) (by simp [results, Try.results48, go_sem, r17V]) rfl ⟨rfl, by (repeat' (first | (with_reducible first | exact bR _ _ | assumption | apply bS | apply bA | apply bD | apply bN | exact bL _) | (simp; done) | (simp; omega) | omega | exact bL _))⟩
   ·have e : rprV (numO X) = .tuple #[r17V 0 X, .int .i64 (-1)] := by unfold numO; rw [if_neg (by omega)]; rfl
    rw [e]
    go_enter Try.func48, Try.ntmps48
    go_wp2_with fail
    refine bodyPost_ret (v := .tuple #[r17V 0 X, .int .i64 (-1)]) (by simp [results, Try.results48, go_sem, r17V]) rfl ⟨rfl, by (repeat' (first | (with_reducible first | exact bR _ _ | assumption | apply bS | apply bA | apply bD | apply bN | exact bL _) | (simp; done) | (simp; omega) | omega | exact bL _))⟩
 ·by_cases hz : v = 0
  ·subst hz
   go_enter Try.func48, Try.ntmps48
   go_wp2_with fail
   refine bodyPost_ret (v := .tuple #[r17V 0 0, .int .i64 1]) (by simp [results, Try.results48, go_sem, r17V]) rfl ⟨rfl, by (repeat' (first | (with_reducible first | exact bR _ _ | assumption | apply bS | apply bA | apply bD | apply bN | exact bL _) | (simp; done) | (simp; omega) | omega | exact bL _))⟩
  ·have hd := hd hz
   have w4 : IntKind.i64.wrap (u.tdiv v) = u.tdiv v := IntWalk.i64_in _ (by omega)
   obtain ⟨X, hX⟩ : ∃ X, u.tdiv v = X := ⟨_, rfl⟩
   have hV : prmV 3 u v = numO X := by rw [← hX]; exact if_neg hz
   rw [hV]
   rw [hX] at w4 hd
   by_cases hA : 1073741823 < X
   ·have e : rprV (numO X) = .tuple #[r17V 0 0, .int .i64 0] := by unfold numO; rw [if_pos (.inr hA)]; rfl
    rw [e]
    go_enter Try.func48, Try.ntmps48
    go_wp2_with fail
    refine bodyPost_ret (v := .tuple #[r17V 0 0, .int .i64 0]) (by simp [results, Try.results48, go_sem, r17V]) rfl ⟨rfl, by (repeat' (first | (with_reducible first | exact bR _ _ | assumption | apply bS | apply bA | apply bD | apply bN | exact bL _) | (simp; done) | (simp; omega) | omega | exact bL _))⟩
   ·by_cases hB : X < -1073741824
    ·exfalso; omega
    ·have e : rprV (numO X) = .tuple #[r17V 0 X, .int .i64 (-1)] := by unfold numO; rw [if_neg (by omega)]; rfl
     rw [e]
     go_enter Try.func48, Try.ntmps48
     go_wp2_with fail
     refine bodyPost_ret (v := .tuple #[r17V 0 X, .int .i64 (-1)]) (by simp [results, Try.results48, go_sem, r17V]) rfl ⟨rfl, by (repeat' (first | (with_reducible first | exact bR _ _ | assumption | apply bS | apply bA | apply bD | apply bN | exact bL _) | (simp; done) | (simp; omega) | omega | exact bL _))⟩
 ·obtain ⟨o, ho⟩ : ∃ o : Int, (if decide (u = v) then 1 else 0) = o := ⟨_, rfl⟩
  have e : rprV (prmV 4 u v) = .tuple #[r17V 1 o, .int .i64 (-1)] := by
   show rprV (truO (decide (u = v))) = _
   rw [← ho]
   unfold truO
   split <;> rfl
  rw [e]
  go_enter Try.func48, Try.ntmps48
  go_wp2_with fail
  refine (kT (decide (u = v)) _).out.mono ?_
  rintro e w9 ⟨he, hb⟩
  obtain ⟨⟨x0, x1, x2, x3, x4, x5, x6⟩, xf, hb5, xl⟩ := bx7 hb
  rw [ho] at he
  have e9 : r17V 1 o = .agg #[.int .i64 1, .int .i64 o, .int .i64 0, .pointer none, .slice none 0 0, .pointer none, .pointer none] := rfl
  rw [e9] at he
  subst he
  clear hb
  go_wp2_with fail
  refine bodyPost_ret (v := .tuple #[r17V 1 o, .int .i64 (-1)]) (by simp [results, Try.results48, go_sem, r17V, x0, x1, x2, x3, x4, x5, x6, xf, xl]) rfl ⟨rfl, by (repeat' (first | (with_reducible first | exact bR _ _ | assumption | apply bS | apply bA | apply bD | apply bN | exact bL _) | (simp; done) | (simp; omega) | omega | exact bL _))⟩
 ·obtain ⟨o, ho⟩ : ∃ o : Int, (if decide (u < v) then 1 else 0) = o := ⟨_, rfl⟩
  have e : rprV (prmV 5 u v) = .tuple #[r17V 1 o, .int .i64 (-1)] := by
   show rprV (truO (decide (u < v))) = _
   rw [← ho]
   unfold truO
   split <;> rfl
  rw [e]
  go_enter Try.func48, Try.ntmps48
  go_wp2_with fail
  refine (kT (decide (u < v)) _).out.mono ?_
  rintro e w9 ⟨he, hb⟩
  obtain ⟨⟨x0, x1, x2, x3, x4, x5, x6⟩, xf, hb5, xl⟩ := bx7 hb
  rw [ho] at he
  have e9 : r17V 1 o = .agg #[.int .i64 1, .int .i64 o, .int .i64 0, .pointer none, .slice none 0 0, .pointer none, .pointer none] := rfl
  rw [e9] at he
  subst he
  clear hb
  go_wp2_with fail
  refine bodyPost_ret (v := .tuple #[r17V 1 o, .int .i64 (-1)]) (by simp [results, Try.results48, go_sem, r17V, x0, x1, x2, x3, x4, x5, x6, xf, xl]) rfl ⟨rfl, by (repeat' (first | (with_reducible first | exact bR _ _ | assumption | apply bS | apply bA | apply bD | apply bN | exact bL _) | (simp; done) | (simp; omega) | omega | exact bL _))⟩
open Go.RowKit
theorem MR.below {w0 : Gh} {B G : Nat} {tv fv : Value} {m : RM} {w w' : World} (h : MR w0 B G tv fv m w) (hb : Below w.heap.size w w') : MR w0 B G tv fv m w' := by
 obtain ⟨sv, c, l, h0, h1, h2⟩ := h
 exact ⟨sv, c, l, h0, h1.below hb, h2.below hb⟩
theorem MR.bs {w0 : Gh} {B G : Nat} {tv fv : Value} {m : RM} {w : World} (h : MR w0 B G tv fv m w) : Bar (fun k => ¬ w0.2 k) w0.1 w ∧ ¬ w0.2 G ∧ ∀ k, w0.2 k → k < w.heap.size := by
 obtain ⟨sv, c, l, rfl, h1, h2⟩ := h
 exact ⟨h1.mc.bs, h1.mc.kG, h1.mc.kl⟩
theorem MR.lt {w0 : Gh} {B G : Nat} {tv fv : Value} {m : RM} {w : World} (h : MR w0 B G tv fv m w) : G < w.heap.size := by
 obtain ⟨sv, c, l, rfl, h1, h2⟩ := h
 exact h1.mc.lt
theorem MR.regh {w0 : Gh} {B G : Nat} {tv fv : Value} {m : RM} {w W : World} (h : MR w0 B G tv fv m w) (hb : Below w.heap.size w W) (hl : w.heap.size < W.heap.size) : MR (W, fun k => w0.2 k ∨ k = w.heap.size) B G tv fv m W := by
 obtain ⟨sv, c, l, rfl, h1, h2⟩ := h
 have hG := h1.mc.lt
 have hm := h1.mc.below hb
 have h1' := h1.below hb
 have h2' := h2.below hb
 refine ⟨sv, { c with w0 := (W, fun k => c.w0.2 k ∨ k = w.heap.size) }, l, rfl, ⟨⟨hm.lt, hm.ty, hm.fz, hm.c0, hm.c1, hm.c2, hm.c3, hm.c4, hm.c5, hm.c6, hm.c7, hm.c8, hm.c9, hm.c10, hm.c11, hm.c12, hm.c13, Bar.refl _ _, fun e => ?_, fun k hk => ?_⟩, h1'.own, h1'.gB, h1'.bl, fun k hk e => ?_⟩, ?_⟩
 ·rcases e with e | e
  ·exact hm.kG e
  ·omega
 ·rcases hk with hk | hk
  ·exact hm.kl k hk
  ·show k < W.heap.size; omega
 ·rcases e with e | e
  ·exact h1.kS k hk e
  ·have := (own_lt h1.own k hk).2; omega
 ·cases m with
  | ev _ _ _ => exact h2'
  | gv _ _ => exact h2'
  | en _ _ => exact h2'
theorem frm_any (w0 : Gh) (B G : Nat) (tv fv : Value) (m : RM) (w : World) (h : Hid (MR w0 B G tv fv m w)) (hm : rOver m = none) :
  Calls Try.prog 68 #[.pointer (some ⟨G, 0, none⟩)] w fun e w' => e = .returned (.int .i64 (rLen m)) ∧ Below w.heap.size w w' := by
 obtain ⟨sv, c, l, -, hc, hv⟩ := h.out
 obtain ⟨sa, sc, rfl⟩ := own_slF hc.own
 have hl : l.length = rLen m := by
  cases m with
  | ev stk n e => exact hv.2.2.2.1.len
  | gv stk v => exact hv.2.2.1.len
  | en k n => cases hm
 rw [← hl]
 exact frames_any w G tv fv sa l.length sc c (Lib.hid hc.mc)
theorem step_any (w0 : Gh) (B G : Nat) (tv fv : Value) (ts : List Tg) (fur : List Int) (m : RM) (w : World) (h : Hid (MR w0 B G tv fv m w)) (ht : Hid (TvR B G w tv ts)) (hF : Hid (FvR B G w fv fur)) (hfl : fur.length = ts.length)
  (hfb : ∀ i, -1 ≤ fur.getD i 0 ∧ fur.getD i 0 ≤ 1000000000) (hsl : rLen m ≤ 4096) {K : Nat} (hK : K ≤ 900000000) (hfit : RM.fit ts K m) (hkid : KidIn ts) (hm : rOver m = none) :
  Calls Try.prog 70 #[.pointer (some ⟨G, 0, none⟩)] w (NsP w0 B G tv fv (rStep ts fur m)) := by
 obtain ⟨sv, c, l, rfl, hc, hv⟩ := h.out
 cases m with
 | ev stk n e => exact step_ev B G tv fv sv c l ts fur w stk n e (Lib.hid hc) (Lib.hid hv) ht hF hfit.1 hfl hfb (Nat.le_trans hfit.2.1 (by omega)) hsl
 | gv stk v =>
  cases stk with
  | nil => cases hm
  | cons f stk => exact step_gv B G tv fv sv c l ts fur w stk f v (Lib.hid hc) (Lib.hid hv) ht hF hfl hfb (Nat.le_of_succ_le hsl) hK hfit hkid
 | en k n => cases hm
theorem mt_Over (a : Value) (w : World) : (Go.method 250 45 a "Over").run Try.prog w = .ok (69, a) w := by kernel_rfl
theorem mt_Frames (a : Value) (w : World) : (Go.method 250 45 a "Frames").run Try.prog w = .ok (68, a) w := by kernel_rfl
theorem mt_Step (a : Value) (w : World) : (Go.method 250 45 a "Step").run Try.prog w = .ok (70, a) w := by kernel_rfl
def RuP (w0 : Gh) (R : (Int × Int) × Nat) (e : Ending) (w' : World) : Prop := e = .returned (.tuple #[.agg #[.int .i64 R.1.1, .int .i64 R.1.2], .int .i64 R.2]) ∧ Bar (fun k => ¬ w0.2 k) w0.1 w'
def LoR (w0 : Gh) (B G : Nat) (tv fv : Value) (ts : List Tg) (fur : List Int) (fuel : Nat) (R : (Int × Int) × Nat) (v : Value) (w : World) : Prop :=
 ∃ (j : Nat) (m : RM), v = .int .i64 j ∧ j ≤ fuel ∧ Hid (MR w0 B G tv fv m w) ∧ Hid (RM.fit ts (2 * j) m) ∧ Hid (rRun ts fur (fuel - j) j m = R)
theorem run_any (w0 : Gh) (B G : Nat) (T off ct F cf : Nat) (ts : List Tg) (fur : List Int) (m : RM) (w : World) (fuel : Nat) (h : Hid (MR w0 B G (.slice (some ⟨T, off, none⟩) ts.length ct) (.slice (some ⟨F, 0, none⟩) fur.length cf) m w)) (hT : w0.2 T) (hFk : w0.2 F) (ht : Hid (TvR B G w (.slice (some ⟨T, off, none⟩) ts.length ct) ts)) (hF : Hid (FvR B G w (.slice (some ⟨F, 0, none⟩) fur.length cf) fur)) (hfl : fur.length = ts.length)
  (hfb : ∀ i, -1 ≤ fur.getD i 0 ∧ fur.getD i 0 ≤ 1000000000) (hfit : RM.fit ts 0 m) (hkid : KidIn ts) (h0 : 0 < ts.length) (hfu : fuel ≤ 400000000) :
  Calls Try.prog 18 #[.iface 45 (.pointer (some ⟨G, 0, none⟩)), .int .i64 fuel] w (RuP w0 (rRun ts fur fuel 0 m)) := by
 obtain ⟨R, hR⟩ : ∃ R, rRun ts fur fuel 0 m = R := ⟨_, rfl⟩
 rw [hR]
 obtain ⟨W1, hW1⟩ : ∃ W, w.alloc (.cells #[.int .i64 0, .int .i64 0] 25) = W := ⟨_, rfl⟩
 have hb1 : Below w.heap.size w W1 := by rw [← hW1]; (repeat' (first | (with_reducible first | exact bR _ _ | assumption | apply bS | apply bA | apply bD | apply bN | exact bL _) | (simp; done) | (simp; omega) | omega | exact bL _))
 have hl1 : w.heap.size < W1.heap.size := by rw [← hW1]; simp
 have a0 : W1.cell? ⟨w.heap.size, 0, none⟩ = some (.int .i64 0) := by rw [← hW1]; simp [go_sem]
 have a1 : W1.cell? ⟨w.heap.size, 1, none⟩ = some (.int .i64 0) := by rw [← hW1]; simp [go_sem]
 have af : ∀ o, W1.frozen? ⟨w.heap.size, o, none⟩ = false := by intro o; rw [← hW1]; simp [go_sem]
 have hM1 := h.out.regh hb1 hl1
 have hnr : ¬ w0.2 w.heap.size := fun e => by have := h.out.bs.2.2 _ e; omega
 have hbar0 : Bar (fun k => ¬ w0.2 k) w0.1 W1 := h.out.bs.1.next hb1
 obtain ⟨w1, hw1⟩ : ∃ x : Gh, (W1, fun k => w0.2 k ∨ k = w.heap.size) = x := ⟨_, rfl⟩
 rw [hw1] at hM1
 -- what a world of the loop holds
 have keep := Lib.hid fun (W : World) (hb : Bar (fun k => ¬ w1.2 k) w1.1 W) => (by
  subst hw1
  have hn : ¬ ¬ (w0.2 w.heap.size ∨ w.heap.size = w.heap.size) := fun h => h (.inr rfl)
  have hx0 := hb.cell a0 hn
  have hx1 := hb.cell a1 hn
  refine ⟨hx0, hx1, fun o => (hb.frozen (a := ⟨w.heap.size, o, none⟩) hl1 hn).trans (af o), Nat.lt_of_lt_of_le hl1 hb.size, ?_, ?_, hbar0.trans hb fun k _ hk e => hk (.inl e)⟩
  ·obtain ⟨T', off', c', e, hTB, hTG, hTw, hs⟩ := ht.out.below hb1
   injection e with e1 e2 e3
   injection e1 with e1
   injection e1 with e1 e4 _
   subst e1 e4 e3
   have hn2 : ¬ ¬ (w0.2 T ∨ T = w.heap.size) := fun h => h (.inl hT)
   exact Lib.hid ⟨T, off, ct, rfl, hTB, hTG, Nat.lt_of_lt_of_le hTw hb.size, fun i hi => by
    obtain ⟨b0, b1, b2, b3, b4, b5, b6, b7, b8⟩ := hs i hi
    exact ⟨hb.cell b0 hn2, hb.cell b1 hn2, hb.cell b2 hn2, hb.cell b3 hn2, hb.cell b4 hn2, hb.cell b5 hn2, hb.cell b6 hn2, hb.cell b7 hn2, hb.cell b8 hn2⟩⟩
  ·obtain ⟨F', c', e, hTB, hTG, hTw, hs⟩ := hF.out.below hb1
   injection e with e1 e2 e3
   injection e1 with e1
   injection e1 with e1 _ _
   subst e1 e3
   have hn2 : ¬ ¬ (w0.2 F ∨ F = w.heap.size) := fun h => h (.inl hFk)
   exact Lib.hid ⟨F, cf, rfl, hTB, hTG, Nat.lt_of_lt_of_le hTw hb.size, fun i hi => hb.cell (hs i hi) hn2⟩
  : W.cell? ⟨w.heap.size, 0, none⟩ = some (.int .i64 0) ∧ W.cell? ⟨w.heap.size, 1, none⟩ = some (.int .i64 0) ∧ (∀ o, W.frozen? ⟨w.heap.size, o, none⟩ = false) ∧ w.heap.size < W.heap.size ∧ Hid (TvR B G W (.slice (some ⟨T, off, none⟩) ts.length ct) ts) ∧ Hid (FvR B G W (.slice (some ⟨F, 0, none⟩) fur.length cf) fur) ∧ Bar (fun k => ¬ w0.2 k) w0.1 W)
 have hst := Lib.hid (show LoR w1 B G (.slice (some ⟨T, off, none⟩) ts.length ct) (.slice (some ⟨F, 0, none⟩) fur.length cf) ts fur fuel R (.int .i64 0) W1 from ⟨0, m, rfl, Nat.zero_le _, Lib.hid hM1, Lib.hid hfit, Lib.hid hR⟩)
 have m1 := fun (a : Value) (w : World) => mt_Over a w
 have m2 := fun (a : Value) (w : World) => mt_Frames a w
 have m3 := fun (a : Value) (w : World) => mt_Step a w
 have hW1h := Lib.hid hW1
 clear h hT hFk ht hF hfit hR hW1 hb1 a0 a1 af hM1 hbar0 hw1 hl1
 go_enter Try.func18, Try.ntmps18
 go_wp2_with fail
 rw [hW1h.out]
 go_loopw [6] (fun v wr => LoR w1 B G (.slice (some ⟨T, off, none⟩) ts.length ct) (.slice (some ⟨F, 0, none⟩) fur.length cf) ts fur fuel R v wr) (fun v _ => fuel - (intOf v).toNat)
 case atStart => exact hst.out
 case round =>
  obtain ⟨j, M, rfl, hj, hM, hft, hRn⟩ := hrel
  go_wp2_with fail
  refine (over_any w1 B G _ _ M wr hM).mono ?_
  rintro e2 w2 ⟨rfl, hb2⟩
  have hM2 := Lib.hid (hM.out.below hb2)
  obtain ⟨x0, x1, xf, xl, ht2, hF2, hbr⟩ := keep.out w2 hM2.out.bs.1
  have xf0 := xf 0; have xf1 := xf 1
  have hbr := Lib.hid hbr
  clear hb2 xf
  cases ho : rOver M with
  | some o =>
   obtain ⟨k, n⟩ := o
   obtain rfl : ((k, n), j) = R := (rRun_over ho).symm.trans hRn.out
   rw [show overV (some (k, n)) = .tuple #[.agg #[.int .i64 k, .int .i64 n], .bool true] from rfl]
   clear ho hst keep hfb hM hM2 ht2 hF2 hRn hft
   go_wp2_with fail
   exact bodyPost_ret (v := .tuple #[.agg #[.int .i64 k, .int .i64 n], .int .i64 j]) (by simp [results, Try.results18, go_sem, *]) rfl ⟨rfl, (bsS (bsS hbr.out hnr) hnr).next (below_alc _ _)⟩
  | none =>
   have ho := Lib.hid ho
   rw [show overV none = .tuple #[.agg #[.int .i64 0, .int .i64 0], .bool false] from rfl]
   by_cases hj2 : j = fuel
   ·subst hj2
    obtain rfl : ((4, 0), j) = R := by have := hRn.out; rw [Nat.sub_self, rRun_zero ho.out] at this; exact this
    clear hst keep hfb hM hM2 ht2 hF2 hRn hft ho
    go_wp2_with fail
    exact bodyPost_ret (v := .tuple #[.agg #[.int .i64 4, .int .i64 0], .int .i64 j]) (by simp [results, Try.results18, go_sem, *]) rfl ⟨rfl, (bsS (bsS hbr.out hnr) hnr).next (below_alc _ _)⟩
   ·have hne : ((j : Int) == (fuel : Int)) = false := by rw [beq_eq_false_iff_ne]; omega
    obtain ⟨q, hq⟩ : ∃ q, fuel - j = q + 1 := ⟨fuel - j - 1, by omega⟩
    have hRn := hRn.out
    rw [hq] at hRn
    have hRn := Lib.hid hRn
    have hq := Lib.hid hq
    go_wp2_with fail
    refine (frm_any w1 B G _ _ M _ (Lib.hid (hM2.out.below (by (repeat' (first | (with_reducible first | exact bR _ _ | assumption | apply bS | apply bA | apply bD | apply bN | exact bL _) | (simp; done) | (simp; omega) | omega | exact bL _))))) ho.out).mono ?_
    rintro e3 w3 ⟨rfl, hb3⟩
    have hM3 := Lib.hid (hM2.out.below (belT (show Below w2.heap.size w2 _ from by (repeat' (first | (with_reducible first | exact bR _ _ | assumption | apply bS | apply bA | apply bD | apply bN | exact bL _) | (simp; done) | (simp; omega) | omega | exact bL _))) hb3))
    obtain ⟨x0, x1, xf, xl, ht3, hF3, hbr⟩ := keep.out w3 hM3.out.bs.1
    have xf0 := xf 0; have xf1 := xf 1
    have hbr := Lib.hid hbr
    clear hb3 xf ht2 hF2
    obtain ⟨rl, hrl⟩ : ∃ r, rLen M = r := ⟨_, rfl⟩
    rw [hrl]
    have hrl := Lib.hid hrl
    by_cases hd : 4096 < rl
    ·have hdI : decide ((4096 : Int) < (rl : Int)) = true := decide_eq_true (by omega)
     obtain rfl : ((4, 0), j) = R := (rRun_deep ho.out (by rw [hrl.out]; exact hd)).symm.trans hRn.out
     clear hst keep hfb hM hM2 hM3 ht3 hF3 hRn hft ho
     go_wp2_with fail
     exact bodyPost_ret (v := .tuple #[.agg #[.int .i64 4, .int .i64 0], .int .i64 j]) (by simp [results, Try.results18, go_sem, *]) rfl ⟨rfl, bsS (bsS (hbr.out.next (by (repeat' (first | (with_reducible first | exact bR _ _ | assumption | apply bS | apply bA | apply bD | apply bN | exact bL _) | (simp; done) | (simp; omega) | omega | exact bL _)))) hnr) hnr⟩
    ·have hdI : decide ((4096 : Int) < (rl : Int)) = false := decide_eq_false (by omega)
     have hR2 := Lib.hid ((rRun_step ho.out (by rw [hrl.out]; exact hd)).symm.trans hRn.out)
     have wj : IntKind.i64.wrap ((j : Int) + 1) = (j : Int) + 1 := IntWalk.i64_in _ (by omega)
     have hkS := Lib.hid (step_any w1 B G _ _ ts fur M w3 hM3 ht3 hF3 hfl hfb (by rw [hrl.out]; omega) (K := 2 * j) (by omega) hft.out hkid ho.out)
     have hf2 := Lib.hid (rStep_fit h0 hkid fur hft.out)
     clear hst hfb hM hM2 hM3 ht3 hF3 hRn hft ho keep
     go_wp2_with fail
     refine hkS.out.mono ?_
     rintro e4 w4 ⟨rfl, hM4⟩
     go_wp2_with fail
     go_roundw
     case rel => exact ⟨j + 1, rStep ts fur M, by rw [show ((j + 1 : Nat) : Int) = (j : Int) + 1 by omega], by omega, Lib.hid hM4, Lib.hid (by rw [show 2 * (j + 1) = 2 * j + 2 by omega]; exact hf2.out), Lib.hid (by rw [show fuel - (j + 1) = q by have := hq.out; omega]; exact hR2.out)⟩
     case measure => simp [intOf]; omega
open Go.RowKit
def RunP (w : World) (x : ((Int × Int) × Nat) × Int) (e : Ending) (w' : World) : Prop := e = .returned (runR x) ∧ Below w.heap.size w w'
theorem Run_nil (p : Option Addr) (c : Nat) (w : World) (fuel : Int) :
  Calls Try.prog 8 #[.slice p 0 c, .int .i64 fuel] w (RunP w (((0, 0), 0), 2100)) := by
 go_enter Try.func8, Try.ntmps8
 go_wp2_with fail
 refine (may_nil p c _).mono ?_
 rintro e1 w1 ⟨rfl, hb1⟩
 obtain ⟨hc1, hf1⟩ := bcell hb1
 have hz1_0 : w.heap.size < w1.heap.size := by have := hb1.size; (try simp at this); omega
 have hbw : Below w.heap.size w w1 := belT (by (repeat' (first | (with_reducible first | exact bR _ _ | assumption | apply bS | apply bA | apply bD | apply bN | exact bL _) | (simp; done) | (simp; omega) | omega | exact bL _))) hb1
 have xl : w.heap.size < w1.heap.size := Nat.lt_of_lt_of_le (by simp) hb1.size
 go_wp2_with fail
 exact bodyPost_ret (v := runR (((0, 0), 0), 2100)) (by simp [results, Try.results8, go_sem, runR, *]) rfl ⟨rfl, by (repeat' (first | (with_reducible first | exact bR _ _ | assumption | apply bS | apply bA | apply bD | apply bN | exact bL _) | (simp; done) | (simp; omega) | omega | exact bL _))⟩
theorem Run_bad (T off ct : Nat) (ts : List Tg) (w : World) (fuel : Int) (h : Hid (TgSl w T off ts)) (hT : T < w.heap.size) (hl : ts.length ≤ 140737488351232) (hm : mayV ts = false ∨ (mayV ts = true ∧ (fuel < 0 ∨ 1048576 < fuel))) :
  Calls Try.prog 8 #[.slice (some ⟨T, off, none⟩) ts.length ct, .int .i64 fuel] w (RunP w (((0, 0), 0), 2100)) := by
 have hmay := Lib.hid fun (W : World) (hb : Below w.heap.size w W) => may_any T off ct ts W (Lib.hid (h.out.below hb hT)) (Nat.lt_of_lt_of_le hT hb.size) hl
 have hc : mayV ts = false ∨ (mayV ts = true ∧ decide (fuel < 0) = true) ∨ (mayV ts = true ∧ decide (fuel < 0) = false ∧ decide (1048576 < fuel) = true) := by
  rcases hm with h | ⟨h, h2⟩
  ·exact .inl h
  ·by_cases h0 : fuel < 0
   ·exact .inr (.inl ⟨h, decide_eq_true h0⟩)
   ·exact .inr (.inr ⟨h, decide_eq_false h0, decide_eq_true (by omega)⟩)
 clear hm
 rcases hc with hm | ⟨hm, h1⟩ | ⟨hm, h1, h2⟩
 ·rw [hm] at hmay
  clear hm
  go_enter Try.func8, Try.ntmps8
  go_wp2_with fail
  refine (hmay.out _ (by (repeat' (first | (with_reducible first | exact bR _ _ | assumption | apply bS | apply bA | apply bD | apply bN | exact bL _) | (simp; done) | (simp; omega) | omega | exact bL _)))).mono ?_
  rintro e1 w1 ⟨rfl, hb1⟩
  obtain ⟨hc1, hf1⟩ := bcell hb1
  have hz1_0 : w.heap.size < w1.heap.size := by have := hb1.size; (try simp at this); omega
  have hbw : Below w.heap.size w w1 := belT (by (repeat' (first | (with_reducible first | exact bR _ _ | assumption | apply bS | apply bA | apply bD | apply bN | exact bL _) | (simp; done) | (simp; omega) | omega | exact bL _))) hb1
  have xl : w.heap.size < w1.heap.size := Nat.lt_of_lt_of_le (by simp) hb1.size
  go_wp2_with fail
  exact bodyPost_ret (v := runR (((0, 0), 0), 2100)) (by simp [results, Try.results8, go_sem, runR, *]) rfl ⟨rfl, by (repeat' (first | (with_reducible first | exact bR _ _ | assumption | apply bS | apply bA | apply bD | apply bN | exact bL _) | (simp; done) | (simp; omega) | omega | exact bL _))⟩
 ·rw [hm] at hmay
  clear hm
  go_enter Try.func8, Try.ntmps8
  go_wp2_with fail
  refine (hmay.out _ (by (repeat' (first | (with_reducible first | exact bR _ _ | assumption | apply bS | apply bA | apply bD | apply bN | exact bL _) | (simp; done) | (simp; omega) | omega | exact bL _)))).mono ?_
  rintro e1 w1 ⟨rfl, hb1⟩
  obtain ⟨hc1, hf1⟩ := bcell hb1
  have hz1_0 : w.heap.size < w1.heap.size := by have := hb1.size; (try simp at this); omega
  have hbw : Below w.heap.size w w1 := belT (by (repeat' (first | (with_reducible first | exact bR _ _ | assumption | apply bS | apply bA | apply bD | apply bN | exact bL _) | (simp; done) | (simp; omega) | omega | exact bL _))) hb1
  have xl : w.heap.size < w1.heap.size := Nat.lt_of_lt_of_le (by simp) hb1.size
  go_wp2_with fail
  exact bodyPost_ret (v := runR (((0, 0), 0), 2100)) (by simp [results, Try.results8, go_sem, runR, *]) rfl ⟨rfl, by (repeat' (first | (with_reducible first | exact bR _ _ | assumption | apply bS | apply bA | apply bD | apply bN | exact bL _) | (simp; done) | (simp; omega) | omega | exact bL _))⟩
 ·rw [hm] at hmay
  clear hm
  go_enter Try.func8, Try.ntmps8
  go_wp2_with fail
  refine (hmay.out _ (by (repeat' (first | (with_reducible first | exact bR _ _ | assumption | apply bS | apply bA | apply bD | apply bN | exact bL _) | (simp; done) | (simp; omega) | omega | exact bL _)))).mono ?_
  rintro e1 w1 ⟨rfl, hb1⟩
  obtain ⟨hc1, hf1⟩ := bcell hb1
  have hz1_0 : w.heap.size < w1.heap.size := by have := hb1.size; (try simp at this); omega
  have hbw : Below w.heap.size w w1 := belT (by (repeat' (first | (with_reducible first | exact bR _ _ | assumption | apply bS | apply bA | apply bD | apply bN | exact bL _) | (simp; done) | (simp; omega) | omega | exact bL _))) hb1
  have xl : w.heap.size < w1.heap.size := Nat.lt_of_lt_of_le (by simp) hb1.size
  go_wp2_with fail
  exact bodyPost_ret (v := runR (((0, 0), 0), 2100)) (by simp [results, Try.results8, go_sem, runR, *]) rfl ⟨rfl, by (repeat' (first | (with_reducible first | exact bR _ _ | assumption | apply bS | apply bA | apply bD | apply bN | exact bL _) | (simp; done) | (simp; omega) | omega | exact bL _))⟩
theorem Run_ok (T off ct : Nat) (ts : List Tg) (w : World) (fuel : Nat) (h : Hid (TgSl w T off ts)) (hT : T < w.heap.size) (hm : mayV ts = true) (hfu : fuel ≤ 1048576) :
    Calls Try.prog 8 #[.slice (some ⟨T, off, none⟩) ts.length ct, .int .i64 fuel] w (RunP w (rRun ts (furV ts) fuel 0 (.ev [] ((ts.length : Int) - 1) .nil), 0)) := by
  have hlen := (may_parts hm).1
  have hmay := Lib.hid fun (W : World) (hb : Below w.heap.size w W) => may_any T off ct ts W (Lib.hid (h.out.below hb hT)) (Nat.lt_of_lt_of_le hT hb.size) (by omega)
  rw [hm] at hmay
  have hres := Lib.hid fun (W : World) (hb : Below w.heap.size w W) => resolve_any T off ct ts W (Lib.hid (h.out.below hb hT)) (Nat.lt_of_lt_of_le hT hb.size) hlen.1 hlen.2 (kidLt_of hm) (namIn_of hm)
  have hf0 : decide ((fuel : Int) < 0) = false := decide_eq_false (by omega)
  have hf1 : decide ((1048576 : Int) < (fuel : Int)) = false := decide_eq_false (by omega)
  have hmh := Lib.hid hm
  clear hm
  have hlh := Lib.hid hlen
  have wl : IntKind.i64.wrap ((ts.length : Int) - 1) = (ts.length : Int) - 1 := IntWalk.i64_in _ (by omega)
  obtain ⟨R, hR⟩ : ∃ R, rRun ts (furV ts) fuel 0 (.ev [] ((ts.length : Int) - 1) .nil) = R := ⟨_, rfl⟩
  rw [hR]
  have hRh := Lib.hid hR
  clear hlen hR
  go_enter Try.func8, Try.ntmps8
  go_wp2_with fail
  refine (hmay.out _ (by (repeat' (first | (with_reducible first | exact bR _ _ | assumption | apply bS | apply bA | apply bD | apply bN | exact bL _) | (simp; done) | (simp; omega) | omega | exact bL _)))).mono ?_
  rintro e1 w1 ⟨rfl, hb1⟩
  have x0 : w1.cell? ⟨w.heap.size, 0, none⟩ = some (.int .i64 0) := carry hb1 (by simp) (by simp [go_sem])
  have x1 : w1.cell? ⟨w.heap.size, 1, none⟩ = some (.int .i64 0) := carry hb1 (by simp) (by simp [go_sem])
  have xf : ∀ o, w1.frozen? ⟨w.heap.size, o, none⟩ = false := fun o => by rw [hb1.frozen (p := ⟨w.heap.size, o, none⟩) (by simp)]; simp [go_sem]
  have xl : w.heap.size < w1.heap.size := Nat.lt_of_lt_of_le (by simp) hb1.size
  have hbw := Lib.hid (show Below w.heap.size w w1 from belT (by (repeat' (first | (with_reducible first | exact bR _ _ | assumption | apply bS | apply bA | apply bD | apply bN | exact bL _) | (simp; done) | (simp; omega) | omega | exact bL _))) hb1)
  clear hb1 hmay
  go_wp2_with fail
  refine (hres.out _ hbw.out).mono ?_
  rintro e2 w2 ⟨F, cf, rfl, hF0, hFl, hFc, hb2⟩
  have hFc := Lib.hid hFc
  have x0 : w2.cell? _ = _ := carry hb2 xl x0
  have x1 : w2.cell? _ = _ := carry hb2 xl x1
  have xf : ∀ o, w2.frozen? ⟨w.heap.size, o, none⟩ = false := fun o => (hb2.frozen (p := ⟨w.heap.size, o, none⟩) xl).trans (xf o)
  have xl : w.heap.size < w2.heap.size := Nat.lt_of_lt_of_le xl hb2.size
  have hbw := Lib.hid (belT hbw.out hb2)
  clear hb2 hres
  go_wp2_with fail
  have hG1 := hbw.out.size
  obtain ⟨Wb, hWb⟩ : ∃ W, w2.alloc (.cells #[.int .i64 0, .int .i64 0, .bool false, .slice (some ⟨T, off, none⟩) ts.length ct, .slice (some ⟨F, 0, none⟩) ts.length cf, .slice none 0 0, .bool false, .int .i64 0, .int .i64 0, .pointer none, .pointer none, .pointer none, .int .i64 0, .pointer none] 58) = W := ⟨_, rfl⟩
  rw [hWb]
  have hsb : Wb.heap.size = w2.heap.size + 1 := by rw [← hWb]; simp
  have hbb : Below w2.heap.size w2 Wb := by rw [← hWb]; exact below_alc _ _
  have hMC : McC Wb w2.heap.size (.slice (some ⟨T, off, none⟩) ts.length ct) (.slice (some ⟨F, 0, none⟩) ts.length cf) (.slice none 0 0) ⟨0, 0, false, false, th0, 0, none, (Wb, fun k => k < w2.heap.size)⟩ :=
    ⟨by omega, by rw [← hWb]; exact TyAt.new _ _ _, fun o => by rw [← hWb]; simp [go_sem], by rw [← hWb]; simp [go_sem], by rw [← hWb]; simp [go_sem], by rw [← hWb]; simp [go_sem], by rw [← hWb]; simp [go_sem], by rw [← hWb]; simp [go_sem], by rw [← hWb]; simp [go_sem], by rw [← hWb]; simp [go_sem], by rw [← hWb]; simp [go_sem, th0], by rw [← hWb]; simp [go_sem, th0], by rw [← hWb]; simp [go_sem, th0], by rw [← hWb]; simp [go_sem, th0], by rw [← hWb]; simp [go_sem, th0], by rw [← hWb]; simp [go_sem], by rw [← hWb]; simp [go_sem], Bar.refl _ _, fun e => by have e : w2.heap.size < w2.heap.size := e; omega, fun k hk => by have hk : k < w2.heap.size := hk; omega⟩
  have hMR : MRc (w2.heap.size + 1) w2.heap.size (.slice (some ⟨T, off, none⟩) ts.length ct) (.slice (some ⟨F, 0, none⟩) ts.length cf) (.slice none 0 0) ⟨0, 0, false, false, th0, 0, none, (Wb, fun k => k < w2.heap.size)⟩ [] Wb :=
    ⟨hMC, OwnF.nil _ _, by omega, by omega, fun k hk => by cases hk⟩
  have hTb := h.out.below (belT hbw.out hbb) hT
  have hFb : ∀ i, i < (furV ts).length → Wb.cell? ⟨F, i, none⟩ = some (.int .i64 ((furV ts).getD i 0)) := fun i hi => carry hbb hFl (hFc.out i (by rw [furV_len] at hi; exact hi))
  have x0 : Wb.cell? _ = _ := carry hbb xl x0
  have x1 : Wb.cell? _ = _ := carry hbb xl x1
  have xf : ∀ o, Wb.frozen? ⟨w.heap.size, o, none⟩ = false := fun o => (hbb.frozen (p := ⟨w.heap.size, o, none⟩) xl).trans (xf o)
  have hbW := Lib.hid (belT hbw.out hbb)
  have hen := Lib.hid (enter_any Wb w2.heap.size _ _ _ _ ((ts.length : Int) - 1) none (Lib.hid hMC))
  have hTG : T < w2.heap.size := by omega
  have hlen := hlh.out
  have hrun := Lib.hid fun (w3 : World) (h3 : McC w3 w2.heap.size (.slice (some ⟨T, off, none⟩) ts.length ct) (.slice (some ⟨F, 0, none⟩) ts.length cf) (.slice none 0 0) { (⟨0, 0, false, false, th0, 0, none, (Wb, fun k => k < w2.heap.size)⟩ : Mc) with hv := false, nd := (ts.length : Int) - 1, en := none }) (hb3 : Bar (Bq w2.heap.size) Wb w3) =>
    run_any (Wb, fun k => k < w2.heap.size) (w2.heap.size + 1) w2.heap.size T off ct F cf ts (furV ts) (.ev [] ((ts.length : Int) - 1) .nil) w3 fuel
      (Lib.hid (by rw [furV_len]; exact mr_ev (stk := []) (env := .nil) hMR rfl rfl (EnR.nil _) rfl h3 hb3)) hTG hFl
      (Lib.hid ⟨T, off, ct, rfl, by omega, by omega, by have := hb3.size; omega, fun i hi => by
        obtain ⟨b0, b1, b2, b3, b4, b5, b6, b7, b8⟩ := hTb i hi
        have hn : ¬ Bq w2.heap.size T := fun e => by have e : T = w2.heap.size := e; omega
        exact ⟨hb3.cell b0 hn, hb3.cell b1 hn, hb3.cell b2 hn, hb3.cell b3 hn, hb3.cell b4 hn, hb3.cell b5 hn, hb3.cell b6 hn, hb3.cell b7 hn, hb3.cell b8 hn⟩⟩)
      (Lib.hid ⟨F, cf, rfl, by omega, by omega, by have := hb3.size; omega, fun i hi => hb3.cell (hFb i hi) fun e => by have e : F = w2.heap.size := e; omega⟩)
      (furV_len ts) (fun i => by have := furV_ok (kidLt_of hmh.out) hlen.1 hlen.2 i; omega) ⟨⟨by omega, by omega⟩, Nat.le_refl _, trivial, fun f hf => by cases hf⟩ (kidIn_of hmh.out) (by omega) (by omega)
  rw [hRh.out] at hrun
  have hxx := Lib.hid (show ∀ w4, Bar (fun k => ¬ (k < w2.heap.size)) Wb w4 → (w4.cell? ⟨w.heap.size, 0, none⟩ = some (.int .i64 0) ∧ w4.cell? ⟨w.heap.size, 1, none⟩ = some (.int .i64 0) ∧ (∀ o, w4.frozen? ⟨w.heap.size, o, none⟩ = false) ∧ w.heap.size < w4.heap.size ∧ Below w.heap.size w w4) from fun w4 hb4 => by
    have hn : ¬ ¬ (w.heap.size < w2.heap.size) := fun h => h xl
    have hW := hbW.out
    exact ⟨hb4.cell x0 hn, hb4.cell x1 hn, fun o => (hb4.frozen (a := ⟨w.heap.size, o, none⟩) (show w.heap.size < Wb.heap.size by omega) hn).trans (xf o), by have := hb4.size; omega, ⟨hb4.os.trans hW.os, hb4.tape.trans hW.tape, hb4.output.trans hW.output, Nat.le_trans hW.size hb4.size, fun k hk => (hb4.block k (by omega) (fun e => e (by omega))).trans (hW.block k hk)⟩⟩)
  obtain ⟨⟨o1, o2⟩, m⟩ := R
  clear hMC hMR hTb hFb hWb hbb x0 x1 xf hRh hmh hlh hFc hbw hbW hlen hsb hG1
  refine hen.out.mono ?_
  rintro e3 w3 ⟨rfl, h3, hb3⟩
  have hG3 := h3.lt
  have hrn := Lib.hid (hrun.out w3 h3 hb3)
  clear hrun h3 hb3 hen
  go_wp2_with fail
  refine hrn.out.mono ?_
  rintro e4 w4 ⟨rfl, hb4⟩
  obtain ⟨x0, x1, xf, xl4, hbw⟩ := hxx.out w4 hb4
  have xf0 := xf 0; have xf1 := xf 1
  clear hb4 hxx hrn xf
  dsimp only
  go_wp2_with fail
  exact bodyPost_ret (v := runR (((o1, o2), m), 0)) (by simp [results, Try.results8, go_sem, runR, *]) rfl ⟨rfl, by (repeat' (first | (with_reducible first | exact bR _ _ | assumption | apply bS | apply bA | apply bD | apply bN | exact bL _) | (simp; done) | (simp; omega) | omega | exact bL _))⟩
theorem Run_any (T off ct : Nat) (ts : List Tg) (w : World) (fuel : Int) (h : Hid (TgSl w T off ts)) (hT : T < w.heap.size) (hl : ts.length ≤ 140737488351232) (hf : -9223372036854775808 ≤ fuel ∧ fuel ≤ 9223372036854775807) :
  Calls Try.prog 8 #[.slice (some ⟨T, off, none⟩) ts.length ct, .int .i64 fuel] w (RunP w (runV ts fuel)) := by
 unfold runV
 by_cases hc : mayV ts = true ∧ 0 ≤ fuel ∧ fuel ≤ 1048576
 ·rw [if_pos hc]
  obtain ⟨n, rfl⟩ : ∃ n : Nat, fuel = n := ⟨fuel.toNat, by omega⟩
  exact Run_ok T off ct ts w n h hT hc.1 (by omega)
 ·rw [if_neg hc]
  refine Run_bad T off ct ts w fuel h hT hl ?_
  cases hm : mayV ts with
  | false => exact .inl rfl
  | true => exact .inr ⟨rfl, by rw [hm] at hc; simp at hc; omega⟩
open Go.RowKit
theorem run_lit (W : World) (g n c : Nat) (ts : List Tg) (fuel k m : Int) (s : Nat) (e2 : Int) (hg : g < W.heap.size) (hn : n = ts.length) (h : TgSl W g 0 ts) (hl : n ≤ 8192) (hv : runV ts fuel = (((k, m), s), e2)) (hf : -9223372036854775808 ≤ fuel ∧ fuel ≤ 9223372036854775807) :
  Calls Try.prog 8 #[.slice (some ⟨g, 0, none⟩) n c, .int .i64 fuel] W fun e w' => e = .returned (.tuple #[.agg #[.int .i64 k, .int .i64 m], .int .i64 s, .int .i64 e2]) ∧ Below W.heap.size W w' := by
 subst hn
 refine (Run_any g 0 c ts W fuel (Lib.hid h) hg (by omega) hf).mono ?_
 rintro e w1 ⟨rfl, hb⟩
 rw [hv]
 exact ⟨rfl, hb⟩
theorem v21_1 : runV [⟨1, 0, 0, 0, 1, 0, 0, 0, 0⟩, ⟨9, 0, 0, 0, 0, 0, 0, 0, 0⟩] 9 = (((0, 1), 3), 0) := by decide +kernel
theorem v21_2 : runV [⟨1, 0, 0, 0, 1, 0, 0, 0, 0⟩] 9 = (((5, 0), 1), 0) := by decide +kernel
theorem v21_3 : runV [⟨1, 0, 0, 0, 1, 0, 0, 0, 0⟩, ⟨9, 0, 0, 0, 0, 0, 0, 0, 0⟩, ⟨0, 0, 0, 0, 3, 0, 0, 0, 0⟩, ⟨9, 2, 0, 0, 0, 0, 0, 0, 0⟩, ⟨11, 1, 3, 0, 0, 3, 0, 0, 0⟩] 9 = (((0, 1), 8), 0) := by decide +kernel
theorem v21_4 : runV [⟨1, 0, 0, 0, 1, 0, 0, 0, 0⟩, ⟨9, 0, 0, 0, 0, 0, 0, 0, 0⟩] 2 = (((4, 0), 2), 0) := by decide +kernel
theorem awake21_any (w : World) : Calls Try.prog 12 #[] w fun e w' => e = .returned (.bool true) ∧ Below w.heap.size w w' := by
 go_enter Try.func12, Try.ntmps12
 go_wp2_with fail
 have hS1 : TgSl ((w.alloc (.cells #[.int .i64 1, .int .i64 0, .int .i64 0, .int .i64 0, .int .i64 1, .int .i64 0, .int .i64 0, .int .i64 0, .int .i64 0] 37)).alloc (.cells #[.int .i64 1, .int .i64 0, .int .i64 0, .int .i64 0, .int .i64 1, .int .i64 0, .int .i64 0, .int .i64 0, .int .i64 0, .int .i64 9, .int .i64 0, .int .i64 0, .int .i64 0, .int .i64 0, .int .i64 0, .int .i64 0, .int .i64 0, .int .i64 0] 37)) (w.heap.size + 1) 0 [⟨1, 0, 0, 0, 1, 0, 0, 0, 0⟩, ⟨9, 0, 0, 0, 0, 0, 0, 0, 0⟩] := lit_sl _ _ _ _ (by simp) rfl
 refine (run_lit _ (w.heap.size + 1) 2 2 [⟨1, 0, 0, 0, 1, 0, 0, 0, 0⟩, ⟨9, 0, 0, 0, 0, 0, 0, 0, 0⟩] 9 0 1 3 0 (by simp) rfl hS1 (by omega) v21_1 (by omega)).mono ?_
 rintro e1 w1 ⟨rfl, hb1⟩
 clear hS1
 have hB1 : Below w.heap.size w w1 := belT (show Below w.heap.size w _ from by (repeat' (first | (with_reducible first | exact bR _ _ | assumption | apply bS | apply bA | apply bD | apply bN | exact bL _) | (simp; done) | (simp; omega) | omega | exact bL _))) hb1
 have n0 : w1.cell? ⟨w.heap.size, 0, none⟩ = some (.int .i64 1) := carry hb1 (by simp; omega) (by simp [go_sem])
 have n1 : w1.cell? ⟨w.heap.size, 1, none⟩ = some (.int .i64 0) := carry hb1 (by simp; omega) (by simp [go_sem])
 have n2 : w1.cell? ⟨w.heap.size, 2, none⟩ = some (.int .i64 0) := carry hb1 (by simp; omega) (by simp [go_sem])
 have n3 : w1.cell? ⟨w.heap.size, 3, none⟩ = some (.int .i64 0) := carry hb1 (by simp; omega) (by simp [go_sem])
 have n4 : w1.cell? ⟨w.heap.size, 4, none⟩ = some (.int .i64 1) := carry hb1 (by simp; omega) (by simp [go_sem])
 have n5 : w1.cell? ⟨w.heap.size, 5, none⟩ = some (.int .i64 0) := carry hb1 (by simp; omega) (by simp [go_sem])
 have n6 : w1.cell? ⟨w.heap.size, 6, none⟩ = some (.int .i64 0) := carry hb1 (by simp; omega) (by simp [go_sem])
 have n7 : w1.cell? ⟨w.heap.size, 7, none⟩ = some (.int .i64 0) := carry hb1 (by simp; omega) (by simp [go_sem])
 have n8 : w1.cell? ⟨w.heap.size, 8, none⟩ = some (.int .i64 0) := carry hb1 (by simp; omega) (by simp [go_sem])
 have hl0 : w.heap.size < w1.heap.size := Nat.lt_of_lt_of_le (by simp; omega) hb1.size
 clear hb1
 have hW1 := Lib.hid hB1
 clear hB1
 go_wp2_with fail
 have hS2 : TgSl ((w1.alloc (.cells #[.int .i64 0, .int .i64 1] 25)).alloc (.cells #[.int .i64 1, .int .i64 0, .int .i64 0, .int .i64 0, .int .i64 1, .int .i64 0, .int .i64 0, .int .i64 0, .int .i64 0] 37)) (w1.heap.size + 1) 0 [⟨1, 0, 0, 0, 1, 0, 0, 0, 0⟩] := lit_sl _ _ _ _ (by simp) rfl
 refine (run_lit _ (w1.heap.size + 1) 1 1 [⟨1, 0, 0, 0, 1, 0, 0, 0, 0⟩] 9 5 0 1 0 (by simp) rfl hS2 (by omega) v21_2 (by omega)).mono ?_
 rintro e2 w2 ⟨rfl, hb2⟩
 clear hS2
 have hB2 : Below w1.heap.size w1 w2 := belT (show Below w1.heap.size w1 _ from by (repeat' (first | (with_reducible first | exact bR _ _ | assumption | apply bS | apply bA | apply bD | apply bN | exact bL _) | (simp; done) | (simp; omega) | omega | exact bL _))) hb2
 have n0 : w2.cell? _ = _ := carry hB2 hl0 n0
 have n1 : w2.cell? _ = _ := carry hB2 hl0 n1
 have n2 : w2.cell? _ = _ := carry hB2 hl0 n2
 have n3 : w2.cell? _ = _ := carry hB2 hl0 n3
 have n4 : w2.cell? _ = _ := carry hB2 hl0 n4
 have n5 : w2.cell? _ = _ := carry hB2 hl0 n5
 have n6 : w2.cell? _ = _ := carry hB2 hl0 n6
 have n7 : w2.cell? _ = _ := carry hB2 hl0 n7
 have n8 : w2.cell? _ = _ := carry hB2 hl0 n8
 have hl0 : w.heap.size < w2.heap.size := Nat.lt_of_lt_of_le hl0 hB2.size
 have o20 : w2.cell? ⟨w1.heap.size, 0, none⟩ = some (.int .i64 0) := carry hb2 (by simp; omega) (by simp [go_sem])
 have o21 : w2.cell? ⟨w1.heap.size, 1, none⟩ = some (.int .i64 1) := carry hb2 (by simp; omega) (by simp [go_sem])
 have hl2 : w1.heap.size < w2.heap.size := Nat.lt_of_lt_of_le (by simp; omega) hb2.size
 clear hb2
 have hW2 := Lib.hid (belT hW1.out hB2)
 clear hB2
 go_wp2_with fail
 have hS3 : TgSl ((w2.alloc (.cells #[.int .i64 5, .int .i64 0] 25)).alloc (.cells #[.int .i64 1, .int .i64 0, .int .i64 0, .int .i64 0, .int .i64 1, .int .i64 0, .int .i64 0, .int .i64 0, .int .i64 0, .int .i64 9, .int .i64 0, .int .i64 0, .int .i64 0, .int .i64 0, .int .i64 0, .int .i64 0, .int .i64 0, .int .i64 0, .int .i64 0, .int .i64 0, .int .i64 0, .int .i64 0, .int .i64 3, .int .i64 0, .int .i64 0, .int .i64 0, .int .i64 0, .int .i64 9, .int .i64 2, .int .i64 0, .int .i64 0, .int .i64 0, .int .i64 0, .int .i64 0, .int .i64 0, .int .i64 0, .int .i64 11, .int .i64 1, .int .i64 3, .int .i64 0, .int .i64 0, .int .i64 3, .int .i64 0, .int .i64 0, .int .i64 0] 37)) (w2.heap.size + 1) 0 [⟨1, 0, 0, 0, 1, 0, 0, 0, 0⟩, ⟨9, 0, 0, 0, 0, 0, 0, 0, 0⟩, ⟨0, 0, 0, 0, 3, 0, 0, 0, 0⟩, ⟨9, 2, 0, 0, 0, 0, 0, 0, 0⟩, ⟨11, 1, 3, 0, 0, 3, 0, 0, 0⟩] := lit_sl _ _ _ _ (by simp) rfl
 refine (run_lit _ (w2.heap.size + 1) 5 5 [⟨1, 0, 0, 0, 1, 0, 0, 0, 0⟩, ⟨9, 0, 0, 0, 0, 0, 0, 0, 0⟩, ⟨0, 0, 0, 0, 3, 0, 0, 0, 0⟩, ⟨9, 2, 0, 0, 0, 0, 0, 0, 0⟩, ⟨11, 1, 3, 0, 0, 3, 0, 0, 0⟩] 9 0 1 8 0 (by simp) rfl hS3 (by omega) v21_3 (by omega)).mono ?_
 rintro e3 w3 ⟨rfl, hb3⟩
 clear hS3
 have hB3 : Below w2.heap.size w2 w3 := belT (show Below w2.heap.size w2 _ from by (repeat' (first | (with_reducible first | exact bR _ _ | assumption | apply bS | apply bA | apply bD | apply bN | exact bL _) | (simp; done) | (simp; omega) | omega | exact bL _))) hb3
 have n0 : w3.cell? _ = _ := carry hB3 hl0 n0
 have n1 : w3.cell? _ = _ := carry hB3 hl0 n1
 have n2 : w3.cell? _ = _ := carry hB3 hl0 n2
 have n3 : w3.cell? _ = _ := carry hB3 hl0 n3
 have n4 : w3.cell? _ = _ := carry hB3 hl0 n4
 have n5 : w3.cell? _ = _ := carry hB3 hl0 n5
 have n6 : w3.cell? _ = _ := carry hB3 hl0 n6
 have n7 : w3.cell? _ = _ := carry hB3 hl0 n7
 have n8 : w3.cell? _ = _ := carry hB3 hl0 n8
 have o20 : w3.cell? _ = _ := carry hB3 hl2 o20
 have o21 : w3.cell? _ = _ := carry hB3 hl2 o21
 have hl0 : w.heap.size < w3.heap.size := Nat.lt_of_lt_of_le hl0 hB3.size
 have hl2 : w1.heap.size < w3.heap.size := Nat.lt_of_lt_of_le hl2 hB3.size
 have o30 : w3.cell? ⟨w2.heap.size, 0, none⟩ = some (.int .i64 5) := carry hb3 (by simp; omega) (by simp [go_sem])
 have o31 : w3.cell? ⟨w2.heap.size, 1, none⟩ = some (.int .i64 0) := carry hb3 (by simp; omega) (by simp [go_sem])
 have hl3 : w2.heap.size < w3.heap.size := Nat.lt_of_lt_of_le (by simp; omega) hb3.size
 clear hb3
 have hW3 := Lib.hid (belT hW2.out hB3)
 clear hB3
 go_wp2_with fail
 have hS4 : TgSl ((w3.alloc (.cells #[.int .i64 0, .int .i64 1] 25)).alloc (.cells #[.int .i64 1, .int .i64 0, .int .i64 0, .int .i64 0, .int .i64 1, .int .i64 0, .int .i64 0, .int .i64 0, .int .i64 0, .int .i64 9, .int .i64 0, .int .i64 0, .int .i64 0, .int .i64 0, .int .i64 0, .int .i64 0, .int .i64 0, .int .i64 0] 37)) (w3.heap.size + 1) 0 [⟨1, 0, 0, 0, 1, 0, 0, 0, 0⟩, ⟨9, 0, 0, 0, 0, 0, 0, 0, 0⟩] := lit_sl _ _ _ _ (by simp) rfl
 refine (run_lit _ (w3.heap.size + 1) 2 2 [⟨1, 0, 0, 0, 1, 0, 0, 0, 0⟩, ⟨9, 0, 0, 0, 0, 0, 0, 0, 0⟩] 2 4 0 2 0 (by simp) rfl hS4 (by omega) v21_4 (by omega)).mono ?_
 rintro e4 w4 ⟨rfl, hb4⟩
 clear hS4
 have hB4 : Below w3.heap.size w3 w4 := belT (show Below w3.heap.size w3 _ from by (repeat' (first | (with_reducible first | exact bR _ _ | assumption | apply bS | apply bA | apply bD | apply bN | exact bL _) | (simp; done) | (simp; omega) | omega | exact bL _))) hb4
 have n0 : w4.cell? _ = _ := carry hB4 hl0 n0
 have n1 : w4.cell? _ = _ := carry hB4 hl0 n1
 have n2 : w4.cell? _ = _ := carry hB4 hl0 n2
 have n3 : w4.cell? _ = _ := carry hB4 hl0 n3
 have n4 : w4.cell? _ = _ := carry hB4 hl0 n4
 have n5 : w4.cell? _ = _ := carry hB4 hl0 n5
 have n6 : w4.cell? _ = _ := carry hB4 hl0 n6
 have n7 : w4.cell? _ = _ := carry hB4 hl0 n7
 have n8 : w4.cell? _ = _ := carry hB4 hl0 n8
 have o20 : w4.cell? _ = _ := carry hB4 hl2 o20
 have o21 : w4.cell? _ = _ := carry hB4 hl2 o21
 have o30 : w4.cell? _ = _ := carry hB4 hl3 o30
 have o31 : w4.cell? _ = _ := carry hB4 hl3 o31
 have hl0 : w.heap.size < w4.heap.size := Nat.lt_of_lt_of_le hl0 hB4.size
 have hl2 : w1.heap.size < w4.heap.size := Nat.lt_of_lt_of_le hl2 hB4.size
 have hl3 : w2.heap.size < w4.heap.size := Nat.lt_of_lt_of_le hl3 hB4.size
 have o40 : w4.cell? ⟨w3.heap.size, 0, none⟩ = some (.int .i64 0) := carry hb4 (by simp; omega) (by simp [go_sem])
 have o41 : w4.cell? ⟨w3.heap.size, 1, none⟩ = some (.int .i64 1) := carry hb4 (by simp; omega) (by simp [go_sem])
 have hl4 : w3.heap.size < w4.heap.size := Nat.lt_of_lt_of_le (by simp; omega) hb4.size
 clear hb4
 have hW4 := Lib.hid (belT hW3.out hB4)
 clear hB4
 go_wp2_with fail
 refine (Run_nil _ _ _ 9).mono ?_
 rintro e5 w5 ⟨rfl, hb5⟩
 have hB5 : Below w4.heap.size w4 w5 := belT (show Below w4.heap.size w4 _ from by (repeat' (first | (with_reducible first | exact bR _ _ | assumption | apply bS | apply bA | apply bD | apply bN | exact bL _) | (simp; done) | (simp; omega) | omega | exact bL _))) hb5
 have o20 : w5.cell? _ = _ := carry hB5 hl2 o20
 have o21 : w5.cell? _ = _ := carry hB5 hl2 o21
 have o30 : w5.cell? _ = _ := carry hB5 hl3 o30
 have o31 : w5.cell? _ = _ := carry hB5 hl3 o31
 have o40 : w5.cell? _ = _ := carry hB5 hl4 o40
 have o41 : w5.cell? _ = _ := carry hB5 hl4 o41
 have hl0 : w.heap.size < w5.heap.size := Nat.lt_of_lt_of_le hl0 hB5.size
 have hl2 : w1.heap.size < w5.heap.size := Nat.lt_of_lt_of_le hl2 hB5.size
 have hl3 : w2.heap.size < w5.heap.size := Nat.lt_of_lt_of_le hl3 hB5.size
 have hl4 : w3.heap.size < w5.heap.size := Nat.lt_of_lt_of_le hl4 hB5.size
 have o50 : w5.cell? ⟨w4.heap.size, 0, none⟩ = some (.int .i64 4) := carry hb5 (by simp) (by simp [go_sem])
 have o51 : w5.cell? ⟨w4.heap.size, 1, none⟩ = some (.int .i64 0) := carry hb5 (by simp) (by simp [go_sem])
 have hl5 : w4.heap.size < w5.heap.size := Nat.lt_of_lt_of_le (by simp) hb5.size
 clear hb5
 have hW5 := Lib.hid (belT hW4.out hB5)
 clear hB5 n0 n1 n2 n3 n4 n5 n6 n7 n8
 rw [show runR (((0, 0), 0), 2100) = .tuple #[.agg #[.int .i64 0, .int .i64 0], .int .i64 0, .int .i64 2100] from rfl]
 go_wp2_with ((go_at_call 10; refine (num_any _ _ (by omega) (by omega)).mono ?_; rintro e w' ⟨rfl, rfl⟩))
 go_ret
 exact ⟨rfl, belT hW5.out (by (repeat' (first | (with_reducible first | exact bR _ _ | assumption | apply bS | apply bA | apply bD | apply bN | exact bL _) | (simp; done) | (simp; omega) | omega | exact bL _)))⟩
end Go.Proofs.Ytnjalpcmjkahkaa
