/- Contracts of place.outcome and of the reference's tell. -/
import Derived.Test.YtilhpclnligpaaaDoorPlB
import Derived.Test.YtilhpclnligpaaaDoorDecB
import Derived.Test.YtilhpclnligpaaaDoorAgS
import Derived.Lib.LaidTab
namespace Go.Proofs.YtilhpclnligpaaaDoor
open Go.RowKit
set_option linter.unusedVariables false

abbrev TabW (w : World) : Prop := Lib.TabIs Tryd.prog w "internal/strconv.uint64pow10" .u64 Lib.pow10Tab
theorem below_grow (B : Nat) (w : World) (q : Nat) (os : Array Obj) (hB : B ≤ w.heap.size) : Below B w (Sort.grow (w.drewN q) os) :=
  ⟨rfl, rfl, rfl, by show w.heap.size ≤ (w.heap ++ os).size; simp, fun k hk => by
    show (w.heap ++ os)[k]? = w.heap[k]?
    exact Array.getElem?_append_left (by omega)⟩
theorem gPow : Tryd.prog.globalNamed "internal/strconv.uint64pow10" = some 1 := by kernel_rfl
theorem tab_keep {w w' : World} {B : Nat} (h : TabW w) (hb : Below B w w') (hB : w.heap.size ≤ B) : TabW w' := by
  exact Joins.tab_stays gPow h hb hB

/-- strconv.Itoa, the world behind it told by what lies below. -/
theorem itoa_any (n : Int) (w : World) (h0 : -9223372036854775808 ≤ n) (h1 : n ≤ 9223372036854775807) (ht : Hid (TabW w)) :
    Calls Tryd.prog 19 #[.int .i64 n] w fun e w' => e = .returned (.string ⟨(Lib.itoa n).toArray⟩) ∧ Below w.heap.size w w' :=
  (Tryd.strconv_Itoa n h0 h1 w ht.out).mono fun e w' ⟨he, k, os, hw⟩ => ⟨he, by subst hw; exact below_grow _ _ _ _ (Nat.le_refl _)⟩

theorem itoa_len (n : Int) (h0 : -9223372036854775808 ≤ n) (h1 : n ≤ 9223372036854775807) : (Lib.itoa n).length ≤ 21 := by
  have h2 : n.natAbs < 10 ^ 20 := by have : (9223372036854775808 : Nat) < 10 ^ 20 := by decide
                                     omega
  have h3 : n.toNat < 10 ^ 20 := by omega
  unfold Lib.itoa
  split
  · have := decDigits_le 20 n.natAbs (by decide) h2; simp; omega
  · have := decDigits_le 20 n.toNat (by decide) h3; omega
theorem neg_itoa (n : Int) (h : n < 0) : (⟨#[45]⟩ : ByteArray) ++ ⟨(Lib.itoa (-n)).toArray⟩ = ⟨(Lib.itoa n).toArray⟩ := by
  have h1 : Lib.itoa n = 45 :: Lib.decDigits n.natAbs := by unfold Lib.itoa; rw [if_pos h]
  have h2 : Lib.itoa (-n) = Lib.decDigits n.natAbs := by unfold Lib.itoa; rw [if_neg (by omega), show (-n).toNat = n.natAbs from by omega]
  rw [h1, h2]
  apply ByteArray.ext
  simp
/-- an outcome's text. -/
def outB (k n : Int) : ByteArray :=
  if k = 0 then ⟨(Lib.itoa n).toArray⟩ else if k = 1 then ⟨(Lib.formatBool (n == 1)).toArray⟩ else if k = 2 then ⟨#[102, 117, 110, 99, 116, 105, 111, 110]⟩
  else if k = 3 then ⟨#[102, 97, 117, 108, 116, 32]⟩ ++ ⟨(Lib.itoa n).toArray⟩ else if k = 4 then ⟨#[102, 117, 101, 108]⟩ else ⟨#[115, 116, 117, 99, 107]⟩
def OutPost (k n : Int) (w : World) (e : Ending) (w' : World) : Prop := e = .returned (.string (outB k n)) ∧ Below w.heap.size w w'

set_option maxHeartbeats 400000 in
theorem outc_any (k n : Int) (w : World) (hm : mayO k n = true) (ht : Hid (TabW w)) :
    Calls Tryd.prog 18 #[.agg #[.int .i64 k, .int .i64 n]] w (OutPost k n w) := by
  have hm' := of_decide_eq_true hm
  clear hm
  have hk : k = 0 ∨ k = 1 ∨ k = 2 ∨ k = 3 ∨ k = 4 ∨ k = 5 := by omega
  have hn : -1073741824 ≤ n ∧ n ≤ 1073741823 := by omega
  have hil := itoa_len n (by omega) (by omega)
  have hb : ∀ W : World, Below w.heap.size w (w.alloc (.cells #[.int .i64 k, .int .i64 n] 23)) := fun _ => (Below.refl _ _).alloc (Nat.le_refl _) _
  have ht1 : Hid (TabW (w.alloc (.cells #[.int .i64 k, .int .i64 n] 23))) := Lib.hid (tab_keep ht.out ((Below.refl w.heap.size _).alloc (Nat.le_refl _) _) (Nat.le_refl _))
  clear hb
  rcases hk with rfl | rfl | rfl | rfl | rfl | rfl
  · clear hm'
    go_enter Tryd.func18, Tryd.ntmps18
    go_wp2_with fail
    refine (itoa_any _ _ (by omega) (by omega) ht1).mono ?_
    rintro e w1 ⟨rfl, hb1⟩
    go_wp2_with fail
    go_ret
    exact ⟨rfl, belT (by (repeat' (first | with_reducible exact Below.refl _ _ | with_reducible assumption | with_reducible apply Below.setCell | with_reducible apply Below.alloc | with_reducible apply Below.drew | with_reducible apply below_drewN | exact Nat.le_refl _ | omega | (simp; done) | (simp; omega)))) hb1⟩
  · clear hm'
    go_enter Tryd.func18, Tryd.ntmps18
    go_wp2_with fail
    refine (Tryd.strconv_FormatBool _ _).mono ?_
    rintro e w1 ⟨rfl, rfl⟩
    go_wp2_with fail
    go_ret
    exact ⟨rfl, by (repeat' (first | with_reducible exact Below.refl _ _ | with_reducible assumption | with_reducible apply Below.setCell | with_reducible apply Below.alloc | with_reducible apply Below.drew | with_reducible apply below_drewN | exact Nat.le_refl _ | omega | (simp; done) | (simp; omega)))⟩
  · clear hm'
    go_enter Tryd.func18, Tryd.ntmps18
    go_wp2_with fail
    go_ret
    exact ⟨rfl, by (repeat' (first | with_reducible exact Below.refl _ _ | with_reducible assumption | with_reducible apply Below.setCell | with_reducible apply Below.alloc | with_reducible apply Below.drew | with_reducible apply below_drewN | exact Nat.le_refl _ | omega | (simp; done) | (simp; omega)))⟩
  · clear hm'
    go_enter Tryd.func18, Tryd.ntmps18
    go_wp2_with fail
    refine (itoa_any _ _ (by omega) (by omega) ht1).mono ?_
    rintro e w1 ⟨rfl, hb1⟩
    go_wp2_with fail
    go_ret
    exact ⟨rfl, belT (by (repeat' (first | with_reducible exact Below.refl _ _ | with_reducible assumption | with_reducible apply Below.setCell | with_reducible apply Below.alloc | with_reducible apply Below.drew | with_reducible apply below_drewN | exact Nat.le_refl _ | omega | (simp; done) | (simp; omega)))) hb1⟩
  · clear hm'
    go_enter Tryd.func18, Tryd.ntmps18
    go_wp2_with fail
    go_ret
    exact ⟨rfl, by (repeat' (first | with_reducible exact Below.refl _ _ | with_reducible assumption | with_reducible apply Below.setCell | with_reducible apply Below.alloc | with_reducible apply Below.drew | with_reducible apply below_drewN | exact Nat.le_refl _ | omega | (simp; done) | (simp; omega)))⟩
  · clear hm'
    go_enter Tryd.func18, Tryd.ntmps18
    go_wp2_with fail
    go_ret
    exact ⟨rfl, by (repeat' (first | with_reducible exact Below.refl _ _ | with_reducible assumption | with_reducible apply Below.setCell | with_reducible apply Below.alloc | with_reducible apply Below.drew | with_reducible apply below_drewN | exact Nat.le_refl _ | omega | (simp; done) | (simp; omega)))⟩

set_option maxHeartbeats 400000 in
theorem rtell_any (k n : Int) (w : World) (hm : mayO k n = true) :
    Calls Tryd.prog 21 #[.agg #[.int .i64 k, .int .i64 n]] w (OutPost k n w) := by
  have hm' := of_decide_eq_true hm
  clear hm
  have hn : -1073741824 ≤ n ∧ n ≤ 1073741823 := by omega
  have hil := itoa_len n (by omega) (by omega)
  by_cases hneg : n < 0
  · obtain rfl : k = 0 := by omega
    clear hm'
    have hil2 := itoa_len (-n) (by omega) (by omega)
    go_enter Tryd.func21, Tryd.ntmps21
    go_wp2_with fail
    refine (dec_any _ _ (by omega) (by omega)).mono ?_
    rintro e w1 ⟨rfl, hb1⟩
    obtain ⟨hc1, hf1⟩ := bcell hb1
    have hz1_0 : w.heap.size < w1.heap.size := by have := hb1.size; (try simp at this); omega
    go_wp2_with fail
    refine (dec_any _ _ (by omega) (by omega)).mono ?_
    rintro e w2 ⟨rfl, hb2⟩
    obtain ⟨hc2, hf2⟩ := bcell hb2
    go_wp2_with fail
    go_ret
    refine ⟨ret_s ?_, belT (belT (by (repeat' (first | with_reducible exact Below.refl _ _ | with_reducible assumption | with_reducible apply Below.setCell | with_reducible apply Below.alloc | with_reducible apply Below.drew | with_reducible apply below_drewN | exact Nat.le_refl _ | omega | (simp; done) | (simp; omega)))) hb1) hb2⟩
    rw [neg_itoa _ hneg]; rfl
  · have hk : k = 0 ∨ k = 1 ∨ k = 2 ∨ k = 3 ∨ k = 4 ∨ k = 5 := by omega
    rcases hk with rfl | rfl | rfl | rfl | rfl | rfl
    · clear hm'
      go_enter Tryd.func21, Tryd.ntmps21
      go_wp2_with fail
      refine (dec_any _ _ (by omega) (by omega)).mono ?_
      rintro e w1 ⟨rfl, hb1⟩
      obtain ⟨hc1, hf1⟩ := bcell hb1
      have hz1_0 : w.heap.size < w1.heap.size := by have := hb1.size; (try simp at this); omega
      go_wp2_with fail
      go_ret
      exact ⟨rfl, belT (by (repeat' (first | with_reducible exact Below.refl _ _ | with_reducible assumption | with_reducible apply Below.setCell | with_reducible apply Below.alloc | with_reducible apply Below.drew | with_reducible apply below_drewN | exact Nat.le_refl _ | omega | (simp; done) | (simp; omega)))) hb1⟩
    · have hn1 : n = 0 ∨ n = 1 := by omega
      clear hm'
      rcases hn1 with rfl | rfl
      · go_enter Tryd.func21, Tryd.ntmps21
        go_wp2_with fail
        refine (dec_any _ _ (by omega) (by omega)).mono ?_
        rintro e w1 ⟨rfl, hb1⟩
        obtain ⟨hc1, hf1⟩ := bcell hb1
        have hz1_0 : w.heap.size < w1.heap.size := by have := hb1.size; (try simp at this); omega
        go_wp2_with fail
        go_ret
        exact ⟨rfl, by (repeat' (first | with_reducible exact Below.refl _ _ | with_reducible assumption | with_reducible apply Below.setCell | with_reducible apply Below.alloc | with_reducible apply Below.drew | with_reducible apply below_drewN | exact Nat.le_refl _ | omega | (simp; done) | (simp; omega))); exact belT (by (repeat' (first | with_reducible exact Below.refl _ _ | with_reducible assumption | with_reducible apply Below.setCell | with_reducible apply Below.alloc | with_reducible apply Below.drew | with_reducible apply below_drewN | exact Nat.le_refl _ | omega | (simp; done) | (simp; omega)))) hb1⟩
      · go_enter Tryd.func21, Tryd.ntmps21
        go_wp2_with fail
        refine (dec_any _ _ (by omega) (by omega)).mono ?_
        rintro e w1 ⟨rfl, hb1⟩
        obtain ⟨hc1, hf1⟩ := bcell hb1
        have hz1_0 : w.heap.size < w1.heap.size := by have := hb1.size; (try simp at this); omega
        go_wp2_with fail
        go_ret
        exact ⟨rfl, by (repeat' (first | with_reducible exact Below.refl _ _ | with_reducible assumption | with_reducible apply Below.setCell | with_reducible apply Below.alloc | with_reducible apply Below.drew | with_reducible apply below_drewN | exact Nat.le_refl _ | omega | (simp; done) | (simp; omega))); exact belT (by (repeat' (first | with_reducible exact Below.refl _ _ | with_reducible assumption | with_reducible apply Below.setCell | with_reducible apply Below.alloc | with_reducible apply Below.drew | with_reducible apply below_drewN | exact Nat.le_refl _ | omega | (simp; done) | (simp; omega)))) hb1⟩
    all_goals
      clear hm'
      go_enter Tryd.func21, Tryd.ntmps21
      go_wp2_with fail
      refine (dec_any _ _ (by omega) (by omega)).mono ?_
      rintro e w1 ⟨rfl, hb1⟩
      obtain ⟨hc1, hf1⟩ := bcell hb1
      have hz1_0 : w.heap.size < w1.heap.size := by have := hb1.size; (try simp at this); omega
      go_wp2_with fail
      go_ret
      exact ⟨rfl, belT (by (repeat' (first | with_reducible exact Below.refl _ _ | with_reducible assumption | with_reducible apply Below.setCell | with_reducible apply Below.alloc | with_reducible apply Below.drew | with_reducible apply below_drewN | exact Nat.le_refl _ | omega | (simp; done) | (simp; omega)))) hb1⟩
end Go.Proofs.YtilhpclnligpaaaDoor
