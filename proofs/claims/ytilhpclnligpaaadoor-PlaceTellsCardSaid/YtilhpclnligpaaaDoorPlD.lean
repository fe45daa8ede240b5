/- Contract of place.Tell. -/
import Derived.Test.YtilhpclnligpaaaDoorPlC
import Derived.Deep.RegionHeld3
namespace Go.Proofs.YtilhpclnligpaaaDoor
open Go.RowKit
set_option linter.unusedVariables false

def tellB (s : ByteArray) (code a : Int) (ty : ByteArray) (k n k' n' : Int) : ByteArray :=
  if code = 0 then ty ++ ⟨#[32, 61, 32]⟩ ++ outB k n ++ ⟨#[32, 124, 32]⟩ ++ outB k' n'
  else ⟨(Lib.itoa (lnV s a)).toArray⟩ ++ ⟨#[58]⟩ ++ ⟨(Lib.itoa (clV s a)).toArray⟩ ++ ⟨#[58, 32, 101, 114, 114, 111, 114, 32]⟩ ++ ⟨(Lib.itoa code).toArray⟩
def tellOk (s : ByteArray) (code a k n k' n' : Int) : Bool := mayO k n && mayO k' n' && decide (0 ≤ code) && (decide (code = 0) || plOk s a)
def tellV (s : ByteArray) (code a : Int) (ty : ByteArray) (k n k' n' : Int) : ByteArray := if tellOk s code a k n k' n' then tellB s code a ty k n k' n' else ⟨#[]⟩
def tellE (s : ByteArray) (code a k n k' n' : Int) : Int := if tellOk s code a k n k' n' then 0 else 2400
theorem tell_no {s : ByteArray} {code a : Int} {ty : ByteArray} {k n k' n' : Int} (h : tellOk s code a k n k' n' = false) : tellV s code a ty k n k' n' = ⟨#[]⟩ ∧ tellE s code a k n k' n' = 2400 := by
  unfold tellV tellE; rw [h]; exact ⟨rfl, rfl⟩
theorem tell_yes {s : ByteArray} {code a : Int} {ty : ByteArray} {k n k' n' : Int} (h : tellOk s code a k n k' n' = true) : tellV s code a ty k n k' n' = tellB s code a ty k n k' n' ∧ tellE s code a k n k' n' = 0 := by
  unfold tellV tellE; rw [h]; exact ⟨rfl, rfl⟩
theorem outB_size (k n : Int) (hm : mayO k n = true) : (outB k n).size ≤ 30 := by
  have hm' := of_decide_eq_true hm
  have h1 := itoa_len n (by omega) (by omega)
  unfold outB
  have hf : ∀ b : Bool, (Lib.formatBool b).length ≤ 5 := by intro b; cases b <;> decide +kernel
  have := hf (n == 1)
  (repeat' split) <;> simp only [ByteArray.size_append, ByteArray.size, List.size_toArray] <;> simp <;> omega
theorem ret_si {a b : ByteArray} {k : IntKind} {c d : Int} (h : a = b) (h' : c = d) : Ending.returned (.tuple #[.string a, .int k c]) = .returned (.tuple #[.string b, .int k d]) := by rw [h, h']

def KeepR (w W : World) : Prop := Below w.heap.size w W ∧ w.heap.size < W.heap.size ∧ Hid (TabW W)
theorem KeepR.go {w W w1 : World} (h : KeepR w W) (hb : Below W.heap.size W w1) : KeepR w w1 :=
  ⟨belT h.1 hb, by have := h.2.1; have := hb.size; omega, Lib.hid (tab_keep h.2.2.out hb (Nat.le_refl _))⟩
theorem cells_go {w W w1 : World} {o : Nat} {v : Value} (h : KeepR w W) (hb : Below W.heap.size W w1) (hc : W.cell? ⟨w.heap.size, o, none⟩ = some v) : w1.cell? ⟨w.heap.size, o, none⟩ = some v := by
  rw [hb.cell (p := ⟨w.heap.size, o, none⟩) h.2.1]; exact hc
theorem tellS_step {w W w1 : World} {t k n k' n' : Value} (h : W.cell? ⟨w.heap.size, 2, none⟩ = some t ∧ W.cell? ⟨w.heap.size, 3, none⟩ = some k ∧ W.cell? ⟨w.heap.size, 4, none⟩ = some n ∧ W.cell? ⟨w.heap.size, 5, none⟩ = some k' ∧ W.cell? ⟨w.heap.size, 6, none⟩ = some n' ∧ KeepR w W) (hb : Below W.heap.size W w1) :
    w1.cell? ⟨w.heap.size, 2, none⟩ = some t ∧ w1.cell? ⟨w.heap.size, 3, none⟩ = some k ∧ w1.cell? ⟨w.heap.size, 4, none⟩ = some n ∧ w1.cell? ⟨w.heap.size, 5, none⟩ = some k' ∧ w1.cell? ⟨w.heap.size, 6, none⟩ = some n' ∧ KeepR w w1 := by
  obtain ⟨h2, h3, h4, h5, h6, hk⟩ := h
  exact ⟨cells_go hk hb h2, cells_go hk hb h3, cells_go hk hb h4, cells_go hk hb h5, cells_go hk hb h6, hk.go hb⟩
theorem tellS_drew {w W : World} {t k n k' n' : Value} (h2 : W.cell? ⟨w.heap.size, 2, none⟩ = some t) (h3 : W.cell? ⟨w.heap.size, 3, none⟩ = some k) (h4 : W.cell? ⟨w.heap.size, 4, none⟩ = some n) (h5 : W.cell? ⟨w.heap.size, 5, none⟩ = some k') (h6 : W.cell? ⟨w.heap.size, 6, none⟩ = some n') (hk : KeepR w W) :
    W.drew.cell? ⟨w.heap.size, 2, none⟩ = some t ∧ W.drew.cell? ⟨w.heap.size, 3, none⟩ = some k ∧ W.drew.cell? ⟨w.heap.size, 4, none⟩ = some n ∧ W.drew.cell? ⟨w.heap.size, 5, none⟩ = some k' ∧ W.drew.cell? ⟨w.heap.size, 6, none⟩ = some n' ∧ KeepR w W.drew :=
  ⟨h2, h3, h4, h5, h6, hk.go ((Below.refl _ _).drew)⟩
theorem tellS_below {w W : World} {t k n k' n' : Value} (h : W.cell? ⟨w.heap.size, 2, none⟩ = some t ∧ W.cell? ⟨w.heap.size, 3, none⟩ = some k ∧ W.cell? ⟨w.heap.size, 4, none⟩ = some n ∧ W.cell? ⟨w.heap.size, 5, none⟩ = some k' ∧ W.cell? ⟨w.heap.size, 6, none⟩ = some n' ∧ KeepR w W) : Below w.heap.size w W := h.2.2.2.2.2.1
theorem tell1S_below {w W : World} {c : Value} (h : W.cell? ⟨w.heap.size, 0, none⟩ = some c ∧ KeepR w W) : Below w.heap.size w W := h.2.1
theorem tellS_tab {w W : World} {t k n k' n' : Value} (h : W.cell? ⟨w.heap.size, 2, none⟩ = some t ∧ W.cell? ⟨w.heap.size, 3, none⟩ = some k ∧ W.cell? ⟨w.heap.size, 4, none⟩ = some n ∧ W.cell? ⟨w.heap.size, 5, none⟩ = some k' ∧ W.cell? ⟨w.heap.size, 6, none⟩ = some n' ∧ KeepR w W) : Hid (TabW W) := h.2.2.2.2.2.2.2

def TellPost (s : ByteArray) (code a : Int) (ty : ByteArray) (k n k' n' : Int) (w : World) (e : Ending) (w' : World) : Prop :=
  e = .returned (.tuple #[.string (tellV s code a ty k n k' n'), .int .i64 (tellE s code a k n k' n')]) ∧ Below w.heap.size w w'

set_option maxRecDepth 100000 in
set_option maxHeartbeats 1000000 in
theorem tell0_any (s ty : ByteArray) (a k n k' n' : Int) (w : World) (hs : s.size ≤ 140737488355328) (hty : ty.size ≤ 140737488355328) (ht : Hid (TabW w)) (hm : mayO k n = true) (hm' : mayO k' n' = true) :
    Calls Tryd.prog 10 #[.string s, .agg #[.int .i64 0, .int .i64 a, .string ty, .int .i64 k, .int .i64 n, .int .i64 k', .int .i64 n']] w (TellPost s 0 a ty k n k' n' w) := by
  have hok := Lib.hid (tell_yes (ty := ty) (show tellOk s 0 a k n k' n' = true by unfold tellOk; rw [hm, hm']; rfl))
  have hz1 := outB_size k n hm
  have hz2 := outB_size k' n' hm'
  have hE : Hid (sameE k n k' n' = 0) := Lib.hid (by unfold sameE; rw [hm, hm']; rfl)
  obtain ⟨o1, ho1⟩ : ∃ o, outB k n = o := ⟨_, rfl⟩
  obtain ⟨o2, ho2⟩ : ∃ o, outB k' n' = o := ⟨_, rfl⟩
  rw [ho1] at hz1
  rw [ho2] at hz2
  have ho1' := Lib.hid ho1; have ho2' := Lib.hid ho2
  have hmA := Lib.hid hm; have hmB := Lib.hid hm'
  clear ho1 ho2 hm hm'
  have hn1 : ¬ 9223372036854775807 < ty.size + 3 := by omega
  have hn2 : ¬ 9223372036854775807 < ty.size + 3 + o1.size := by omega
  have hn3 : ¬ 9223372036854775807 < ty.size + 3 + o1.size + 3 := by omega
  have hn4 : ¬ 9223372036854775807 < ty.size + 3 + o1.size + 3 + o2.size := by omega
  go_enter Tryd.func10, Tryd.ntmps10
  go_wp2_with fail
  refine (same_any _ _ _ _ _).mono ?_
  rintro e w1 ⟨rfl, hb1⟩
  rw [hE.out]
  obtain ⟨hc1, hf1⟩ := bcell hb1
  have hz1_0 : w.heap.size < w1.heap.size := by have := hb1.size; (try simp at this); omega
  have hcl1_0_0 : w1.cell? ⟨w.heap.size, 0, none⟩ = some (.int .i64 0) := by rw [hc1 _ _ (by simp; try omega)]; simp
  have hfl1_0_0 : w1.frozen? ⟨w.heap.size, 0, none⟩ = false := by rw [hf1 _ _ (by simp; try omega)]; simp
  have hcl1_0_1 : w1.cell? ⟨w.heap.size, 1, none⟩ = some (.int .i64 a) := by rw [hc1 _ _ (by simp; try omega)]; simp
  have hfl1_0_1 : w1.frozen? ⟨w.heap.size, 1, none⟩ = false := by rw [hf1 _ _ (by simp; try omega)]; simp
  have hcl1_0_2 : w1.cell? ⟨w.heap.size, 2, none⟩ = some (.string ty) := by rw [hc1 _ _ (by simp; try omega)]; simp
  have hfl1_0_2 : w1.frozen? ⟨w.heap.size, 2, none⟩ = false := by rw [hf1 _ _ (by simp; try omega)]; simp
  have hcl1_0_3 : w1.cell? ⟨w.heap.size, 3, none⟩ = some (.int .i64 k) := by rw [hc1 _ _ (by simp; try omega)]; simp
  have hfl1_0_3 : w1.frozen? ⟨w.heap.size, 3, none⟩ = false := by rw [hf1 _ _ (by simp; try omega)]; simp
  have hcl1_0_4 : w1.cell? ⟨w.heap.size, 4, none⟩ = some (.int .i64 n) := by rw [hc1 _ _ (by simp; try omega)]; simp
  have hfl1_0_4 : w1.frozen? ⟨w.heap.size, 4, none⟩ = false := by rw [hf1 _ _ (by simp; try omega)]; simp
  have hcl1_0_5 : w1.cell? ⟨w.heap.size, 5, none⟩ = some (.int .i64 k') := by rw [hc1 _ _ (by simp; try omega)]; simp
  have hfl1_0_5 : w1.frozen? ⟨w.heap.size, 5, none⟩ = false := by rw [hf1 _ _ (by simp; try omega)]; simp
  have hcl1_0_6 : w1.cell? ⟨w.heap.size, 6, none⟩ = some (.int .i64 n') := by rw [hc1 _ _ (by simp; try omega)]; simp
  have hfl1_0_6 : w1.frozen? ⟨w.heap.size, 6, none⟩ = false := by rw [hf1 _ _ (by simp; try omega)]; simp
  clear hc1 hf1
  have hK : KeepR w w1 := ⟨belT (by (repeat' (first | with_reducible exact Below.refl _ _ | with_reducible assumption | with_reducible apply Below.setCell | with_reducible apply Below.alloc | with_reducible apply Below.drew | with_reducible apply below_drewN | exact Nat.le_refl _ | omega | (simp; done) | (simp; omega)))) hb1, hz1_0, Lib.hid (tab_keep ht.out (belT (by (repeat' (first | with_reducible exact Below.refl _ _ | with_reducible assumption | with_reducible apply Below.setCell | with_reducible apply Below.alloc | with_reducible apply Below.drew | with_reducible apply below_drewN | exact Nat.le_refl _ | omega | (simp; done) | (simp; omega)))) hb1) (Nat.le_refl _))⟩
  clear hb1
  go_wp2_with fail
  go_region_held3 (fun W => W.cell? ⟨w.heap.size, 2, none⟩ = some (.string ty) ∧ W.cell? ⟨w.heap.size, 3, none⟩ = some (.int .i64 k) ∧ W.cell? ⟨w.heap.size, 4, none⟩ = some (.int .i64 n) ∧ W.cell? ⟨w.heap.size, 5, none⟩ = some (.int .i64 k') ∧ W.cell? ⟨w.heap.size, 6, none⟩ = some (.int .i64 n') ∧ KeepR w W)
    (first | exact tellS_drew hcl1_0_2 hcl1_0_3 hcl1_0_4 hcl1_0_5 hcl1_0_6 hK | exact tellS_step (by assumption) hb9)
    ((go_at_call 18; refine (outc_any _ _ _ (by first | exact hmA.out | exact hmB.out) (tellS_tab (by assumption))).mono ?_; rintro e w9 ⟨rfl, hb9⟩; (first | rw [ho1'.out] | rw [ho2'.out])))
  go_wp2_with fail
  go_ret2
  exact ⟨ret_si (by rw [hok.out.1]; unfold tellB; rw [if_pos rfl, ho1'.out, ho2'.out]) hok.out.2.symm, tellS_below (by assumption)⟩

theorem tell1S_step {w W w1 : World} {c : Value} (h : W.cell? ⟨w.heap.size, 0, none⟩ = some c ∧ KeepR w W) (hb : Below W.heap.size W w1) :
    w1.cell? ⟨w.heap.size, 0, none⟩ = some c ∧ KeepR w w1 := ⟨cells_go h.2 hb h.1, h.2.go hb⟩
theorem tell1S_drew {w W : World} {c : Value} (h : W.cell? ⟨w.heap.size, 0, none⟩ = some c) (hk : KeepR w W) :
    W.drew.cell? ⟨w.heap.size, 0, none⟩ = some c ∧ KeepR w W.drew := ⟨h, hk.go ((Below.refl _ _).drew)⟩

theorem same_no {k n k' n' : Int} (h : (mayO k n && mayO k' n') = false) : sameE k n k' n' = 2200 := by unfold sameE; rw [h]; rfl
theorem same_yes {k n k' n' : Int} (h : (mayO k n && mayO k' n') = true) : sameE k n k' n' = 0 := by unfold sameE; rw [h]; rfl

set_option maxRecDepth 100000 in
set_option maxHeartbeats 1000000 in
theorem tellBad_any (s ty : ByteArray) (code a k n k' n' : Int) (w : World) (h : Hid ((mayO k n && mayO k' n') = false ∨ ((mayO k n && mayO k' n') = true ∧ code < 0))) :
    Calls Tryd.prog 10 #[.string s, .agg #[.int .i64 code, .int .i64 a, .string ty, .int .i64 k, .int .i64 n, .int .i64 k', .int .i64 n']] w (TellPost s code a ty k n k' n' w) := by
  have hno := Lib.hid (tell_no (ty := ty) (show tellOk s code a k n k' n' = false by
    unfold tellOk
    rcases h.out with h | ⟨_, h⟩
    · rw [h]; rfl
    · rw [decide_eq_false (by omega : ¬ 0 ≤ code)]; simp))
  rcases h.out with hb | ⟨hb, hc⟩
  · have hE := Lib.hid (same_no hb)
    clear hb
    go_enter Tryd.func10, Tryd.ntmps10
    go_wp2_with fail
    refine (same_any _ _ _ _ _).mono ?_
    rintro e w1 ⟨rfl, hb1⟩
    rw [hE.out]
    go_wp2_with fail
    go_ret2
    exact ⟨ret_si hno.out.1.symm hno.out.2.symm, belT (by (repeat' (first | with_reducible exact Below.refl _ _ | with_reducible assumption | with_reducible apply Below.setCell | with_reducible apply Below.alloc | with_reducible apply Below.drew | with_reducible apply below_drewN | exact Nat.le_refl _ | omega | (simp; done) | (simp; omega)))) hb1⟩
  · have hE := Lib.hid (same_yes hb)
    clear hb
    go_enter Tryd.func10, Tryd.ntmps10
    go_wp2_with fail
    refine (same_any _ _ _ _ _).mono ?_
    rintro e w1 ⟨rfl, hb1⟩
    rw [hE.out]
    obtain ⟨hc1, hf1⟩ := bcell hb1
    have hz1_0 : w.heap.size < w1.heap.size := by have := hb1.size; (try simp at this); omega
    have hcl1_0_0 : w1.cell? ⟨w.heap.size, 0, none⟩ = some (.int .i64 code) := by rw [hc1 _ _ (by simp; try omega)]; simp
    have hfl1_0_0 : w1.frozen? ⟨w.heap.size, 0, none⟩ = false := by rw [hf1 _ _ (by simp; try omega)]; simp
    have hcl1_0_1 : w1.cell? ⟨w.heap.size, 1, none⟩ = some (.int .i64 a) := by rw [hc1 _ _ (by simp; try omega)]; simp
    have hfl1_0_1 : w1.frozen? ⟨w.heap.size, 1, none⟩ = false := by rw [hf1 _ _ (by simp; try omega)]; simp
    have hcl1_0_2 : w1.cell? ⟨w.heap.size, 2, none⟩ = some (.string ty) := by rw [hc1 _ _ (by simp; try omega)]; simp
    have hfl1_0_2 : w1.frozen? ⟨w.heap.size, 2, none⟩ = false := by rw [hf1 _ _ (by simp; try omega)]; simp
    have hcl1_0_3 : w1.cell? ⟨w.heap.size, 3, none⟩ = some (.int .i64 k) := by rw [hc1 _ _ (by simp; try omega)]; simp
    have hfl1_0_3 : w1.frozen? ⟨w.heap.size, 3, none⟩ = false := by rw [hf1 _ _ (by simp; try omega)]; simp
    have hcl1_0_4 : w1.cell? ⟨w.heap.size, 4, none⟩ = some (.int .i64 n) := by rw [hc1 _ _ (by simp; try omega)]; simp
    have hfl1_0_4 : w1.frozen? ⟨w.heap.size, 4, none⟩ = false := by rw [hf1 _ _ (by simp; try omega)]; simp
    have hcl1_0_5 : w1.cell? ⟨w.heap.size, 5, none⟩ = some (.int .i64 k') := by rw [hc1 _ _ (by simp; try omega)]; simp
    have hfl1_0_5 : w1.frozen? ⟨w.heap.size, 5, none⟩ = false := by rw [hf1 _ _ (by simp; try omega)]; simp
    have hcl1_0_6 : w1.cell? ⟨w.heap.size, 6, none⟩ = some (.int .i64 n') := by rw [hc1 _ _ (by simp; try omega)]; simp
    have hfl1_0_6 : w1.frozen? ⟨w.heap.size, 6, none⟩ = false := by rw [hf1 _ _ (by simp; try omega)]; simp
    clear hc1 hf1
    go_wp2_with fail
    go_ret2
    exact ⟨ret_si hno.out.1.symm hno.out.2.symm, belT (by (repeat' (first | with_reducible exact Below.refl _ _ | with_reducible assumption | with_reducible apply Below.setCell | with_reducible apply Below.alloc | with_reducible apply Below.drew | with_reducible apply below_drewN | exact Nat.le_refl _ | omega | (simp; done) | (simp; omega)))) hb1⟩

set_option maxRecDepth 100000 in
set_option maxHeartbeats 1000000 in
theorem tell1_any (s ty : ByteArray) (code a k n k' n' : Int) (w : World) (hs : s.size ≤ 140737488355328) (ht : Hid (TabW w)) (hm : Hid ((mayO k n && mayO k' n') = true)) (hc0 : 0 < code) (hc1 : code ≤ 9223372036854775807) :
    Calls Tryd.prog 10 #[.string s, .agg #[.int .i64 code, .int .i64 a, .string ty, .int .i64 k, .int .i64 n, .int .i64 k', .int .i64 n']] w (TellPost s code a ty k n k' n' w) := by
  have hE := Lib.hid (same_yes hm.out)
  have hbd := pl_bd s a
  have hcb : (code == 0) = false := by rw [beq_eq_false_iff_ne]; omega
  cases hp : plOk s a
  · have hno := Lib.hid (tell_no (ty := ty) (show tellOk s code a k n k' n' = false by unfold tellOk; rw [hp, decide_eq_false (by omega : ¬ code = 0)]; simp))
    have hpE : Hid (plE s a = 2400) := Lib.hid (by unfold plE; rw [hp]; rfl)
    clear hp
    go_enter Tryd.func10, Tryd.ntmps10
    go_wp2_with fail
    refine (same_any _ _ _ _ _).mono ?_
    rintro e w1 ⟨rfl, hb1⟩
    rw [hE.out]
    obtain ⟨hc1, hf1⟩ := bcell hb1
    have hz1_0 : w.heap.size < w1.heap.size := by have := hb1.size; (try simp at this); omega
    have hcl1_0_0 : w1.cell? ⟨w.heap.size, 0, none⟩ = some (.int .i64 code) := by rw [hc1 _ _ (by simp; try omega)]; simp
    have hfl1_0_0 : w1.frozen? ⟨w.heap.size, 0, none⟩ = false := by rw [hf1 _ _ (by simp; try omega)]; simp
    have hcl1_0_1 : w1.cell? ⟨w.heap.size, 1, none⟩ = some (.int .i64 a) := by rw [hc1 _ _ (by simp; try omega)]; simp
    have hfl1_0_1 : w1.frozen? ⟨w.heap.size, 1, none⟩ = false := by rw [hf1 _ _ (by simp; try omega)]; simp
    have hcl1_0_2 : w1.cell? ⟨w.heap.size, 2, none⟩ = some (.string ty) := by rw [hc1 _ _ (by simp; try omega)]; simp
    have hfl1_0_2 : w1.frozen? ⟨w.heap.size, 2, none⟩ = false := by rw [hf1 _ _ (by simp; try omega)]; simp
    have hcl1_0_3 : w1.cell? ⟨w.heap.size, 3, none⟩ = some (.int .i64 k) := by rw [hc1 _ _ (by simp; try omega)]; simp
    have hfl1_0_3 : w1.frozen? ⟨w.heap.size, 3, none⟩ = false := by rw [hf1 _ _ (by simp; try omega)]; simp
    have hcl1_0_4 : w1.cell? ⟨w.heap.size, 4, none⟩ = some (.int .i64 n) := by rw [hc1 _ _ (by simp; try omega)]; simp
    have hfl1_0_4 : w1.frozen? ⟨w.heap.size, 4, none⟩ = false := by rw [hf1 _ _ (by simp; try omega)]; simp
    have hcl1_0_5 : w1.cell? ⟨w.heap.size, 5, none⟩ = some (.int .i64 k') := by rw [hc1 _ _ (by simp; try omega)]; simp
    have hfl1_0_5 : w1.frozen? ⟨w.heap.size, 5, none⟩ = false := by rw [hf1 _ _ (by simp; try omega)]; simp
    have hcl1_0_6 : w1.cell? ⟨w.heap.size, 6, none⟩ = some (.int .i64 n') := by rw [hc1 _ _ (by simp; try omega)]; simp
    have hfl1_0_6 : w1.frozen? ⟨w.heap.size, 6, none⟩ = false := by rw [hf1 _ _ (by simp; try omega)]; simp
    clear hc1 hf1
    go_wp2_with fail
    refine (line_any _ _ _ hs).mono ?_
    rintro e w2 ⟨rfl, rfl⟩
    rw [hpE.out]
    go_wp2_with fail
    go_ret2
    exact ⟨ret_si hno.out.1.symm hno.out.2.symm, belT (by (repeat' (first | with_reducible exact Below.refl _ _ | with_reducible assumption | with_reducible apply Below.setCell | with_reducible apply Below.alloc | with_reducible apply Below.drew | with_reducible apply below_drewN | exact Nat.le_refl _ | omega | (simp; done) | (simp; omega)))) hb1⟩
  · have hok := Lib.hid (tell_yes (ty := ty) (show tellOk s code a k n k' n' = true by unfold tellOk; rw [hm.out, hp, decide_eq_true (by omega : 0 ≤ code)]; simp))
    have hpE : Hid (plE s a = 0) := Lib.hid (by unfold plE; rw [hp]; rfl)
    obtain ⟨l, hl⟩ : ∃ l, lnV s a = l := ⟨_, rfl⟩
    obtain ⟨c, hc⟩ : ∃ c, clV s a = c := ⟨_, rfl⟩
    rw [hl, hc] at hbd
    have hl' := Lib.hid hl; have hc' := Lib.hid hc
    clear hp hl hc
    have hi1 := itoa_len l (by omega) (by omega)
    have hi2 := itoa_len c (by omega) (by omega)
    have hi3 := itoa_len code (by omega) (by omega)
    have hz1 : (⟨(Lib.itoa l).toArray⟩ : ByteArray).size ≤ 21 := by simpa [ByteArray.size] using hi1
    have hz2 : (⟨(Lib.itoa c).toArray⟩ : ByteArray).size ≤ 21 := by simpa [ByteArray.size] using hi2
    have hz3 : (⟨(Lib.itoa code).toArray⟩ : ByteArray).size ≤ 21 := by simpa [ByteArray.size] using hi3
    obtain ⟨o1, ho1⟩ : ∃ o : ByteArray, ⟨(Lib.itoa l).toArray⟩ = o := ⟨_, rfl⟩
    obtain ⟨o2, ho2⟩ : ∃ o : ByteArray, ⟨(Lib.itoa c).toArray⟩ = o := ⟨_, rfl⟩
    obtain ⟨o3, ho3⟩ : ∃ o : ByteArray, ⟨(Lib.itoa code).toArray⟩ = o := ⟨_, rfl⟩
    rw [ho1] at hz1; rw [ho2] at hz2; rw [ho3] at hz3
    have ho1' := Lib.hid ho1; have ho2' := Lib.hid ho2; have ho3' := Lib.hid ho3
    clear ho1 ho2 ho3 hi1 hi2 hi3
    have hn1 : ¬ 9223372036854775807 < o1.size + 1 := by omega
    have hn2 : ¬ 9223372036854775807 < o1.size + 1 + o2.size := by omega
    have hn3 : ¬ 9223372036854775807 < o1.size + 1 + o2.size + 8 := by omega
    have hn4 : ¬ 9223372036854775807 < o1.size + 1 + o2.size + 8 + o3.size := by omega
    go_enter Tryd.func10, Tryd.ntmps10
    go_wp2_with fail
    refine (same_any _ _ _ _ _).mono ?_
    rintro e w1 ⟨rfl, hb1⟩
    rw [hE.out]
    obtain ⟨hcc1, hff1⟩ := bcell hb1
    have hz1_0 : w.heap.size < w1.heap.size := by have := hb1.size; (try simp at this); omega
    have hcl0 : w1.cell? ⟨w.heap.size, 0, none⟩ = some (.int .i64 code) := by rw [hcc1 _ _ (by simp)]; simp
    have hcl1 : w1.cell? ⟨w.heap.size, 1, none⟩ = some (.int .i64 a) := by rw [hcc1 _ _ (by simp)]; simp
    clear hcc1 hff1
    have hK : KeepR w w1 := ⟨belT (by (repeat' (first | with_reducible exact Below.refl _ _ | with_reducible assumption | with_reducible apply Below.setCell | with_reducible apply Below.alloc | with_reducible apply Below.drew | with_reducible apply below_drewN | exact Nat.le_refl _ | omega | (simp; done) | (simp; omega)))) hb1, hz1_0, Lib.hid (tab_keep ht.out (belT (by (repeat' (first | with_reducible exact Below.refl _ _ | with_reducible assumption | with_reducible apply Below.setCell | with_reducible apply Below.alloc | with_reducible apply Below.drew | with_reducible apply below_drewN | exact Nat.le_refl _ | omega | (simp; done) | (simp; omega)))) hb1) (Nat.le_refl _))⟩
    clear hb1
    go_wp2_with fail
    refine (line_any _ _ _ hs).mono ?_
    rintro e w2 ⟨rfl, rfl⟩
    rw [hpE.out, hl'.out, hc'.out]
    go_wp2_with fail
    go_region_held3 (fun W => W.cell? ⟨w.heap.size, 0, none⟩ = some (.int .i64 code) ∧ KeepR w W)
      (first | exact tell1S_drew hcl0 hK | exact tell1S_step (by assumption) hb9)
      ((go_at_call 19; refine (itoa_any _ _ (by omega) (by omega) (And.right (And.right (And.right (by assumption))))).mono ?_; rintro e w9 ⟨rfl, hb9⟩; (first | rw [ho1'.out] | rw [ho2'.out] | rw [ho3'.out])))
    go_wp2_with fail
    go_ret2
    exact ⟨ret_si (by rw [hok.out.1]; unfold tellB; rw [if_neg (by omega), hl'.out, hc'.out, ho1'.out, ho2'.out, ho3'.out]) hok.out.2.symm, tell1S_below (by assumption)⟩
end Go.Proofs.YtilhpclnligpaaaDoor
