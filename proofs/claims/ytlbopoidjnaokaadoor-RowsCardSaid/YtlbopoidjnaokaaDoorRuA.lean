/- Contract of trammelref7.UnifyRows. -/
import Derived.Test.YtlbopoidjnaokaaDoorRwJ
import Derived.Deep.QuietTactic
namespace Go.Proofs.YtlbopoidjnaokaaDoor
open Go.RowKit
set_option linter.unusedVariables false
set_option linter.unusedSimpArgs false

/-- is one of the first k above none? -/
def pk (p1 p2 p3 p4 : Int) (k : Nat) : Bool := (decide (0 < k) && decide (0 < p1)) || (decide (1 < k) && decide (0 < p2)) || (decide (2 < k) && decide (0 < p3)) || (decide (3 < k) && decide (0 < p4))
theorem pk_0 (p1 p2 p3 p4 : Int) : pk p1 p2 p3 p4 0 = false := rfl
theorem pk_1 (p1 p2 p3 p4 : Int) : pk p1 p2 p3 p4 1 = (pk p1 p2 p3 p4 0 || decide (0 < p1)) := by simp [pk]
theorem pk_2 (p1 p2 p3 p4 : Int) : pk p1 p2 p3 p4 2 = (pk p1 p2 p3 p4 1 || decide (0 < p2)) := by simp [pk]
theorem pk_3 (p1 p2 p3 p4 : Int) : pk p1 p2 p3 p4 3 = (pk p1 p2 p3 p4 2 || decide (0 < p3)) := by simp [pk]
theorem pk_4 (p1 p2 p3 p4 : Int) : pk p1 p2 p3 p4 4 = (pk p1 p2 p3 p4 3 || decide (0 < p4)) := by simp [pk]
theorem pk_yes {p1 p2 p3 p4 : Int} (h : pk p1 p2 p3 p4 4 = true) : ¬ (p1 = 0 ∧ p2 = 0 ∧ p3 = 0 ∧ p4 = 0) := by
  simp only [pk, Bool.or_eq_true, Bool.and_eq_true, decide_eq_true_eq] at h; omega
theorem pk_no {p1 p2 p3 p4 : Int} (h : pk p1 p2 p3 p4 4 = false) (h0 : 0 ≤ p1 ∧ 0 ≤ p2 ∧ 0 ≤ p3 ∧ 0 ≤ p4) : p1 = 0 ∧ p2 = 0 ∧ p3 = 0 ∧ p4 = 0 := by
  have : ¬ pk p1 p2 p3 p4 4 = true := by rw [h]; simp
  simp only [pk, Bool.or_eq_true, Bool.and_eq_true, decide_eq_true_eq] at this; omega
theorem mxz_nn (x : Int) : 0 ≤ mxz x := by unfold mxz; split <;> omega
theorem mn_sub (x y : Int) : x - (if y < x then y else x) = mxz (x - y) ∧ y - (if y < x then y else x) = mxz (y - x) := by
  unfold mxz; (repeat' split) <;> omega
theorem ru_one {er : Int} {w W : World} {v a b c d t : Int} {l : List Bd} (hl : l = [⟨v, a, b, c, d, t⟩]) (he : er = 0) (hb : Below w.heap.size w W) (T : TypeId) :
    RuPostJ l er w (.returned (.tuple #[.slice (some ⟨W.heap.size, 0, none⟩) 1 1, .int .i64 0])) (W.alloc (.cells #[.int .i64 v, .bool true, .slice none 0 0, .int .i64 a, .int .i64 b, .int .i64 c, .int .i64 d, .int .i64 t] T)) := by
  subst hl; subst he
  obtain ⟨v', h1, h2, h3⟩ := uni_oneJ (v := v) (a := a) (b := b) (c := c) (d := d) (t := t) hb T
  injection h1 with h1; injection h1 with h1
  have h4 := congrArg (fun x : Array Value => x[0]?) h1
  simp at h4
  subst h4
  exact ⟨_, rfl, h2, h3⟩
theorem ru_two {er : Int} {w W : World} {v a b c d t v' a' b' c' d' t' : Int} {l : List Bd} (hl : l = [⟨v, a, b, c, d, t⟩, ⟨v', a', b', c', d', t'⟩]) (he : er = 0) (hb : Below w.heap.size w W) (T : TypeId) :
    RuPostJ l er w (.returned (.tuple #[.slice (some ⟨W.heap.size, 0, none⟩) 2 2, .int .i64 0])) (W.alloc (.cells #[.int .i64 v, .bool true, .slice none 0 0, .int .i64 a, .int .i64 b, .int .i64 c, .int .i64 d, .int .i64 t, .int .i64 v', .bool true, .slice none 0 0, .int .i64 a', .int .i64 b', .int .i64 c', .int .i64 d', .int .i64 t'] T)) := by
  subst hl; subst he
  obtain ⟨v'', h1, h2, h3⟩ := uni_twoJ (v := v) (a := a) (b := b) (c := c) (d := d) (t := t) (v' := v') (a' := a') (b' := b') (c' := c') (d' := d') (t' := t') hb T
  injection h1 with h1; injection h1 with h1
  have h4 := congrArg (fun x : Array Value => x[0]?) h1
  simp at h4
  subst h4
  exact ⟨_, rfl, h2, h3⟩
theorem dr_more {W X : World} {n : Nat} (h : X = W.drewN n) : ∃ m, X = W.drewN m := ⟨n, h⟩

set_option maxHeartbeats 8000000 in
set_option maxRecDepth 100000 in
theorem runi_try (a b c d t a' b' c' d' t' fresh : Int) (u : Option (List Bd)) (l : List Bd) (er : Int) (w : World) (hlr : Hid (l = u.getD [] ∧ er = if u.isSome then 0 else 801)) (h : mayR a b c d t = true) (h' : mayR a' b' c' d' t' = true) (hf0 : 0 ≤ fresh) (hf1 : fresh < 4096) (hf2 : t < fresh) (hf3 : t' < fresh) (p1 p2 p3 p4 q1 q2 q3 q4 : Int)
    (hPQ : Hid (mxz (a - a') = p1 ∧ mxz (b - b') = p2 ∧ mxz (c - c') = p3 ∧ mxz (d - d') = p4 ∧ mxz (a' - a) = q1 ∧ mxz (b' - b) = q2 ∧ mxz (c' - c) = q3 ∧ mxz (d' - d) = q4)) (hu' : Hid (uniT p1 p2 p3 p4 q1 q2 q3 q4 t t' fresh = u)) :
    Calls Tryd.prog 10 #[.agg #[.int .i64 a, .int .i64 b, .int .i64 c, .int .i64 d, .int .i64 t], .agg #[.int .i64 a', .int .i64 b', .int .i64 c', .int .i64 d', .int .i64 t'], .int .i64 fresh] w
      (RuPostJ l er w) := by
  have hm := of_decide_eq_true h
  have hm' := of_decide_eq_true h'
  have hnnP : Hid (0 ≤ p1 ∧ 0 ≤ p2 ∧ 0 ≤ p3 ∧ 0 ≤ p4) := Lib.hid (by obtain ⟨rfl, rfl, rfl, rfl, _⟩ := hPQ.out; exact ⟨mxz_nn _, mxz_nn _, mxz_nn _, mxz_nn _⟩)
  have hnnQ : Hid (0 ≤ q1 ∧ 0 ≤ q2 ∧ 0 ≤ q3 ∧ 0 ≤ q4) := Lib.hid (by obtain ⟨_, _, _, _, rfl, rfl, rfl, rfl⟩ := hPQ.out; exact ⟨mxz_nn _, mxz_nn _, mxz_nn _, mxz_nn _⟩)

  have hmn0 : Hid (∃ m, (if a' < a then a' else a) = m ∧ a - m = p1 ∧ a' - m = q1 ∧ 0 ≤ m ∧ m ≤ a ∧ m ≤ a') := Lib.hid ⟨_, rfl, by rw [(mn_sub a a').1]; have := hPQ.out; omega, by rw [(mn_sub a a').2]; have := hPQ.out; omega, by omega, by omega, by omega⟩
  have hmn1 : Hid (∃ m, (if b' < b then b' else b) = m ∧ b - m = p2 ∧ b' - m = q2 ∧ 0 ≤ m ∧ m ≤ b ∧ m ≤ b') := Lib.hid ⟨_, rfl, by rw [(mn_sub b b').1]; have := hPQ.out; omega, by rw [(mn_sub b b').2]; have := hPQ.out; omega, by omega, by omega, by omega⟩
  have hmn2 : Hid (∃ m, (if c' < c then c' else c) = m ∧ c - m = p3 ∧ c' - m = q3 ∧ 0 ≤ m ∧ m ≤ c ∧ m ≤ c') := Lib.hid ⟨_, rfl, by rw [(mn_sub c c').1]; have := hPQ.out; omega, by rw [(mn_sub c c').2]; have := hPQ.out; omega, by omega, by omega, by omega⟩
  have hmn3 : Hid (∃ m, (if d' < d then d' else d) = m ∧ d - m = p4 ∧ d' - m = q4 ∧ 0 ≤ m ∧ m ≤ d ∧ m ≤ d') := Lib.hid ⟨_, rfl, by rw [(mn_sub d d').1]; have := hPQ.out; omega, by rw [(mn_sub d d').2]; have := hPQ.out; omega, by omega, by omega, by omega⟩
  have hbd := Lib.hid hm
  have hbd' := Lib.hid hm'
  have hh := Lib.hid h
  have hh' := Lib.hid h'
  clear h h' hm hm'
  go_enter Tryd.func10, Tryd.ntmps10
  go_wp2_with fail
  refine (rRowMay_any _ _ _ _ _ _).mono ?_
  rintro e w1 ⟨rfl, hb1⟩
  rw [hh.out]
  obtain ⟨hc1, hf1⟩ := bcell hb1
  have hz1_0 : w.heap.size < w1.heap.size := by have := hb1.size; (try simp at this); omega
  have hz1_1 : w.heap.size + 1 < w1.heap.size := by have := hb1.size; (try simp at this); omega
  have hcl1_0_0 : w1.cell? ⟨w.heap.size, 0, none⟩ = some (.int .i64 a) := by rw [hc1 _ _ (by simp; try omega)]; simp
  have hfl1_0_0 : w1.frozen? ⟨w.heap.size, 0, none⟩ = false := by rw [hf1 _ _ (by simp; try omega)]; simp
  have hcl1_0_1 : w1.cell? ⟨w.heap.size, 1, none⟩ = some (.int .i64 b) := by rw [hc1 _ _ (by simp; try omega)]; simp
  have hfl1_0_1 : w1.frozen? ⟨w.heap.size, 1, none⟩ = false := by rw [hf1 _ _ (by simp; try omega)]; simp
  have hcl1_0_2 : w1.cell? ⟨w.heap.size, 2, none⟩ = some (.int .i64 c) := by rw [hc1 _ _ (by simp; try omega)]; simp
  have hfl1_0_2 : w1.frozen? ⟨w.heap.size, 2, none⟩ = false := by rw [hf1 _ _ (by simp; try omega)]; simp
  have hcl1_0_3 : w1.cell? ⟨w.heap.size, 3, none⟩ = some (.int .i64 d) := by rw [hc1 _ _ (by simp; try omega)]; simp
  have hfl1_0_3 : w1.frozen? ⟨w.heap.size, 3, none⟩ = false := by rw [hf1 _ _ (by simp; try omega)]; simp
  have hcl1_0_4 : w1.cell? ⟨w.heap.size, 4, none⟩ = some (.int .i64 t) := by rw [hc1 _ _ (by simp; try omega)]; simp
  have hfl1_0_4 : w1.frozen? ⟨w.heap.size, 4, none⟩ = false := by rw [hf1 _ _ (by simp; try omega)]; simp
  have hcl1_1_0 : w1.cell? ⟨w.heap.size + 1, 0, none⟩ = some (.int .i64 a') := by rw [hc1 _ _ (by simp; try omega)]; simp
  have hfl1_1_0 : w1.frozen? ⟨w.heap.size + 1, 0, none⟩ = false := by rw [hf1 _ _ (by simp; try omega)]; simp
  have hcl1_1_1 : w1.cell? ⟨w.heap.size + 1, 1, none⟩ = some (.int .i64 b') := by rw [hc1 _ _ (by simp; try omega)]; simp
  have hfl1_1_1 : w1.frozen? ⟨w.heap.size + 1, 1, none⟩ = false := by rw [hf1 _ _ (by simp; try omega)]; simp
  have hcl1_1_2 : w1.cell? ⟨w.heap.size + 1, 2, none⟩ = some (.int .i64 c') := by rw [hc1 _ _ (by simp; try omega)]; simp
  have hfl1_1_2 : w1.frozen? ⟨w.heap.size + 1, 2, none⟩ = false := by rw [hf1 _ _ (by simp; try omega)]; simp
  have hcl1_1_3 : w1.cell? ⟨w.heap.size + 1, 3, none⟩ = some (.int .i64 d') := by rw [hc1 _ _ (by simp; try omega)]; simp
  have hfl1_1_3 : w1.frozen? ⟨w.heap.size + 1, 3, none⟩ = false := by rw [hf1 _ _ (by simp; try omega)]; simp
  have hcl1_1_4 : w1.cell? ⟨w.heap.size + 1, 4, none⟩ = some (.int .i64 t') := by rw [hc1 _ _ (by simp; try omega)]; simp
  have hfl1_1_4 : w1.frozen? ⟨w.heap.size + 1, 4, none⟩ = false := by rw [hf1 _ _ (by simp; try omega)]; simp
  clear hc1 hf1
  go_wp2_with fail
  refine (rRowMay_any _ _ _ _ _ _).mono ?_
  rintro e w2 ⟨rfl, hb2⟩
  rw [hh'.out]
  have hz2_0 : w.heap.size < w2.heap.size := by have := hb2.size; omega
  have hz2_1 : w.heap.size + 1 < w2.heap.size := by have := hb2.size; omega
  have hk0 : ∀ o v, w1.cell? ⟨w.heap.size, o, none⟩ = some v → w2.cell? ⟨w.heap.size, o, none⟩ = some v := fun o v h => by rw [hb2.cell (p := ⟨w.heap.size, o, none⟩) hz1_0]; exact h
  have hk1 : ∀ o v, w1.cell? ⟨w.heap.size + 1, o, none⟩ = some v → w2.cell? ⟨w.heap.size + 1, o, none⟩ = some v := fun o v h => by rw [hb2.cell (p := ⟨w.heap.size + 1, o, none⟩) hz1_1]; exact h
  have g0 := hk0 _ _ hcl1_0_0; have g1 := hk0 _ _ hcl1_0_1; have g2 := hk0 _ _ hcl1_0_2; have g3 := hk0 _ _ hcl1_0_3; have g4 := hk0 _ _ hcl1_0_4
  have k0 := hk1 _ _ hcl1_1_0; have k1 := hk1 _ _ hcl1_1_1; have k2 := hk1 _ _ hcl1_1_2; have k3 := hk1 _ _ hcl1_1_3; have k4 := hk1 _ _ hcl1_1_4
  have hB2 : Hid (Below w.heap.size w w2) := Lib.hid (belT (belT (by (repeat' (first | with_reducible exact Below.refl _ _ | with_reducible assumption | with_reducible apply Below.setCell | with_reducible apply Below.alloc | with_reducible apply Below.drew | with_reducible apply below_drewN | with_reducible exact Nat.le_refl _ | (simp; done) | (simp; omega) | omega | exact Nat.le_refl _))) hb1) hb2)
  clear hk0 hk1 hcl1_0_0 hcl1_0_1 hcl1_0_2 hcl1_0_3 hcl1_0_4 hcl1_1_0 hcl1_1_1 hcl1_1_2 hcl1_1_3 hcl1_1_4 hb1 hb2
  go_wp2_with fail
  go_loopw [10, 11, 12] (fun mo le i wr => (i = .int .i64 0 ∧ mo = .bool (pk p1 p2 p3 p4 0) ∧ le = .bool (pk q1 q2 q3 q4 0) ∧ ∃ nq : Nat, wr = ((w2.alloc (.cells #[.int .i64 0, .int .i64 0, .int .i64 0, .int .i64 0] 22)).alloc (.cells #[.int .i64 0, .int .i64 0, .int .i64 0, .int .i64 0] 22)).drewN nq) ∨ (i = .int .i64 1 ∧ mo = .bool (pk p1 p2 p3 p4 1) ∧ le = .bool (pk q1 q2 q3 q4 1) ∧ ∃ nq : Nat, wr = ((w2.alloc (.cells #[.int .i64 p1, .int .i64 0, .int .i64 0, .int .i64 0] 22)).alloc (.cells #[.int .i64 q1, .int .i64 0, .int .i64 0, .int .i64 0] 22)).drewN nq) ∨ (i = .int .i64 2 ∧ mo = .bool (pk p1 p2 p3 p4 2) ∧ le = .bool (pk q1 q2 q3 q4 2) ∧ ∃ nq : Nat, wr = ((w2.alloc (.cells #[.int .i64 p1, .int .i64 p2, .int .i64 0, .int .i64 0] 22)).alloc (.cells #[.int .i64 q1, .int .i64 q2, .int .i64 0, .int .i64 0] 22)).drewN nq) ∨ (i = .int .i64 3 ∧ mo = .bool (pk p1 p2 p3 p4 3) ∧ le = .bool (pk q1 q2 q3 q4 3) ∧ ∃ nq : Nat, wr = ((w2.alloc (.cells #[.int .i64 p1, .int .i64 p2, .int .i64 p3, .int .i64 0] 22)).alloc (.cells #[.int .i64 q1, .int .i64 q2, .int .i64 q3, .int .i64 0] 22)).drewN nq) ∨ (i = .int .i64 4 ∧ mo = .bool (pk p1 p2 p3 p4 4) ∧ le = .bool (pk q1 q2 q3 q4 4) ∧ ∃ nq : Nat, wr = ((w2.alloc (.cells #[.int .i64 p1, .int .i64 p2, .int .i64 p3, .int .i64 p4] 22)).alloc (.cells #[.int .i64 q1, .int .i64 q2, .int .i64 q3, .int .i64 q4] 22)).drewN nq)) (fun _ _ i _ => 4 - (intOf i).toNat)
  case atStart => exact .inl ⟨rfl, rfl, rfl, 0, rfl⟩
  case round =>
    rcases hrel with ⟨rfl, rfl, rfl, nq, rfl⟩ | ⟨rfl, rfl, rfl, nq, rfl⟩ | ⟨rfl, rfl, rfl, nq, rfl⟩ | ⟨rfl, rfl, rfl, nq, rfl⟩ | ⟨rfl, rfl, rfl, nq, rfl⟩
    · obtain ⟨m, hmn, hs1, hs2, hm0, hm1, hm2⟩ := hmn0.out
      have hba := hbd.out
      have hbb := hbd'.out
      have hx0 : 0 ≤ a ∧ a ≤ 32 := by omega
      have hy0 : 0 ≤ a' ∧ a' ≤ 32 := by omega
      clear hba hbb
      cases hmo1 : pk p1 p2 p3 p4 0 <;> cases hle1 : pk q1 q2 q3 q4 0
      all_goals
        have hmo := Lib.hid hmo1
        have hle := Lib.hid hle1
        clear hmo1 hle1
        go_wp2_with fail
        go_quiet (fail)
        go_wp2_with fail
        go_roundw
        case rel =>
          refine .inr (.inl ⟨rfl, by rw [pk_1, hmo.out]; simp, by rw [pk_1, hle.out]; simp, ?_⟩)
          rw [setCell_mid _ _ _ _ _ _ _ _ (by simp), setCell_drewN_at _ _ _ _ _ _ _ (by simp)]
          exact ⟨_, rfl⟩
        case measure => simp [intOf]
    · obtain ⟨m, hmn, hs1, hs2, hm0, hm1, hm2⟩ := hmn1.out
      have hba := hbd.out
      have hbb := hbd'.out
      have hx0 : 0 ≤ b ∧ b ≤ 32 := by omega
      have hy0 : 0 ≤ b' ∧ b' ≤ 32 := by omega
      clear hba hbb
      cases hmo1 : pk p1 p2 p3 p4 1 <;> cases hle1 : pk q1 q2 q3 q4 1
      all_goals
        have hmo := Lib.hid hmo1
        have hle := Lib.hid hle1
        clear hmo1 hle1
        go_wp2_with fail
        go_quiet (fail)
        go_wp2_with fail
        go_roundw
        case rel =>
          refine .inr (.inr (.inl ⟨rfl, by rw [pk_2, hmo.out]; simp, by rw [pk_2, hle.out]; simp, ?_⟩))
          rw [setCell_mid _ _ _ _ _ _ _ _ (by simp), setCell_drewN_at _ _ _ _ _ _ _ (by simp)]
          exact ⟨_, rfl⟩
        case measure => simp [intOf]
    · obtain ⟨m, hmn, hs1, hs2, hm0, hm1, hm2⟩ := hmn2.out
      have hba := hbd.out
      have hbb := hbd'.out
      have hx0 : 0 ≤ c ∧ c ≤ 32 := by omega
      have hy0 : 0 ≤ c' ∧ c' ≤ 32 := by omega
      clear hba hbb
      cases hmo1 : pk p1 p2 p3 p4 2 <;> cases hle1 : pk q1 q2 q3 q4 2
      all_goals
        have hmo := Lib.hid hmo1
        have hle := Lib.hid hle1
        clear hmo1 hle1
        go_wp2_with fail
        go_quiet (fail)
        go_wp2_with fail
        go_roundw
        case rel =>
          refine .inr (.inr (.inr (.inl ⟨rfl, by rw [pk_3, hmo.out]; simp, by rw [pk_3, hle.out]; simp, ?_⟩)))
          rw [setCell_mid _ _ _ _ _ _ _ _ (by simp), setCell_drewN_at _ _ _ _ _ _ _ (by simp)]
          exact ⟨_, rfl⟩
        case measure => simp [intOf]
    · obtain ⟨m, hmn, hs1, hs2, hm0, hm1, hm2⟩ := hmn3.out
      have hba := hbd.out
      have hbb := hbd'.out
      have hx0 : 0 ≤ d ∧ d ≤ 32 := by omega
      have hy0 : 0 ≤ d' ∧ d' ≤ 32 := by omega
      clear hba hbb
      cases hmo1 : pk p1 p2 p3 p4 3 <;> cases hle1 : pk q1 q2 q3 q4 3
      all_goals
        have hmo := Lib.hid hmo1
        have hle := Lib.hid hle1
        clear hmo1 hle1
        go_wp2_with fail
        go_quiet (fail)
        go_wp2_with fail
        go_roundw
        case rel =>
          refine .inr (.inr (.inr (.inr (⟨rfl, by rw [pk_4, hmo.out]; simp, by rw [pk_4, hle.out]; simp, ?_⟩))))
          rw [setCell_mid _ _ _ _ _ _ _ _ (by simp), setCell_drewN_at _ _ _ _ _ _ _ (by simp)]
          exact ⟨_, rfl⟩
        case measure => simp [intOf]
    · have hb5 : Below w2.heap.size w2 (((w2.alloc (.cells #[.int .i64 p1, .int .i64 p2, .int .i64 p3, .int .i64 p4] 22)).alloc (.cells #[.int .i64 q1, .int .i64 q2, .int .i64 q3, .int .i64 q4] 22)).drewN nq) := by (repeat' (first | with_reducible exact Below.refl _ _ | with_reducible assumption | with_reducible apply Below.setCell | with_reducible apply Below.alloc | with_reducible apply Below.drew | with_reducible apply below_drewN | with_reducible exact Nat.le_refl _ | (simp; done) | (simp; omega) | omega | exact Nat.le_refl _))
      have a4 : (((w2.alloc (.cells #[.int .i64 p1, .int .i64 p2, .int .i64 p3, .int .i64 p4] 22)).alloc (.cells #[.int .i64 q1, .int .i64 q2, .int .i64 q3, .int .i64 q4] 22)).drewN nq).cell? ⟨w.heap.size, 4, none⟩ = some (.int .i64 t) := by rw [hb5.cell (p := ⟨w.heap.size, 4, none⟩) hz2_0]; exact g4
      have b4 : (((w2.alloc (.cells #[.int .i64 p1, .int .i64 p2, .int .i64 p3, .int .i64 p4] 22)).alloc (.cells #[.int .i64 q1, .int .i64 q2, .int .i64 q3, .int .i64 q4] 22)).drewN nq).cell? ⟨w.heap.size + 1, 4, none⟩ = some (.int .i64 t') := by rw [hb5.cell (p := ⟨w.heap.size + 1, 4, none⟩) hz2_1]; exact k4
      have pp0 : (((w2.alloc (.cells #[.int .i64 p1, .int .i64 p2, .int .i64 p3, .int .i64 p4] 22)).alloc (.cells #[.int .i64 q1, .int .i64 q2, .int .i64 q3, .int .i64 q4] 22)).drewN nq).cell? ⟨w2.heap.size, 0, none⟩ = some (.int .i64 p1) := by simp [cell_drewN]
      have qq0 : (((w2.alloc (.cells #[.int .i64 p1, .int .i64 p2, .int .i64 p3, .int .i64 p4] 22)).alloc (.cells #[.int .i64 q1, .int .i64 q2, .int .i64 q3, .int .i64 q4] 22)).drewN nq).cell? ⟨w2.heap.size + 1, 0, none⟩ = some (.int .i64 q1) := by simp [cell_drewN]
      have pp1 : (((w2.alloc (.cells #[.int .i64 p1, .int .i64 p2, .int .i64 p3, .int .i64 p4] 22)).alloc (.cells #[.int .i64 q1, .int .i64 q2, .int .i64 q3, .int .i64 q4] 22)).drewN nq).cell? ⟨w2.heap.size, 1, none⟩ = some (.int .i64 p2) := by simp [cell_drewN]
      have qq1 : (((w2.alloc (.cells #[.int .i64 p1, .int .i64 p2, .int .i64 p3, .int .i64 p4] 22)).alloc (.cells #[.int .i64 q1, .int .i64 q2, .int .i64 q3, .int .i64 q4] 22)).drewN nq).cell? ⟨w2.heap.size + 1, 1, none⟩ = some (.int .i64 q2) := by simp [cell_drewN]
      have pp2 : (((w2.alloc (.cells #[.int .i64 p1, .int .i64 p2, .int .i64 p3, .int .i64 p4] 22)).alloc (.cells #[.int .i64 q1, .int .i64 q2, .int .i64 q3, .int .i64 q4] 22)).drewN nq).cell? ⟨w2.heap.size, 2, none⟩ = some (.int .i64 p3) := by simp [cell_drewN]
      have qq2 : (((w2.alloc (.cells #[.int .i64 p1, .int .i64 p2, .int .i64 p3, .int .i64 p4] 22)).alloc (.cells #[.int .i64 q1, .int .i64 q2, .int .i64 q3, .int .i64 q4] 22)).drewN nq).cell? ⟨w2.heap.size + 1, 2, none⟩ = some (.int .i64 q3) := by simp [cell_drewN]
      have pp3 : (((w2.alloc (.cells #[.int .i64 p1, .int .i64 p2, .int .i64 p3, .int .i64 p4] 22)).alloc (.cells #[.int .i64 q1, .int .i64 q2, .int .i64 q3, .int .i64 q4] 22)).drewN nq).cell? ⟨w2.heap.size, 3, none⟩ = some (.int .i64 p4) := by simp [cell_drewN]
      have qq3 : (((w2.alloc (.cells #[.int .i64 p1, .int .i64 p2, .int .i64 p3, .int .i64 p4] 22)).alloc (.cells #[.int .i64 q1, .int .i64 q2, .int .i64 q3, .int .i64 q4] 22)).drewN nq).cell? ⟨w2.heap.size + 1, 3, none⟩ = some (.int .i64 q4) := by simp [cell_drewN]
      have hg1 : w2.heap.size < (((w2.alloc (.cells #[.int .i64 p1, .int .i64 p2, .int .i64 p3, .int .i64 p4] 22)).alloc (.cells #[.int .i64 q1, .int .i64 q2, .int .i64 q3, .int .i64 q4] 22)).drewN nq).heap.size := by first | (simp [size_drewN]; done) | (simp [size_drewN]; omega)
      have hh1 : w2.heap.size + 1 < (((w2.alloc (.cells #[.int .i64 p1, .int .i64 p2, .int .i64 p3, .int .i64 p4] 22)).alloc (.cells #[.int .i64 q1, .int .i64 q2, .int .i64 q3, .int .i64 q4] 22)).drewN nq).heap.size := by first | (simp [size_drewN]; done) | (simp [size_drewN]; omega)
      have hbel := Lib.hid (belT hB2.out hb5)
      clear hb5 g0 g1 g2 g3 g4 k0 k1 k2 k3 k4
      generalize ((w2.alloc (.cells #[.int .i64 p1, .int .i64 p2, .int .i64 p3, .int .i64 p4] 22)).alloc (.cells #[.int .i64 q1, .int .i64 q2, .int .i64 q3, .int .i64 q4] 22)).drewN nq = W5 at *
      have hsz : w.heap.size + 1 < W5.heap.size := by omega
      have hsz' : w.heap.size < W5.heap.size := by omega
      have ht1 : -1 ≤ t ∧ -1 ≤ t' := by have := hbd.out; have := hbd'.out; omega
      clear hmn0 hmn1 hmn2 hmn3 hbd hbd' hh hh' hPQ
      cases hzp1 : pk p1 p2 p3 p4 4 <;> cases hzq1 : pk q1 q2 q3 q4 4
      · have zP := Lib.hid (pk_no hzp1 hnnP.out)
        have zQ := Lib.hid (pk_no hzq1 hnnQ.out)
        have hzp := Lib.hid hzp1
        have hzq := Lib.hid hzq1
        clear hzp1 hzq1
        by_cases hte : t = t'
        · have hut : Hid (u = some []) := Lib.hid (by
            rw [← hu'.out]; unfold uniT
            have := zP.out; have := zQ.out
            rw [if_pos hte, if_pos (by omega)])
          have htb : (t == t') = true := by simpa using hte
          subst hte
          go_wp2_with fail
          go_ret2
          exact ruPostJ_nil (by rw [hlr.out.1, hut.out]; rfl) hbel.out (by rw [hlr.out.2, hut.out]; rfl)
        have htb : (t == t') = false := by simpa using hte
        by_cases h0 : t' < 0
        · have hut : Hid (u = some [⟨t, q1, q2, q3, q4, t'⟩]) := Lib.hid (by
            rw [← hu'.out]; unfold uniT
            have := zP.out; have := zQ.out
            rw [if_neg hte, if_neg (by omega), if_pos (.inl h0)])
          obtain rfl : t' = -1 := by omega
          have h1 : ¬ t < 0 := by omega
          go_wp2_with fail
          refine (rbind_any _ _ _ _ _ _ _).mono ?_
          rintro e w6 ⟨rfl, hb6⟩
          have hb6' : Below w.heap.size w w6 := belT hbel.out hb6
          clear hb6
          go_wp2_with fail
          go_ret2
          exact ru_one (by rw [hlr.out.1, hut.out]; rfl) (by rw [hlr.out.2, hut.out]; rfl) hb6' _
        by_cases h1 : t < 0
        · have hut : Hid (u = some [⟨t', p1, p2, p3, p4, t⟩]) := Lib.hid (by
            rw [← hu'.out]; unfold uniT
            have := zP.out; have := zQ.out
            rw [if_neg hte, if_neg (by omega), if_neg (by omega), if_pos (.inl h1)])
          obtain rfl : t = -1 := by omega
          go_wp2_with fail
          refine (rbind_any _ _ _ _ _ _ _).mono ?_
          rintro e w6 ⟨rfl, hb6⟩
          have hb6' : Below w.heap.size w w6 := belT hbel.out hb6
          clear hb6
          go_wp2_with fail
          go_ret2
          exact ru_one (by rw [hlr.out.1, hut.out]; rfl) (by rw [hlr.out.2, hut.out]; rfl) hb6' _
        · have hut : Hid (u = some [⟨t, q1, q2, q3, q4, t'⟩]) := Lib.hid (by
            rw [← hu'.out]; unfold uniT
            have := zP.out; have := zQ.out
            rw [if_neg hte, if_neg (by omega), if_pos (.inr ⟨by omega, zP.out⟩)])
          go_wp2_with fail
          refine (rbind_any _ _ _ _ _ _ _).mono ?_
          rintro e w6 ⟨rfl, hb6⟩
          have hb6' : Below w.heap.size w w6 := belT hbel.out hb6
          clear hb6
          go_wp2_with fail
          go_ret2
          exact ru_one (by rw [hlr.out.1, hut.out]; rfl) (by rw [hlr.out.2, hut.out]; rfl) hb6' _
      · have zP := Lib.hid (pk_no hzp1 hnnP.out)
        have zQ := Lib.hid (pk_yes hzq1)
        have hzp := Lib.hid hzp1
        have hzq := Lib.hid hzq1
        clear hzp1 hzq1
        by_cases hte : t = t'
        · have hut : Hid (u = none) := Lib.hid (by
            rw [← hu'.out]; unfold uniT
            have := zP.out; have := zQ.out
            rw [if_pos hte, if_neg (by omega)])
          have htb : (t == t') = true := by simpa using hte
          subst hte
          go_wp2_with fail
          go_ret2
          exact ruPostJ_nil (by rw [hlr.out.1, hut.out]; rfl) hbel.out (by rw [hlr.out.2, hut.out]; rfl)
        have htb : (t == t') = false := by simpa using hte
        by_cases h0 : t' < 0
        · have hut : Hid (u = some [⟨t, q1, q2, q3, q4, t'⟩]) := Lib.hid (by
            rw [← hu'.out]; unfold uniT
            have := zP.out; have := zQ.out
            rw [if_neg hte, if_neg (by omega), if_pos (.inl h0)])
          obtain rfl : t' = -1 := by omega
          have h1 : ¬ t < 0 := by omega
          go_wp2_with fail
          refine (rbind_any _ _ _ _ _ _ _).mono ?_
          rintro e w6 ⟨rfl, hb6⟩
          have hb6' : Below w.heap.size w w6 := belT hbel.out hb6
          clear hb6
          go_wp2_with fail
          go_ret2
          exact ru_one (by rw [hlr.out.1, hut.out]; rfl) (by rw [hlr.out.2, hut.out]; rfl) hb6' _
        by_cases h1 : t < 0
        · have hut : Hid (u = none) := Lib.hid (by
            rw [← hu'.out]; unfold uniT
            have := zP.out; have := zQ.out
            rw [if_neg hte, if_pos (by omega)])
          go_wp2_with fail
          go_ret2
          exact ruPostJ_nil (by rw [hlr.out.1, hut.out]; rfl) hbel.out (by rw [hlr.out.2, hut.out]; rfl)
        · have hut : Hid (u = some [⟨t, q1, q2, q3, q4, t'⟩]) := Lib.hid (by
            rw [← hu'.out]; unfold uniT
            have := zP.out; have := zQ.out
            rw [if_neg hte, if_neg (by omega), if_pos (.inr ⟨by omega, zP.out⟩)])
          go_wp2_with fail
          refine (rbind_any _ _ _ _ _ _ _).mono ?_
          rintro e w6 ⟨rfl, hb6⟩
          have hb6' : Below w.heap.size w w6 := belT hbel.out hb6
          clear hb6
          go_wp2_with fail
          go_ret2
          exact ru_one (by rw [hlr.out.1, hut.out]; rfl) (by rw [hlr.out.2, hut.out]; rfl) hb6' _
      · have zP := Lib.hid (pk_yes hzp1)
        have zQ := Lib.hid (pk_no hzq1 hnnQ.out)
        have hzp := Lib.hid hzp1
        have hzq := Lib.hid hzq1
        clear hzp1 hzq1
        by_cases hte : t = t'
        · have hut : Hid (u = none) := Lib.hid (by
            rw [← hu'.out]; unfold uniT
            have := zP.out; have := zQ.out
            rw [if_pos hte, if_neg (by omega)])
          have htb : (t == t') = true := by simpa using hte
          subst hte
          go_wp2_with fail
          go_ret2
          exact ruPostJ_nil (by rw [hlr.out.1, hut.out]; rfl) hbel.out (by rw [hlr.out.2, hut.out]; rfl)
        have htb : (t == t') = false := by simpa using hte
        by_cases h0 : t' < 0
        · have hut : Hid (u = none) := Lib.hid (by
            rw [← hu'.out]; unfold uniT
            have := zP.out; have := zQ.out
            rw [if_neg hte, if_pos (by omega)])
          go_wp2_with fail
          go_ret2
          exact ruPostJ_nil (by rw [hlr.out.1, hut.out]; rfl) hbel.out (by rw [hlr.out.2, hut.out]; rfl)
        by_cases h1 : t < 0
        · have hut : Hid (u = some [⟨t', p1, p2, p3, p4, t⟩]) := Lib.hid (by
            rw [← hu'.out]; unfold uniT
            have := zP.out; have := zQ.out
            rw [if_neg hte, if_neg (by omega), if_neg (by omega), if_pos (.inl h1)])
          obtain rfl : t = -1 := by omega
          go_wp2_with fail
          refine (rbind_any _ _ _ _ _ _ _).mono ?_
          rintro e w6 ⟨rfl, hb6⟩
          have hb6' : Below w.heap.size w w6 := belT hbel.out hb6
          clear hb6
          go_wp2_with fail
          go_ret2
          exact ru_one (by rw [hlr.out.1, hut.out]; rfl) (by rw [hlr.out.2, hut.out]; rfl) hb6' _
        · have hut : Hid (u = some [⟨t', p1, p2, p3, p4, t⟩]) := Lib.hid (by
            rw [← hu'.out]; unfold uniT
            have := zP.out; have := zQ.out
            rw [if_neg hte, if_neg (by omega), if_neg (by omega), if_pos (.inr zQ.out)])
          go_wp2_with fail
          refine (rbind_any _ _ _ _ _ _ _).mono ?_
          rintro e w6 ⟨rfl, hb6⟩
          have hb6' : Below w.heap.size w w6 := belT hbel.out hb6
          clear hb6
          go_wp2_with fail
          go_ret2
          exact ru_one (by rw [hlr.out.1, hut.out]; rfl) (by rw [hlr.out.2, hut.out]; rfl) hb6' _
      · have zP := Lib.hid (pk_yes hzp1)
        have zQ := Lib.hid (pk_yes hzq1)
        have hzp := Lib.hid hzp1
        have hzq := Lib.hid hzq1
        clear hzp1 hzq1
        by_cases hte : t = t'
        · have hut : Hid (u = none) := Lib.hid (by
            rw [← hu'.out]; unfold uniT
            have := zP.out; have := zQ.out
            rw [if_pos hte, if_neg (by omega)])
          have htb : (t == t') = true := by simpa using hte
          subst hte
          go_wp2_with fail
          go_ret2
          exact ruPostJ_nil (by rw [hlr.out.1, hut.out]; rfl) hbel.out (by rw [hlr.out.2, hut.out]; rfl)
        have htb : (t == t') = false := by simpa using hte
        by_cases h0 : t' < 0
        · have hut : Hid (u = none) := Lib.hid (by
            rw [← hu'.out]; unfold uniT
            have := zP.out; have := zQ.out
            rw [if_neg hte, if_pos (by omega)])
          go_wp2_with fail
          go_ret2
          exact ruPostJ_nil (by rw [hlr.out.1, hut.out]; rfl) hbel.out (by rw [hlr.out.2, hut.out]; rfl)
        by_cases h1 : t < 0
        · have hut : Hid (u = none) := Lib.hid (by
            rw [← hu'.out]; unfold uniT
            have := zP.out; have := zQ.out
            rw [if_neg hte, if_pos (by omega)])
          go_wp2_with fail
          go_ret2
          exact ruPostJ_nil (by rw [hlr.out.1, hut.out]; rfl) hbel.out (by rw [hlr.out.2, hut.out]; rfl)
        · have hut : Hid (u = some [⟨t, q1, q2, q3, q4, fresh⟩, ⟨t', p1, p2, p3, p4, fresh⟩]) := Lib.hid (by
            rw [← hu'.out]; unfold uniT
            have := zP.out; have := zQ.out
            rw [if_neg hte, if_neg (by omega), if_neg (by omega), if_neg (by omega)])
          go_wp2_with fail
          go_region_held3 (fun W => W.cell? ⟨w.heap.size, 4, none⟩ = some (.int .i64 t) ∧ W.cell? ⟨w.heap.size + 1, 4, none⟩ = some (.int .i64 t') ∧ W.cell? ⟨w2.heap.size, 0, none⟩ = some (.int .i64 p1) ∧ W.cell? ⟨w2.heap.size, 1, none⟩ = some (.int .i64 p2) ∧ W.cell? ⟨w2.heap.size, 2, none⟩ = some (.int .i64 p3) ∧ W.cell? ⟨w2.heap.size, 3, none⟩ = some (.int .i64 p4) ∧ W.cell? ⟨w2.heap.size + 1, 0, none⟩ = some (.int .i64 q1) ∧ W.cell? ⟨w2.heap.size + 1, 1, none⟩ = some (.int .i64 q2) ∧ W.cell? ⟨w2.heap.size + 1, 2, none⟩ = some (.int .i64 q3) ∧ W.cell? ⟨w2.heap.size + 1, 3, none⟩ = some (.int .i64 q4) ∧ KeepG w w2.heap.size (w2.heap.size + 1) W)
            (first | exact uniG_step (by assumption) hb9 | exact uniG_step (by assumption) (Joins.below_alloc1 _ _) | exact uniG_step ⟨a4, b4, pp0, pp1, pp2, pp3, qq0, qq1, qq2, qq3, hbel.out, hsz, hg1, hh1⟩ ((Below.refl _ _).alloc (Nat.le_refl _) _).drew | exact uniG_step ⟨a4, b4, pp0, pp1, pp2, pp3, qq0, qq1, qq2, qq3, hbel.out, hsz, hg1, hh1⟩ (Below.refl _ _).drew)
            ((go_at_call 25; refine (rbind_any _ _ _ _ _ _ _).mono ?_; rintro e w9 ⟨rfl, hb9⟩))
          go_wp2_with fail
          go_ret2
          refine ru_two (by rw [hlr.out.1, hut.out]; rfl) (by rw [hlr.out.2, hut.out]; rfl) (belT (belT ?_ (by assumption)) hb9) _
          have hbb := hbel.out
          (repeat' (first | with_reducible exact Below.refl _ _ | with_reducible assumption | with_reducible apply Below.setCell | with_reducible apply Below.alloc | with_reducible apply Below.drew | with_reducible apply below_drewN | with_reducible exact Nat.le_refl _ | (simp; done) | (simp; omega) | omega | exact Nat.le_refl _))
set_option maxHeartbeats 1000000 in
set_option maxRecDepth 100000 in
theorem runi_any (a b c d t a' b' c' d' t' fresh : Int) (w : World) :
    Calls Tryd.prog 10 #[.agg #[.int .i64 a, .int .i64 b, .int .i64 c, .int .i64 d, .int .i64 t], .agg #[.int .i64 a', .int .i64 b', .int .i64 c', .int .i64 d', .int .i64 t'], .int .i64 fresh] w
      (RuPostJ (ruL a b c d t a' b' c' d' t' fresh) (ruE a b c d t a' b' c' d' t' fresh) w) := by
  cases hA : mayR a b c d t
  · have hno := Lib.hid (ru_no (fresh := fresh) (show ruOk a b c d t a' b' c' d' t' fresh = false by unfold ruOk; rw [hA]; rfl))
    have hA' := Lib.hid hA; clear hA
    go_enter Tryd.func10, Tryd.ntmps10
    go_wp2_with fail
    refine (rRowMay_any _ _ _ _ _ _).mono ?_
    rintro e w1 ⟨rfl, hb1⟩
    rw [hA'.out]
    go_wp2_with fail
    go_ret2
    exact ruPostJ_nil hno.out.1 (belT (by (repeat' (first | with_reducible exact Below.refl _ _ | with_reducible assumption | with_reducible apply Below.setCell | with_reducible apply Below.alloc | with_reducible apply Below.drew | with_reducible apply below_drewN | with_reducible exact Nat.le_refl _ | (simp; done) | (simp; omega) | omega | exact Nat.le_refl _))) hb1) hno.out.2.symm
  cases hB : mayR a' b' c' d' t'
  · have hno := Lib.hid (ru_no (fresh := fresh) (show ruOk a b c d t a' b' c' d' t' fresh = false by unfold ruOk; rw [hB]; simp))
    have hA' := Lib.hid hA; clear hA
    have hB' := Lib.hid hB; clear hB
    go_enter Tryd.func10, Tryd.ntmps10
    go_wp2_with fail
    refine (rRowMay_any _ _ _ _ _ _).mono ?_
    rintro e w1 ⟨rfl, hb1⟩
    rw [hA'.out]
    obtain ⟨hc1, hf1⟩ := bcell hb1
    have hz1_0 : w.heap.size < w1.heap.size := by have := hb1.size; (try simp at this); omega
    have hz1_1 : w.heap.size + 1 < w1.heap.size := by have := hb1.size; (try simp at this); omega
    have hcl1_0_0 : w1.cell? ⟨w.heap.size, 0, none⟩ = some (.int .i64 a) := by rw [hc1 _ _ (by simp; try omega)]; simp
    have hfl1_0_0 : w1.frozen? ⟨w.heap.size, 0, none⟩ = false := by rw [hf1 _ _ (by simp; try omega)]; simp
    have hcl1_0_1 : w1.cell? ⟨w.heap.size, 1, none⟩ = some (.int .i64 b) := by rw [hc1 _ _ (by simp; try omega)]; simp
    have hfl1_0_1 : w1.frozen? ⟨w.heap.size, 1, none⟩ = false := by rw [hf1 _ _ (by simp; try omega)]; simp
    have hcl1_0_2 : w1.cell? ⟨w.heap.size, 2, none⟩ = some (.int .i64 c) := by rw [hc1 _ _ (by simp; try omega)]; simp
    have hfl1_0_2 : w1.frozen? ⟨w.heap.size, 2, none⟩ = false := by rw [hf1 _ _ (by simp; try omega)]; simp
    have hcl1_0_3 : w1.cell? ⟨w.heap.size, 3, none⟩ = some (.int .i64 d) := by rw [hc1 _ _ (by simp; try omega)]; simp
    have hfl1_0_3 : w1.frozen? ⟨w.heap.size, 3, none⟩ = false := by rw [hf1 _ _ (by simp; try omega)]; simp
    have hcl1_0_4 : w1.cell? ⟨w.heap.size, 4, none⟩ = some (.int .i64 t) := by rw [hc1 _ _ (by simp; try omega)]; simp
    have hfl1_0_4 : w1.frozen? ⟨w.heap.size, 4, none⟩ = false := by rw [hf1 _ _ (by simp; try omega)]; simp
    have hcl1_1_0 : w1.cell? ⟨w.heap.size + 1, 0, none⟩ = some (.int .i64 a') := by rw [hc1 _ _ (by simp; try omega)]; simp
    have hfl1_1_0 : w1.frozen? ⟨w.heap.size + 1, 0, none⟩ = false := by rw [hf1 _ _ (by simp; try omega)]; simp
    have hcl1_1_1 : w1.cell? ⟨w.heap.size + 1, 1, none⟩ = some (.int .i64 b') := by rw [hc1 _ _ (by simp; try omega)]; simp
    have hfl1_1_1 : w1.frozen? ⟨w.heap.size + 1, 1, none⟩ = false := by rw [hf1 _ _ (by simp; try omega)]; simp
    have hcl1_1_2 : w1.cell? ⟨w.heap.size + 1, 2, none⟩ = some (.int .i64 c') := by rw [hc1 _ _ (by simp; try omega)]; simp
    have hfl1_1_2 : w1.frozen? ⟨w.heap.size + 1, 2, none⟩ = false := by rw [hf1 _ _ (by simp; try omega)]; simp
    have hcl1_1_3 : w1.cell? ⟨w.heap.size + 1, 3, none⟩ = some (.int .i64 d') := by rw [hc1 _ _ (by simp; try omega)]; simp
    have hfl1_1_3 : w1.frozen? ⟨w.heap.size + 1, 3, none⟩ = false := by rw [hf1 _ _ (by simp; try omega)]; simp
    have hcl1_1_4 : w1.cell? ⟨w.heap.size + 1, 4, none⟩ = some (.int .i64 t') := by rw [hc1 _ _ (by simp; try omega)]; simp
    have hfl1_1_4 : w1.frozen? ⟨w.heap.size + 1, 4, none⟩ = false := by rw [hf1 _ _ (by simp; try omega)]; simp
    clear hc1 hf1
    go_wp2_with fail
    refine (rRowMay_any _ _ _ _ _ _).mono ?_
    rintro e w2 ⟨rfl, hb2⟩
    rw [hB'.out]
    go_wp2_with fail
    go_ret2
    exact ruPostJ_nil hno.out.1 (belT (belT (by (repeat' (first | with_reducible exact Below.refl _ _ | with_reducible assumption | with_reducible apply Below.setCell | with_reducible apply Below.alloc | with_reducible apply Below.drew | with_reducible apply below_drewN | with_reducible exact Nat.le_refl _ | (simp; done) | (simp; omega) | omega | exact Nat.le_refl _))) hb1) hb2) hno.out.2.symm
  have hbool := hA
  have hA' := Lib.hid hA; clear hA hbool
  have hB' := Lib.hid hB; clear hB
  by_cases hf : 0 ≤ fresh ∧ fresh < 4096 ∧ t < fresh ∧ t' < fresh
  · have hyes := Lib.hid (ru_yes (show ruOk a b c d t a' b' c' d' t' fresh = true by unfold ruOk; rw [hA'.out, hB'.out, decide_eq_true hf]; rfl))
    obtain ⟨hf0, hf1, hf2, hf3⟩ := hf
    exact runi_try a b c d t a' b' c' d' t' fresh (uniR a b c d t a' b' c' d' t' fresh) _ _ w (Lib.hid hyes.out) hA'.out hB'.out hf0 hf1 hf2 hf3 _ _ _ _ _ _ _ _ (Lib.hid ⟨rfl, rfl, rfl, rfl, rfl, rfl, rfl, rfl⟩) (Lib.hid rfl)
  · have hno := Lib.hid (ru_no (show ruOk a b c d t a' b' c' d' t' fresh = false by unfold ruOk; rw [decide_eq_false hf]; simp))
    go_enter Tryd.func10, Tryd.ntmps10
    go_wp2_with fail
    refine (rRowMay_any _ _ _ _ _ _).mono ?_
    rintro e w1 ⟨rfl, hb1⟩
    rw [hA'.out]
    obtain ⟨hc1, hf1⟩ := bcell hb1
    have hz1_0 : w.heap.size < w1.heap.size := by have := hb1.size; (try simp at this); omega
    have hz1_1 : w.heap.size + 1 < w1.heap.size := by have := hb1.size; (try simp at this); omega
    have hcl1_0_0 : w1.cell? ⟨w.heap.size, 0, none⟩ = some (.int .i64 a) := by rw [hc1 _ _ (by simp; try omega)]; simp
    have hfl1_0_0 : w1.frozen? ⟨w.heap.size, 0, none⟩ = false := by rw [hf1 _ _ (by simp; try omega)]; simp
    have hcl1_0_1 : w1.cell? ⟨w.heap.size, 1, none⟩ = some (.int .i64 b) := by rw [hc1 _ _ (by simp; try omega)]; simp
    have hfl1_0_1 : w1.frozen? ⟨w.heap.size, 1, none⟩ = false := by rw [hf1 _ _ (by simp; try omega)]; simp
    have hcl1_0_2 : w1.cell? ⟨w.heap.size, 2, none⟩ = some (.int .i64 c) := by rw [hc1 _ _ (by simp; try omega)]; simp
    have hfl1_0_2 : w1.frozen? ⟨w.heap.size, 2, none⟩ = false := by rw [hf1 _ _ (by simp; try omega)]; simp
    have hcl1_0_3 : w1.cell? ⟨w.heap.size, 3, none⟩ = some (.int .i64 d) := by rw [hc1 _ _ (by simp; try omega)]; simp
    have hfl1_0_3 : w1.frozen? ⟨w.heap.size, 3, none⟩ = false := by rw [hf1 _ _ (by simp; try omega)]; simp
    have hcl1_0_4 : w1.cell? ⟨w.heap.size, 4, none⟩ = some (.int .i64 t) := by rw [hc1 _ _ (by simp; try omega)]; simp
    have hfl1_0_4 : w1.frozen? ⟨w.heap.size, 4, none⟩ = false := by rw [hf1 _ _ (by simp; try omega)]; simp
    have hcl1_1_0 : w1.cell? ⟨w.heap.size + 1, 0, none⟩ = some (.int .i64 a') := by rw [hc1 _ _ (by simp; try omega)]; simp
    have hfl1_1_0 : w1.frozen? ⟨w.heap.size + 1, 0, none⟩ = false := by rw [hf1 _ _ (by simp; try omega)]; simp
    have hcl1_1_1 : w1.cell? ⟨w.heap.size + 1, 1, none⟩ = some (.int .i64 b') := by rw [hc1 _ _ (by simp; try omega)]; simp
    have hfl1_1_1 : w1.frozen? ⟨w.heap.size + 1, 1, none⟩ = false := by rw [hf1 _ _ (by simp; try omega)]; simp
    have hcl1_1_2 : w1.cell? ⟨w.heap.size + 1, 2, none⟩ = some (.int .i64 c') := by rw [hc1 _ _ (by simp; try omega)]; simp
    have hfl1_1_2 : w1.frozen? ⟨w.heap.size + 1, 2, none⟩ = false := by rw [hf1 _ _ (by simp; try omega)]; simp
    have hcl1_1_3 : w1.cell? ⟨w.heap.size + 1, 3, none⟩ = some (.int .i64 d') := by rw [hc1 _ _ (by simp; try omega)]; simp
    have hfl1_1_3 : w1.frozen? ⟨w.heap.size + 1, 3, none⟩ = false := by rw [hf1 _ _ (by simp; try omega)]; simp
    have hcl1_1_4 : w1.cell? ⟨w.heap.size + 1, 4, none⟩ = some (.int .i64 t') := by rw [hc1 _ _ (by simp; try omega)]; simp
    have hfl1_1_4 : w1.frozen? ⟨w.heap.size + 1, 4, none⟩ = false := by rw [hf1 _ _ (by simp; try omega)]; simp
    clear hc1 hf1
    go_wp2_with fail
    refine (rRowMay_any _ _ _ _ _ _).mono ?_
    rintro e w2 ⟨rfl, hb2⟩
    rw [hB'.out]
    have g4 : w2.cell? ⟨w.heap.size, 4, none⟩ = some (.int .i64 t) := by rw [hb2.cell (p := ⟨w.heap.size, 4, none⟩) hz1_0]; exact hcl1_0_4
    have k4 : w2.cell? ⟨w.heap.size + 1, 4, none⟩ = some (.int .i64 t') := by rw [hb2.cell (p := ⟨w.heap.size + 1, 4, none⟩) hz1_1]; exact hcl1_1_4
    by_cases q0 : fresh < 0
    · go_wp2_with fail
      go_ret2
      exact ruPostJ_nil hno.out.1 (belT (belT (by (repeat' (first | with_reducible exact Below.refl _ _ | with_reducible assumption | with_reducible apply Below.setCell | with_reducible apply Below.alloc | with_reducible apply Below.drew | with_reducible apply below_drewN | with_reducible exact Nat.le_refl _ | (simp; done) | (simp; omega) | omega | exact Nat.le_refl _))) hb1) hb2) hno.out.2.symm
    by_cases q1 : 4096 ≤ fresh
    · go_wp2_with fail
      go_ret2
      exact ruPostJ_nil hno.out.1 (belT (belT (by (repeat' (first | with_reducible exact Below.refl _ _ | with_reducible assumption | with_reducible apply Below.setCell | with_reducible apply Below.alloc | with_reducible apply Below.drew | with_reducible apply below_drewN | with_reducible exact Nat.le_refl _ | (simp; done) | (simp; omega) | omega | exact Nat.le_refl _))) hb1) hb2) hno.out.2.symm
    by_cases q2 : fresh ≤ t
    · go_wp2_with fail
      go_ret2
      exact ruPostJ_nil hno.out.1 (belT (belT (by (repeat' (first | with_reducible exact Below.refl _ _ | with_reducible assumption | with_reducible apply Below.setCell | with_reducible apply Below.alloc | with_reducible apply Below.drew | with_reducible apply below_drewN | with_reducible exact Nat.le_refl _ | (simp; done) | (simp; omega) | omega | exact Nat.le_refl _))) hb1) hb2) hno.out.2.symm
    · have q3 : fresh ≤ t' := by omega
      go_wp2_with fail
      go_ret2
      exact ruPostJ_nil hno.out.1 (belT (belT (by (repeat' (first | with_reducible exact Below.refl _ _ | with_reducible assumption | with_reducible apply Below.setCell | with_reducible apply Below.alloc | with_reducible apply Below.drew | with_reducible apply below_drewN | with_reducible exact Nat.le_refl _ | (simp; done) | (simp; omega) | omega | exact Nat.le_refl _))) hb1) hb2) hno.out.2.symm
end Go.Proofs.YtlbopoidjnaokaaDoor

