/- Contract of row.Unify. -/
import Derived.Test.YtlbopoidjnaokaaDoorRwD
namespace Go.Proofs.YtlbopoidjnaokaaDoor
open Go.RowKit
set_option linter.unusedVariables false
set_option linter.unusedSimpArgs false

def ruOk (a b c d t a' b' c' d' t' fresh : Int) : Bool := mayR a b c d t && mayR a' b' c' d' t' && decide (0 ≤ fresh ∧ fresh < 4096 ∧ t < fresh ∧ t' < fresh)
def uniR (a b c d t a' b' c' d' t' fresh : Int) : Option (List Bd) := uniT (mxz (a - a')) (mxz (b - b')) (mxz (c - c')) (mxz (d - d')) (mxz (a' - a)) (mxz (b' - b)) (mxz (c' - c)) (mxz (d' - d)) t t' fresh
def ruL (a b c d t a' b' c' d' t' fresh : Int) : List Bd := if ruOk a b c d t a' b' c' d' t' fresh then (uniR a b c d t a' b' c' d' t' fresh).getD [] else []
def ruE (a b c d t a' b' c' d' t' fresh : Int) : Int := if ruOk a b c d t a' b' c' d' t' fresh then (if (uniR a b c d t a' b' c' d' t' fresh).isSome then 0 else 801) else 800
/-- a slice of row binds in new memory, and an error. -/
def RuPost (l : List Bd) (er : Int) (w : World) (e : Ending) (w' : World) : Prop := ∃ v, e = .returned (.tuple #[v, .int .i64 er]) ∧ BdsIs w.heap.size w' v l ∧ Below w.heap.size w w'
theorem ru_no {a b c d t a' b' c' d' t' fresh : Int} (h : ruOk a b c d t a' b' c' d' t' fresh = false) : ruL a b c d t a' b' c' d' t' fresh = [] ∧ ruE a b c d t a' b' c' d' t' fresh = 800 := by
  unfold ruL ruE; rw [h]; exact ⟨rfl, rfl⟩
theorem ru_yes {a b c d t a' b' c' d' t' fresh : Int} (h : ruOk a b c d t a' b' c' d' t' fresh = true) : ruL a b c d t a' b' c' d' t' fresh = (uniR a b c d t a' b' c' d' t' fresh).getD [] ∧ ruE a b c d t a' b' c' d' t' fresh = (if (uniR a b c d t a' b' c' d' t' fresh).isSome then 0 else 801) := by
  unfold ruL ruE; rw [h]; exact ⟨rfl, rfl⟩
theorem ruPost_nil {er : Int} {w W : World} {l : List Bd} (hl : l = []) (hb : Below w.heap.size w W) {er' : Int} (he : er' = er) : RuPost l er w (.returned (.tuple #[.slice none 0 0, .int .i64 er'])) W := by
  subst hl; subst he; exact ⟨_, rfl, .inl ⟨rfl, rfl⟩, hb⟩
theorem bdsIs_le {B B' : Nat} {w : World} {v : Value} {l : List Bd} (h : BdsIs B w v l) (hb : B' ≤ B) : BdsIs B' w v l := by
  rcases h with h | ⟨g, h1, h2, h3, h4⟩
  · exact .inl h
  · exact .inr ⟨g, by omega, h2, h3, h4⟩
theorem tuple_v {v : Value} {k : IntKind} {a b : Int} (h : a = b) : Ending.returned (.tuple #[v, .int k a]) = .returned (.tuple #[v, .int k b]) := by rw [h]

set_option maxHeartbeats 1000000 in
set_option maxRecDepth 100000 in
theorem rowUnify_any (a b c d t a' b' c' d' t' fresh : Int) (w : World) :
    Calls Tryd.prog 9 #[.agg #[.int .i64 a, .int .i64 b, .int .i64 c, .int .i64 d, .int .i64 t], .agg #[.int .i64 a', .int .i64 b', .int .i64 c', .int .i64 d', .int .i64 t'], .int .i64 fresh] w
      (RuPost (ruL a b c d t a' b' c' d' t' fresh) (ruE a b c d t a' b' c' d' t' fresh) w) := by
  cases hA : mayR a b c d t
  · have hno := Lib.hid (ru_no (fresh := fresh) (show ruOk a b c d t a' b' c' d' t' fresh = false by unfold ruOk; rw [hA]; rfl))
    have hA' := Lib.hid hA; clear hA
    go_enter Tryd.func9, Tryd.ntmps9
    go_wp2_with fail
    refine (rowsMay_any _ _ _ _ _ _).mono ?_
    rintro e w1 ⟨rfl, hb1⟩
    rw [hA'.out]
    go_wp2_with fail
    go_ret2
    exact ruPost_nil hno.out.1 (belT (by (repeat' (first | with_reducible exact Below.refl _ _ | with_reducible assumption | with_reducible apply Below.setCell | with_reducible apply Below.alloc | with_reducible apply Below.drew | with_reducible apply below_drewN | with_reducible exact Nat.le_refl _ | (simp; done) | (simp; omega) | omega | exact Nat.le_refl _))) hb1) hno.out.2.symm
  cases hB : mayR a' b' c' d' t'
  · have hno := Lib.hid (ru_no (fresh := fresh) (show ruOk a b c d t a' b' c' d' t' fresh = false by unfold ruOk; rw [hB]; simp))
    have hA' := Lib.hid hA; clear hA
    have hB' := Lib.hid hB; clear hB
    go_enter Tryd.func9, Tryd.ntmps9
    go_wp2_with fail
    refine (rowsMay_any _ _ _ _ _ _).mono ?_
    rintro e w1 ⟨rfl, hb1⟩
    rw [hA'.out]
    obtain ⟨hc1, hf1⟩ := bcell hb1
    have hz1_0 : w.heap.size < w1.heap.size := by have := hb1.size; (try simp at this); omega
    have hz1_1 : w.heap.size + 1 < w1.heap.size := by have := hb1.size; (try simp at this); omega
    have hcl1_0_0 : w1.cell? ⟨w.heap.size, 0, none⟩ = some (.int .i64 a) := by rw [hc1 _ _ (by simp; try omega)]; simp
    have hfl1_0_0 : w1.frozen? ⟨w.heap.size, 0, none⟩ = false := by rw [hf1 _ _ (by simp; try omega)]; simp
    have hcl1_0_1 : w1.cell? ⟨w.heap.size, 1, none⟩ = some (.int .i64 b) := by rw [hc1 _ _ (by simp; try omega)]; simp
    have hfl1_0_1 : w1.frozen? ⟨w.heap.size, 1, none⟩ = false := by rw [hf1 _ _ (by simp; try omega)]; simp
    have hcl1_0_2 : w1.cell? ⟨w.heap.size, 2, none⟩ = some (.int .i64 c) := by rw [hc1 _ _ (by simp; try omega)]; simp
    have hfl1_0_2 : w1.frozen? ⟨w.heap.size, 2, none⟩ = false := by rw [hf1 _ _ (by simp; try omega)]; simp
    have hcl1_0_3 : w1.cell? ⟨w.heap.size, 3, none⟩ = some (.int .i64 d) := by rw [hc1 _ _ (by simp; try omega)]; simp
    have hfl1_0_3 : w1.frozen? ⟨w.heap.size, 3, none⟩ = false := by rw [hf1 _ _ (by simp; try omega)]; simp
    have hcl1_0_4 : w1.cell? ⟨w.heap.size, 4, none⟩ = some (.int .i64 t) := by rw [hc1 _ _ (by simp; try omega)]; simp
    have hfl1_0_4 : w1.frozen? ⟨w.heap.size, 4, none⟩ = false := by rw [hf1 _ _ (by simp; try omega)]; simp
    have hcl1_1_0 : w1.cell? ⟨w.heap.size + 1, 0, none⟩ = some (.int .i64 a') := by rw [hc1 _ _ (by simp; try omega)]; simp
    have hfl1_1_0 : w1.frozen? ⟨w.heap.size + 1, 0, none⟩ = false := by rw [hf1 _ _ (by simp; try omega)]; simp
    have hcl1_1_1 : w1.cell? ⟨w.heap.size + 1, 1, none⟩ = some (.int .i64 b') := by rw [hc1 _ _ (by simp; try omega)]; simp
    have hfl1_1_1 : w1.frozen? ⟨w.heap.size + 1, 1, none⟩ = false := by rw [hf1 _ _ (by simp; try omega)]; simp
    have hcl1_1_2 : w1.cell? ⟨w.heap.size + 1, 2, none⟩ = some (.int .i64 c') := by rw [hc1 _ _ (by simp; try omega)]; simp
    have hfl1_1_2 : w1.frozen? ⟨w.heap.size + 1, 2, none⟩ = false := by rw [hf1 _ _ (by simp; try omega)]; simp
    have hcl1_1_3 : w1.cell? ⟨w.heap.size + 1, 3, none⟩ = some (.int .i64 d') := by rw [hc1 _ _ (by simp; try omega)]; simp
    have hfl1_1_3 : w1.frozen? ⟨w.heap.size + 1, 3, none⟩ = false := by rw [hf1 _ _ (by simp; try omega)]; simp
    have hcl1_1_4 : w1.cell? ⟨w.heap.size + 1, 4, none⟩ = some (.int .i64 t') := by rw [hc1 _ _ (by simp; try omega)]; simp
    have hfl1_1_4 : w1.frozen? ⟨w.heap.size + 1, 4, none⟩ = false := by rw [hf1 _ _ (by simp; try omega)]; simp
    clear hc1 hf1
    go_wp2_with fail
    refine (rowsMay_any _ _ _ _ _ _).mono ?_
    rintro e w2 ⟨rfl, hb2⟩
    rw [hB'.out]
    go_wp2_with fail
    go_ret2
    exact ruPost_nil hno.out.1 (belT (belT (by (repeat' (first | with_reducible exact Below.refl _ _ | with_reducible assumption | with_reducible apply Below.setCell | with_reducible apply Below.alloc | with_reducible apply Below.drew | with_reducible apply below_drewN | with_reducible exact Nat.le_refl _ | (simp; done) | (simp; omega) | omega | exact Nat.le_refl _))) hb1) hb2) hno.out.2.symm
  have hbool := hA
  have hA' := Lib.hid hA; clear hA hbool
  have hB' := Lib.hid hB; clear hB
  by_cases hf : 0 ≤ fresh ∧ fresh < 4096 ∧ t < fresh ∧ t' < fresh
  · have hyes := Lib.hid (ru_yes (show ruOk a b c d t a' b' c' d' t' fresh = true by unfold ruOk; rw [hA'.out, hB'.out, decide_eq_true hf]; rfl))
    obtain ⟨hf0, hf1, hf2, hf3⟩ := hf
    obtain ⟨u, hu⟩ : ∃ u, uniR a b c d t a' b' c' d' t' fresh = u := ⟨_, rfl⟩
    have hcu := Lib.hid (fun (W : World) => unify_try a b c d t a' b' c' d' t' fresh u W hA'.out hB'.out _ _ _ _ _ _ _ _ (Lib.hid ⟨rfl, rfl, rfl, rfl, rfl, rfl, rfl, rfl⟩) (Lib.hid hu))
    have hu' := Lib.hid hu; clear hu
    go_enter Tryd.func9, Tryd.ntmps9
    go_wp2_with fail
    refine (rowsMay_any _ _ _ _ _ _).mono ?_
    rintro e w1 ⟨rfl, hb1⟩
    rw [hA'.out]
    obtain ⟨hc1, hf1⟩ := bcell hb1
    have hz1_0 : w.heap.size < w1.heap.size := by have := hb1.size; (try simp at this); omega
    have hz1_1 : w.heap.size + 1 < w1.heap.size := by have := hb1.size; (try simp at this); omega
    have hcl1_0_0 : w1.cell? ⟨w.heap.size, 0, none⟩ = some (.int .i64 a) := by rw [hc1 _ _ (by simp; try omega)]; simp
    have hfl1_0_0 : w1.frozen? ⟨w.heap.size, 0, none⟩ = false := by rw [hf1 _ _ (by simp; try omega)]; simp
    have hcl1_0_1 : w1.cell? ⟨w.heap.size, 1, none⟩ = some (.int .i64 b) := by rw [hc1 _ _ (by simp; try omega)]; simp
    have hfl1_0_1 : w1.frozen? ⟨w.heap.size, 1, none⟩ = false := by rw [hf1 _ _ (by simp; try omega)]; simp
    have hcl1_0_2 : w1.cell? ⟨w.heap.size, 2, none⟩ = some (.int .i64 c) := by rw [hc1 _ _ (by simp; try omega)]; simp
    have hfl1_0_2 : w1.frozen? ⟨w.heap.size, 2, none⟩ = false := by rw [hf1 _ _ (by simp; try omega)]; simp
    have hcl1_0_3 : w1.cell? ⟨w.heap.size, 3, none⟩ = some (.int .i64 d) := by rw [hc1 _ _ (by simp; try omega)]; simp
    have hfl1_0_3 : w1.frozen? ⟨w.heap.size, 3, none⟩ = false := by rw [hf1 _ _ (by simp; try omega)]; simp
    have hcl1_0_4 : w1.cell? ⟨w.heap.size, 4, none⟩ = some (.int .i64 t) := by rw [hc1 _ _ (by simp; try omega)]; simp
    have hfl1_0_4 : w1.frozen? ⟨w.heap.size, 4, none⟩ = false := by rw [hf1 _ _ (by simp; try omega)]; simp
    have hcl1_1_0 : w1.cell? ⟨w.heap.size + 1, 0, none⟩ = some (.int .i64 a') := by rw [hc1 _ _ (by simp; try omega)]; simp
    have hfl1_1_0 : w1.frozen? ⟨w.heap.size + 1, 0, none⟩ = false := by rw [hf1 _ _ (by simp; try omega)]; simp
    have hcl1_1_1 : w1.cell? ⟨w.heap.size + 1, 1, none⟩ = some (.int .i64 b') := by rw [hc1 _ _ (by simp; try omega)]; simp
    have hfl1_1_1 : w1.frozen? ⟨w.heap.size + 1, 1, none⟩ = false := by rw [hf1 _ _ (by simp; try omega)]; simp
    have hcl1_1_2 : w1.cell? ⟨w.heap.size + 1, 2, none⟩ = some (.int .i64 c') := by rw [hc1 _ _ (by simp; try omega)]; simp
    have hfl1_1_2 : w1.frozen? ⟨w.heap.size + 1, 2, none⟩ = false := by rw [hf1 _ _ (by simp; try omega)]; simp
    have hcl1_1_3 : w1.cell? ⟨w.heap.size + 1, 3, none⟩ = some (.int .i64 d') := by rw [hc1 _ _ (by simp; try omega)]; simp
    have hfl1_1_3 : w1.frozen? ⟨w.heap.size + 1, 3, none⟩ = false := by rw [hf1 _ _ (by simp; try omega)]; simp
    have hcl1_1_4 : w1.cell? ⟨w.heap.size + 1, 4, none⟩ = some (.int .i64 t') := by rw [hc1 _ _ (by simp; try omega)]; simp
    have hfl1_1_4 : w1.frozen? ⟨w.heap.size + 1, 4, none⟩ = false := by rw [hf1 _ _ (by simp; try omega)]; simp
    clear hc1 hf1
    go_wp2_with fail
    refine (rowsMay_any _ _ _ _ _ _).mono ?_
    rintro e w2 ⟨rfl, hb2⟩
    rw [hB'.out]
    have hz2_0 : w.heap.size < w2.heap.size := by have := hb2.size; omega
    have hz2_1 : w.heap.size + 1 < w2.heap.size := by have := hb2.size; omega
    have hk0 : ∀ o v, w1.cell? ⟨w.heap.size, o, none⟩ = some v → w2.cell? ⟨w.heap.size, o, none⟩ = some v := fun o v h => by rw [hb2.cell (p := ⟨w.heap.size, o, none⟩) hz1_0]; exact h
    have hk1 : ∀ o v, w1.cell? ⟨w.heap.size + 1, o, none⟩ = some v → w2.cell? ⟨w.heap.size + 1, o, none⟩ = some v := fun o v h => by rw [hb2.cell (p := ⟨w.heap.size + 1, o, none⟩) hz1_1]; exact h
    have g0 := hk0 _ _ hcl1_0_0; have g1 := hk0 _ _ hcl1_0_1; have g2 := hk0 _ _ hcl1_0_2; have g3 := hk0 _ _ hcl1_0_3; have g4 := hk0 _ _ hcl1_0_4
    have k0 := hk1 _ _ hcl1_1_0; have k1 := hk1 _ _ hcl1_1_1; have k2 := hk1 _ _ hcl1_1_2; have k3 := hk1 _ _ hcl1_1_3; have k4 := hk1 _ _ hcl1_1_4
    clear hk0 hk1
    go_wp2_with fail
    refine (hcu.out _).mono ?_
    rintro e w3 ⟨v, rfl, hbd, hb3⟩
    have hbw : Below w.heap.size w w3 := belT (belT (belT (by (repeat' (first | with_reducible exact Below.refl _ _ | with_reducible assumption | with_reducible apply Below.setCell | with_reducible apply Below.alloc | with_reducible apply Below.drew | with_reducible apply below_drewN | with_reducible exact Nat.le_refl _ | (simp; done) | (simp; omega) | omega | exact Nat.le_refl _))) hb1) hb2) hb3
    have hle : w.heap.size ≤ w2.heap.size := by omega
    have hbd' := Lib.hid (bdsIs_le hbd hle)
    clear hbd
    cases u with
    | none =>
      go_wp2_with fail
      go_ret2
      exact ruPost_nil (by rw [hyes.out.1, hu'.out]; rfl) hbw (by rw [hyes.out.2, hu'.out]; rfl)
    | some l =>
      go_wp2_with fail
      go_ret2
      exact ⟨v, tuple_v (by rw [hyes.out.2, hu'.out]; rfl), by rw [hyes.out.1, hu'.out]; exact hbd'.out, hbw⟩
  · have hno := Lib.hid (ru_no (show ruOk a b c d t a' b' c' d' t' fresh = false by unfold ruOk; rw [decide_eq_false hf]; simp))
    go_enter Tryd.func9, Tryd.ntmps9
    go_wp2_with fail
    refine (rowsMay_any _ _ _ _ _ _).mono ?_
    rintro e w1 ⟨rfl, hb1⟩
    rw [hA'.out]
    obtain ⟨hc1, hf1⟩ := bcell hb1
    have hz1_0 : w.heap.size < w1.heap.size := by have := hb1.size; (try simp at this); omega
    have hz1_1 : w.heap.size + 1 < w1.heap.size := by have := hb1.size; (try simp at this); omega
    have hcl1_0_0 : w1.cell? ⟨w.heap.size, 0, none⟩ = some (.int .i64 a) := by rw [hc1 _ _ (by simp; try omega)]; simp
    have hfl1_0_0 : w1.frozen? ⟨w.heap.size, 0, none⟩ = false := by rw [hf1 _ _ (by simp; try omega)]; simp
    have hcl1_0_1 : w1.cell? ⟨w.heap.size, 1, none⟩ = some (.int .i64 b) := by rw [hc1 _ _ (by simp; try omega)]; simp
    have hfl1_0_1 : w1.frozen? ⟨w.heap.size, 1, none⟩ = false := by rw [hf1 _ _ (by simp; try omega)]; simp
    have hcl1_0_2 : w1.cell? ⟨w.heap.size, 2, none⟩ = some (.int .i64 c) := by rw [hc1 _ _ (by simp; try omega)]; simp
    have hfl1_0_2 : w1.frozen? ⟨w.heap.size, 2, none⟩ = false := by rw [hf1 _ _ (by simp; try omega)]; simp
    have hcl1_0_3 : w1.cell? ⟨w.heap.size, 3, none⟩ = some (.int .i64 d) := by rw [hc1 _ _ (by simp; try omega)]; simp
    have hfl1_0_3 : w1.frozen? ⟨w.heap.size, 3, none⟩ = false := by rw [hf1 _ _ (by simp; try omega)]; simp
    have hcl1_0_4 : w1.cell? ⟨w.heap.size, 4, none⟩ = some (.int .i64 t) := by rw [hc1 _ _ (by simp; try omega)]; simp
    have hfl1_0_4 : w1.frozen? ⟨w.heap.size, 4, none⟩ = false := by rw [hf1 _ _ (by simp; try omega)]; simp
    have hcl1_1_0 : w1.cell? ⟨w.heap.size + 1, 0, none⟩ = some (.int .i64 a') := by rw [hc1 _ _ (by simp; try omega)]; simp
    have hfl1_1_0 : w1.frozen? ⟨w.heap.size + 1, 0, none⟩ = false := by rw [hf1 _ _ (by simp; try omega)]; simp
    have hcl1_1_1 : w1.cell? ⟨w.heap.size + 1, 1, none⟩ = some (.int .i64 b') := by rw [hc1 _ _ (by simp; try omega)]; simp
    have hfl1_1_1 : w1.frozen? ⟨w.heap.size + 1, 1, none⟩ = false := by rw [hf1 _ _ (by simp; try omega)]; simp
    have hcl1_1_2 : w1.cell? ⟨w.heap.size + 1, 2, none⟩ = some (.int .i64 c') := by rw [hc1 _ _ (by simp; try omega)]; simp
    have hfl1_1_2 : w1.frozen? ⟨w.heap.size + 1, 2, none⟩ = false := by rw [hf1 _ _ (by simp; try omega)]; simp
    have hcl1_1_3 : w1.cell? ⟨w.heap.size + 1, 3, none⟩ = some (.int .i64 d') := by rw [hc1 _ _ (by simp; try omega)]; simp
    have hfl1_1_3 : w1.frozen? ⟨w.heap.size + 1, 3, none⟩ = false := by rw [hf1 _ _ (by simp; try omega)]; simp
    have hcl1_1_4 : w1.cell? ⟨w.heap.size + 1, 4, none⟩ = some (.int .i64 t') := by rw [hc1 _ _ (by simp; try omega)]; simp
    have hfl1_1_4 : w1.frozen? ⟨w.heap.size + 1, 4, none⟩ = false := by rw [hf1 _ _ (by simp; try omega)]; simp
    clear hc1 hf1
    go_wp2_with fail
    refine (rowsMay_any _ _ _ _ _ _).mono ?_
    rintro e w2 ⟨rfl, hb2⟩
    rw [hB'.out]
    have g4 : w2.cell? ⟨w.heap.size, 4, none⟩ = some (.int .i64 t) := by rw [hb2.cell (p := ⟨w.heap.size, 4, none⟩) hz1_0]; exact hcl1_0_4
    have k4 : w2.cell? ⟨w.heap.size + 1, 4, none⟩ = some (.int .i64 t') := by rw [hb2.cell (p := ⟨w.heap.size + 1, 4, none⟩) hz1_1]; exact hcl1_1_4
    by_cases q0 : fresh < 0
    · go_wp2_with fail
      go_ret2
      exact ruPost_nil hno.out.1 (belT (belT (by (repeat' (first | with_reducible exact Below.refl _ _ | with_reducible assumption | with_reducible apply Below.setCell | with_reducible apply Below.alloc | with_reducible apply Below.drew | with_reducible apply below_drewN | with_reducible exact Nat.le_refl _ | (simp; done) | (simp; omega) | omega | exact Nat.le_refl _))) hb1) hb2) hno.out.2.symm
    by_cases q1 : 4096 ≤ fresh
    · go_wp2_with fail
      go_ret2
      exact ruPost_nil hno.out.1 (belT (belT (by (repeat' (first | with_reducible exact Below.refl _ _ | with_reducible assumption | with_reducible apply Below.setCell | with_reducible apply Below.alloc | with_reducible apply Below.drew | with_reducible apply below_drewN | with_reducible exact Nat.le_refl _ | (simp; done) | (simp; omega) | omega | exact Nat.le_refl _))) hb1) hb2) hno.out.2.symm
    by_cases q2 : fresh ≤ t
    · go_wp2_with fail
      go_ret2
      exact ruPost_nil hno.out.1 (belT (belT (by (repeat' (first | with_reducible exact Below.refl _ _ | with_reducible assumption | with_reducible apply Below.setCell | with_reducible apply Below.alloc | with_reducible apply Below.drew | with_reducible apply below_drewN | with_reducible exact Nat.le_refl _ | (simp; done) | (simp; omega) | omega | exact Nat.le_refl _))) hb1) hb2) hno.out.2.symm
    · have q3 : fresh ≤ t' := by omega
      go_wp2_with fail
      go_ret2
      exact ruPost_nil hno.out.1 (belT (belT (by (repeat' (first | with_reducible exact Below.refl _ _ | with_reducible assumption | with_reducible apply Below.setCell | with_reducible apply Below.alloc | with_reducible apply Below.drew | with_reducible apply below_drewN | with_reducible exact Nat.le_refl _ | (simp; done) | (simp; omega) | omega | exact Nat.le_refl _))) hb1) hb2) hno.out.2.symm
end Go.Proofs.YtlbopoidjnaokaaDoor
