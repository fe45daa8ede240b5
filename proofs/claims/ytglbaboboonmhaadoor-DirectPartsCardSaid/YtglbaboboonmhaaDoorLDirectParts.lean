/- DirectParts holds for every program and every place. No condition but that the listed package variable holds what the program's text lays. -/
import Derived.Test.YtglbaboboonmhaaDoorDiD
import Derived.Test.YtglbaboboonmhaaDoorNdIn
import Derived.Test.YtglbaboboonmhaaDoorCards
import Derived.Test.YtglbaboboonmhaaDoorTie
import Derived.Test.YtglbaboboonmhaaDoorOpn
import Derived.Test.YtglbaboboonmhaaDoorHan
import Derived.WalkKit
import Derived.ProofKit
import Derived.Deep.DeepHandedRow
namespace Go.Proofs.YtglbaboboonmhaaDoor.directParts
open Go.ChangeShapes Go.WideShapes Go.ChangeAt Go.RowKit
open Go.ChangeMaps (open_string shut_string)
set_option linter.unusedVariables false
set_option linter.unusedSimpArgs false

theorem tabs {W : World} (h : laidMetH Tryd.prog Rows.directPartsRow.laid W) : Hid (errTy W) := Lib.hid (errTy_of h (.head _))
theorem kind_of {ts : List Nd} (h : anyV ts = true) {j : Nat} (hj : j < ts.length) : 0 ≤ (ts.getD j nd0).k ∧ (ts.getD j nd0).k ≤ 10 := by
  unfold anyV treeV at h
  simp only [Bool.or_eq_true, Bool.and_eq_true, decide_eq_true_eq] at h
  have hp : plainB (ts.getD j nd0).k (ts.getD j nd0).a (ts.getD j nd0).b (ts.getD j nd0).c (ts.getD j nd0).n (ts.getD j nd0).nm (ts.getD j nd0).x (ts.getD j nd0).y (ts.getD j nd0).z = true := by
    rcases h with ⟨⟨_, h⟩, _⟩ | ⟨⟨_, h⟩, _⟩ <;>
    · rw [List.all_eq_true] at h
      have := h _ (getN_mem hj)
      unfold okNd at this
      simp only [Bool.and_eq_true] at this
      exact this.1.1.1.1
  generalize ts.getD j nd0 = t at hp ⊢
  by_cases h11 : 0 ≤ t.k ∧ t.k ≤ 10
  · exact h11
  · exfalso
    unfold plainB at hp
    rw [if_neg (by omega), if_neg (by omega), if_neg (by omega), if_neg (by omega), if_neg (by omega), if_neg (by omega), if_neg (by omega), if_neg (by omega), if_neg (by omega), decide_eq_true_eq] at hp
    omega
set_option maxRecDepth 100000 in
set_option maxHeartbeats 8000000 in
theorem walk {H : Type} {enc : TypeId × Value → H} (p0 : Option Addr) (n0 c0 : Nat) (p1 : Option Addr) (n1 c1 : Nat) (at_ : Int) (w : World)
    (f0 : ∃ fuel y, DataW.trod enc Tryd.prog w 0 (fun _ => true) true fuel 22 [.slice p0 n0 c0] = some y ∧ ∀ x ∈ DataW.weights Tryd.prog 22 y.1, x ≤ reachBytes)
    (f1 : ∃ fuel y, DataW.trod enc Tryd.prog w 0 (fun _ => true) true fuel 23 [.slice p1 n1 c1] = some y ∧ ∀ x ∈ DataW.weights Tryd.prog 23 y.1, x ≤ reachBytes)
    (b2 : -9223372036854775808 ≤ at_ ∧ at_ ≤ 9223372036854775807) (hg : Hid (errTy w)) :
    Calls Tryd.prog 4 #[.agg #[.slice p0 n0 c0, .slice p1 n1 c1], .int .i64 at_] w fun e w' => e = .returned (.bool true) ∧ Below w.heap.size w w' := by
  clear f0
  obtain ⟨_, _, t1, t1'⟩ := f1
  obtain ⟨_, hl1, ts, hN, hNz⟩ := nodes_open t1 t1'
  clear t1 t1'
  have hN' := Lib.hid hN
  have hNz' := Lib.hid hNz
  clear hN hNz
  have kX := Lib.hid fun (x : Int) (W : World) (hb : Below w.heap.size w W) => tDirect_any p1 n1 c1 ts x W (Lib.hid (hN'.out.below hb)) hNz' (by omega) (Lib.hid (errTy_below hg.out hb))
  have h0l := hgl hg.out
  cases hh : hasV ts at_
  · have kT := Lib.hid (kX.out at_)
    rw [dirP_no hh] at kT
    clear hh kX
    dsimp only at kT
    go_enter Tryd.func4, Tryd.ntmps4
    go_wp2_with fail
    refine (awake18_any _ (Lib.hid (errTy_below hg.out (show Below w.heap.size w _ from by (repeat' (first | with_reducible exact Below.refl _ _ | with_reducible assumption | with_reducible apply Below.setCell | with_reducible apply Below.alloc | with_reducible apply Below.drew | with_reducible apply below_drewN | with_reducible exact Nat.le_refl _ | (simp; done) | (simp; omega) | omega | exact Nat.le_refl _)))))).mono ?_
    rintro e w1 ⟨rfl, hb1⟩
    have hB1 := Lib.hid (belT (show Below w.heap.size w _ from by (repeat' (first | with_reducible exact Below.refl _ _ | with_reducible assumption | with_reducible apply Below.setCell | with_reducible apply Below.alloc | with_reducible apply Below.drew | with_reducible apply below_drewN | with_reducible exact Nat.le_refl _ | (simp; done) | (simp; omega) | omega | exact Nat.le_refl _))) hb1)
    have q0 : w1.cell? ⟨w.heap.size, 0, none⟩ = some (.slice p0 n0 c0) := carry hb1 (by simp) (by simp)
    have q1 : w1.cell? ⟨w.heap.size, 1, none⟩ = some (.slice p1 n1 c1) := carry hb1 (by simp) (by simp)
    clear hb1
    go_wp2_with fail
    refine (kT.out _ hB1.out).mono ?_
    rintro e w2 ⟨rfl, hb2⟩
    have hB2 := Lib.hid (belT hB1.out hb2)
    clear hb2 q0 q1
    go_wp2_with ((go_at_call 7; refine (num_any _ _ (by omega) (by omega)).mono ?_; rintro e w' ⟨rfl, rfl⟩))
    go_ret
    exact ⟨rfl, hB2.out⟩
  · obtain ⟨k, rfl, h1, h2, h3, h4⟩ := hasV_wf hh
    have ha : anyV ts = true := by unfold hasV at hh; simp only [Bool.and_eq_true] at hh; exact hh.2
    have kT := Lib.hid (kX.out (k : Int))
    rw [dirP_yes hh, Int.toNat_natCast] at kT
    dsimp only at kT
    have hkd := kind_of ha h1
    have kC := Lib.hid fun (x : Int) (hx : Hid (0 ≤ x ∧ x < k)) (W : World) (hb : Below w.heap.size w W) =>
      (show Calls Tryd.prog 5 #[.slice p1 n1 c1, .int .i64 x] W fun e w' => e = .returned (.tuple #[.bool (dirV ts x.toNat), .int .i64 0]) ∧ Below W.heap.size W w' from by
        have hx' := hx.out
        have hv : hasV ts x = true := by unfold hasV; rw [ha, decide_eq_true (by omega)]; rfl
        have := kX.out x W hb
        rwa [dirP_yes hv] at this)
    obtain ⟨b, off, rfl, hsl, hbw0⟩ : ∃ b off, p1 = some ⟨b, off, none⟩ ∧ NdSl w b off ts ∧ b < w.heap.size := by
      have h1' := hN'.out.1
      rcases hN'.out.2 with h | h
      · rw [h] at h1; simp at h1
      · exact h
    have hnl := hN'.out.1
    have hkn : (k : Int) < (n1 : Int) := by omega
    have hk0 : (0 : Int) ≤ (k : Int) := by omega
    have hcl := dir_cases (ts.getD k nd0) (dirV ts) (fun x => Hid (0 ≤ x ∧ x < k)) (fun c hc => Lib.hid (by obtain ⟨x1, x2, _⟩ := kid_ok (ksN ts) k h3 c hc; exact ⟨x1, x2⟩))
    rw [← dir_eq ts k h3] at hcl
    have hT := Lib.hid (hsl k h1)
    generalize dirV ts k = R at hcl kT
    generalize ts.getD k nd0 = t at hT hcl hkd
    have hnl' := Lib.hid hnl
    clear hnl hsl hh ha h4 h3 h2 h1 kX
    go_enter Tryd.func4, Tryd.ntmps4
    go_wp2_with fail
    refine (awake18_any _ (Lib.hid (errTy_below hg.out (show Below w.heap.size w _ from by (repeat' (first | with_reducible exact Below.refl _ _ | with_reducible assumption | with_reducible apply Below.setCell | with_reducible apply Below.alloc | with_reducible apply Below.drew | with_reducible apply below_drewN | with_reducible exact Nat.le_refl _ | (simp; done) | (simp; omega) | omega | exact Nat.le_refl _)))))).mono ?_
    rintro e w1 ⟨rfl, hb1⟩
    have hB1 := Lib.hid (belT (show Below w.heap.size w _ from by (repeat' (first | with_reducible exact Below.refl _ _ | with_reducible assumption | with_reducible apply Below.setCell | with_reducible apply Below.alloc | with_reducible apply Below.drew | with_reducible apply below_drewN | with_reducible exact Nat.le_refl _ | (simp; done) | (simp; omega) | omega | exact Nat.le_refl _))) hb1)
    have q0 : w1.cell? ⟨w.heap.size, 0, none⟩ = some (.slice p0 n0 c0) := carry hb1 (by simp) (by simp)
    have q1 : w1.cell? ⟨w.heap.size, 1, none⟩ = some (.slice (some ⟨b, off, none⟩) n1 c1) := carry hb1 (by simp) (by simp)
    have z1 : w.heap.size < w1.heap.size := by have := hb1.size; (try simp at this); omega
    clear hb1
    go_wp2_with fail
    refine (kT.out _ hB1.out).mono ?_
    rintro e w2 ⟨rfl, hb2⟩
    have hB2 := Lib.hid (belT hB1.out hb2)
    have q0 := carry hb2 z1 q0
    have q1 := carry hb2 z1 q1
    have z2 : w.heap.size < w2.heap.size := by have := hb2.size; omega
    clear hb2
    obtain ⟨e0, e1, e2, e3, e4, e5, e6, e7, e8, e9⟩ := hT.out.below hB2.out hbw0
    have hB2w := hB2.out
    rcases hcl with ⟨hk, hv⟩ | ⟨hk, pa, pb, hv⟩ | ⟨hk, pa, pb, pc, hv⟩ | ⟨hk, pb, hv⟩ | ⟨hk, hv⟩
    · subst hv
      rcases hk with hk | hk | hk | hk
      all_goals
        rw [hk] at e0
        clear hk hkd
        go_wp2_with ((go_at_call 7; refine (num_any _ _ (by omega) (by omega)).mono ?_; rintro e w' ⟨rfl, rfl⟩))
        go_ret
        exact ⟨rfl, by (repeat' (first | with_reducible exact Below.refl _ _ | with_reducible assumption | with_reducible apply Below.setCell | with_reducible apply Below.alloc | with_reducible apply Below.drew | with_reducible apply below_drewN | with_reducible exact Nat.le_refl _ | (simp; done) | (simp; omega) | omega | exact Nat.le_refl _))⟩
    · rcases hk with hk | hk
      · rw [hk] at e0
        clear hk
        have ka := Lib.hid (kC.out t.a pa)
        generalize dirV ts t.a.toNat = ba at ka hv
        have kb := Lib.hid (kC.out t.b pb)
        generalize dirV ts t.b.toNat = bb at kb hv
        subst hv
        clear hkd
        go_wp2_with ((go_at_call 7; refine (num_any _ _ (by omega) (by omega)).mono ?_; rintro e w' ⟨rfl, rfl⟩))
        refine (ka.out _ (by (repeat' (first | with_reducible exact Below.refl _ _ | with_reducible assumption | with_reducible apply Below.setCell | with_reducible apply Below.alloc | with_reducible apply Below.drew | with_reducible apply below_drewN | with_reducible exact Nat.le_refl _ | (simp; done) | (simp; omega) | omega | exact Nat.le_refl _)))).mono ?_
        rintro e v1 ⟨rfl, hc1⟩
        have hC1 := Lib.hid (belT (show Below w.heap.size w _ from by (repeat' (first | with_reducible exact Below.refl _ _ | with_reducible assumption | with_reducible apply Below.setCell | with_reducible apply Below.alloc | with_reducible apply Below.drew | with_reducible apply below_drewN | with_reducible exact Nat.le_refl _ | (simp; done) | (simp; omega) | omega | exact Nat.le_refl _))) hc1)
        have g0 : v1.cell? ⟨w.heap.size, 0, none⟩ = some (.slice p0 n0 c0) := carry hc1 (by first | (simp; done) | (simp; omega)) (by rw [World.cell?_alloc_past _ _ _ (by omega)]; exact q0)
        have g1 : v1.cell? ⟨w.heap.size, 1, none⟩ = some (.slice (some ⟨b, off, none⟩) n1 c1) := carry hc1 (by first | (simp; done) | (simp; omega)) (by rw [World.cell?_alloc_past _ _ _ (by omega)]; exact q1)
        have xb : v1.cell? ⟨w2.heap.size, 2, none⟩ = some (.int .i64 t.b) := carry hc1 (by simp) (by simp)
        have xk : v1.cell? ⟨w2.heap.size, 0, none⟩ = some (.int .i64 5) := carry hc1 (by simp) (by simp)
        have y1 : w2.heap.size < v1.heap.size := by have := hc1.size; (try simp at this); omega
        clear hc1
        go_wp2_with fail
        refine (kb.out _ hC1.out).mono ?_
        rintro e v2 ⟨rfl, hc2⟩
        have hC2 := Lib.hid (belT hC1.out hc2)
        clear hc2
        cases ba <;> cases bb
        all_goals
          go_wp2_with fail
          go_ret
          exact ⟨rfl, hC2.out⟩
      · rw [hk] at e0
        clear hk
        have ka := Lib.hid (kC.out t.a pa)
        generalize dirV ts t.a.toNat = ba at ka hv
        have kb := Lib.hid (kC.out t.b pb)
        generalize dirV ts t.b.toNat = bb at kb hv
        subst hv
        clear hkd
        go_wp2_with ((go_at_call 7; refine (num_any _ _ (by omega) (by omega)).mono ?_; rintro e w' ⟨rfl, rfl⟩))
        refine (ka.out _ (by (repeat' (first | with_reducible exact Below.refl _ _ | with_reducible assumption | with_reducible apply Below.setCell | with_reducible apply Below.alloc | with_reducible apply Below.drew | with_reducible apply below_drewN | with_reducible exact Nat.le_refl _ | (simp; done) | (simp; omega) | omega | exact Nat.le_refl _)))).mono ?_
        rintro e v1 ⟨rfl, hc1⟩
        have hC1 := Lib.hid (belT (show Below w.heap.size w _ from by (repeat' (first | with_reducible exact Below.refl _ _ | with_reducible assumption | with_reducible apply Below.setCell | with_reducible apply Below.alloc | with_reducible apply Below.drew | with_reducible apply below_drewN | with_reducible exact Nat.le_refl _ | (simp; done) | (simp; omega) | omega | exact Nat.le_refl _))) hc1)
        have g0 : v1.cell? ⟨w.heap.size, 0, none⟩ = some (.slice p0 n0 c0) := carry hc1 (by first | (simp; done) | (simp; omega)) (by rw [World.cell?_alloc_past _ _ _ (by omega)]; exact q0)
        have g1 : v1.cell? ⟨w.heap.size, 1, none⟩ = some (.slice (some ⟨b, off, none⟩) n1 c1) := carry hc1 (by first | (simp; done) | (simp; omega)) (by rw [World.cell?_alloc_past _ _ _ (by omega)]; exact q1)
        have xb : v1.cell? ⟨w2.heap.size, 2, none⟩ = some (.int .i64 t.b) := carry hc1 (by simp) (by simp)
        have xk : v1.cell? ⟨w2.heap.size, 0, none⟩ = some (.int .i64 8) := carry hc1 (by simp) (by simp)
        have y1 : w2.heap.size < v1.heap.size := by have := hc1.size; (try simp at this); omega
        clear hc1
        go_wp2_with fail
        refine (kb.out _ hC1.out).mono ?_
        rintro e v2 ⟨rfl, hc2⟩
        have hC2 := Lib.hid (belT hC1.out hc2)
        clear hc2
        cases ba <;> cases bb
        all_goals
          go_wp2_with fail
          go_ret
          exact ⟨rfl, hC2.out⟩
    · rw [hk] at e0
      clear hk
      have kc := Lib.hid (kC.out t.c pc)
      generalize dirV ts t.c.toNat = bc at kc hv
      have ka := Lib.hid (kC.out t.a pa)
      generalize dirV ts t.a.toNat = ba at ka hv
      have kb := Lib.hid (kC.out t.b pb)
      generalize dirV ts t.b.toNat = bb at kb hv
      subst hv
      clear hkd
      go_wp2_with ((go_at_call 7; refine (num_any _ _ (by omega) (by omega)).mono ?_; rintro e w' ⟨rfl, rfl⟩))
      refine (kc.out _ (by (repeat' (first | with_reducible exact Below.refl _ _ | with_reducible assumption | with_reducible apply Below.setCell | with_reducible apply Below.alloc | with_reducible apply Below.drew | with_reducible apply below_drewN | with_reducible exact Nat.le_refl _ | (simp; done) | (simp; omega) | omega | exact Nat.le_refl _)))).mono ?_
      rintro e v1 ⟨rfl, hc1⟩
      have hC1 := Lib.hid (belT (show Below w.heap.size w _ from by (repeat' (first | with_reducible exact Below.refl _ _ | with_reducible assumption | with_reducible apply Below.setCell | with_reducible apply Below.alloc | with_reducible apply Below.drew | with_reducible apply below_drewN | with_reducible exact Nat.le_refl _ | (simp; done) | (simp; omega) | omega | exact Nat.le_refl _))) hc1)
      have g0 : v1.cell? ⟨w.heap.size, 0, none⟩ = some (.slice p0 n0 c0) := carry hc1 (by first | (simp; done) | (simp; omega)) (by rw [World.cell?_alloc_past _ _ _ (by omega)]; exact q0)
      have g1 : v1.cell? ⟨w.heap.size, 1, none⟩ = some (.slice (some ⟨b, off, none⟩) n1 c1) := carry hc1 (by first | (simp; done) | (simp; omega)) (by rw [World.cell?_alloc_past _ _ _ (by omega)]; exact q1)
      have xa : v1.cell? ⟨w2.heap.size, 1, none⟩ = some (.int .i64 t.a) := carry hc1 (by simp) (by simp)
      have xb : v1.cell? ⟨w2.heap.size, 2, none⟩ = some (.int .i64 t.b) := carry hc1 (by simp) (by simp)
      have xk : v1.cell? ⟨w2.heap.size, 0, none⟩ = some (.int .i64 7) := carry hc1 (by simp) (by simp)
      have y1 : w2.heap.size < v1.heap.size := by have := hc1.size; (try simp at this); omega
      clear hc1
      go_wp2_with fail
      refine (ka.out _ hC1.out).mono ?_
      rintro e v2 ⟨rfl, hc2⟩
      have hC2 := Lib.hid (belT hC1.out hc2)
      have g0 := carry hc2 (by omega) g0
      have g1 := carry hc2 (by omega) g1
      have xb := carry hc2 y1 xb
      have xk := carry hc2 y1 xk
      have y2 : w2.heap.size < v2.heap.size := by have := hc2.size; omega
      clear hc2
      go_wp2_with fail
      refine (kb.out _ hC2.out).mono ?_
      rintro e v3 ⟨rfl, hc3⟩
      have hC3 := Lib.hid (belT hC2.out hc3)
      clear hc3
      cases bc <;> cases ba <;> cases bb
      all_goals
        go_wp2_with fail
        go_ret
        exact ⟨rfl, hC3.out⟩
    · rw [hk] at e0
      clear hk
      have kb := Lib.hid (kC.out t.b pb)
      generalize dirV ts t.b.toNat = bb at kb hv
      subst hv
      clear hkd
      go_wp2_with ((go_at_call 7; refine (num_any _ _ (by omega) (by omega)).mono ?_; rintro e w' ⟨rfl, rfl⟩))
      refine (kb.out _ (by (repeat' (first | with_reducible exact Below.refl _ _ | with_reducible assumption | with_reducible apply Below.setCell | with_reducible apply Below.alloc | with_reducible apply Below.drew | with_reducible apply below_drewN | with_reducible exact Nat.le_refl _ | (simp; done) | (simp; omega) | omega | exact Nat.le_refl _)))).mono ?_
      rintro e v1 ⟨rfl, hc1⟩
      have hC1 := Lib.hid (belT (show Below w.heap.size w _ from by (repeat' (first | with_reducible exact Below.refl _ _ | with_reducible assumption | with_reducible apply Below.setCell | with_reducible apply Below.alloc | with_reducible apply Below.drew | with_reducible apply below_drewN | with_reducible exact Nat.le_refl _ | (simp; done) | (simp; omega) | omega | exact Nat.le_refl _))) hc1)
      have g0 : v1.cell? ⟨w.heap.size, 0, none⟩ = some (.slice p0 n0 c0) := carry hc1 (by first | (simp; done) | (simp; omega)) (by rw [World.cell?_alloc_past _ _ _ (by omega)]; exact q0)
      have g1 : v1.cell? ⟨w.heap.size, 1, none⟩ = some (.slice (some ⟨b, off, none⟩) n1 c1) := carry hc1 (by first | (simp; done) | (simp; omega)) (by rw [World.cell?_alloc_past _ _ _ (by omega)]; exact q1)
      have xk : v1.cell? ⟨w2.heap.size, 0, none⟩ = some (.int .i64 6) := carry hc1 (by simp) (by simp)
      have y1 : w2.heap.size < v1.heap.size := by have := hc1.size; (try simp at this); omega
      clear hc1
      cases R
      all_goals
        go_wp2_with fail
        go_ret
        exact ⟨rfl, hC1.out⟩
    · subst hv
      have hk3 : t.k = 4 ∨ t.k = 9 ∨ t.k = 10 := by omega
      clear hk hkd
      rcases hk3 with hk | hk | hk
      all_goals
        rw [hk] at e0
        clear hk
        go_wp2_with ((go_at_call 7; refine (num_any _ _ (by omega) (by omega)).mono ?_; rintro e w' ⟨rfl, rfl⟩))
        go_ret
        exact ⟨rfl, by (repeat' (first | with_reducible exact Below.refl _ _ | with_reducible assumption | with_reducible apply Below.setCell | with_reducible apply Below.alloc | with_reducible apply Below.drew | with_reducible apply below_drewN | with_reducible exact Nat.le_refl _ | (simp; done) | (simp; omega) | omega | exact Nat.le_refl _))⟩
theorem own : ownKnob Tryd.prog.godebug = none := by kernel_rfl
theorem laidOut : laidOutB Tryd.prog = true := by kernel_rfl
set_option maxRecDepth 100000 in
theorem contract (H : Type) (enc : TypeId × Value → H) (W : World) (base : Nat) (args : Array Value) (ds gs : List (DataW H)) (before : List MemPlace)
    (hval0 : ∀ (j : Nat) t v, Tryd.f4.params[j]? = some t → args[j]? = some v → Value.okWide Tryd.prog W .any base t v)
    (hW : DataW.Whole enc Tryd.prog Tryd.f4.params.toList Rows.directPartsSpec.vars false W args.toList ds gs before)
    (hsz0 : (DataW.weightsEach Tryd.prog (Tryd.f4.params.toList ++ Rows.directPartsSpec.plain.varTypes Tryd.prog) (ds ++ gs)).all (· ≤ reachBytes) = true)
    (hL : laidMetH Tryd.prog Rows.directPartsRow.laid W)
    : Calls Tryd.prog 4 args W fun e W' => ∃ v, e = .returned v ∧ Rows.directPartsSpec.post enc Tryd.prog Tryd.f4 false true false false W args v W' := by
  have hval : ∀ (j : Nat) t v, Tryd.f4.params[j]? = some t → args[j]? = some v → Value.okWide Tryd.prog W .any base t v := hval0
  have hsz : (DataW.weightsEach Tryd.prog (Tryd.f4.params.toList ++ Rows.directPartsSpec.plain.varTypes Tryd.prog) (ds ++ gs)).all (· ≤ reachBytes) = true := hsz0
  have hW' := hW
  obtain ⟨p, q, hA0, hV, rfl, hfz, hnd⟩ := hW
  have hA : DataW.TrodAll enc Tryd.prog W 0 (fun _ => true) true Tryd.f4.params.toList args.toList ds p := hA0
  rw [Tryd.params4] at hA hval hsz
  obtain ⟨v0, vs0, d0, ds0, p0, q0, hargs, rfl, rfl, h0, r0⟩ := trodAll_cons hA
  obtain ⟨v1, vs1, d1, ds1, p1, q1, rfl, rfl, rfl, h1, r1⟩ := trodAll_cons r0
  obtain ⟨rfl, rfl, rfl⟩ := trodAll_nil r1
  obtain rfl : args = #[v0, v1] := by cases args; simp_all
  obtain ⟨rfl, rfl⟩ := trodVars_none hV
  have k0 := h0
  have lt0 : ∀ x ∈ p0, x.block < W.heap.size := by obtain ⟨m, hm⟩ := k0; exact DataW.trod_lt m _ _ _ hm
  obtain ⟨cs0_0, rfl, fit0_0⟩ := open_struct Tryd.underlying25 (f := 6) (by kernel_rfl : flat Tryd.prog 6 25 = some [.sl 22, .sl 23]) (hval 0 25 v0 rfl rfl) h0 (sized_of hsz (j := 0) (t := 25) rfl rfl)
  obtain ⟨_, cs0_1, rfl, ⟨a0_0, n0_0, c0_0, fu0_0, y0_0, rfl, f0_0, g0_0⟩, fit0_1⟩ := fit_i fit0_0
  obtain ⟨_, cs0_2, rfl, ⟨a0_1, n0_1, c0_1, fu0_1, y0_1, rfl, f0_1, g0_1⟩, fit0_2⟩ := fit_i fit0_1
  obtain rfl := fit_nil fit0_2
  have k1 := h1
  have lt1 : ∀ x ∈ p1, x.block < W.heap.size := by obtain ⟨m, hm⟩ := k1; exact DataW.trod_lt m _ _ _ hm
  obtain ⟨a1, rfl, rfl, rfl, m1⟩ := open_int Tryd.underlying3 (hval 1 3 v1 rfl rfl) h1
  clear hA0 hval0
  refine (walk a0_0 n0_0 c0_0 a0_1 n0_1 c0_1 a1 W ⟨_, _, f0_0, g0_0⟩ ⟨_, _, f0_1, g0_1⟩ (bd_i64 m1) (tabs hL)).mono fun e W' ⟨he, bel⟩ => ?_
  subst he
  exact ⟨_, rfl, _, _, _, [], _, [], hW', trodAll_mk1 (shut_bool Tryd.underlying4 _), (trodAll_cons_mk (Below.trod laidOut (by kernel_rfl) (of_decide_eq_true (by kernel_rfl)) k0 bel lt0) (trodAll_cons_mk (Below.trod laidOut (by kernel_rfl) (of_decide_eq_true (by kernel_rfl)) k1 bel lt1) trodAll_mk0)), rfl, bel.frame _, fun h => by cases h⟩
theorem laid_met (os : Os) : laidMetH Tryd.prog Rows.directPartsRow.laid ((handleWorld os).forCall (fun _ _ => 0) ⟨#[], #[.agg #[.slice none 0 0, .slice none 0 0], .int .i64 0], []⟩).memory := laidMetH_of_parts (laidMet_nil _ _) (by kernel_rfl)
theorem reads (os : Os) {H : Type} (enc : TypeId × Value → H) : ∃ places, DataW.whole enc Tryd.prog ((handleWorld os).forCall (fun _ _ => 0) ⟨#[], #[.agg #[.slice none 0 0, .slice none 0 0], .int .i64 0], []⟩).memory Tryd.f4.params.toList Rows.directPartsSpec.vars false #[(.agg #[.slice none 0 0, .slice none 0 0] : Value), (.int .i64 0 : Value)].toList 8 = some ([.agg [.nil, .nil], .lit (.int .i64 0)], [], places) := ⟨[], by kernel_rfl⟩
set_option maxRecDepth 100000 in
theorem lifted (os : Os) (started : os.Started) (H : Type) (enc : TypeId × Value → H) (F : Stop.Interp) :
    ReturnsInHanded {} Tryd.checked os 4 .any ((OpenSpec.ofChange Rows.directPartsSpec).preRow enc Tryd.prog Tryd.f4 Rows.directPartsRow.domain false Rows.directPartsRow.laid) (((OpenSpec.ofChange Rows.directPartsSpec).at F).post enc Tryd.prog Tryd.f4 false true false false) := by
  obtain ⟨places, hx⟩ := reads os enc
  refine returnsInHanded_of_row (C := Tryd.checked) (s := (OpenSpec.ofChange Rows.directPartsSpec)) own started (by kernel_rfl) Tryd.func4
    (witness_row_at (enc := enc) (C := Tryd.checked) false (handleWorld os) #[.agg #[.slice none 0 0, .slice none 0 0], .int .i64 0] rfl (by kernel_rfl) (by kernel_rfl) (by kernel_rfl)
      (OpenSpec.preRow_of_cond 8 hx (by kernel_rfl) (fun k hk => by cases hk) (by kernel_rfl) (laid_met os))) ?_
  intro W base args ds gs before hval hW _ hcnd hsz hL _ _
  exact contract H enc W base args ds gs before hval hW hsz  hL
theorem said : Rows.DirectPartsSaid :=
  OpenClaim.holds_of_cond 4 Tryd.f4 rfl rfl rfl rfl rfl rfl rfl ⟨rfl, rfl, rfl, rfl, rfl⟩ rfl rfl rfl rfl rfl (by kernel_rfl) Tryd.func4 (by kernel_rfl)
    (of_decide_eq_true (by kernel_rfl)) (by unfold Func.isWrapper; first | (rw [if_pos (by decide +kernel)]; kernel_rfl) | (rw [if_neg (by decide +kernel)]; exact ⟨rfl, rfl⟩))
    (fun os started H enc _ F => by rw [OpenClaim.pre_eq_preRow]; exact lifted os started H enc F)
theorem plain (f : FuncId) (fn : Func) (hf : Tryd.pinned.checked.prog.funcNamed "trammel/trammellaw18.DirectParts" = some f) (hfn : Tryd.pinned.checked.prog.funcs[f]? = some fn) :
    true = Tryd.pinned.checked.prog.looks [] ∧ ∀ (j : Nat) t, fn.params[j]? = some t → Tryd.pinned.checked.prog.wantsStandIn t = false := by
  obtain rfl : f = 4 := Option.some.inj ((show Tryd.prog.funcNamed "trammel/trammellaw18.DirectParts" = some 4 by kernel_rfl).symm.trans hf) |>.symm
  obtain rfl : fn = Tryd.f4 := (Option.some.inj (Tryd.func4.symm.trans hfn)).symm
  refine ⟨by kernel_rfl, fun j t ht => ?_⟩
  rw [Tryd.params4] at ht
  have hm := Array.mem_of_getElem? ht
  have hm2 : t ∈ ([25, 3] : List Nat) := by simpa using hm
  simp only [List.mem_cons, List.not_mem_nil, or_false] at hm2
  rcases hm2 with rfl | rfl
  · exact (show Tryd.prog.wantsStandIn 25 = false by kernel_rfl)
  · exact (show Tryd.prog.wantsStandIn 3 = false by kernel_rfl)
theorem proved : Rows.DirectPartsCardSaid :=
  Claim7.holds_tied_plain_at .later [] _ _ _ _ said (fun _ h => by cases h) (by kernel_rfl) (fun _ h => by cases h) directParts_row_tie rfl ⟨rfl, rfl⟩ (by kernel_rfl) rfl plain (by kernel_rfl)
end Go.Proofs.YtglbaboboonmhaaDoor.directParts
