/- What needs no computation: both programs' recursion over places. -/
import Derived.Test.YtglbaboboonmhaaDoorDiA
namespace Go.Proofs.YtglbaboboonmhaaDoor
open Go.RowKit
set_option linter.unusedVariables false
set_option linter.unusedSimpArgs false

set_option maxRecDepth 100000 in
set_option maxHeartbeats 4000000 in
theorem tdir_any (b off cp : Nat) (ts : List Nd) (hl : ts.length ≤ 512) : ∀ (n at_ : Nat) (w : World), at_ < n → at_ < ts.length → 0 ≤ bg (ksN ts) at_ → Hid (NdSl w b off ts) → b < w.heap.size →
    Calls Tryd.prog 10 #[.slice (some ⟨b, off, none⟩) ts.length cp, .int .i64 at_] w fun e w' => e = .returned (.bool (dirV ts at_)) ∧ Below w.heap.size w w' := by
  intro n
  induction n with
  | zero => intro at_ w h; omega
  | succ n ih =>
    intro at_ w hn hat h0 h hbs
    have hT := h.out at_ hat
    have hcl := dir_cases (ts.getD at_ nd0) (dirV ts) (fun x => Hid (0 ≤ x ∧ x < at_ ∧ 0 ≤ bg (ksN ts) x.toNat)) (fun c hc => Lib.hid (kid_ok (ksN ts) at_ h0 c hc))
    rw [← dir_eq ts at_ h0] at hcl
    generalize dirV ts at_ = R at hcl ⊢
    generalize ts.getD at_ nd0 = t at hT hcl
    obtain ⟨e0, e1, e2, e3, e4, e5, e6, e7, e8, e9⟩ := hT
    have hat512 : (at_ : Int) ≤ 512 := by omega
    have hI := Lib.hid fun (x : Int) (W : World) (h1 : Hid (0 ≤ x ∧ x < at_ ∧ 0 ≤ bg (ksN ts) x.toNat)) (hW : Hid (NdSl W b off ts)) (hbW : b < W.heap.size) =>
      (show Calls Tryd.prog 10 #[.slice (some ⟨b, off, none⟩) ts.length cp, .int .i64 x] W fun e w' => e = .returned (.bool (dirV ts x.toNat)) ∧ Below W.heap.size W w' from by
        obtain ⟨y, rfl⟩ := Int.eq_ofNat_of_zero_le h1.out.1
        have h2 := h1.out.2
        exact ih y W (by omega) (by omega) h2.2 hW hbW)
    clear ih
    rcases hcl with ⟨hk, hv⟩ | ⟨hk, pa, pb, hv⟩ | ⟨hk, pa, pb, pc, hv⟩ | ⟨hk, pb, hv⟩ | ⟨hk, hv⟩
    · have hv' := Lib.hid hv; clear hv
      rcases hk with hk | hk | hk | hk
      all_goals
        rw [hk] at e0
        clear hk
        go_enter Tryd.func10, Tryd.ntmps10
        go_wp2_with fail
        go_ret
        exact ⟨ret_b hv'.out.symm, by (repeat' (first | with_reducible exact Below.refl _ _ | with_reducible assumption | with_reducible apply Below.setCell | with_reducible apply Below.alloc | with_reducible apply Below.drew | with_reducible apply below_drewN | with_reducible exact Nat.le_refl _ | (simp; done) | (simp; omega) | omega | exact Nat.le_refl _))⟩
    · rcases hk with hk | hk
      all_goals
        rw [hk] at e0
        clear hk
        have ka := Lib.hid fun (W : World) (hW : Hid (NdSl W b off ts)) (hbW : b < W.heap.size) => hI.out t.a W pa hW hbW
        generalize dirV ts t.a.toNat = ba at ka hv
        have kb := Lib.hid fun (W : World) (hW : Hid (NdSl W b off ts)) (hbW : b < W.heap.size) => hI.out t.b W pb hW hbW
        generalize dirV ts t.b.toNat = bb at kb hv
        have hv' := Lib.hid hv; clear hv
        go_enter Tryd.func10, Tryd.ntmps10
        go_wp2_with fail
        refine (ka.out _ (Lib.hid (h.out.below (show Below w.heap.size w _ from by (repeat' (first | with_reducible exact Below.refl _ _ | with_reducible assumption | with_reducible apply Below.setCell | with_reducible apply Below.alloc | with_reducible apply Below.drew | with_reducible apply below_drewN | with_reducible exact Nat.le_refl _ | (simp; done) | (simp; omega) | omega | exact Nat.le_refl _))) hbs)) (by first | omega | (simp; omega))).mono ?_
        rintro e w1 ⟨rfl, hb1⟩
        have hB1 := Lib.hid (belT (show Below w.heap.size w _ from by (repeat' (first | with_reducible exact Below.refl _ _ | with_reducible assumption | with_reducible apply Below.setCell | with_reducible apply Below.alloc | with_reducible apply Below.drew | with_reducible apply below_drewN | with_reducible exact Nat.le_refl _ | (simp; done) | (simp; omega) | omega | exact Nat.le_refl _))) hb1)
        have qb : w1.cell? ⟨w.heap.size, 2, none⟩ = some (.int .i64 t.b) := carry hb1 (by simp) (by simp)
        have hz1 : w.heap.size < w1.heap.size := by have := hb1.size; (try simp at this); omega
        have hs1 : b < w1.heap.size := by omega
        clear hb1
        cases ba
        · go_wp2_with fail
          go_ret
          exact ⟨ret_b (by first | (rw [hv'.out]; done) | (rw [hv'.out]; simp)), hB1.out⟩
        · skip
          go_wp2_with fail
          refine (kb.out _ (Lib.hid (h.out.below hB1.out hbs)) (by omega)).mono ?_
          rintro e w2 ⟨rfl, hb2⟩
          have hB2 := Lib.hid (belT hB1.out hb2)
          have hz2 : w.heap.size < w2.heap.size := by have := hb2.size; omega
          have hs2 : b < w2.heap.size := by omega
          clear hb2
          cases bb
          all_goals
            go_wp2_with fail
            go_ret
            exact ⟨ret_b (by first | (rw [hv'.out]; done) | (rw [hv'.out]; simp)), hB2.out⟩
    · rw [hk] at e0
      clear hk
      have kc := Lib.hid fun (W : World) (hW : Hid (NdSl W b off ts)) (hbW : b < W.heap.size) => hI.out t.c W pc hW hbW
      generalize dirV ts t.c.toNat = bc at kc hv
      have ka := Lib.hid fun (W : World) (hW : Hid (NdSl W b off ts)) (hbW : b < W.heap.size) => hI.out t.a W pa hW hbW
      generalize dirV ts t.a.toNat = ba at ka hv
      have kb := Lib.hid fun (W : World) (hW : Hid (NdSl W b off ts)) (hbW : b < W.heap.size) => hI.out t.b W pb hW hbW
      generalize dirV ts t.b.toNat = bb at kb hv
      have hv' := Lib.hid hv; clear hv
      go_enter Tryd.func10, Tryd.ntmps10
      go_wp2_with fail
      refine (kc.out _ (Lib.hid (h.out.below (show Below w.heap.size w _ from by (repeat' (first | with_reducible exact Below.refl _ _ | with_reducible assumption | with_reducible apply Below.setCell | with_reducible apply Below.alloc | with_reducible apply Below.drew | with_reducible apply below_drewN | with_reducible exact Nat.le_refl _ | (simp; done) | (simp; omega) | omega | exact Nat.le_refl _))) hbs)) (by first | omega | (simp; omega))).mono ?_
      rintro e w1 ⟨rfl, hb1⟩
      have hB1 := Lib.hid (belT (show Below w.heap.size w _ from by (repeat' (first | with_reducible exact Below.refl _ _ | with_reducible assumption | with_reducible apply Below.setCell | with_reducible apply Below.alloc | with_reducible apply Below.drew | with_reducible apply below_drewN | with_reducible exact Nat.le_refl _ | (simp; done) | (simp; omega) | omega | exact Nat.le_refl _))) hb1)
      have qa : w1.cell? ⟨w.heap.size, 1, none⟩ = some (.int .i64 t.a) := carry hb1 (by simp) (by simp)
      have qb : w1.cell? ⟨w.heap.size, 2, none⟩ = some (.int .i64 t.b) := carry hb1 (by simp) (by simp)
      have hz1 : w.heap.size < w1.heap.size := by have := hb1.size; (try simp at this); omega
      have hs1 : b < w1.heap.size := by omega
      clear hb1
      cases bc
      · go_wp2_with fail
        go_ret
        exact ⟨ret_b (by first | (rw [hv'.out]; done) | (rw [hv'.out]; simp)), hB1.out⟩
      · skip
        go_wp2_with fail
        refine (ka.out _ (Lib.hid (h.out.below hB1.out hbs)) (by omega)).mono ?_
        rintro e w2 ⟨rfl, hb2⟩
        have hB2 := Lib.hid (belT hB1.out hb2)
        have qb := carry hb2 hz1 qb
        have hz2 : w.heap.size < w2.heap.size := by have := hb2.size; omega
        have hs2 : b < w2.heap.size := by omega
        clear hb2
        cases ba
        · go_wp2_with fail
          go_ret
          exact ⟨ret_b (by first | (rw [hv'.out]; done) | (rw [hv'.out]; simp)), hB2.out⟩
        · skip
          go_wp2_with fail
          refine (kb.out _ (Lib.hid (h.out.below hB2.out hbs)) (by omega)).mono ?_
          rintro e w3 ⟨rfl, hb3⟩
          have hB3 := Lib.hid (belT hB2.out hb3)
          have hz3 : w.heap.size < w3.heap.size := by have := hb3.size; omega
          have hs3 : b < w3.heap.size := by omega
          clear hb3
          cases bb
          all_goals
            go_wp2_with fail
            go_ret
            exact ⟨ret_b (by first | (rw [hv'.out]; done) | (rw [hv'.out]; simp)), hB3.out⟩
    · rw [hk] at e0
      clear hk
      have kb := Lib.hid fun (W : World) (hW : Hid (NdSl W b off ts)) (hbW : b < W.heap.size) => hI.out t.b W pb hW hbW
      generalize dirV ts t.b.toNat = bb at kb hv
      have hv' := Lib.hid hv; clear hv
      go_enter Tryd.func10, Tryd.ntmps10
      go_wp2_with fail
      refine (kb.out _ (Lib.hid (h.out.below (show Below w.heap.size w _ from by (repeat' (first | with_reducible exact Below.refl _ _ | with_reducible assumption | with_reducible apply Below.setCell | with_reducible apply Below.alloc | with_reducible apply Below.drew | with_reducible apply below_drewN | with_reducible exact Nat.le_refl _ | (simp; done) | (simp; omega) | omega | exact Nat.le_refl _))) hbs)) (by first | omega | (simp; omega))).mono ?_
      rintro e w1 ⟨rfl, hb1⟩
      have hB1 := Lib.hid (belT (show Below w.heap.size w _ from by (repeat' (first | with_reducible exact Below.refl _ _ | with_reducible assumption | with_reducible apply Below.setCell | with_reducible apply Below.alloc | with_reducible apply Below.drew | with_reducible apply below_drewN | with_reducible exact Nat.le_refl _ | (simp; done) | (simp; omega) | omega | exact Nat.le_refl _))) hb1)
      have hz1 : w.heap.size < w1.heap.size := by have := hb1.size; (try simp at this); omega
      have hs1 : b < w1.heap.size := by omega
      clear hb1
      cases bb
      all_goals
        go_wp2_with fail
        go_ret
        exact ⟨ret_b (by first | (rw [hv'.out]; done) | (rw [hv'.out]; simp)), hB1.out⟩
    · have hv' := Lib.hid hv; clear hv
      rcases hk with hk | hk | hk
      · go_enter Tryd.func10, Tryd.ntmps10
        go_wp2_with fail
        go_ret
        exact ⟨ret_b hv'.out.symm, by (repeat' (first | with_reducible exact Below.refl _ _ | with_reducible assumption | with_reducible apply Below.setCell | with_reducible apply Below.alloc | with_reducible apply Below.drew | with_reducible apply below_drewN | with_reducible exact Nat.le_refl _ | (simp; done) | (simp; omega) | omega | exact Nat.le_refl _))⟩
      · rw [hk] at e0
        go_enter Tryd.func10, Tryd.ntmps10
        go_wp2_with fail
        go_ret
        exact ⟨ret_b hv'.out.symm, by (repeat' (first | with_reducible exact Below.refl _ _ | with_reducible assumption | with_reducible apply Below.setCell | with_reducible apply Below.alloc | with_reducible apply Below.drew | with_reducible apply below_drewN | with_reducible exact Nat.le_refl _ | (simp; done) | (simp; omega) | omega | exact Nat.le_refl _))⟩
      · go_enter Tryd.func10, Tryd.ntmps10
        go_wp2_with fail
        go_ret
        exact ⟨ret_b hv'.out.symm, by (repeat' (first | with_reducible exact Below.refl _ _ | with_reducible assumption | with_reducible apply Below.setCell | with_reducible apply Below.alloc | with_reducible apply Below.drew | with_reducible apply below_drewN | with_reducible exact Nat.le_refl _ | (simp; done) | (simp; omega) | omega | exact Nat.le_refl _))⟩
set_option maxRecDepth 100000 in
set_option maxHeartbeats 4000000 in
theorem rdir_any (b off cp : Nat) (ts : List Nd) (hl : ts.length ≤ 512) : ∀ (n at_ : Nat) (w : World), at_ < n → at_ < ts.length → 0 ≤ bg (ksN ts) at_ → Hid (NdSl w b off ts) → b < w.heap.size →
    Calls Tryd.prog 12 #[.slice (some ⟨b, off, none⟩) ts.length cp, .int .i64 at_] w fun e w' => e = .returned (.bool (dirV ts at_)) ∧ Below w.heap.size w w' := by
  intro n
  induction n with
  | zero => intro at_ w h; omega
  | succ n ih =>
    intro at_ w hn hat h0 h hbs
    have hT := h.out at_ hat
    have hcl := dir_cases (ts.getD at_ nd0) (dirV ts) (fun x => Hid (0 ≤ x ∧ x < at_ ∧ 0 ≤ bg (ksN ts) x.toNat)) (fun c hc => Lib.hid (kid_ok (ksN ts) at_ h0 c hc))
    rw [← dir_eq ts at_ h0] at hcl
    generalize dirV ts at_ = R at hcl ⊢
    generalize ts.getD at_ nd0 = t at hT hcl
    obtain ⟨e0, e1, e2, e3, e4, e5, e6, e7, e8, e9⟩ := hT
    have hat512 : (at_ : Int) ≤ 512 := by omega
    have hI := Lib.hid fun (x : Int) (W : World) (h1 : Hid (0 ≤ x ∧ x < at_ ∧ 0 ≤ bg (ksN ts) x.toNat)) (hW : Hid (NdSl W b off ts)) (hbW : b < W.heap.size) =>
      (show Calls Tryd.prog 12 #[.slice (some ⟨b, off, none⟩) ts.length cp, .int .i64 x] W fun e w' => e = .returned (.bool (dirV ts x.toNat)) ∧ Below W.heap.size W w' from by
        obtain ⟨y, rfl⟩ := Int.eq_ofNat_of_zero_le h1.out.1
        have h2 := h1.out.2
        exact ih y W (by omega) (by omega) h2.2 hW hbW)
    clear ih
    rcases hcl with ⟨hk, hv⟩ | ⟨hk, pa, pb, hv⟩ | ⟨hk, pa, pb, pc, hv⟩ | ⟨hk, pb, hv⟩ | ⟨hk, hv⟩
    · have hv' := Lib.hid hv; clear hv
      rcases hk with hk | hk | hk | hk
      all_goals
        rw [hk] at e0
        clear hk
        go_enter Tryd.func12, Tryd.ntmps12
        go_wp2_with fail
        go_ret
        exact ⟨ret_b hv'.out.symm, by (repeat' (first | with_reducible exact Below.refl _ _ | with_reducible assumption | with_reducible apply Below.setCell | with_reducible apply Below.alloc | with_reducible apply Below.drew | with_reducible apply below_drewN | with_reducible exact Nat.le_refl _ | (simp; done) | (simp; omega) | omega | exact Nat.le_refl _))⟩
    · rcases hk with hk | hk
      all_goals
        rw [hk] at e0
        clear hk
        have ka := Lib.hid fun (W : World) (hW : Hid (NdSl W b off ts)) (hbW : b < W.heap.size) => hI.out t.a W pa hW hbW
        generalize dirV ts t.a.toNat = ba at ka hv
        have kb := Lib.hid fun (W : World) (hW : Hid (NdSl W b off ts)) (hbW : b < W.heap.size) => hI.out t.b W pb hW hbW
        generalize dirV ts t.b.toNat = bb at kb hv
        have hv' := Lib.hid hv; clear hv
        go_enter Tryd.func12, Tryd.ntmps12
        go_wp2_with fail
        refine (ka.out _ (Lib.hid (h.out.below (show Below w.heap.size w _ from by (repeat' (first | with_reducible exact Below.refl _ _ | with_reducible assumption | with_reducible apply Below.setCell | with_reducible apply Below.alloc | with_reducible apply Below.drew | with_reducible apply below_drewN | with_reducible exact Nat.le_refl _ | (simp; done) | (simp; omega) | omega | exact Nat.le_refl _))) hbs)) (by first | omega | (simp; omega))).mono ?_
        rintro e w1 ⟨rfl, hb1⟩
        have hB1 := Lib.hid (belT (show Below w.heap.size w _ from by (repeat' (first | with_reducible exact Below.refl _ _ | with_reducible assumption | with_reducible apply Below.setCell | with_reducible apply Below.alloc | with_reducible apply Below.drew | with_reducible apply below_drewN | with_reducible exact Nat.le_refl _ | (simp; done) | (simp; omega) | omega | exact Nat.le_refl _))) hb1)
        have qb : w1.cell? ⟨w.heap.size, 2, none⟩ = some (.int .i64 t.b) := carry hb1 (by simp) (by simp)
        have hz1 : w.heap.size < w1.heap.size := by have := hb1.size; (try simp at this); omega
        have hs1 : b < w1.heap.size := by omega
        clear hb1
        cases ba
        · go_wp2_with fail
          go_ret
          exact ⟨ret_b (by first | (rw [hv'.out]; done) | (rw [hv'.out]; simp)), hB1.out⟩
        · skip
          go_wp2_with fail
          refine (kb.out _ (Lib.hid (h.out.below hB1.out hbs)) (by omega)).mono ?_
          rintro e w2 ⟨rfl, hb2⟩
          have hB2 := Lib.hid (belT hB1.out hb2)
          have hz2 : w.heap.size < w2.heap.size := by have := hb2.size; omega
          have hs2 : b < w2.heap.size := by omega
          clear hb2
          cases bb
          all_goals
            go_wp2_with fail
            go_ret
            exact ⟨ret_b (by first | (rw [hv'.out]; done) | (rw [hv'.out]; simp)), hB2.out⟩
    · rw [hk] at e0
      clear hk
      have ka := Lib.hid fun (W : World) (hW : Hid (NdSl W b off ts)) (hbW : b < W.heap.size) => hI.out t.a W pa hW hbW
      generalize dirV ts t.a.toNat = ba at ka hv
      have kb := Lib.hid fun (W : World) (hW : Hid (NdSl W b off ts)) (hbW : b < W.heap.size) => hI.out t.b W pb hW hbW
      generalize dirV ts t.b.toNat = bb at kb hv
      have kc := Lib.hid fun (W : World) (hW : Hid (NdSl W b off ts)) (hbW : b < W.heap.size) => hI.out t.c W pc hW hbW
      generalize dirV ts t.c.toNat = bc at kc hv
      have hv' := Lib.hid hv; clear hv
      go_enter Tryd.func12, Tryd.ntmps12
      go_wp2_with fail
      refine (ka.out _ (Lib.hid (h.out.below (show Below w.heap.size w _ from by (repeat' (first | with_reducible exact Below.refl _ _ | with_reducible assumption | with_reducible apply Below.setCell | with_reducible apply Below.alloc | with_reducible apply Below.drew | with_reducible apply below_drewN | with_reducible exact Nat.le_refl _ | (simp; done) | (simp; omega) | omega | exact Nat.le_refl _))) hbs)) (by first | omega | (simp; omega))).mono ?_
      rintro e w1 ⟨rfl, hb1⟩
      have hB1 := Lib.hid (belT (show Below w.heap.size w _ from by (repeat' (first | with_reducible exact Below.refl _ _ | with_reducible assumption | with_reducible apply Below.setCell | with_reducible apply Below.alloc | with_reducible apply Below.drew | with_reducible apply below_drewN | with_reducible exact Nat.le_refl _ | (simp; done) | (simp; omega) | omega | exact Nat.le_refl _))) hb1)
      have qb : w1.cell? ⟨w.heap.size, 2, none⟩ = some (.int .i64 t.b) := carry hb1 (by simp) (by simp)
      have qc : w1.cell? ⟨w.heap.size, 3, none⟩ = some (.int .i64 t.c) := carry hb1 (by simp) (by simp)
      have hz1 : w.heap.size < w1.heap.size := by have := hb1.size; (try simp at this); omega
      have hs1 : b < w1.heap.size := by omega
      clear hb1
      cases ba
      · go_wp2_with fail
        go_ret
        exact ⟨ret_b (by first | (rw [hv'.out]; done) | (rw [hv'.out]; simp)), hB1.out⟩
      · skip
        go_wp2_with fail
        refine (kb.out _ (Lib.hid (h.out.below hB1.out hbs)) (by omega)).mono ?_
        rintro e w2 ⟨rfl, hb2⟩
        have hB2 := Lib.hid (belT hB1.out hb2)
        have qc := carry hb2 hz1 qc
        have hz2 : w.heap.size < w2.heap.size := by have := hb2.size; omega
        have hs2 : b < w2.heap.size := by omega
        clear hb2
        cases bb
        · go_wp2_with fail
          go_ret
          exact ⟨ret_b (by first | (rw [hv'.out]; done) | (rw [hv'.out]; simp)), hB2.out⟩
        · skip
          go_wp2_with fail
          refine (kc.out _ (Lib.hid (h.out.below hB2.out hbs)) (by omega)).mono ?_
          rintro e w3 ⟨rfl, hb3⟩
          have hB3 := Lib.hid (belT hB2.out hb3)
          have hz3 : w.heap.size < w3.heap.size := by have := hb3.size; omega
          have hs3 : b < w3.heap.size := by omega
          clear hb3
          cases bc
          all_goals
            go_wp2_with fail
            go_ret
            exact ⟨ret_b (by first | (rw [hv'.out]; done) | (rw [hv'.out]; simp)), hB3.out⟩
    · rw [hk] at e0
      clear hk
      have kb := Lib.hid fun (W : World) (hW : Hid (NdSl W b off ts)) (hbW : b < W.heap.size) => hI.out t.b W pb hW hbW
      generalize dirV ts t.b.toNat = bb at kb hv
      have hv' := Lib.hid hv; clear hv
      go_enter Tryd.func12, Tryd.ntmps12
      go_wp2_with fail
      refine (kb.out _ (Lib.hid (h.out.below (show Below w.heap.size w _ from by (repeat' (first | with_reducible exact Below.refl _ _ | with_reducible assumption | with_reducible apply Below.setCell | with_reducible apply Below.alloc | with_reducible apply Below.drew | with_reducible apply below_drewN | with_reducible exact Nat.le_refl _ | (simp; done) | (simp; omega) | omega | exact Nat.le_refl _))) hbs)) (by first | omega | (simp; omega))).mono ?_
      rintro e w1 ⟨rfl, hb1⟩
      have hB1 := Lib.hid (belT (show Below w.heap.size w _ from by (repeat' (first | with_reducible exact Below.refl _ _ | with_reducible assumption | with_reducible apply Below.setCell | with_reducible apply Below.alloc | with_reducible apply Below.drew | with_reducible apply below_drewN | with_reducible exact Nat.le_refl _ | (simp; done) | (simp; omega) | omega | exact Nat.le_refl _))) hb1)
      have hz1 : w.heap.size < w1.heap.size := by have := hb1.size; (try simp at this); omega
      have hs1 : b < w1.heap.size := by omega
      clear hb1
      cases bb
      all_goals
        go_wp2_with fail
        go_ret
        exact ⟨ret_b (by first | (rw [hv'.out]; done) | (rw [hv'.out]; simp)), hB1.out⟩
    · have hv' := Lib.hid hv; clear hv
      rcases hk with hk | hk | hk
      · go_enter Tryd.func12, Tryd.ntmps12
        go_wp2_with fail
        go_ret
        exact ⟨ret_b hv'.out.symm, by (repeat' (first | with_reducible exact Below.refl _ _ | with_reducible assumption | with_reducible apply Below.setCell | with_reducible apply Below.alloc | with_reducible apply Below.drew | with_reducible apply below_drewN | with_reducible exact Nat.le_refl _ | (simp; done) | (simp; omega) | omega | exact Nat.le_refl _))⟩
      · rw [hk] at e0
        go_enter Tryd.func12, Tryd.ntmps12
        go_wp2_with fail
        go_ret
        exact ⟨ret_b hv'.out.symm, by (repeat' (first | with_reducible exact Below.refl _ _ | with_reducible assumption | with_reducible apply Below.setCell | with_reducible apply Below.alloc | with_reducible apply Below.drew | with_reducible apply below_drewN | with_reducible exact Nat.le_refl _ | (simp; done) | (simp; omega) | omega | exact Nat.le_refl _))⟩
      · go_enter Tryd.func12, Tryd.ntmps12
        go_wp2_with fail
        go_ret
        exact ⟨ret_b hv'.out.symm, by (repeat' (first | with_reducible exact Below.refl _ _ | with_reducible assumption | with_reducible apply Below.setCell | with_reducible apply Below.alloc | with_reducible apply Below.drew | with_reducible apply below_drewN | with_reducible exact Nat.le_refl _ | (simp; done) | (simp; omega) | omega | exact Nat.le_refl _))⟩
end Go.Proofs.YtglbaboboonmhaaDoor
