/- Types side by side and copied; numbers of errors. -/
import Derived.Test.YtfkdcconmecaoaaDoorSbE
namespace Go.Proofs.YtfkdcconmecaoaaDoor
open Go.RowKit
set_option linter.unusedVariables false
set_option linter.unusedSimpArgs false

theorem num_any (e : Int) (w : World) (h0 : 0 ≤ e) (h1 : e ≤ 9223372036854775807) :
    Calls Tryd.prog 11 #[.int .i64 e] w fun r w' => r = .returned (.int .i64 e) ∧ w = w' := by
  go_enter Tryd.func11, Tryd.ntmps11
  go_wp2
  go_ret
  exact ⟨rfl, rfl⟩
theorem num_q (e : Int) (w : World) (h0 : 0 ≤ e) (h1 : e ≤ 9223372036854775807) :
    Calls Tryd.prog 11 #[.int .i64 e] w fun r w' => r = .returned (.int .i64 e) ∧ w' = w := (num_any e w h0 h1).mono fun _ _ ⟨h, h'⟩ => ⟨h, h'.symm⟩
theorem getT_ext {l m : List Ty} (h : l.length = m.length) (he : ∀ i, i < l.length → l.getD i ty0 = m.getD i ty0) : l = m := by
  apply List.ext_getElem h
  intro i h1 h2
  have := he i h1
  rwa [List.getD_eq_getElem?_getD, List.getElem?_eq_getElem h1, List.getD_eq_getElem?_getD, List.getElem?_eq_getElem h2] at this

set_option maxHeartbeats 1000000 in
theorem sameTy_nil (a1 a2 : Option Addr) (c1 c2 : Nat) (w : World) :
    Calls Tryd.prog 34 #[.slice a1 0 c1, .slice a2 0 c2] w fun e w' => e = .returned (.bool true) ∧ Below w.heap.size w w' := by
  go_enter Tryd.func34, Tryd.ntmps34
  go_wp2_with fail
  go_loop [5] (fun i => i = .int .i64 0) (fun _ => 0)
  case atStart => rfl
  case round =>
    obtain rfl := hrel
    go_wp2_with fail
    go_ret
    exact ⟨rfl, Below.refl _ _⟩
set_option maxHeartbeats 1000000 in
theorem sameTy_len (a1 a2 : Option Addr) (n1 n2 c1 c2 : Nat) (w : World) (h : n1 ≠ n2) :
    Calls Tryd.prog 34 #[.slice a1 n1 c1, .slice a2 n2 c2] w fun e w' => e = .returned (.bool false) ∧ Below w.heap.size w w' := by
  have h1 : ((n1 : Int) == (n2 : Int)) = false := by rw [beq_eq_false_iff_ne]; omega
  have h2 : ((n1 : Int) != (n2 : Int)) = true := by rw [bne_iff_ne]; omega
  have h3 : (n1 == n2) = false := by simpa using h
  have h4 : (n1 != n2) = true := by simpa using h
  clear h
  go_enter Tryd.func34, Tryd.ntmps34
  go_wp2_with fail
  go_ret
  exact ⟨rfl, Below.refl _ _⟩
set_option maxRecDepth 100000 in
set_option maxHeartbeats 4000000 in
theorem sameTy_sl (b off cp b' off' cp' : Nat) (l m : List Ty) (w : World) (h : Hid (TySl w b off l)) (h' : Hid (TySl w b' off' m)) (hbs : b < w.heap.size) (hbs' : b' < w.heap.size) (hlm : l.length = m.length) (hl : l.length ≤ 140737488351232) :
    Calls Tryd.prog 34 #[.slice (some ⟨b, off, none⟩) l.length cp, .slice (some ⟨b', off', none⟩) l.length cp'] w fun e w' => e = .returned (.bool (decide (l = m))) ∧ Below w.heap.size w w' := by
  obtain ⟨A, hA⟩ : ∃ x, decide (l = m) = x := ⟨_, rfl⟩
  rw [hA]
  have hA' := Lib.hid hA
  have hlm' := Lib.hid hlm
  clear hA hlm
  go_enter Tryd.func34, Tryd.ntmps34
  go_wp2_with fail
  go_loopw [5] (fun i wr => ∃ j : Nat, j ≤ l.length ∧ i = .int .i64 j ∧ Below w.heap.size w wr ∧ Hid (∀ i, i < j → l.getD i ty0 = m.getD i ty0)) (fun i _ => l.length - (intOf i).toNat)
  case atStart => exact ⟨0, by omega, rfl, Below.refl _ _, Lib.hid fun i hi => by omega⟩
  case round =>
    obtain ⟨j, hj, rfl, hbw, hall⟩ := hrel
    by_cases hlt : j < l.length
    · have hT := (h.out j hlt).below hbw hbs
      have hU := (h'.out j (by rw [← hlm'.out]; exact hlt)).below hbw hbs'
      have hsuc := Lib.hid (show l.getD j ty0 = m.getD j ty0 → ∀ i, i < j + 1 → l.getD i ty0 = m.getD i ty0 from fun he i hi => by
        rcases Nat.lt_or_ge i j with h1 | h1
        · exact hall.out i h1
        · obtain rfl : i = j := by omega
          exact he)
      have hstop := Lib.hid (show l.getD j ty0 ≠ m.getD j ty0 → decide (l = m) = false from fun hn => decide_eq_false fun e => hn (by rw [e]))
      generalize l.getD j ty0 = t at hT hsuc hstop
      generalize m.getD j ty0 = u at hU hsuc hstop
      obtain ⟨bq, hq⟩ : ∃ x, tyE t u = x := ⟨_, rfl⟩
      have hqe := Lib.hid (tyE_iff t u)
      rw [hq] at hqe
      have hq := (show tyQ t.k t.v t.a t.b t.c0 t.c1 t.c2 t.c3 t.t u.k u.v u.a u.b u.c0 u.c1 u.c2 u.c3 u.t = bq from hq)
      have hws := hbw.size
      have hbr : b < wr.heap.size := by omega
      have hbr2 : b' < wr.heap.size := by omega
      have htin := fun x0 x1 x2 x3 x4 x5 x6 x7 x8 y0 y1 y2 y3 y4 y5 y6 y7 y8 W => ty_in x0 x1 x2 x3 x4 x5 x6 x7 x8 y0 y1 y2 y3 y4 y5 y6 y7 y8 W
      obtain ⟨e0, e1, e2, e3, e4, e5, e6, e7, e8⟩ := hT
      obtain ⟨d0, d1, d2, d3, d4, d5, d6, d7, d8⟩ := hU
      have hlt' : (j : Int) < (l.length : Int) := by omega
      have hj0 : (0 : Int) ≤ (j : Int) := by omega
      cases bq
      · have hf : Hid (A = false) := Lib.hid (by rw [← hA'.out]; exact hstop.out (of_decide_eq_false hqe.out.symm))
        clear hstop hsuc hqe
        go_wp2_with fail
        go_quiet (fail)
        go_wp2_with fail
        go_ret
        exact ⟨ret_bb hf.out.symm, by (repeat' (first | with_reducible exact Below.refl _ _ | with_reducible assumption | with_reducible apply Below.setCell | with_reducible apply Below.alloc | with_reducible apply Below.drew | with_reducible apply below_drewN | with_reducible exact Nat.le_refl _ | (simp; done) | (simp; omega) | omega | exact Nat.le_refl _))⟩
      · have hf := Lib.hid (hsuc.out (of_decide_eq_true hqe.out.symm))
        clear hstop hsuc hqe
        go_wp2_with fail
        go_quiet (fail)
        go_wp2_with fail
        go_roundw
        case rel => exact ⟨j + 1, by omega, by go_num, by (repeat' (first | with_reducible exact Below.refl _ _ | with_reducible assumption | with_reducible apply Below.setCell | with_reducible apply Below.alloc | with_reducible apply Below.drew | with_reducible apply below_drewN | with_reducible exact Nat.le_refl _ | (simp; done) | (simp; omega) | omega | exact Nat.le_refl _)), hf⟩
        case measure => simp [intOf]; omega
    · have hf : Hid (A = true) := Lib.hid (by rw [← hA'.out]; exact decide_eq_true (getT_ext hlm'.out fun i hi => hall.out i (by omega)))
      go_wp2_with fail
      go_ret
      exact ⟨ret_bb hf.out.symm, hbw⟩
theorem sameTy_any (a1 a2 : Option Addr) (n1 n2 c1 c2 : Nat) (l m : List Ty) (w : World) (h : Hid (TyArg w a1 n1 l)) (h' : Hid (TyArg w a2 n2 m)) (hl : n1 ≤ 140737488351232) :
    Calls Tryd.prog 34 #[.slice a1 n1 c1, .slice a2 n2 c2] w fun e w' => e = .returned (.bool (decide (l = m))) ∧ Below w.heap.size w w' := by
  obtain ⟨h1, h2⟩ := h.out
  obtain ⟨h3, h4⟩ := h'.out
  by_cases hn : n1 = n2
  · subst hn
    by_cases h0 : n1 = 0
    · obtain rfl : l = [] := List.eq_nil_of_length_eq_zero (by omega)
      obtain rfl : m = [] := List.eq_nil_of_length_eq_zero (by omega)
      subst h0
      exact sameTy_nil a1 a2 c1 c2 w
    · obtain ⟨b, off, rfl, h5, h6⟩ : ∃ b off, a1 = some ⟨b, off, none⟩ ∧ TySl w b off l ∧ b < w.heap.size := by
        rcases h2 with rfl | h2
        · simp at h1; omega
        · exact h2
      obtain ⟨b', off', rfl, h7, h8⟩ : ∃ b off, a2 = some ⟨b, off, none⟩ ∧ TySl w b off m ∧ b < w.heap.size := by
        rcases h4 with rfl | h4
        · simp at h3; omega
        · exact h4
      subst h1
      exact sameTy_sl b off c1 b' off' c2 l m w (Lib.hid h5) (Lib.hid h7) h6 h8 h3 hl
  · have : decide (l = m) = false := decide_eq_false fun e => hn (by rw [h1, h3, e])
    rw [this]
    exact sameTy_len a1 a2 n1 n2 c1 c2 w hn
set_option maxHeartbeats 1000000 in
theorem sameType_any (a1 a2 : Option Addr) (n1 n2 c1 c2 : Nat) (l m : List Ty) (w : World) (h : Hid (TyArg w a1 n1 l)) (h' : Hid (TyArg w a2 n2 m)) (hl : n1 ≤ 140737488351232) :
    Calls Tryd.prog 13 #[.agg #[.slice a1 n1 c1], .agg #[.slice a2 n2 c2]] w fun e w' => e = .returned (.bool (decide (l = m))) ∧ Below w.heap.size w w' := by
  have k := Lib.hid fun (W : World) (hb : Below w.heap.size w W) => sameTy_any a1 a2 n1 n2 c1 c2 l m W (Lib.hid (h.out.below hb)) (Lib.hid (h'.out.below hb)) hl
  generalize decide (l = m) = q at k
  go_enter Tryd.func13, Tryd.ntmps13
  go_wp2_with fail
  refine (k.out _ (by (repeat' (first | with_reducible exact Below.refl _ _ | with_reducible assumption | with_reducible apply Below.setCell | with_reducible apply Below.alloc | with_reducible apply Below.drew | with_reducible apply below_drewN | with_reducible exact Nat.le_refl _ | (simp; done) | (simp; omega) | omega | exact Nat.le_refl _)))).mono ?_
  rintro e w1 ⟨rfl, hb⟩
  have hB := Lib.hid (belT (show Below w.heap.size w _ from by (repeat' (first | with_reducible exact Below.refl _ _ | with_reducible assumption | with_reducible apply Below.setCell | with_reducible apply Below.alloc | with_reducible apply Below.drew | with_reducible apply below_drewN | with_reducible exact Nat.le_refl _ | (simp; done) | (simp; omega) | omega | exact Nat.le_refl _))) hb)
  clear hb
  go_wp2_with fail
  go_ret
  exact ⟨rfl, hB.out⟩
theorem ownT_sl {B : Nat} {w : World} {v : Value} {l : List Ty} (h : OwnT B w v l) : ∃ a n c, v = .slice a n c := by
  rcases h.cases with ⟨rfl, _⟩ | ⟨g, c, rfl, _⟩ <;> exact ⟨_, _, _, rfl⟩
set_option maxHeartbeats 1000000 in
theorem copyType_any (a : Option Addr) (n c : Nat) (l : List Ty) (w : World) (h : Hid (TyArg w a n l)) (hl : n * 72 ≤ 140737488351232) :
    Calls Tryd.prog 19 #[.agg #[.slice a n c]] w fun e w' => ∃ v, e = .returned (.agg #[v]) ∧ OwnT w.heap.size w' v l ∧ Below w.heap.size w w' := by
  have k := Lib.hid fun (W : World) (hb : Below w.heap.size w W) => CopyTyNodes_any a n c l W (Lib.hid (h.out.below hb)) hl
  go_enter Tryd.func19, Tryd.ntmps19
  go_wp2_with fail
  refine (k.out _ (by (repeat' (first | with_reducible exact Below.refl _ _ | with_reducible assumption | with_reducible apply Below.setCell | with_reducible apply Below.alloc | with_reducible apply Below.drew | with_reducible apply below_drewN | with_reducible exact Nat.le_refl _ | (simp; done) | (simp; omega) | omega | exact Nat.le_refl _)))).mono ?_
  rintro e w1 ⟨v, rfl, hv, hb1⟩
  have hB := Lib.hid (belT (show Below w.heap.size w _ from by (repeat' (first | with_reducible exact Below.refl _ _ | with_reducible assumption | with_reducible apply Below.setCell | with_reducible apply Below.alloc | with_reducible apply Below.drew | with_reducible apply below_drewN | with_reducible exact Nat.le_refl _ | (simp; done) | (simp; omega) | omega | exact Nat.le_refl _))) hb1)
  obtain ⟨hc1, hf1⟩ := bcell hb1
  have hz1_0 : w.heap.size < w1.heap.size := by have := hb1.size; (try simp at this); omega
  have hz1_1 : w.heap.size + 1 < w1.heap.size := by have := hb1.size; (try simp at this); omega
  have hcl1_1_0 : w1.cell? ⟨w.heap.size + 1, 0, none⟩ = some (.slice none 0 0) := by rw [hc1 _ _ (by simp; try omega)]; simp
  have hfl1_1_0 : w1.frozen? ⟨w.heap.size + 1, 0, none⟩ = false := by rw [hf1 _ _ (by simp; try omega)]; simp
  have hv' := Lib.hid hv
  clear hb1 hv hc1 hf1
  obtain ⟨a', n', c', rfl⟩ := ownT_sl hv'.out
  go_wp2_with fail
  exact bodyPost_ret (v := .agg #[.slice a' n' c']) (by simp [results, Tryd.results19, go_sem, *]) rfl ⟨_, rfl, ownT_le (ownT_put hv'.out (by simp)) (by simp; omega), by have := hB.out; (repeat' (first | with_reducible exact Below.refl _ _ | with_reducible assumption | with_reducible apply Below.setCell | with_reducible apply Below.alloc | with_reducible apply Below.drew | with_reducible apply below_drewN | with_reducible exact Nat.le_refl _ | (simp; done) | (simp; omega) | omega | exact Nat.le_refl _))⟩
end Go.Proofs.YtfkdcconmecaoaaDoor
