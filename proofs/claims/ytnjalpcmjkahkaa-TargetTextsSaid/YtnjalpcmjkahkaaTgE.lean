/- parts.Begins at target.May's function. -/
import Derived.Test.YtnjalpcmjkahkaaTgD
import Derived.Test.YtnjalpcmjkahkaaBg
import Derived.Deep.OwnRows
import Derived.WalkSmall
namespace Go.Proofs.Ytnjalpcmjkahkaa
open Go.RowKit
set_option linter.unusedVariables false
set_option linter.unusedSimpArgs false

def ksT (ts : List Tg) (i : Nat) : List Int := kidsL (ts.getD i tg0).k (ts.getD i tg0).a (ts.getD i tg0).b (ts.getD i tg0).c
theorem kidsL_len (k a b c : Int) : (kidsL k a b c).length ≤ 3 := by unfold kidsL; (repeat' split) <;> simp

theorem take_rev (l : List Int) (m : Nat) (h1 : 1 ≤ m) (h : m ≤ l.length) : (l.take m).reverse = l.getD (m - 1) 0 :: (l.take (m - 1)).reverse := by
  obtain ⟨k, rfl⟩ : ∃ k, m = k + 1 := ⟨m - 1, by omega⟩
  have hk : k < l.length := by omega
  rw [List.take_succ_eq_append_getElem hk, List.reverse_append]
  simp [hk]

def BegPost (ks : Nat → List Int) (n : Nat) (w : World) (e : Ending) (w' : World) : Prop := ∃ v, e = .returned (.tuple #[v, .bool (decide (0 < n) && decide (bg ks (n - 1) = 0))]) ∧ Below w.heap.size w w'

set_option maxHeartbeats 1000000 in
theorem begins_any (b off cp p : Nat) (ts : List Tg) (w : World) (hp : w.cell? ⟨p, 0, none⟩ = some (.slice (some ⟨b, off, none⟩) ts.length cp)) (h : Hid (TgSl w b off ts)) (hl : ts.length ≤ 8192) (h1 : 0 < ts.length) :
    Calls Try.prog 27 #[.int .i64 ts.length, .func (.func 28) #[] #[.pointer (some ⟨p, 0, none⟩)]] w (BegPost (ksT ts) ts.length w) := by
  have hps := World.block_lt_of_cell? _ _ hp
  have hbs : b < w.heap.size := World.block_lt_of_cell? _ _ (h.out 0 h1).1
  simp only [] at hps
  have hmk := run_make_row' (P := Try.prog) 46 3 (.int .i64 0) 8 Try.underlying46 (by kernel_rfl) rfl .i64 .i64 ts.length (by omega) (by omega)
  go_enter Try.func27, Try.ntmps27
  go_wp2_with fail
  go_loopw [15] (fun i wr => ∃ at_ : Nat, at_ ≤ ts.length ∧ i = .int .i64 at_ ∧ Below w.heap.size w wr ∧ Hid (∀ j, j < at_ → 0 ≤ bg (ksT ts) j) ∧ Hid (wr.rowIs w.heap.size 3 ts.length (fun j => .int .i64 (if j < at_ then bg (ksT ts) j else 0)))) (fun i _ => ts.length - (intOf i).toNat)
  case atStart => exact ⟨0, by omega, rfl, by (repeat' (first | with_reducible exact Below.refl _ _ | with_reducible assumption | with_reducible apply Below.setCell | with_reducible apply Below.alloc | with_reducible apply Below.drew | with_reducible apply below_drewN | with_reducible exact Nat.le_refl _ | (simp; done) | (simp; omega) | omega | exact Nat.le_refl _)), Lib.hid (by omega), Lib.hid ((World.rowIs_made _ _ _ _).congr (fun i hi => by simp))⟩
  case round =>
    obtain ⟨at_, hat, rfl, hbw, hpos, hrow⟩ := hrel
    by_cases hlt : at_ < ts.length
    · have hpr : wr.cell? ⟨p, 0, none⟩ = some (.slice (some ⟨b, off, none⟩) ts.length cp) := by rw [hbw.cell (p := ⟨p, 0, none⟩) hps]; exact hp
      have hTr : Hid (TgSl wr b off ts) := Lib.hid (h.out.below hbw hbs)
      have hwl := hrow.out.lt
      go_wp2_with fail
      refine (may1_any b off cp p at_ ts _ (by simpa using hpr) hTr hlt (by omega)).mono ?_
      rintro e w1 ⟨rfl, hb1⟩
      obtain ⟨l, hlk⟩ : ∃ l, ksT ts at_ = l := ⟨_, rfl⟩
      have hl3 : l.length ≤ 3 := by rw [← hlk]; exact kidsL_len _ _ _ _
      rw [show kidsL (ts.getD at_ tg0).k (ts.getD at_ tg0).a (ts.getD at_ tg0).b (ts.getD at_ tg0).c = l from hlk]
      have hlk' := Lib.hid hlk; clear hlk
      have hrow1 : Hid (w1.rowIs w.heap.size 3 ts.length (fun j => .int .i64 (if j < at_ then bg (ksT ts) j else 0))) := Lib.hid (hrow.out.of_block (hb1.block _ hwl))
      have hbw1 := hbw.trans (hb1.mono hbw.size)
      have hw1l := hrow1.out.lt
      have hno : Hid (∀ x : Int, bg (ksT ts) at_ < 0 → BegPost (ksT ts) ts.length w (.returned (.tuple #[.slice none 0 0, .bool false])) (w1.alloc (.cells #[.int .i64 l.length, .int .i64 (l.getD 0 0), .int .i64 (l.getD 1 0), .int .i64 (l.getD 2 0)] 77))) := Lib.hid (fun _ hneg => by
        refine ⟨.slice none 0 0, ?_, by (refine Below.alloc hbw1 (by omega) _)⟩
        have : ¬ bg (ksT ts) (ts.length - 1) = 0 := fun hz => by have := bg_all hz at_ (by omega); omega
        rw [decide_eq_false this]; simp)
      rw [kidV_eq]
      obtain ⟨a0, ha0⟩ : ∃ a, l.getD 0 0 = a := ⟨_, rfl⟩
      obtain ⟨a1, ha1⟩ : ∃ a, l.getD 1 0 = a := ⟨_, rfl⟩
      obtain ⟨a2, ha2⟩ : ∃ a, l.getD 2 0 = a := ⟨_, rfl⟩
      rw [ha0, ha1, ha2] at hno ⊢
      have ha0' := Lib.hid ha0; have ha1' := Lib.hid ha1; have ha2' := Lib.hid ha2
      clear ha0 ha1 ha2
      go_wp2_with fail
      go_loop [9, 10] (fun be i => ∃ m k : Nat, m ≤ l.length ∧ k ≤ at_ ∧ be = .int .i64 k ∧ i = .int .i64 ((m : Int) - 1) ∧ Hid (bgK (bg (ksT ts)) (l.take m).reverse k = bg (ksT ts) at_)) (fun _ i => (intOf i + 1).toNat)
      case atStart => exact ⟨l.length, at_, Nat.le_refl _, Nat.le_refl _, rfl, rfl, Lib.hid (by rw [List.take_length, bg_eq, hlk'.out])⟩
      case round =>
        obtain ⟨m, k, hm, hk, rfl, rfl, hkb⟩ := hrel
        have hm3 : m = 0 ∨ m = 1 ∨ m = 2 ∨ m = 3 := by omega
        have hca := hrow1.out.cell hlt
        have hfa := hrow1.out.frozen at_
        simp only [Nat.lt_irrefl, if_false] at hca
        rcases hm3 with rfl | hm3
        · have hkk : Hid ((k : Int) = bg (ksT ts) at_) := Lib.hid (by have := hkb.out; simpa [bgK] using this)
          go_wp2_with fail
          go_round
          case rel =>
            refine ⟨at_ + 1, by omega, by go_num, by (repeat' (first | with_reducible exact Below.refl _ _ | with_reducible assumption | with_reducible apply Below.setCell | with_reducible apply Below.alloc | with_reducible apply Below.drew | with_reducible apply below_drewN | with_reducible exact Nat.le_refl _ | (simp; done) | (simp; omega) | omega | exact Nat.le_refl _)); all_goals exact hbw1, Lib.hid ?_, Lib.hid ?_⟩
            · intro j hj
              by_cases hja : j = at_
              · rw [hja, ← hkk.out]; omega
              · exact hpos.out j (by omega)
            · refine ((hrow1.out.set at_ _).alloc _).congr ?_
              intro j hj
              by_cases hja : j = at_
              · simp [hja, hkk.out]
              · simp only [hja, if_false]
                congr 1
                by_cases hjl : j < at_
                · rw [if_pos hjl, if_pos (by omega)]
                · rw [if_neg hjl, if_neg (by omega)]
          case measure => simp [intOf]; omega
        · have hrev : Hid (bg (ksT ts) at_ = bgK (bg (ksT ts)) (l.getD (m - 1) 0 :: (l.take (m - 1)).reverse) k) := Lib.hid (by rw [← hkb.out, take_rev l m (by omega) hm])
          have hstep : Hid (l.getD (m - 1) 0 = (k : Int) - 1 → 1 ≤ k → 0 ≤ bg (ksT ts) (k - 1) → bgK (bg (ksT ts)) (l.take (m - 1)).reverse (bg (ksT ts) (k - 1)) = bg (ksT ts) at_) := Lib.hid (by
            intro e1 e2 e3
            rw [hrev.out]; conv => rhs; unfold bgK
            have e4 : ((k : Int) - 1).toNat = k - 1 := by omega
            rw [if_pos ⟨e1, by omega⟩, e4, if_neg (by omega)])
          have hbad : Hid (¬ (l.getD (m - 1) 0 = (k : Int) - 1 ∧ 1 ≤ k) → bg (ksT ts) at_ < 0) := Lib.hid (by
            intro e1
            rw [hrev.out]; unfold bgK
            rw [if_neg (by omega)]; omega)
          by_cases hk0 : k = 0
          · subst hk0
            have hfin := hno.out 0 (hbad.out (by omega))
            have hfin' := Lib.hid hfin; clear hfin
            rcases hm3 with rfl | rfl | rfl
            all_goals
              go_wp2_with fail
              go_ret2
              exact hfin'.out
          · obtain ⟨q, rfl⟩ : ∃ q, k = q + 1 := ⟨k - 1, by omega⟩
            have hq0 := hpos.out q (by omega)
            have hcq := hrow1.out.cell (i := q) (by omega)
            rw [if_pos (by omega : q < at_)] at hcq
            simp only [Nat.add_sub_cancel] at hstep
            obtain ⟨g, hg⟩ := Int.eq_ofNat_of_zero_le hq0
            have hgle := bg_le (ksT ts) q
            rw [hg] at hcq hq0 hstep hgle
            have hg' := Lib.hid hg; clear hg
            rcases hm3 with rfl | rfl | rfl
            · by_cases hv : a0 = (q : Int)
              · have hv' : Hid (bgK (bg (ksT ts)) (l.take (0 + 1 - 1)).reverse (g : Int) = bg (ksT ts) at_) := Lib.hid (hstep.out (by rw [show l.getD (0 + 1 - 1) 0 = a0 from ha0'.out, hv]; omega) (by omega) hq0)
                subst hv
                go_wp2_with fail
                go_round
                case rel => exact ⟨0, g, by omega, by omega, rfl, by first | rfl | go_num, hv'⟩
                case measure => simp [intOf]
              · have hfin := hno.out 0 (hbad.out (fun hh => hv (by have := hh.1; rw [show l.getD (0 + 1 - 1) 0 = a0 from ha0'.out] at this; omega)))
                have hfin' := Lib.hid hfin; clear hfin
                have hv1 : (a0 == (q : Int)) = false := by simpa using hv
                have hv2 : (a0 != (q : Int)) = true := by simpa using hv
                go_wp2_with fail
                go_ret2
                exact hfin'.out
            · by_cases hv : a1 = (q : Int)
              · have hv' : Hid (bgK (bg (ksT ts)) (l.take (1 + 1 - 1)).reverse (g : Int) = bg (ksT ts) at_) := Lib.hid (hstep.out (by rw [show l.getD (1 + 1 - 1) 0 = a1 from ha1'.out, hv]; omega) (by omega) hq0)
                subst hv
                go_wp2_with fail
                go_round
                case rel => exact ⟨1, g, by omega, by omega, rfl, by first | rfl | go_num, hv'⟩
                case measure => simp [intOf]
              · have hfin := hno.out 0 (hbad.out (fun hh => hv (by have := hh.1; rw [show l.getD (1 + 1 - 1) 0 = a1 from ha1'.out] at this; omega)))
                have hfin' := Lib.hid hfin; clear hfin
                have hv1 : (a1 == (q : Int)) = false := by simpa using hv
                have hv2 : (a1 != (q : Int)) = true := by simpa using hv
                go_wp2_with fail
                go_ret2
                exact hfin'.out
            · by_cases hv : a2 = (q : Int)
              · have hv' : Hid (bgK (bg (ksT ts)) (l.take (2 + 1 - 1)).reverse (g : Int) = bg (ksT ts) at_) := Lib.hid (hstep.out (by rw [show l.getD (2 + 1 - 1) 0 = a2 from ha2'.out, hv]; omega) (by omega) hq0)
                subst hv
                go_wp2_with fail
                go_round
                case rel => exact ⟨2, g, by omega, by omega, rfl, by first | rfl | go_num, hv'⟩
                case measure => simp [intOf]
              · have hfin := hno.out 0 (hbad.out (fun hh => hv (by have := hh.1; rw [show l.getD (2 + 1 - 1) 0 = a2 from ha2'.out] at this; omega)))
                have hfin' := Lib.hid hfin; clear hfin
                have hv1 : (a2 == (q : Int)) = false := by simpa using hv
                have hv2 : (a2 != (q : Int)) = true := by simpa using hv
                go_wp2_with fail
                go_ret2
                exact hfin'.out
    · obtain rfl : at_ = ts.length := by omega
      have hcl := hrow.out.cell (i := ts.length - 1) (by omega)
      rw [if_pos (by omega : ts.length - 1 < ts.length)] at hcl
      have h1' : (0 : Int) < (ts.length : Int) := by omega
      go_wp2_with fail
      go_quiet (fail)
      go_wp2_with fail
      go_ret2
      refine ⟨.slice (some ⟨w.heap.size, 0, none⟩) ts.length ts.length, ?_, below_drewN hbw nq⟩
      have e0 : decide (0 < ts.length) = true := decide_eq_true h1
      rw [e0, Bool.true_and]; rfl
end Go.Proofs.Ytnjalpcmjkahkaa
