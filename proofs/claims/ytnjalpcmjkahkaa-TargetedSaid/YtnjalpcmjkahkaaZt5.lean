/- parts.Begins at target.May's function. -/
import Derived.Test.YtnjalpcmjkahkaaZt1
import Derived.Test.YtnjalpcmjkahkaaZt4
import Derived.Deep.OwnRows
import Derived.WalkSmall
set_option maxRecDepth 100000
set_option maxHeartbeats 8000000
namespace Go.Proofs.Ytnjalpcmjkahkaa
open Go.RowKit
set_option linter.unusedVariables false
set_option linter.unusedSimpArgs false
def ksT (ts : List Tg) (i : Nat) : List Int := kidsL (ts.getD i tg0).k (ts.getD i tg0).a (ts.getD i tg0).b (ts.getD i tg0).c
theorem kidsL_len (k a b c : Int) : (kidsL k a b c).length ≤ 3 := by unfold kidsL; (repeat' split) <;> simp
theorem take_rev (l : List Int) (m : Nat) (h1 : 1 ≤ m) (h : m ≤ l.length) : (l.take m).reverse = l.getD (m - 1) 0 :: (l.take (m - 1)).reverse := by
 obtain ⟨k, rfl⟩ : ∃ k, m = k + 1 := ⟨m - 1, by omega⟩
 have hk : k < l.length := by omega
 rw [List.take_succ_eq_append_getElem hk, List.reverse_append]
 simp [hk]
def BegPost (ks : Nat → List Int) (n : Nat) (w : World) (e : Ending) (w' : World) : Prop := ∃ v, e = .returned (.tuple #[v, .bool (decide (0 < n) && decide (bg ks (n - 1) = 0))]) ∧ Below w.heap.size w w'
theorem begins_any (b off cp p : Nat) (ts : List Tg) (w : World) (hp : w.cell? ⟨p, 0, none⟩ = some (.slice (some ⟨b, off, none⟩) ts.length cp)) (h : Hid (TgSl w b off ts)) (hl : ts.length ≤ 8192) (h1 : 0 < ts.length) :
  Calls Try.prog 27 #[.int .i64 ts.length, .func (.func 28) #[] #[.pointer (some ⟨p, 0, none⟩)]] w (BegPost (ksT ts) ts.length w) := by
 have hps := World.block_lt_of_cell? _ _ hp
 have hbs : b < w.heap.size := World.block_lt_of_cell? _ _ (h.out 0 h1).1
 simp only [] at hps
 have hmk := run_make_row' (P := Try.prog) 46 3 (.int .i64 0) 8 Try.underlying46 (by kernel_rfl) rfl .i64 .i64 ts.length (by omega) (by omega)
 go_enter Try.func27, Try.ntmps27
 go_wp2_with fail
 go_loopw [15] (fun i wr => ∃ at_ : Nat, at_ ≤ ts.length ∧ i = .int .i64 at_ ∧ Below w.heap.size w wr ∧ Hid (∀ j, j < at_ → 0 ≤ bg (ksT ts) j) ∧ Hid (wr.rowIs w.heap.size 3 ts.length (fun j => .int .i64 (if j < at_ then bg (ksT ts) j else 0)))) (fun i _ => ts.length - (intOf i).toNat)
 case atStart => exact ⟨0, by omega, rfl, by (repeat' (first | (with_reducible first | exact bR _ _ | assumption | apply bS | apply bA | apply bD | apply bN | exact bL _) | (simp; done) | (simp; omega) | omega | exact bL _)), Lib.hid (by omega), Lib.hid ((World.rowIs_made _ _ _ _).congr (fun i hi => by simp))⟩
 case round =>
  obtain ⟨at_, hat, rfl, hbw, hpos, hrow⟩ := hrel
  by_cases hlt : at_ < ts.length
  ·have hpr : wr.cell? ⟨p, 0, none⟩ = some (.slice (some ⟨b, off, none⟩) ts.length cp) := by rw [hbw.cell (p := ⟨p, 0, none⟩) hps]; exact hp
   have hTr : Hid (TgSl wr b off ts) := Lib.hid (h.out.below hbw hbs)
   have hwl := hrow.out.lt
   go_wp2_with fail
   refine (may1_any b off cp p at_ ts _ (by simpa using hpr) hTr hlt (by omega)).mono ?_
   rintro e w1 ⟨rfl, hb1⟩
   obtain ⟨l, hlk⟩ : ∃ l, ksT ts at_ = l := ⟨_, rfl⟩
   have hl3 : l.length ≤ 3 := by rw [← hlk]; exact kidsL_len _ _ _ _
   rw [show kidsL (ts.getD at_ tg0).k (ts.getD at_ tg0).a (ts.getD at_ tg0).b (ts.getD at_ tg0).c = l from hlk]
   have hlk' := Lib.hid hlk; clear hlk
   have hrow1 : Hid (w1.rowIs w.heap.size 3 ts.length (fun j => .int .i64 (if j < at_ then bg (ksT ts) j else 0))) := Lib.hid (hrow.out.of_block (hb1.block _ hwl))
   have hbw1 := hbw.trans (hb1.mono hbw.size)
   have hw1l := hrow1.out.lt
   have hno : Hid (∀ x : Int, bg (ksT ts) at_ < 0 → BegPost (ksT ts) ts.length w (.returned (.tuple #[.slice none 0 0, .bool false])) (w1.alloc (.cells #[.int .i64 l.length, .int .i64 (l.getD 0 0), .int .i64 (l.getD 1 0), .int .i64 (l.getD 2 0)] 77))) := Lib.hid (fun _ hneg => by
    refine ⟨.slice none 0 0, ?_, by (refine Below.alloc hbw1 (by omega) _)⟩
    have : ¬ bg (ksT ts) (ts.length - 1) = 0 := fun hz => by have := bg_all hz at_ (by omega); omega
    rw [decide_eq_false this]; simp)
   rw [kidV_eq]
   obtain ⟨a0, ha0⟩ : ∃ a, l.getD 0 0 = a := ⟨_, rfl⟩
   obtain ⟨a1, ha1⟩ : ∃ a, l.getD 1 0 = a := ⟨_, rfl⟩
   obtain ⟨a2, ha2⟩ : ∃ a, l.getD 2 0 = a := ⟨_, rfl⟩
   rw [ha0, ha1, ha2] at hno ⊢
   have ha0' := Lib.hid ha0; have ha1' := Lib.hid ha1; have ha2' := Lib.hid ha2
   clear ha0 ha1 ha2
   go_wp2_with fail
   go_loop [9, 10] (fun be i => ∃ m k : Nat, m ≤ l.length ∧ k ≤ at_ ∧ be = .int .i64 k ∧ i = .int .i64 ((m : Int) - 1) ∧ Hid (bgK (bg (ksT ts)) (l.take m).reverse k = bg (ksT ts) at_)) (fun _ i => (intOf i + 1).toNat)
   case atStart => exact ⟨l.length, at_, Nat.le_refl _, Nat.le_refl _, rfl, rfl, Lib.hid (by rw [List.take_length, bg_eq, hlk'.out])⟩
   case round =>
    obtain ⟨m, k, hm, hk, rfl, rfl, hkb⟩ := hrel
    have hm3 : m = 0 ∨ m = 1 ∨ m = 2 ∨ m = 3 := by omega
    have hca := hrow1.out.cell hlt
    have hfa := hrow1.out.frozen at_
    simp only [Nat.lt_irrefl, if_false] at hca
    rcases hm3 with rfl | hm3
    ·have hkk : Hid ((k : Int) = bg (ksT ts) at_) := Lib.hid (by have := hkb.out; simpa [bgK] using this)
     go_wp2_with fail
     go_round
     case rel =>
      refine ⟨at_ + 1, by omega, by go_num, by (repeat' (first | (with_reducible first | exact bR _ _ | assumption | apply bS | apply bA | apply bD | apply bN | exact bL _) | (simp; done) | (simp; omega) | omega | exact bL _)); all_goals exact hbw1, Lib.hid ?_, Lib.hid ?_⟩
      ·intro j hj
       by_cases hja : j = at_
       ·rw [hja, ← hkk.out]; omega
       ·exact hpos.out j (by omega)
      ·refine ((hrow1.out.set at_ _).alloc _).congr ?_
       intro j hj
       by_cases hja : j = at_
       ·simp [hja, hkk.out]
       ·simp only [hja, if_false]
        congr 1
        by_cases hjl : j < at_
        ·rw [if_pos hjl, if_pos (by omega)]
        ·rw [if_neg hjl, if_neg (by omega)]
     case measure => simp [intOf]; omega
    ·have hrev : Hid (bg (ksT ts) at_ = bgK (bg (ksT ts)) (l.getD (m - 1) 0 :: (l.take (m - 1)).reverse) k) := Lib.hid (by rw [← hkb.out, take_rev l m (by omega) hm])
     have hstep : Hid (l.getD (m - 1) 0 = (k : Int) - 1 → 1 ≤ k → 0 ≤ bg (ksT ts) (k - 1) → bgK (bg (ksT ts)) (l.take (m - 1)).reverse (bg (ksT ts) (k - 1)) = bg (ksT ts) at_) := Lib.hid (by
      intro e1 e2 e3
      rw [hrev.out]; conv => rhs; unfold bgK
      have e4 : ((k : Int) - 1).toNat = k - 1 := by omega
      rw [if_pos ⟨e1, by omega⟩, e4, if_neg (by omega)])
     have hbad : Hid (¬ (l.getD (m - 1) 0 = (k : Int) - 1 ∧ 1 ≤ k) → bg (ksT ts) at_ < 0) := Lib.hid (by
      intro e1
      rw [hrev.out]; unfold bgK
      rw [if_neg (by omega)]; omega)
     by_cases hk0 : k = 0
     ·subst hk0
      have hfin := hno.out 0 (hbad.out (by omega))
      have hfin' := Lib.hid hfin; clear hfin
      rcases hm3 with rfl | rfl | rfl
      all_goals
       go_wp2_with fail
       go_ret2
       exact hfin'.out
     ·obtain ⟨q, rfl⟩ : ∃ q, k = q + 1 := ⟨k - 1, by omega⟩
      have hq0 := hpos.out q (by omega)
      have hcq := hrow1.out.cell (i := q) (by omega)
      rw [if_pos (by omega : q < at_)] at hcq
      simp only [Nat.add_sub_cancel] at hstep
      obtain ⟨g, hg⟩ := Int.eq_ofNat_of_zero_le hq0
      have hgle := bg_le (ksT ts) q
      rw [hg] at hcq hq0 hstep hgle
      have hg' := Lib.hid hg; clear hg
      rcases hm3 with rfl | rfl | rfl
      ·by_cases hv : a0 = (q : Int)
       ·have hv' : Hid (bgK (bg (ksT ts)) (l.take (0 + 1 - 1)).reverse (g : Int) = bg (ksT ts) at_) := Lib.hid (hstep.out (by rw [show l.getD (0 + 1 - 1) 0 = a0 from ha0'.out, hv]; omega) (by omega) hq0)
        subst hv
        go_wp2_with fail
        go_round
        case rel => exact ⟨0, g, by omega, by omega, rfl, by first | rfl | go_num, hv'⟩
        case measure => simp [intOf]
       ·have hfin := hno.out 0 (hbad.out (fun hh => hv (by have := hh.1; rw [show l.getD (0 + 1 - 1) 0 = a0 from ha0'.out] at this; omega)))
        have hfin' := Lib.hid hfin; clear hfin
        have hv1 : (a0 == (q : Int)) = false := by simpa using hv
        have hv2 : (a0 != (q : Int)) = true := by simpa using hv
        go_wp2_with fail
        go_ret2
        exact hfin'.out
      ·by_cases hv : a1 = (q : Int)
       ·have hv' : Hid (bgK (bg (ksT ts)) (l.take (1 + 1 - 1)).reverse (g : Int) = bg (ksT ts) at_) := Lib.hid (hstep.out (by rw [show l.getD (1 + 1 - 1) 0 = a1 from ha1'.out, hv]; omega) (by omega) hq0)
        subst hv
        go_wp2_with fail
        go_round
        case rel => exact ⟨1, g, by omega, by omega, rfl, by first | rfl | go_num, hv'⟩
        case measure => simp [intOf]
       ·have hfin := hno.out 0 (hbad.out (fun hh => hv (by have := hh.1; rw [show l.getD (1 + 1 - 1) 0 = a1 from ha1'.out] at this; omega)))
        have hfin' := Lib.hid hfin; clear hfin
        have hv1 : (a1 == (q : Int)) = false := by simpa using hv
        have hv2 : (a1 != (q : Int)) = true := by simpa using hv
        go_wp2_with fail
        go_ret2
        exact hfin'.out
      ·by_cases hv : a2 = (q : Int)
       ·have hv' : Hid (bgK (bg (ksT ts)) (l.take (2 + 1 - 1)).reverse (g : Int) = bg (ksT ts) at_) := Lib.hid (hstep.out (by rw [show l.getD (2 + 1 - 1) 0 = a2 from ha2'.out, hv]; omega) (by omega) hq0)
        subst hv
        go_wp2_with fail
        go_round
        case rel => exact ⟨2, g, by omega, by omega, rfl, by first | rfl | go_num, hv'⟩
        case measure => simp [intOf]
       ·have hfin := hno.out 0 (hbad.out (fun hh => hv (by have := hh.1; rw [show l.getD (2 + 1 - 1) 0 = a2 from ha2'.out] at this; omega)))
        have hfin' := Lib.hid hfin; clear hfin
        have hv1 : (a2 == (q : Int)) = false := by simpa using hv
        have hv2 : (a2 != (q : Int)) = true := by simpa using hv
        go_wp2_with fail
        go_ret2
        exact hfin'.out
  ·obtain rfl : at_ = ts.length := by omega
   have hcl := hrow.out.cell (i := ts.length - 1) (by omega)
   rw [if_pos (by omega : ts.length - 1 < ts.length)] at hcl
   have h1' : (0 : Int) < (ts.length : Int) := by omega
   go_wp2_with fail
   go_quiet (fail)
   go_wp2_with fail
   go_ret2
   refine ⟨.slice (some ⟨w.heap.size, 0, none⟩) ts.length ts.length, ?_, below_drewN hbw nq⟩
   have e0 : decide (0 < ts.length) = true := decide_eq_true h1
   rw [e0, Bool.true_and]; rfl
open Go.RowKit
theorem ksT_eq (ts : List Tg) (i : Nat) : ksT ts i = kidsL (ts.getD i tg0).k (ts.getD i tg0).a (ts.getD i tg0).b (ts.getD i tg0).c := rfl
theorem kids_len (k a b c : Int) : ((kidsL k a b c).length : Int) = (if 0 ≤ kidsT k then kidsT k else 0) := by
 unfold kidsL kidsT; (repeat' split) <;> first | rfl | (exfalso; omega)
theorem kidsL_get (k a b c : Int) (m : Nat) (h : m < (kidsL k a b c).length) : (kidsL k a b c).getD m 0 = [a, b, c].getD m 0 := by
 unfold kidsL at *
 (repeat' split at h) <;> simp_all <;> (have : m = 0 ∨ m = 1 ∨ m = 2 := by omega) <;> rcases this with rfl | rfl | rfl <;> first | rfl | omega
theorem tbegin_any (b off cp : Nat) (ts : List Tg) (hl : ts.length ≤ 140737488351232) : ∀ (m at_ : Nat) (w : World), at_ < m → at_ < ts.length → Hid (TgSl w b off ts) →
  Calls Try.prog 32 #[.slice (some ⟨b, off, none⟩) ts.length cp, .int .i64 at_] w fun e w' => e = .returned (.int .i64 (bg (ksT ts) at_)) ∧ w = w' := by
 intro m
 induction m with
 | zero => intro at_ w h; omega
 | succ m ih =>
  intro at_ w hm hat h
  have ih' := Lib.hid ih; clear ih
  have hT := h.out at_ hat
  have hks := Lib.hid (ksT_eq ts at_)
  generalize ts.getD at_ tg0 = t at hT hks
  obtain ⟨e0, e1, e2, e3, e4, e5, e6, e7, e8⟩ := hT
  clear e4 e5 e6 e7 e8
  go_enter Try.func32, Try.ntmps32
  go_wp2_with fail
  refine (tkids_any _ _).mono ?_
  rintro e w1 ⟨rfl, rfl⟩
  go_wp2_with fail
  obtain ⟨l, hle⟩ : ∃ l, kidsL t.k t.a t.b t.c = l := ⟨_, rfl⟩
  have hlen := kids_len t.k t.a t.b t.c
  have hget := kidsL_get t.k t.a t.b t.c
  rw [hle] at hks hlen hget
  have hget' := Lib.hid hget
  obtain ⟨tk, ta, tb, tc, tn, tx, ty, tz, tw⟩ := t
  simp only [] at e0 e1 e2 e3 hlen hget' hle ⊢
  have hlen3 : l.length ≤ 3 := by rw [← hle]; exact kidsL_len _ _ _ _
  clear hle hget
  have hk1 : -1 ≤ kidsT tk := by unfold kidsT; (repeat' split) <;> omega
  generalize kidsT tk = kt at hlen hk1 ⊢
  have hkt : kt ≤ l.length := by split at hlen <;> omega
  have hktn : kt.toNat = l.length := by split at hlen <;> omega
  clear hlen
  have hktn' := Lib.hid hktn
  have hat0 : Hid (bgK (bg (ksT ts)) (l.take kt.toNat).reverse at_ = bg (ksT ts) at_) := Lib.hid (by
   rw [hktn, List.take_length, bg_eq, hks.out])
  clear hktn
  have hw := Lib.hid h; clear h
  go_loop [5, 6] (fun k c => ∃ (mi : Int) (k' : Nat), mi ≤ l.length ∧ c = .int .i64 mi ∧ -9223372036854775808 ≤ mi ∧ k = .int .i64 k' ∧ k' ≤ at_ ∧ Hid (bgK (bg (ksT ts)) (l.take mi.toNat).reverse k' = bg (ksT ts) at_)) (fun _ c => (intOf c).toNat)
  case atStart => exact ⟨kt, at_, hkt, rfl, by omega, rfl, Nat.le_refl _, hat0⟩
  case round =>
   obtain ⟨mi, k', hmi, rfl, hml, rfl, hk', hkb⟩ := hrel
   by_cases hpos : 0 < mi
   ·obtain ⟨m', rfl⟩ : ∃ m' : Nat, mi = (m' : Int) + 1 := ⟨(mi - 1).toNat, by omega⟩
    have hm3 : m' = 0 ∨ m' = 1 ∨ m' = 2 := by omega
    have hmn : m' < l.length := by omega
    have hrev : Hid (bg (ksT ts) at_ = bgK (bg (ksT ts)) (l.getD m' 0 :: (l.take m').reverse) k') := Lib.hid (by
     rw [← hkb.out, show ((m' : Int) + 1).toNat = m' + 1 from by omega, take_rev l (m' + 1) (by omega) (by omega)]; rfl)
    have hbad : Hid (¬ (l.getD m' 0 = (k' : Int) - 1 ∧ 1 ≤ k') → bg (ksT ts) at_ = -1) := Lib.hid (by
     intro e1
     rw [hrev.out]; unfold bgK
     rw [if_neg (by omega)])
    have hbad2 : Hid (l.getD m' 0 = (k' : Int) - 1 → 1 ≤ k' → bg (ksT ts) (k' - 1) < 0 → bg (ksT ts) at_ = -1) := Lib.hid (by
     intro e1 e2 e3
     rw [hrev.out]; unfold bgK
     have e4 : ((k' : Int) - 1).toNat = k' - 1 := by omega
     rw [if_pos ⟨e1, by omega⟩, e4, if_pos e3])
    have hstep : Hid (l.getD m' 0 = (k' : Int) - 1 → 1 ≤ k' → 0 ≤ bg (ksT ts) (k' - 1) → bgK (bg (ksT ts)) (l.take m').reverse (bg (ksT ts) (k' - 1)) = bg (ksT ts) at_) := Lib.hid (by
     intro e1 e2 e3
     rw [hrev.out]; conv => rhs; unfold bgK
     have e4 : ((k' : Int) - 1).toNat = k' - 1 := by omega
     rw [if_pos ⟨e1, by omega⟩, e4, if_neg (by omega)])
    rcases hm3 with rfl | rfl | rfl
    ·have hlv : l.getD 0 0 = ta := hget'.out 0 hmn
     rw [hlv] at hbad hbad2 hstep
     clear hlv
     by_cases hk0 : k' = 0
     ·subst hk0
      have hf := Lib.hid (hbad.out (by omega))
      go_wp2_with fail
      all_goals go_ret
      all_goals exact ⟨ret_i hf.out.symm, rfl⟩
     ·obtain ⟨q, rfl⟩ : ∃ q, k' = q + 1 := ⟨k' - 1, by omega⟩
      simp only [Nat.add_sub_cancel] at hstep hbad2
      by_cases hv : ta = (q : Int)
      ·subst hv
       go_wp2_with fail
       refine (ih'.out q _ (by omega) (by omega) hw.out).mono ?_
       rintro e w1 ⟨rfl, rfl⟩
       have hgle := bg_le (ksT ts) q
       by_cases hn : bg (ksT ts) q < 0
       ·have hf := Lib.hid (hbad2.out (by omega) (by omega) hn)
        go_wp2_with fail
        go_ret
        exact ⟨ret_i hf.out.symm, rfl⟩
       ·obtain ⟨g, hg⟩ := Int.eq_ofNat_of_zero_le (by omega : 0 ≤ bg (ksT ts) q)
        have hst := hstep.out (by omega) (by omega) (by omega)
        rw [hg] at hst hgle ⊢
        have hst' := Lib.hid hst
        clear hst hg hn
        go_wp2_with fail
        go_round
        case rel => exact ⟨0, g, by omega, by first | rfl | go_num, by omega, rfl, by omega, hst'⟩
        case measure => simp [intOf]
      ·have hf := Lib.hid (hbad.out (by omega))
       have hv1 : (ta == (q : Int)) = false := by simpa using hv
       have hv2 : (ta != (q : Int)) = true := by simpa using hv
       go_wp2_with fail
       go_ret
       exact ⟨ret_i hf.out.symm, rfl⟩
    ·have hlv : l.getD 1 0 = tb := hget'.out 1 hmn
     rw [hlv] at hbad hbad2 hstep
     clear hlv
     by_cases hk0 : k' = 0
     ·subst hk0
      have hf := Lib.hid (hbad.out (by omega))
      go_wp2_with fail
      all_goals go_ret
      all_goals exact ⟨ret_i hf.out.symm, rfl⟩
     ·obtain ⟨q, rfl⟩ : ∃ q, k' = q + 1 := ⟨k' - 1, by omega⟩
      simp only [Nat.add_sub_cancel] at hstep hbad2
      by_cases hv : tb = (q : Int)
      ·subst hv
       go_wp2_with fail
       refine (ih'.out q _ (by omega) (by omega) hw.out).mono ?_
       rintro e w1 ⟨rfl, rfl⟩
       have hgle := bg_le (ksT ts) q
       by_cases hn : bg (ksT ts) q < 0
       ·have hf := Lib.hid (hbad2.out (by omega) (by omega) hn)
        go_wp2_with fail
        go_ret
        exact ⟨ret_i hf.out.symm, rfl⟩
       ·obtain ⟨g, hg⟩ := Int.eq_ofNat_of_zero_le (by omega : 0 ≤ bg (ksT ts) q)
        have hst := hstep.out (by omega) (by omega) (by omega)
        rw [hg] at hst hgle ⊢
        have hst' := Lib.hid hst
        clear hst hg hn
        go_wp2_with fail
        go_round
        case rel => exact ⟨1, g, by omega, by first | rfl | go_num, by omega, rfl, by omega, hst'⟩
        case measure => simp [intOf]
      ·have hf := Lib.hid (hbad.out (by omega))
       have hv1 : (tb == (q : Int)) = false := by simpa using hv
       have hv2 : (tb != (q : Int)) = true := by simpa using hv
       go_wp2_with fail
       go_ret
       exact ⟨ret_i hf.out.symm, rfl⟩
    ·have hlv : l.getD 2 0 = tc := hget'.out 2 hmn
     rw [hlv] at hbad hbad2 hstep
     clear hlv
     by_cases hk0 : k' = 0
     ·subst hk0
      have hf := Lib.hid (hbad.out (by omega))
      go_wp2_with fail
      all_goals go_ret
      all_goals exact ⟨ret_i hf.out.symm, rfl⟩
     ·obtain ⟨q, rfl⟩ : ∃ q, k' = q + 1 := ⟨k' - 1, by omega⟩
      simp only [Nat.add_sub_cancel] at hstep hbad2
      by_cases hv : tc = (q : Int)
      ·subst hv
       go_wp2_with fail
       refine (ih'.out q _ (by omega) (by omega) hw.out).mono ?_
       rintro e w1 ⟨rfl, rfl⟩
       have hgle := bg_le (ksT ts) q
       by_cases hn : bg (ksT ts) q < 0
       ·have hf := Lib.hid (hbad2.out (by omega) (by omega) hn)
        go_wp2_with fail
        go_ret
        exact ⟨ret_i hf.out.symm, rfl⟩
       ·obtain ⟨g, hg⟩ := Int.eq_ofNat_of_zero_le (by omega : 0 ≤ bg (ksT ts) q)
        have hst := hstep.out (by omega) (by omega) (by omega)
        rw [hg] at hst hgle ⊢
        have hst' := Lib.hid hst
        clear hst hg hn
        go_wp2_with fail
        go_round
        case rel => exact ⟨2, g, by omega, by first | rfl | go_num, by omega, rfl, by omega, hst'⟩
        case measure => simp [intOf]
      ·have hf := Lib.hid (hbad.out (by omega))
       have hv1 : (tc == (q : Int)) = false := by simpa using hv
       have hv2 : (tc != (q : Int)) = true := by simpa using hv
       go_wp2_with fail
       go_ret
       exact ⟨ret_i hf.out.symm, rfl⟩
   ·have hf : Hid ((k' : Int) = bg (ksT ts) at_) := Lib.hid (by have := hkb.out; rw [show mi.toNat = 0 from by omega] at this; simpa [bgK] using this)
    go_wp2_with fail
    go_ret
    exact ⟨ret_i hf.out, rfl⟩
end Go.Proofs.Ytnjalpcmjkahkaa
