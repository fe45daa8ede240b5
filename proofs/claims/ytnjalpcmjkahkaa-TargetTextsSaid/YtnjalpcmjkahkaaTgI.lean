/- The reference's tbegin. -/
import Derived.Test.YtnjalpcmjkahkaaTgE
namespace Go.Proofs.Ytnjalpcmjkahkaa
open Go.RowKit
set_option linter.unusedVariables false
set_option linter.unusedSimpArgs false

theorem ksT_eq (ts : List Tg) (i : Nat) : ksT ts i = kidsL (ts.getD i tg0).k (ts.getD i tg0).a (ts.getD i tg0).b (ts.getD i tg0).c := rfl
theorem kids_len (k a b c : Int) : ((kidsL k a b c).length : Int) = (if 0 ≤ kidsT k then kidsT k else 0) := by
  unfold kidsL kidsT; (repeat' split) <;> first | rfl | (exfalso; omega)

theorem kidsL_get (k a b c : Int) (m : Nat) (h : m < (kidsL k a b c).length) : (kidsL k a b c).getD m 0 = [a, b, c].getD m 0 := by
  unfold kidsL at *
  (repeat' split at h) <;> simp_all <;> (have : m = 0 ∨ m = 1 ∨ m = 2 := by omega) <;> rcases this with rfl | rfl | rfl <;> first | rfl | omega

set_option maxHeartbeats 1000000 in
set_option maxRecDepth 100000 in
theorem tbegin_any (b off cp : Nat) (ts : List Tg) (hl : ts.length ≤ 140737488351232) : ∀ (m at_ : Nat) (w : World), at_ < m → at_ < ts.length → Hid (TgSl w b off ts) →
    Calls Try.prog 32 #[.slice (some ⟨b, off, none⟩) ts.length cp, .int .i64 at_] w fun e w' => e = .returned (.int .i64 (bg (ksT ts) at_)) ∧ w = w' := by
  intro m
  induction m with
  | zero => intro at_ w h; omega
  | succ m ih =>
    intro at_ w hm hat h
    have ih' := Lib.hid ih; clear ih
    have hT := h.out at_ hat
    have hks := Lib.hid (ksT_eq ts at_)
    generalize ts.getD at_ tg0 = t at hT hks
    obtain ⟨e0, e1, e2, e3, e4, e5, e6, e7, e8⟩ := hT
    clear e4 e5 e6 e7 e8
    go_enter Try.func32, Try.ntmps32
    go_wp2_with fail
    refine (tkids_any _ _).mono ?_
    rintro e w1 ⟨rfl, rfl⟩
    go_wp2_with fail
    obtain ⟨l, hle⟩ : ∃ l, kidsL t.k t.a t.b t.c = l := ⟨_, rfl⟩
    have hlen := kids_len t.k t.a t.b t.c
    have hget := kidsL_get t.k t.a t.b t.c
    rw [hle] at hks hlen hget
    have hget' := Lib.hid hget
    obtain ⟨tk, ta, tb, tc, tn, tx, ty, tz, tw⟩ := t
    simp only [] at e0 e1 e2 e3 hlen hget' hle ⊢
    have hlen3 : l.length ≤ 3 := by rw [← hle]; exact kidsL_len _ _ _ _
    clear hle hget
    have hk1 : -1 ≤ kidsT tk := by unfold kidsT; (repeat' split) <;> omega
    generalize kidsT tk = kt at hlen hk1 ⊢
    have hkt : kt ≤ l.length := by split at hlen <;> omega
    have hktn : kt.toNat = l.length := by split at hlen <;> omega
    clear hlen
    have hktn' := Lib.hid hktn
    have hat0 : Hid (bgK (bg (ksT ts)) (l.take kt.toNat).reverse at_ = bg (ksT ts) at_) := Lib.hid (by
      rw [hktn, List.take_length, bg_eq, hks.out])
    clear hktn
    have hw := Lib.hid h; clear h
    go_loop [5, 6] (fun k c => ∃ (mi : Int) (k' : Nat), mi ≤ l.length ∧ c = .int .i64 mi ∧ -9223372036854775808 ≤ mi ∧ k = .int .i64 k' ∧ k' ≤ at_ ∧ Hid (bgK (bg (ksT ts)) (l.take mi.toNat).reverse k' = bg (ksT ts) at_)) (fun _ c => (intOf c).toNat)
    case atStart => exact ⟨kt, at_, hkt, rfl, by omega, rfl, Nat.le_refl _, hat0⟩
    case round =>
      obtain ⟨mi, k', hmi, rfl, hml, rfl, hk', hkb⟩ := hrel
      by_cases hpos : 0 < mi
      · obtain ⟨m', rfl⟩ : ∃ m' : Nat, mi = (m' : Int) + 1 := ⟨(mi - 1).toNat, by omega⟩
        have hm3 : m' = 0 ∨ m' = 1 ∨ m' = 2 := by omega
        have hmn : m' < l.length := by omega
        have hrev : Hid (bg (ksT ts) at_ = bgK (bg (ksT ts)) (l.getD m' 0 :: (l.take m').reverse) k') := Lib.hid (by
          rw [← hkb.out, show ((m' : Int) + 1).toNat = m' + 1 from by omega, take_rev l (m' + 1) (by omega) (by omega)]; rfl)
        have hbad : Hid (¬ (l.getD m' 0 = (k' : Int) - 1 ∧ 1 ≤ k') → bg (ksT ts) at_ = -1) := Lib.hid (by
          intro e1
          rw [hrev.out]; unfold bgK
          rw [if_neg (by omega)])
        have hbad2 : Hid (l.getD m' 0 = (k' : Int) - 1 → 1 ≤ k' → bg (ksT ts) (k' - 1) < 0 → bg (ksT ts) at_ = -1) := Lib.hid (by
          intro e1 e2 e3
          rw [hrev.out]; unfold bgK
          have e4 : ((k' : Int) - 1).toNat = k' - 1 := by omega
          rw [if_pos ⟨e1, by omega⟩, e4, if_pos e3])
        have hstep : Hid (l.getD m' 0 = (k' : Int) - 1 → 1 ≤ k' → 0 ≤ bg (ksT ts) (k' - 1) → bgK (bg (ksT ts)) (l.take m').reverse (bg (ksT ts) (k' - 1)) = bg (ksT ts) at_) := Lib.hid (by
          intro e1 e2 e3
          rw [hrev.out]; conv => rhs; unfold bgK
          have e4 : ((k' : Int) - 1).toNat = k' - 1 := by omega
          rw [if_pos ⟨e1, by omega⟩, e4, if_neg (by omega)])
        rcases hm3 with rfl | rfl | rfl
        · have hlv : l.getD 0 0 = ta := hget'.out 0 hmn
          rw [hlv] at hbad hbad2 hstep
          clear hlv
          by_cases hk0 : k' = 0
          · subst hk0
            have hf := Lib.hid (hbad.out (by omega))
            go_wp2_with fail
            all_goals go_ret
            all_goals exact ⟨ret_i hf.out.symm, rfl⟩
          · obtain ⟨q, rfl⟩ : ∃ q, k' = q + 1 := ⟨k' - 1, by omega⟩
            simp only [Nat.add_sub_cancel] at hstep hbad2
            by_cases hv : ta = (q : Int)
            · subst hv
              go_wp2_with fail
              refine (ih'.out q _ (by omega) (by omega) hw.out).mono ?_
              rintro e w1 ⟨rfl, rfl⟩
              have hgle := bg_le (ksT ts) q
              by_cases hn : bg (ksT ts) q < 0
              · have hf := Lib.hid (hbad2.out (by omega) (by omega) hn)
                go_wp2_with fail
                go_ret
                exact ⟨ret_i hf.out.symm, rfl⟩
              · obtain ⟨g, hg⟩ := Int.eq_ofNat_of_zero_le (by omega : 0 ≤ bg (ksT ts) q)
                have hst := hstep.out (by omega) (by omega) (by omega)
                rw [hg] at hst hgle ⊢
                have hst' := Lib.hid hst
                clear hst hg hn
                go_wp2_with fail
                go_round
                case rel => exact ⟨0, g, by omega, by first | rfl | go_num, by omega, rfl, by omega, hst'⟩
                case measure => simp [intOf]
            · have hf := Lib.hid (hbad.out (by omega))
              have hv1 : (ta == (q : Int)) = false := by simpa using hv
              have hv2 : (ta != (q : Int)) = true := by simpa using hv
              go_wp2_with fail
              go_ret
              exact ⟨ret_i hf.out.symm, rfl⟩
        · have hlv : l.getD 1 0 = tb := hget'.out 1 hmn
          rw [hlv] at hbad hbad2 hstep
          clear hlv
          by_cases hk0 : k' = 0
          · subst hk0
            have hf := Lib.hid (hbad.out (by omega))
            go_wp2_with fail
            all_goals go_ret
            all_goals exact ⟨ret_i hf.out.symm, rfl⟩
          · obtain ⟨q, rfl⟩ : ∃ q, k' = q + 1 := ⟨k' - 1, by omega⟩
            simp only [Nat.add_sub_cancel] at hstep hbad2
            by_cases hv : tb = (q : Int)
            · subst hv
              go_wp2_with fail
              refine (ih'.out q _ (by omega) (by omega) hw.out).mono ?_
              rintro e w1 ⟨rfl, rfl⟩
              have hgle := bg_le (ksT ts) q
              by_cases hn : bg (ksT ts) q < 0
              · have hf := Lib.hid (hbad2.out (by omega) (by omega) hn)
                go_wp2_with fail
                go_ret
                exact ⟨ret_i hf.out.symm, rfl⟩
              · obtain ⟨g, hg⟩ := Int.eq_ofNat_of_zero_le (by omega : 0 ≤ bg (ksT ts) q)
                have hst := hstep.out (by omega) (by omega) (by omega)
                rw [hg] at hst hgle ⊢
                have hst' := Lib.hid hst
                clear hst hg hn
                go_wp2_with fail
                go_round
                case rel => exact ⟨1, g, by omega, by first | rfl | go_num, by omega, rfl, by omega, hst'⟩
                case measure => simp [intOf]
            · have hf := Lib.hid (hbad.out (by omega))
              have hv1 : (tb == (q : Int)) = false := by simpa using hv
              have hv2 : (tb != (q : Int)) = true := by simpa using hv
              go_wp2_with fail
              go_ret
              exact ⟨ret_i hf.out.symm, rfl⟩
        · have hlv : l.getD 2 0 = tc := hget'.out 2 hmn
          rw [hlv] at hbad hbad2 hstep
          clear hlv
          by_cases hk0 : k' = 0
          · subst hk0
            have hf := Lib.hid (hbad.out (by omega))
            go_wp2_with fail
            all_goals go_ret
            all_goals exact ⟨ret_i hf.out.symm, rfl⟩
          · obtain ⟨q, rfl⟩ : ∃ q, k' = q + 1 := ⟨k' - 1, by omega⟩
            simp only [Nat.add_sub_cancel] at hstep hbad2
            by_cases hv : tc = (q : Int)
            · subst hv
              go_wp2_with fail
              refine (ih'.out q _ (by omega) (by omega) hw.out).mono ?_
              rintro e w1 ⟨rfl, rfl⟩
              have hgle := bg_le (ksT ts) q
              by_cases hn : bg (ksT ts) q < 0
              · have hf := Lib.hid (hbad2.out (by omega) (by omega) hn)
                go_wp2_with fail
                go_ret
                exact ⟨ret_i hf.out.symm, rfl⟩
              · obtain ⟨g, hg⟩ := Int.eq_ofNat_of_zero_le (by omega : 0 ≤ bg (ksT ts) q)
                have hst := hstep.out (by omega) (by omega) (by omega)
                rw [hg] at hst hgle ⊢
                have hst' := Lib.hid hst
                clear hst hg hn
                go_wp2_with fail
                go_round
                case rel => exact ⟨2, g, by omega, by first | rfl | go_num, by omega, rfl, by omega, hst'⟩
                case measure => simp [intOf]
            · have hf := Lib.hid (hbad.out (by omega))
              have hv1 : (tc == (q : Int)) = false := by simpa using hv
              have hv2 : (tc != (q : Int)) = true := by simpa using hv
              go_wp2_with fail
              go_ret
              exact ⟨ret_i hf.out.symm, rfl⟩
      · have hf : Hid ((k' : Int) = bg (ksT ts) at_) := Lib.hid (by have := hkb.out; rw [show mi.toNat = 0 from by omega] at this; simpa [bgK] using this)
        go_wp2_with fail
        go_ret
        exact ⟨ret_i hf.out, rfl⟩
end Go.Proofs.Ytnjalpcmjkahkaa
