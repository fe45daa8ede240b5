/- The reference's begin and TypeMay. -/
import Derived.Test.YtfkdcconmecaoaaDoorTyM
namespace Go.Proofs.YtfkdcconmecaoaaDoor
open Go.RowKit
set_option linter.unusedVariables false
set_option linter.unusedSimpArgs false

theorem ret_ii0 {a b : Int} (h : a = b) : Ending.returned (.int .i64 a) = .returned (.int .i64 b) := by rw [h]
set_option maxHeartbeats 2000000 in
theorem rbegin_any (b off cp : Nat) (ts : List Ty) (hl : ts.length ≤ 140737488351232) : ∀ (n at_ : Nat) (w : World), at_ < n → at_ < ts.length → Hid (TySl w b off ts) → b < w.heap.size →
    Calls Tryd.prog 64 #[.slice (some ⟨b, off, none⟩) ts.length cp, .int .i64 at_] w fun e w' => e = .returned (.int .i64 (bg (ksT ts) at_)) ∧ Below w.heap.size w w' := by
  intro n
  induction n with
  | zero => intro at_ w h; omega
  | succ n ih =>
    intro at_ w hn hat h hbs
    have hT := h.out at_ hat
    have hks : ksT ts at_ = kT (ts.getD at_ ty0).k (ts.getD at_ ty0).a (ts.getD at_ ty0).b := rfl
    obtain ⟨R, hR⟩ : ∃ r, bg (ksT ts) at_ = r := ⟨_, rfl⟩
    rw [hR]
    generalize ts.getD at_ ty0 = t at hT hks
    obtain ⟨e0, e1, e2, e3, e4, e5, e6, e7, e8⟩ := hT
    by_cases hk : t.k = 3
    · have h2 := bg_two (ksT ts) at_ t.a t.b (by rw [hks, hk]; rfl)
      rw [hR] at h2
      rw [hk] at e0
      clear hks hk
      by_cases hb : t.b = at_ - 1 ∧ 1 ≤ at_
      · rw [if_pos hb] at h2
        obtain ⟨q, rfl⟩ : ∃ q, at_ = q + 1 := ⟨at_ - 1, by omega⟩
        have hbq : t.b = q := by omega
        simp only [Nat.add_sub_cancel] at h2
        rw [hbq] at e3
        obtain ⟨gq, hgq⟩ : ∃ z, bg (ksT ts) q = z := ⟨_, rfl⟩
        have hI := Lib.hid fun (W : World) => ih q W (by omega) (by omega)
        have hle := bg_le (ksT ts) q
        rw [hgq] at hI hle h2
        have h2' := Lib.hid h2
        clear h2 hbq hb hgq hR
        go_enter Tryd.func64, Tryd.ntmps64
        go_wp2_with fail
        refine (hI.out _ h hbs).mono ?_
        rintro e w1 ⟨rfl, hb1⟩
        have f2 := carry hb1 hbs e2
        have f0 := carry hb1 hbs e0
        have f3 := carry hb1 hbs e3
        have hB1 := Lib.hid hb1
        have hs1 := hb1.size
        clear hb1 e0 e1 e2 e3 e4 e5 e6 e7 e8
        by_cases h1 : gq < 1
        · have hv : Hid (R = -1) := Lib.hid (by rw [h2'.out, if_pos h1])
          go_wp2_with fail
          go_ret
          exact ⟨ret_ii0 hv.out.symm, hB1.out⟩
        by_cases ha : t.a = gq - 1
        · have hv : Hid (R = bg (ksT ts) (gq - 1).toNat) := Lib.hid (by rw [h2'.out, if_neg h1, if_pos ha])
          obtain ⟨m, hm⟩ := Int.eq_ofNat_of_zero_le (show 0 ≤ gq - 1 by omega)
          obtain rfl : gq = m + 1 := by omega
          have ha' : t.a = m := by omega
          rw [ha'] at f2
          have hv' : Hid (R = bg (ksT ts) m) := Lib.hid (by rw [hv.out, show (((m : Int) + 1) - 1).toNat = m by omega])
          have hI2 := Lib.hid fun (W : World) => ih m W (by omega) (by omega)
          clear hv ha ha' hm
          go_wp2_with fail
          refine (hI2.out _ (Lib.hid (h.out.below hB1.out hbs)) (by omega)).mono ?_
          rintro e w2 ⟨rfl, hb2⟩
          go_wp2_with fail
          go_ret
          exact ⟨ret_ii0 hv'.out.symm, belT hB1.out hb2⟩
        · have hv : Hid (R = -1) := Lib.hid (by rw [h2'.out, if_neg h1, if_neg ha])
          have ha1 : (t.a == gq - 1) = false := beq_eq_false_iff_ne.2 ha
          have ha2 : (t.a != gq - 1) = true := by simpa using ha
          clear ha
          go_wp2_with fail
          go_ret
          exact ⟨ret_ii0 hv.out.symm, hB1.out⟩
      · rw [if_neg hb] at h2
        subst h2
        by_cases hb1 : t.b = (at_ : Int) - 1
        · have h0 : at_ = 0 := by omega
          subst h0
          have hb2 : t.b = -1 := by omega
          rw [hb2] at e3
          simp only [Nat.zero_mul, Nat.add_zero] at e0 e3
          clear hb1 hb hb2 hR e1 e2 e4 e5 e6 e7 e8
          go_enter Tryd.func64, Tryd.ntmps64
          go_wp2_with fail
          go_ret
          exact ⟨rfl, Below.refl _ _⟩
        · have g1 : (t.b == (at_ : Int) - 1) = false := beq_eq_false_iff_ne.2 hb1
          have g2 : (t.b != (at_ : Int) - 1) = true := by simpa using hb1
          clear hb1 hb hR
          go_enter Tryd.func64, Tryd.ntmps64
          go_wp2_with fail
          go_ret
          exact ⟨rfl, Below.refl _ _⟩
    · have h2 := bg_none (ksT ts) at_ (by rw [hks]; exact if_neg hk)
      rw [hR] at h2
      subst h2
      have g1 : (t.k == 3) = false := beq_eq_false_iff_ne.2 hk
      have g2 : (t.k != 3) = true := by simpa using hk
      clear hk hks hR
      go_enter Tryd.func64, Tryd.ntmps64
      go_wp2_with fail
      go_ret
      exact ⟨rfl, Below.refl _ _⟩

end Go.Proofs.YtfkdcconmecaoaaDoor
