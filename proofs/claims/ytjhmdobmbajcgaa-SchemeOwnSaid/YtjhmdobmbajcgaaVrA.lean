/- Numbers among others: slices.Contains, has, without, less, SameInts; slices.Clone. -/
import Derived.Test.YtjhmdobmbajcgaaVrP
import Derived.Test.YtjhmdobmbajcgaaBar
namespace Go.Proofs.Ytjhmdobmbajcgaa
open Go.RowKit
set_option linter.unusedVariables false
set_option linter.unusedSimpArgs false

theorem isArg_at {w : World} {a : Option Addr} {l : List Int} {j : Nat} (h : l = [] ∨ ∃ b off, a = some ⟨b, off, none⟩ ∧ IsSl w b off l ∧ b < w.heap.size) (hj : j < l.length) : ∃ b off, a = some ⟨b, off, none⟩ ∧ IsSl w b off l ∧ b < w.heap.size := by
  rcases h with h | h
  · rw [h] at hj; simp at hj
  · exact h
set_option maxHeartbeats 1000000 in
theorem index_any (a : Option Addr) (n c : Nat) (l : List Int) (v : Int) (w : World) (h : Hid (IsArg w a n l)) (hl : n ≤ 140737488351232) :
    Calls Try.prog 94 #[.slice a n c, .int .i64 v] w fun e w' => (∃ i : Int, e = .returned (.int .i64 i) ∧ hasI l v = decide (0 ≤ i)) ∧ w' = w := by
  obtain ⟨rfl, hA⟩ := h.out
  go_enter Try.func94, Try.ntmps94
  go_wp2_with fail
  go_loopw [8] (fun i wr => ∃ j : Nat, j ≤ l.length ∧ i = .int .i64 j ∧ wr = w ∧ Hid (hasI (l.take j) v = false)) (fun i _ => l.length - (intOf i).toNat)
  case atStart => exact ⟨0, by omega, rfl, rfl, Lib.hid rfl⟩
  case round =>
    obtain ⟨j, hj, rfl, rfl, hno⟩ := hrel
    by_cases hlt : j < l.length
    · obtain ⟨b, off, rfl, hs, hb⟩ := isArg_at hA hlt
      have hc := hs j hlt
      have htk := Lib.hid (hasI_take hlt v)
      have hfin := Lib.hid (show l.getD j 0 = v → hasI l v = true from fun e => (hasI_iff l v).2 (by rw [← e, List.getD_eq_getElem?_getD, List.getElem?_eq_getElem hlt]; exact List.getElem_mem hlt))
      generalize l.getD j 0 = x at hc htk hfin
      have hlt' : (j : Int) < (l.length : Int) := by omega
      have hj0 : (0 : Int) ≤ (j : Int) := by omega
      clear hs hA
      cases hq : (v == x)
      · have hq2 : Hid ((x == v) = false) := Lib.hid (by rw [beq_eq_false_iff_ne] at hq ⊢; exact fun e => hq e.symm)
        go_wp2_with fail
        go_roundw
        case rel => exact ⟨j + 1, by omega, by go_num, by first | rfl | trivial, Lib.hid (by rw [htk.out, hno.out, hq2.out]; rfl)⟩
        case measure => simp [intOf]; omega
      · have hx := Lib.hid (hfin.out (beq_iff_eq.1 hq).symm)
        go_wp2_with fail
        go_ret
        exact ⟨⟨(j : Int), rfl, by rw [hx.out, decide_eq_true hj0]⟩, rfl⟩
    · have hx : Hid (hasI l v = false) := Lib.hid (by have := hno.out; rwa [List.take_of_length_le (by omega)] at this)
      go_wp2_with fail
      go_ret
      exact ⟨⟨-1, rfl, by rw [hx.out]; rfl⟩, rfl⟩
set_option maxHeartbeats 1000000 in
theorem contains_any (a : Option Addr) (n c : Nat) (l : List Int) (v : Int) (w : World) (h : Hid (IsArg w a n l)) (hl : n ≤ 140737488351232) :
    Calls Try.prog 82 #[.slice a n c, .int .i64 v] w fun e w' => e = .returned (.bool (hasI l v)) ∧ w' = w := by
  obtain ⟨H, hH⟩ : ∃ x, hasI l v = x := ⟨_, rfl⟩
  have kI := Lib.hid (index_any a n c l v w h hl)
  rw [hH] at kI ⊢
  clear hH
  go_enter Try.func82, Try.ntmps82
  go_wp2_with fail
  refine kI.out.mono ?_
  rintro e w1 ⟨⟨i, rfl, hi⟩, rfl⟩
  have hi := Lib.hid hi
  go_wp2_with fail
  go_ret
  exact ⟨ret_bb hi.out.symm, rfl⟩
set_option maxHeartbeats 1000000 in
theorem rhas_any (a : Option Addr) (n c : Nat) (l : List Int) (v : Int) (w : World) (h : Hid (IsArg w a n l)) (hl : n ≤ 140737488351232) :
    Calls Try.prog 83 #[.slice a n c, .int .i64 v] w fun e w' => e = .returned (.bool (hasI l v)) ∧ w' = w := by
  obtain ⟨rfl, hA⟩ := h.out
  go_enter Try.func83, Try.ntmps83
  go_wp2_with fail
  go_loopw [5] (fun i wr => ∃ j : Nat, j ≤ l.length ∧ i = .int .i64 j ∧ wr = w ∧ Hid (hasI (l.take j) v = false)) (fun i _ => l.length - (intOf i).toNat)
  case atStart => exact ⟨0, by omega, rfl, rfl, Lib.hid rfl⟩
  case round =>
    obtain ⟨j, hj, rfl, rfl, hno⟩ := hrel
    by_cases hlt : j < l.length
    · obtain ⟨b, off, rfl, hs, hb⟩ := isArg_at hA hlt
      have hc := hs j hlt
      have htk := Lib.hid (hasI_take hlt v)
      have hfin := Lib.hid (show l.getD j 0 = v → hasI l v = true from fun e => (hasI_iff l v).2 (by rw [← e, List.getD_eq_getElem?_getD, List.getElem?_eq_getElem hlt]; exact List.getElem_mem hlt))
      generalize l.getD j 0 = x at hc htk hfin
      have hlt' : (j : Int) < (l.length : Int) := by omega
      have hj0 : (0 : Int) ≤ (j : Int) := by omega
      clear hs hA
      cases hq : (x == v)
      · have hq2 := Lib.hid hq
        go_wp2_with fail
        go_roundw
        case rel => exact ⟨j + 1, by omega, by go_num, by first | rfl | trivial, Lib.hid (by rw [htk.out, hno.out, hq2.out]; rfl)⟩
        case measure => simp [intOf]; omega
      · have hx := Lib.hid (hfin.out (beq_iff_eq.1 hq))
        go_wp2_with fail
        go_ret
        exact ⟨ret_bb hx.out.symm, rfl⟩
    · have hx : Hid (hasI l v = false) := Lib.hid (by have := hno.out; rwa [List.take_of_length_le (by omega)] at this)
      go_wp2_with fail
      go_ret
      exact ⟨ret_bb hx.out.symm, rfl⟩
set_option maxRecDepth 100000 in
set_option maxHeartbeats 2000000 in
theorem without_any (a a2 : Option Addr) (n c n2 c2 : Nat) (xs ks : List Int) (w : World) (h : Hid (IsArg w a n xs)) (h2 : Hid (IsArg w a2 n2 ks)) (hl : n ≤ 1099511627776) (hl2 : n2 ≤ 140737488351232) :
    Calls Try.prog 57 #[.slice a n c, .slice a2 n2 c2] w fun e w' => ∃ v, e = .returned v ∧ OwnI w.heap.size w' v (woI xs ks) ∧ Below w.heap.size w w' := by
  obtain ⟨rfl, hA⟩ := h.out
  have kC := Lib.hid fun (v : Int) (W : World) (hb : Below w.heap.size w W) => contains_any a2 n2 c2 ks v W (Lib.hid (h2.out.below hb)) hl2
  go_enter Try.func57, Try.ntmps57
  go_wp2_with fail
  go_loopw [5, 10] (fun v i wr => ∃ j : Nat, j ≤ xs.length ∧ i = .int .i64 j ∧ Below w.heap.size w wr ∧ Hid (OwnI w.heap.size wr v (woI (xs.take j) ks))) (fun _ i _ => xs.length - (intOf i).toNat)
  case atStart => exact ⟨0, by omega, rfl, Below.refl _ _, Lib.hid (OwnI.nil _ _)⟩
  case round =>
    obtain ⟨j, hj, rfl, hbw, hO⟩ := hrel
    have hws := hbw.size
    by_cases hlt : j < xs.length
    · obtain ⟨b, off, rfl, hs, hb⟩ := isArg_at hA hlt
      have hc := hs.below hbw hb j hlt
      have htk := Lib.hid (woI_take (ks := ks) hlt)
      have hwl := woI_len (xs.take j) ks
      rw [List.length_take] at hwl
      obtain ⟨Lw, hLw⟩ : ∃ z, woI (xs.take j) ks = z := ⟨_, rfl⟩
      rw [hLw] at htk hwl hO
      generalize xs.getD j 0 = x at hc htk
      have hbr : b < wr.heap.size := by omega
      have hlt' : (j : Int) < (xs.length : Int) := by omega
      have hj0 : (0 : Int) ≤ (j : Int) := by omega
      have kc := Lib.hid (kC.out x wr hbw)
      generalize hasI ks x = q at kc htk
      have hbw' := Lib.hid hbw
      clear hs hLw hbw
      go_wp2_with fail
      refine kc.out.mono ?_
      rintro e w1 ⟨rfl, rfl⟩
      cases q
      · have htk2 := Lib.hid (show woI (xs.take (j + 1)) ks = Lw ++ [x] from htk.out)
        go_wp2_with (at_builtin; refine op_inh rfl (.tmp 18) (.tmp 20) _ w1 w.heap.size hws (by (repeat' (first | with_reducible exact Below.refl _ _ | with_reducible assumption | with_reducible apply Below.setCell | with_reducible apply Below.alloc | with_reducible apply Below.drew | with_reducible apply below_drewN | with_reducible exact Nat.le_refl _ | (simp; done) | (simp; omega) | omega | exact Nat.le_refl _))) _ Lw _ rfl rfl _ (by first | (simp; done) | (simp; omega)) rfl hO.out (by omega) ?_)
        intro g3 c3 w3 hO3 hBar3 hM3
        have hO3' := Lib.hid hO3
        have hB3 := Lib.hid (hbw'.out.trans (bar_belI hBar3 hO.out hws))
        clear hO3 hBar3 hM3
        go_wp2_with fail
        go_roundw
        case rel => exact ⟨j + 1, by omega, by go_num, hB3.out, Lib.hid (by rw [htk2.out]; exact hO3'.out)⟩
        case measure => simp [intOf]; omega
      · have htk2 := Lib.hid (show woI (xs.take (j + 1)) ks = Lw from by rw [htk.out]; simp)
        go_wp2_with fail
        go_roundw
        case rel => exact ⟨j + 1, by omega, by go_num, hbw'.out, Lib.hid (by rw [htk2.out]; exact hO.out)⟩
        case measure => simp [intOf]; omega
    · have hfin := Lib.hid (show OwnI w.heap.size wr _ (woI xs ks) from by have := hO.out; rwa [List.take_of_length_le (by omega)] at this)
      go_wp2_with fail
      go_ret
      exact ⟨_, rfl, hfin.out, hbw⟩
set_option maxRecDepth 100000 in
set_option maxHeartbeats 2000000 in
theorem rwithout_any (a a2 : Option Addr) (n c n2 c2 : Nat) (xs ks : List Int) (w : World) (h : Hid (IsArg w a n xs)) (h2 : Hid (IsArg w a2 n2 ks)) (hl : n ≤ 1099511627776) (hl2 : n2 ≤ 140737488351232) :
    Calls Try.prog 59 #[.slice a n c, .slice a2 n2 c2] w fun e w' => ∃ v, e = .returned v ∧ OwnI w.heap.size w' v (woI xs ks) ∧ Below w.heap.size w w' := by
  obtain ⟨rfl, hA⟩ := h.out
  have kC := Lib.hid fun (v : Int) (W : World) (hb : Below w.heap.size w W) => rhas_any a2 n2 c2 ks v W (Lib.hid (h2.out.below hb)) hl2
  go_enter Try.func59, Try.ntmps59
  go_wp2_with fail
  go_loopw [5, 6] (fun v i wr => ∃ j : Nat, j ≤ xs.length ∧ i = .int .i64 j ∧ Below w.heap.size w wr ∧ Hid (OwnI w.heap.size wr v (woI (xs.take j) ks))) (fun _ i _ => xs.length - (intOf i).toNat)
  case atStart => exact ⟨0, by omega, rfl, Below.refl _ _, Lib.hid (OwnI.nil _ _)⟩
  case round =>
    obtain ⟨j, hj, rfl, hbw, hO⟩ := hrel
    have hws := hbw.size
    by_cases hlt : j < xs.length
    · obtain ⟨b, off, rfl, hs, hb⟩ := isArg_at hA hlt
      have hc := hs.below hbw hb j hlt
      have htk := Lib.hid (woI_take (ks := ks) hlt)
      have hwl := woI_len (xs.take j) ks
      rw [List.length_take] at hwl
      obtain ⟨Lw, hLw⟩ : ∃ z, woI (xs.take j) ks = z := ⟨_, rfl⟩
      rw [hLw] at htk hwl hO
      generalize xs.getD j 0 = x at hc htk
      have hbr : b < wr.heap.size := by omega
      have hlt' : (j : Int) < (xs.length : Int) := by omega
      have hj0 : (0 : Int) ≤ (j : Int) := by omega
      have kc := Lib.hid (kC.out x wr hbw)
      generalize hasI ks x = q at kc htk
      have hbw' := Lib.hid hbw
      clear hs hLw hbw
      go_wp2_with fail
      refine kc.out.mono ?_
      rintro e w1 ⟨rfl, rfl⟩
      cases q
      · have htk2 := Lib.hid (show woI (xs.take (j + 1)) ks = Lw ++ [x] from htk.out)
        go_wp2_with (at_builtin; refine op_inh rfl (.tmp 20) (.tmp 25) _ w1 w.heap.size hws (by (repeat' (first | with_reducible exact Below.refl _ _ | with_reducible assumption | with_reducible apply Below.setCell | with_reducible apply Below.alloc | with_reducible apply Below.drew | with_reducible apply below_drewN | with_reducible exact Nat.le_refl _ | (simp; done) | (simp; omega) | omega | exact Nat.le_refl _))) _ Lw _ rfl rfl _ (by first | (simp; done) | (simp; omega)) rfl hO.out (by omega) ?_)
        intro g3 c3 w3 hO3 hBar3 hM3
        have hO3' := Lib.hid hO3
        have hB3 := Lib.hid (hbw'.out.trans (bar_belI hBar3 hO.out hws))
        clear hO3 hBar3 hM3
        go_wp2_with fail
        go_roundw
        case rel => exact ⟨j + 1, by omega, by go_num, hB3.out, Lib.hid (by rw [htk2.out]; exact hO3'.out)⟩
        case measure => simp [intOf]; omega
      · have htk2 := Lib.hid (show woI (xs.take (j + 1)) ks = Lw from by rw [htk.out]; simp)
        go_wp2_with fail
        go_roundw
        case rel => exact ⟨j + 1, by omega, by go_num, hbw'.out, Lib.hid (by rw [htk2.out]; exact hO.out)⟩
        case measure => simp [intOf]; omega
    · have hfin := Lib.hid (show OwnI w.heap.size wr _ (woI xs ks) from by have := hO.out; rwa [List.take_of_length_le (by omega)] at this)
      go_wp2_with fail
      go_ret
      exact ⟨_, rfl, hfin.out, hbw⟩
theorem getI_ext {l m : List Int} (h : l.length = m.length) (he : ∀ i, i < l.length → l.getD i 0 = m.getD i 0) : l = m := by
  apply List.ext_getElem h
  intro i h1 h2
  have := he i h1
  rwa [List.getD_eq_getElem?_getD, List.getElem?_eq_getElem h1, List.getD_eq_getElem?_getD, List.getElem?_eq_getElem h2] at this
set_option maxHeartbeats 1000000 in
theorem sameInts_len (a1 a2 : Option Addr) (n1 n2 c1 c2 : Nat) (w : World) (h : n1 ≠ n2) :
    Calls Try.prog 33 #[.slice a1 n1 c1, .slice a2 n2 c2] w fun e w' => e = .returned (.bool false) ∧ Below w.heap.size w w' := by
  have h1 : ((n1 : Int) == (n2 : Int)) = false := by rw [beq_eq_false_iff_ne]; omega
  have h2 : ((n1 : Int) != (n2 : Int)) = true := by rw [bne_iff_ne]; omega
  have h3 : (n1 == n2) = false := by simpa using h
  have h4 : (n1 != n2) = true := by simpa using h
  clear h
  go_enter Try.func33, Try.ntmps33
  go_wp2_with fail
  go_ret
  exact ⟨rfl, Below.refl _ _⟩
set_option maxRecDepth 100000 in
set_option maxHeartbeats 2000000 in
theorem sameInts_eq (a1 a2 : Option Addr) (c1 c2 : Nat) (l m : List Int) (w : World) (h : Hid (IsArg w a1 l.length l)) (h' : Hid (IsArg w a2 l.length m)) (hl : l.length ≤ 140737488351232) :
    Calls Try.prog 33 #[.slice a1 l.length c1, .slice a2 l.length c2] w fun e w' => e = .returned (.bool (decide (l = m))) ∧ Below w.heap.size w w' := by
  obtain ⟨A, hA⟩ : ∃ x, decide (l = m) = x := ⟨_, rfl⟩
  rw [hA]
  have hA' := Lib.hid hA
  have hlm' := Lib.hid h'.out.1
  clear hA
  go_enter Try.func33, Try.ntmps33
  go_wp2_with fail
  go_loopw [5] (fun i wr => ∃ j : Nat, j ≤ l.length ∧ i = .int .i64 j ∧ Below w.heap.size w wr ∧ Hid (∀ i, i < j → l.getD i 0 = m.getD i 0)) (fun i _ => l.length - (intOf i).toNat)
  case atStart => exact ⟨0, by omega, rfl, Below.refl _ _, Lib.hid fun i hi => by omega⟩
  case round =>
    obtain ⟨j, hj, rfl, hbw, hall⟩ := hrel
    by_cases hlt : j < l.length
    · obtain ⟨b, off, rfl, hs, hbs⟩ := isArg_at h.out.2 hlt
      obtain ⟨b', off', rfl, hs', hbs'⟩ := isArg_at h'.out.2 (show j < m.length by rw [← hlm'.out]; exact hlt)
      have e0 := hs.below hbw hbs j hlt
      have d0 := hs'.below hbw hbs' j (by rw [← hlm'.out]; exact hlt)
      have hsuc := Lib.hid (show l.getD j 0 = m.getD j 0 → ∀ i, i < j + 1 → l.getD i 0 = m.getD i 0 from fun he i hi => by
        rcases Nat.lt_or_ge i j with h1 | h1
        · exact hall.out i h1
        · obtain rfl : i = j := by omega
          exact he)
      have hstop := Lib.hid (show l.getD j 0 ≠ m.getD j 0 → decide (l = m) = false from fun hn => decide_eq_false fun e => hn (by rw [e]))
      generalize l.getD j 0 = t at e0 hsuc hstop
      generalize m.getD j 0 = u at d0 hsuc hstop
      have hws := hbw.size
      have hbr : b < wr.heap.size := by omega
      have hbr2 : b' < wr.heap.size := by omega
      have hlt' : (j : Int) < (l.length : Int) := by omega
      have hj0 : (0 : Int) ≤ (j : Int) := by omega
      clear hs hs'
      cases hq : (t == u)
      · have hf : Hid (A = false) := Lib.hid (by rw [← hA'.out]; exact hstop.out (beq_eq_false_iff_ne.1 hq))
        clear hstop hsuc
        go_wp2_with fail
        go_quiet (fail)
        go_wp2_with fail
        go_ret
        exact ⟨ret_bb hf.out.symm, by (repeat' (first | with_reducible exact Below.refl _ _ | with_reducible assumption | with_reducible apply Below.setCell | with_reducible apply Below.alloc | with_reducible apply Below.drew | with_reducible apply below_drewN | with_reducible exact Nat.le_refl _ | (simp; done) | (simp; omega) | omega | exact Nat.le_refl _))⟩
      · have hf := Lib.hid (hsuc.out (beq_iff_eq.1 hq))
        clear hstop hsuc
        go_wp2_with fail
        go_quiet (fail)
        go_wp2_with fail
        go_roundw
        case rel => exact ⟨j + 1, by omega, by go_num, by (repeat' (first | with_reducible exact Below.refl _ _ | with_reducible assumption | with_reducible apply Below.setCell | with_reducible apply Below.alloc | with_reducible apply Below.drew | with_reducible apply below_drewN | with_reducible exact Nat.le_refl _ | (simp; done) | (simp; omega) | omega | exact Nat.le_refl _)), hf⟩
        case measure => simp [intOf]; omega
    · have hf : Hid (A = true) := Lib.hid (by rw [← hA'.out]; exact decide_eq_true (getI_ext hlm'.out fun i hi => hall.out i (by omega)))
      go_wp2_with fail
      go_ret
      exact ⟨ret_bb hf.out.symm, hbw⟩
theorem sameInts_any (a1 a2 : Option Addr) (n1 n2 c1 c2 : Nat) (l m : List Int) (w : World) (h : Hid (IsArg w a1 n1 l)) (h' : Hid (IsArg w a2 n2 m)) (hl : n1 ≤ 140737488351232) :
    Calls Try.prog 33 #[.slice a1 n1 c1, .slice a2 n2 c2] w fun e w' => e = .returned (.bool (decide (l = m))) ∧ Below w.heap.size w w' := by
  have h1 := h.out.1
  have h3 := h'.out.1
  by_cases hn : n1 = n2
  · subst hn
    subst h1
    exact sameInts_eq a1 a2 c1 c2 l m w h h' hl
  · have : decide (l = m) = false := decide_eq_false fun e => hn (by rw [h1, h3, e])
    rw [this]
    exact sameInts_len a1 a2 n1 n2 c1 c2 w hn
end Go.Proofs.Ytjhmdobmbajcgaa
