/- Numbers, types, rows that came in; layer 12's less. -/
import Derived.Test.YtjhmdobmbajcgaaTkD
import Derived.Test.YtjhmdobmbajcgaaTyI
namespace Go.Proofs.Ytjhmdobmbajcgaa
open Go.RowKit
set_option linter.unusedVariables false
set_option linter.unusedSimpArgs false

theorem is_open {H : Type} {enc : TypeId × Value → H} {w : World} {fuel : Nat} {y : DataW H × List MemPlace} {a : Option Addr} {n c : Nat} (h : DataW.trod enc Try.prog w 0 (fun _ => true) true fuel 54 [.slice a n c] = some y) (hw : ∀ x ∈ DataW.weights Try.prog 54 y.1, x ≤ reachBytes) :
    n * 8 ≤ 140737488351232 ∧ ∃ l : List Int, IsArg w a n l ∧ ∀ x ∈ l, (Lit.int .i64 x).wf = true := by
  obtain ⟨h1, h2, h3⟩ := slice_open (f := 5) (ks := [.i .i64]) Try.underlying54 (by kernel_rfl) (by kernel_rfl) (of_decide_eq_true (by kernel_rfl)) h hw
  have hc : Try.prog.cellsOf 3 = 1 := by kernel_rfl
  have hb : Try.prog.bytesOf 3 = 8 := by kernel_rfl
  rw [hb] at h2
  rw [hc] at h3
  refine ⟨h2, ?_⟩
  rcases h3 with rfl | ⟨b, off, rfl, hi⟩
  · exact ⟨[], isArg_nil _ _, by intro x hx; cases hx⟩
  by_cases h0 : n = 0
  · subst h0; exact ⟨[], isArg_nil _ _, by intro x hx; cases hx⟩
  have key : ∀ i, i < n → ∃ t : Int, w.cell? ⟨b, off + i, none⟩ = some (.int .i64 t) ∧ (Lit.int .i64 t).wf = true := by
    intro i hin
    obtain ⟨cs, hf, hcl⟩ := hi i hin
    obtain ⟨v0, r0, rfl, ⟨x0, rfl, hw0⟩, hf0⟩ := fit_i hf
    refine ⟨x0, ?_, hw0⟩
    have := hcl 0 (by omega)
    simpa using this
  obtain ⟨l, hl, hs⟩ := list_of 0 n (fun i t => w.cell? ⟨b, off + i, none⟩ = some (.int .i64 t) ∧ (Lit.int .i64 t).wf = true) key
  refine ⟨l, ⟨hl.symm, .inr ⟨b, off, rfl, fun i hi => (hs i (by omega)).1, World.block_lt_of_cell? _ _ (hs 0 (by omega)).1⟩⟩, fun t ht => ?_⟩
  obtain ⟨i, hi, rfl⟩ := List.getElem_of_mem ht
  have := (hs i (by omega)).2
  rwa [List.getD_eq_getElem?_getD, List.getElem?_eq_getElem hi, Option.getD_some] at this
theorem is_cap {H : Type} {enc : TypeId × Value → H} {w : World} {fuel : Nat} {y : DataW H × List MemPlace} {a : Option Addr} {n c : Nat} (h : DataW.trod enc Try.prog w 0 (fun _ => true) true fuel 54 [.slice a n c] = some y) (hw : ∀ x ∈ DataW.weights Try.prog 54 y.1, x ≤ reachBytes) :
    n ≤ c := (slice_open (f := 5) (ks := [.i .i64]) Try.underlying54 (by kernel_rfl) (by kernel_rfl) (of_decide_eq_true (by kernel_rfl)) h hw).1
/-- types that came in. -/
theorem tp_open {H : Type} {enc : TypeId × Value → H} {w : World} {fuel : Nat} {y : DataW H × List MemPlace} {a : Option Addr} {n c : Nat} (h : DataW.trod enc Try.prog w 0 (fun _ => true) true fuel 57 [.slice a n c] = some y) (hw : ∀ x ∈ DataW.weights Try.prog 57 y.1, x ≤ reachBytes) :
    n * 24 ≤ 140737488351232 ∧ ∃ l : List Tp, TpArg w a n l := by
  obtain ⟨h1, h2, h3⟩ := slice_open (f := 6) (ks := [.sl 23]) Try.underlying57 (by kernel_rfl) (by kernel_rfl) (of_decide_eq_true (by kernel_rfl)) h hw
  have hc : Try.prog.cellsOf 25 = 1 := by kernel_rfl
  have hb : Try.prog.bytesOf 25 = 24 := by kernel_rfl
  rw [hb] at h2
  rw [hc] at h3
  refine ⟨h2, ?_⟩
  rcases h3 with rfl | ⟨b, off, rfl, hi⟩
  · exact ⟨[], tpArg_nil _ _⟩
  by_cases h0 : n = 0
  · subst h0; exact ⟨[], tpArg_nil _ _⟩
  have key : ∀ i, i < n → ∃ t : Tp, w.cell? ⟨b, off + i, none⟩ = some (.slice t.ad t.n t.c) ∧ TpOk w t := by
    intro i hin
    obtain ⟨cs, hf, hcl⟩ := hi i hin
    obtain ⟨v2, r2, rfl, ⟨p, m, q, fu, z, rfl, g1, g2⟩, hf2⟩ := fit_i hf
    obtain ⟨g3, ts, g4⟩ := ty_open g1 g2
    refine ⟨⟨p, m, q, ts⟩, ?_, g4, by show m ≤ _; omega⟩
    have := hcl 0 (by omega)
    simpa using this
  obtain ⟨l, hl, hs⟩ := list_of tp0 n (fun i t => w.cell? ⟨b, off + i, none⟩ = some (.slice t.ad t.n t.c) ∧ TpOk w t) key
  exact ⟨l, hl.symm, .inr ⟨b, off, rfl, fun i hi => hs i (by omega), World.block_lt_of_cell? _ _ (hs 0 (by omega)).1⟩⟩
/-- rows that came in. -/
theorem rw_open {H : Type} {enc : TypeId × Value → H} {w : World} {fuel : Nat} {y : DataW H × List MemPlace} {a : Option Addr} {n c : Nat} (h : DataW.trod enc Try.prog w 0 (fun _ => true) true fuel 58 [.slice a n c] = some y) (hw : ∀ x ∈ DataW.weights Try.prog 58 y.1, x ≤ reachBytes) :
    n * 40 ≤ 140737488351232 ∧ ∃ l : List Rw, RwArg w a n l := by
  obtain ⟨h1, h2, h3⟩ := slice_open (f := 5) (ks := [.i .i64, .i .i64, .i .i64, .i .i64, .i .i64]) Try.underlying58 (by kernel_rfl) (by kernel_rfl) (of_decide_eq_true (by kernel_rfl)) h hw
  have hc : Try.prog.cellsOf 28 = 5 := by kernel_rfl
  have hb : Try.prog.bytesOf 28 = 40 := by kernel_rfl
  rw [hb] at h2
  rw [hc] at h3
  refine ⟨h2, ?_⟩
  rcases h3 with rfl | ⟨b, off, rfl, hi⟩
  · exact ⟨[], rwArg_nil _ _⟩
  by_cases h0 : n = 0
  · subst h0; exact ⟨[], rwArg_nil _ _⟩
  have key : ∀ i, i < n → ∃ t : Rw, w.cell? ⟨b, off + i * 5, none⟩ = some (.int .i64 t.a) ∧ w.cell? ⟨b, off + i * 5 + 1, none⟩ = some (.int .i64 t.b) ∧ w.cell? ⟨b, off + i * 5 + 2, none⟩ = some (.int .i64 t.c) ∧ w.cell? ⟨b, off + i * 5 + 3, none⟩ = some (.int .i64 t.d) ∧ w.cell? ⟨b, off + i * 5 + 4, none⟩ = some (.int .i64 t.t) := by
    intro i hin
    obtain ⟨cs, hf, hcl⟩ := hi i hin
    obtain ⟨v0, r0, rfl, ⟨x0, rfl, _⟩, hf0⟩ := fit_i hf
    obtain ⟨v1, r1, rfl, ⟨x1, rfl, _⟩, hf1⟩ := fit_i hf0
    obtain ⟨v2, r2, rfl, ⟨x2, rfl, _⟩, hf2⟩ := fit_i hf1
    obtain ⟨v3, r3, rfl, ⟨x3, rfl, _⟩, hf3⟩ := fit_i hf2
    obtain ⟨v4, r4, rfl, ⟨x4, rfl, _⟩, hf4⟩ := fit_i hf3
    exact ⟨⟨x0, x1, x2, x3, x4⟩, hcl 0 (by omega), hcl 1 (by omega), hcl 2 (by omega), hcl 3 (by omega), hcl 4 (by omega)⟩
  obtain ⟨l, hl, hs⟩ := list_of rw0 n (fun i t => w.cell? ⟨b, off + i * 5, none⟩ = some (.int .i64 t.a) ∧ w.cell? ⟨b, off + i * 5 + 1, none⟩ = some (.int .i64 t.b) ∧ w.cell? ⟨b, off + i * 5 + 2, none⟩ = some (.int .i64 t.c) ∧ w.cell? ⟨b, off + i * 5 + 3, none⟩ = some (.int .i64 t.d) ∧ w.cell? ⟨b, off + i * 5 + 4, none⟩ = some (.int .i64 t.t)) key
  exact ⟨l, hl.symm, .inr ⟨b, off, rfl, fun i hi => hs i (by omega), World.block_lt_of_cell? _ _ (hs 0 (by omega)).1⟩⟩
set_option maxRecDepth 100000 in
set_option maxHeartbeats 4000000 in
theorem less_any (a a2 : Option Addr) (n c n2 c2 : Nat) (xs ks : List Int) (w : World) (h : Hid (IsArg w a n xs)) (h2 : Hid (IsArg w a2 n2 ks)) (hl : n ≤ 1099511627776) (hl2 : n2 ≤ 140737488351232) :
    Calls Try.prog 34 #[.slice a n c, .slice a2 n2 c2] w fun e w' => ∃ v, e = .returned v ∧ OwnI w.heap.size w' v (woI xs ks) ∧ Below w.heap.size w w' := by
  obtain ⟨rfl, hA⟩ := h.out
  obtain ⟨rfl, hA2⟩ := h2.out
  go_enter Try.func34, Try.ntmps34
  go_wp2_with fail
  go_loopw [5, 6] (fun v i wr => ∃ j : Nat, j ≤ xs.length ∧ i = .int .i64 j ∧ Below w.heap.size w wr ∧ Hid (OwnI w.heap.size wr v (woI (xs.take j) ks))) (fun _ i _ => xs.length - (intOf i).toNat)
  case atStart => exact ⟨0, by omega, rfl, Below.refl _ _, Lib.hid (OwnI.nil _ _)⟩
  case round =>
    rename World => wo
    obtain ⟨j, hj, rfl, hbw, hO⟩ := hrel
    have hws := hbw.size
    by_cases hlt : j < xs.length
    · obtain ⟨b, off, rfl, hs, hb⟩ := isArg_at hA hlt
      have hc := hs.below hbw hb j hlt
      have htk := Lib.hid (woI_take (ks := ks) hlt)
      have hwl := woI_len (xs.take j) ks
      rw [List.length_take] at hwl
      obtain ⟨Lw, hLw⟩ : ∃ z, woI (xs.take j) ks = z := ⟨_, rfl⟩
      rw [hLw] at htk hwl hO
      generalize xs.getD j 0 = x at hc htk
      have hbr : b < wo.heap.size := by omega
      have hlt' : (j : Int) < (xs.length : Int) := by omega
      have hj0 : (0 : Int) ≤ (j : Int) := by omega
      have hbw' := Lib.hid hbw
      clear hs hLw hbw
      go_wp2_with fail
      go_loopw [7, 8] (fun th i wr => ∃ m : Nat, m ≤ ks.length ∧ i = .int .i64 m ∧ th = .bool (hasI (ks.take m) x) ∧ Below wo.heap.size wo wr) (fun _ i _ => ks.length - (intOf i).toNat)
      case atStart => exact ⟨0, by omega, rfl, rfl, Below.refl _ _⟩
      case round =>
        obtain ⟨m, hm, rfl, rfl, hb2⟩ := hrel
        have hsz2 := hb2.size
        have hc2 := carry hb2 hbr hc
        have hbr2 : b < wr.heap.size := by omega
        by_cases hlm : m < ks.length
        · obtain ⟨b', off', rfl, hs', hb'⟩ := isArg_at hA2 hlm
          have hd := hs'.below (hbw'.out.trans (hb2.mono hws)) hb' m hlm
          have htk2 := Lib.hid (hasI_take hlm x)
          have hbr3 : b' < wr.heap.size := by omega
          generalize ks.getD m 0 = y at hd htk2
          generalize hasI (ks.take m) x = th at htk2 ⊢
          have hlm' : (m : Int) < (ks.length : Int) := by omega
          have hm0 : (0 : Int) ≤ (m : Int) := by omega
          clear hs'
          cases th
          · cases hq : (y == x)
            · go_wp2_with fail
              go_quiet (fail)
              go_wp2_with fail
              go_roundw
              case rel => exact ⟨m + 1, by omega, by go_num, by rw [htk2.out, hq]; rfl, by (repeat' (first | with_reducible exact Below.refl _ _ | with_reducible assumption | with_reducible apply Below.setCell | with_reducible apply Below.alloc | with_reducible apply Below.drew | with_reducible apply below_drewN | with_reducible exact Nat.le_refl _ | (simp; done) | (simp; omega) | omega | exact Nat.le_refl _))⟩
              case measure => simp [intOf]; omega
            · go_wp2_with fail
              go_quiet (fail)
              go_wp2_with fail
              go_roundw
              case rel => exact ⟨m + 1, by omega, by go_num, by rw [htk2.out, hq]; rfl, by (repeat' (first | with_reducible exact Below.refl _ _ | with_reducible assumption | with_reducible apply Below.setCell | with_reducible apply Below.alloc | with_reducible apply Below.drew | with_reducible apply below_drewN | with_reducible exact Nat.le_refl _ | (simp; done) | (simp; omega) | omega | exact Nat.le_refl _))⟩
              case measure => simp [intOf]; omega
          · go_wp2_with fail
            go_quiet (fail)
            go_wp2_with fail
            go_roundw
            case rel => exact ⟨m + 1, by omega, by go_num, by rw [htk2.out]; rfl, by (repeat' (first | with_reducible exact Below.refl _ _ | with_reducible assumption | with_reducible apply Below.setCell | with_reducible apply Below.alloc | with_reducible apply Below.drew | with_reducible apply below_drewN | with_reducible exact Nat.le_refl _ | (simp; done) | (simp; omega) | omega | exact Nat.le_refl _))⟩
            case measure => simp [intOf]; omega
        · have hth : hasI (ks.take m) x = hasI ks x := by rw [List.take_of_length_le (by omega)]
          rw [hth]
          have hB2 := Lib.hid (hbw'.out.trans (hb2.mono hws))
          have hO2 := Lib.hid (hO.out.below hb2)
          generalize hasI ks x = q at htk ⊢
          cases q
          · have htk2 := Lib.hid (show woI (xs.take (j + 1)) ks = Lw ++ [x] from htk.out)
            go_wp2_with (at_builtin; refine op_inh rfl (.tmp 35) (.tmp 40) _ wr w.heap.size (by omega) (by (repeat' (first | with_reducible exact Below.refl _ _ | with_reducible assumption | with_reducible apply Below.setCell | with_reducible apply Below.alloc | with_reducible apply Below.drew | with_reducible apply below_drewN | with_reducible exact Nat.le_refl _ | (simp; done) | (simp; omega) | omega | exact Nat.le_refl _))) _ Lw _ rfl rfl _ (by first | (simp; done) | (simp; omega)) rfl hO2.out (by omega) ?_)
            intro g3 c3 w3 hO3 hBar3 hM3
            have hO3' := Lib.hid hO3
            have hB3 := Lib.hid (hB2.out.trans (bar_belI hBar3 hO2.out (by omega)))
            clear hO3 hBar3 hM3
            go_wp2_with fail
            go_roundw
            case rel => exact ⟨j + 1, by omega, by go_num, hB3.out, Lib.hid (by rw [htk2.out]; exact hO3'.out)⟩
            case measure => simp [intOf]; omega
          · have htk2 := Lib.hid (show woI (xs.take (j + 1)) ks = Lw from by rw [htk.out]; simp)
            go_wp2_with fail
            go_roundw
            case rel => exact ⟨j + 1, by omega, by go_num, hB2.out, Lib.hid (by rw [htk2.out]; exact hO2.out)⟩
            case measure => simp [intOf]; omega
    · have hfin := Lib.hid (show OwnI w.heap.size wo _ (woI xs ks) from by have := hO.out; rwa [List.take_of_length_le (by omega)] at this)
      go_wp2_with fail
      go_ret
      exact ⟨_, rfl, hfin.out, hbw⟩
end Go.Proofs.Ytjhmdobmbajcgaa
