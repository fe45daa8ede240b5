/- TidyDeep holds for every row of numbers. No condition but that the listed package variable holds what the program's text lays. -/
import Derived.Test.YthpcbgljbpmafaaGreatDoorU17
import Derived.Test.YthpcbgljbpmafaaGreatDoorU30
import Derived.Test.YthpcbgljbpmafaaGreatDoorU36
import Derived.Test.YthpcbgljbpmafaaGreatDoorU37
import Derived.Test.YthpcbgljbpmafaaGreatDoorU46
import Derived.Test.YthpcbgljbpmafaaGreatDoorU47
import Derived.Test.YthpcbgljbpmafaaGreatDoorCards
import Derived.Test.YthpcbgljbpmafaaGreatDoorTie
import Derived.WalkKit
import Derived.ProofKit
import Derived.Deep.DeepHandedRow
set_option maxRecDepth 100000
set_option maxHeartbeats 8000000
namespace Go.Proofs.YthpcbgljbpmafaaGreatDoor.tidyDeep
open Go.ChangeShapes Go.WideShapes Go.ChangeAt Go.RowKit
open Go.ChangeMaps (open_string shut_string)
set_option linter.unusedVariables false
set_option linter.unusedSimpArgs false
theorem tabs {W : World} (h : laidMetH Tryz.prog Rows.tidyDeepRow.laid W) : Hid (errTy W) := Lib.hid (errTy_of h (.head _))
theorem bar_below {S : Nat → Prop} {w W W' : World} (h : Below w.heap.size w W) (hb : Bar S W W') (hs : ∀ k, S k → w.heap.size ≤ k) : Below w.heap.size w W' :=
 ⟨hb.os.trans h.os, hb.tape.trans h.tape, hb.output.trans h.output, Nat.le_trans h.size hb.size, fun k hk => (hb.block k (by have := h.size; omega) (fun e => by have := hs k e; omega)).trans (h.block k hk)⟩
def dpN (j : Nat) (ns : List Nd) (v p : Int) : List Nd := ns ++ [lfN 1 v 0, ⟨8, 2 * (j : Int), 2 * (j : Int) + 1, 0, p, ⟨#[]⟩, ⟨#[]⟩, ⟨#[]⟩, ⟨#[]⟩, 0⟩]
theorem dp_kept {j : Nat} {ns : List Nd} {s v p : Int} (h : Dp j ns s true) (hj : j < 200) (hv : 0 ≤ v ∧ v ≤ 63) (hp : p = 0 ∨ p = 1 ∨ p = 2 ∨ p = 3) : Dp (j + 1) (dpN j ns v p) s true := by
 have := dp_step h hj hv hp
 rw [if_pos (.inl rfl)] at this
 simpa [dpN] using this
theorem dp_bad {j : Nat} {ns : List Nd} {s v p : Int} (h : Dp j ns s false) (hj : j < 200) (hv : 0 ≤ v ∧ v ≤ 63) (hp : p = 0 ∨ p = 1 ∨ p = 2 ∨ p = 3) (hb : nxV p s v < 0 ∨ 1073741823 < nxV p s v) : Dp (j + 1) (dpN j ns v p) s true := by
 have := dp_step h hj hv hp
 rw [if_pos (.inr hb), decide_eq_true hb] at this
 simpa [dpN] using this
theorem dp_ok {j : Nat} {ns : List Nd} {s v p : Int} (h : Dp j ns s false) (hj : j < 200) (hv : 0 ≤ v ∧ v ≤ 63) (hp : p = 0 ∨ p = 1 ∨ p = 2 ∨ p = 3) (hb : ¬ (nxV p s v < 0 ∨ 1073741823 < nxV p s v)) : Dp (j + 1) (dpN j ns v p) (nxV p s v) false := by
 have := dp_step h hj hv hp
 rw [if_neg (fun h => by rcases h with h | h; cases h; exact hb h), decide_eq_false hb] at this
 simpa [dpN] using this
theorem dp_fin {j : Nat} {ns : List Nd} {s : Int} {kb : Bool} (h : Dp j ns s kb) : ((td ns (ns.length - 1) []).getD 0 nd0).k = 1 ∧ ((td ns (ns.length - 1) []).getD 0 nd0).n = s ∧ (kb = false → (td ns (ns.length - 1) []).length = 1) ∧ (kb = true → 1 < (td ns (ns.length - 1) []).length) := by
 cases kb with
 | false =>
  obtain ⟨y, hy, h1, h2⟩ := h.no rfl
  rw [hy]; exact ⟨h1, h2, (fun _ => rfl), (fun h => by cases h)⟩
 | true =>
  obtain ⟨y, r, z, hy, h1, h2, _⟩ := h.yes rfl
  rw [hy]; exact ⟨h1, h2, (fun h => by cases h), (fun _ => by simp)⟩
theorem dp_numbers (x : Int) : ∃ v q p : Int, bits .and .i64 x 63 = v ∧ (0 ≤ v ∧ v ≤ 63) ∧ bits .and .i64 (x / 64) 1023 = q ∧ q.tmod 4 = p ∧ (p = 0 ∨ p = 1 ∨ p = 2 ∨ p = 3) := by
 refine ⟨x % 64, (x / 64) % 1024, _, and63 x, by omega, and1023 _, rfl, ?_⟩
 have h0 : 0 ≤ (x / 64) % 1024 := Int.emod_nonneg _ (by omega)
 rw [Int.tmod_eq_emod_of_nonneg h0]
 omega
theorem nx_bd {p s v : Int} (hs : 0 ≤ s ∧ s ≤ 1073741823) (hv : 0 ≤ v ∧ v ≤ 63) (hp : p = 0 ∨ p = 1 ∨ p = 2 ∨ p = 3) : -100 ≤ s * v ∧ s * v ≤ 100000000000 ∧ 0 ≤ s.tdiv v ∧ s.tdiv v ≤ 1073741823 := by
 have h1 : s * v ≤ 1073741823 * 63 := Int.mul_le_mul hs.2 hv.2 hv.1 (by omega)
 have h2 : 0 ≤ s * v := Int.mul_nonneg hs.1 hv.1
 have h3 : 0 ≤ s.tdiv v := Int.tdiv_nonneg hs.1 hv.1
 have h4 : s.tdiv v ≤ s := by
  rw [Int.tdiv_eq_ediv_of_nonneg hs.1]
  exact Int.ediv_le_self _ hs.1
 exact ⟨by omega, by omega, h3, by omega⟩
def DpR (w : World) (ln : Nat) (nv sv kv iv : Value) (wr : World) : Prop := ∃ (j : Nat) (ns : List Nd) (s : Int) (kb : Bool), j ≤ ln ∧ j ≤ 12 ∧ iv = .int .i64 j ∧ sv = .int .i64 s ∧ kv = .bool kb ∧ Below w.heap.size w wr ∧ Hid (OwnN w.heap.size wr nv ns) ∧ Hid (Dp j ns s kb)
theorem walk_in (ad : Option Addr) (ln cp : Nat) (l : List Int) (w : World) (hll : Hid (l.length = ln)) (hl : ln ≤ 9223372036854775807) (hat : Hid (∀ i, i < ln → ∃ b off, ad = some ⟨b, off, none⟩ ∧ b < w.heap.size ∧ w.cell? ⟨b, off + i, none⟩ = some (.int .i64 (l.getD i 0)))) (hg : Hid (errTy w)) :
  Calls Tryz.prog 6 #[.slice ad ln cp] w fun e w' => e = .returned (.bool true) ∧ Below w.heap.size w w' := by
 go_enter Tryz.func6, Tryz.ntmps6
 go_wp2_with fail
 refine (awake25_any _ hg).mono ?_
 rintro e w1 ⟨rfl, hb1⟩
 have hB := Lib.hid hb1
 have hs1 := hb1.size
 clear hb1
 have hown := own_litN (B := w.heap.size) w1 #[.int .i64 1, .int .i64 0, .int .i64 0, .int .i64 0, .int .i64 1, .string ⟨#[]⟩, .string ⟨#[]⟩, .string ⟨#[]⟩, .string ⟨#[]⟩, .int .i64 0] [lfN 1 1 0] rfl 1 rfl (by omega) (by omega)
 obtain ⟨w2, hw2⟩ : ∃ W, w1.alloc (.cells #[.int .i64 1, .int .i64 0, .int .i64 0, .int .i64 0, .int .i64 1, .string ⟨#[]⟩, .string ⟨#[]⟩, .string ⟨#[]⟩, .string ⟨#[]⟩, .int .i64 0] 45) = W := ⟨_, rfl⟩
 have hb2 : Below w1.heap.size w1 w2 := by rw [← hw2]; exact below_alc _ _
 rw [hw2] at hown
 have hw2 := Lib.hid hw2
 have hB := Lib.hid (belT hB.out hb2)
 have hown := Lib.hid hown
 have hd0 := Lib.hid dp_zero
 clear hb2
 go_upto_region 4 with fail
 go_wp2_with fail
 go_loopw [3, 4, 5, 6] (fun nv sv kv iv wr => DpR w ln nv sv kv iv wr) (fun _ _ _ iv _ => 12 - (intOf iv).toNat)
 case atStart => exact ⟨0, [lfN 1 1 0], 1, false, by omega, by omega, rfl, rfl, rfl, hB.out, hown, hd0⟩
 case round =>
  obtain ⟨j, ns, s, kb, hj, hj12, rfl, rfl, rfl, hbw, hN, hD⟩ := hrel
  have hws := hbw.size
  clear hown hd0 hB
  by_cases hlt : j < ln ∧ j < 12
  ·obtain ⟨h1, h2⟩ := hlt
   obtain ⟨b, off, rfl, hbl, hc⟩ := hat.out j h1
   have hc := (hbw.cell (p := ⟨b, off + j, none⟩) hbl).trans hc
   generalize l.getD j 0 = x at hc
   obtain ⟨v, q, p, hx1, hv, hx2, hx3, hp⟩ := dp_numbers x
   have hj1 : (j : Int) < (ln : Int) := by omega
   have hj2 : (j : Int) < 12 := by omega
   have hj0 : (0 : Int) ≤ (j : Int) := by omega
   have hblw : b < wr.heap.size := by omega
   have hbwh := Lib.hid hbw
   go_upto_region 8 with fail
   go_quiet (fail)
   have hq0 : Below wr.heap.size wr (wr.drewN nq) := by (repeat' (first | (with_reducible first | exact bR _ _ | assumption | apply bS | apply bA | apply bD | apply bN | exact bL _) | (simp; done) | (simp; omega) | omega | exact bL _))
   have hNq := Lib.hid (hN.out.below hq0)
   have hBq := Lib.hid (belT hbwh.out hq0)
   generalize wr.drewN nq = wq at hNq hBq
   have hsq := hBq.out.size
   clear hN hbw hbwh hc hx1 hx2 hx3 hblw hws hq0
   have hl25 : ns.length ≤ 25 := by have := hD.out.len; omega
   have hlen2 : (ns.length + [lfN 1 v 0, (⟨8, 2 * (j : Int), 2 * (j : Int) + 1, 0, p, ⟨#[]⟩, ⟨#[]⟩, ⟨#[]⟩, ⟨#[]⟩, 0⟩ : Nd)].length) * 112 ≤ 140737488355328 := by show (ns.length + 2) * 112 ≤ _; omega
   go_upto_region 10 with (at_builtin; refine op_ndb rfl (.tmp 38) (.tmp 48) wq w.heap.size hsq _ ns [lfN 1 v 0, ⟨8, 2 * (j : Int), 2 * (j : Int) + 1, 0, p, ⟨#[]⟩, ⟨#[]⟩, ⟨#[]⟩, ⟨#[]⟩, 0⟩] _ rfl rfl 2 rfl rfl rfl hNq.out hlen2 ?_; intro v4 w4 hN4 hbar4)
   have hB4 := Lib.hid (bar_below hBq.out hbar4 (fun k e => (own_lt hNq.out k e).1))
   have hN4 : Hid (OwnN w.heap.size w4 v4 (dpN j ns v p)) := Lib.hid hN4
   clear hbar4 hNq hBq
   cases kb with
   | true =>
    have hD2 := Lib.hid (dp_kept hD.out (by omega) hv hp)
    go_wp2_with fail
    go_roundw
    case rel => exact ⟨j + 1, dpN j ns v p, s, true, by omega, by omega, by go_num, rfl, rfl, hB4.out, hN4, hD2⟩
    case measure => simp [intOf]; omega
   | false =>
    have hs := hD.out.s0
    obtain ⟨m1, m2, t1, t2⟩ := nx_bd hs hv hp
    have hDh := hD
    clear hD
    have kbad := Lib.hid fun hb => dp_bad hDh.out (by omega) hv hp hb
    have kok := Lib.hid fun hb => dp_ok hDh.out (by omega) hv hp hb
    go_upto_region 11 with fail
    rcases hp with rfl | rfl | rfl | rfl
    ·obtain ⟨nx, hnx⟩ : ∃ r, s + v = r := ⟨_, rfl⟩
     have hnn : nxV 0 s v = nx := by rw [← hnx]; unfold nxV; (first | rfl | (simp; omega))
     rw [hnn] at kbad kok
     have hw64 : wrap64 nx = nx := IntWalk.wrap64_in _ (by omega)
     clear hnn m1 m2 t1 t2
     by_cases hbad : nx < 0 ∨ 1073741823 < nx
     ·have hD2 := Lib.hid (kbad.out hbad)
      clear kbad kok
      by_cases hb1 : nx < 0
      ·go_wp2_with fail
       go_roundw
       case rel => exact ⟨j + 1, _, s, true, by omega, by omega, by go_num, rfl, rfl, hB4.out, hN4, hD2⟩
       case measure => simp [intOf]; omega
      ·have hb2 : 1073741823 < nx := hbad.resolve_left hb1
       go_wp2_with fail
       go_roundw
       case rel => exact ⟨j + 1, _, s, true, by omega, by omega, by go_num, rfl, rfl, hB4.out, hN4, hD2⟩
       case measure => simp [intOf]; omega
     ·have hD2 := Lib.hid (kok.out hbad)
      clear kbad kok
      have hb1 : ¬ nx < 0 := fun h => hbad (.inl h)
      have hb2 : ¬ 1073741823 < nx := fun h => hbad (.inr h)
      clear hbad
      go_wp2_with fail
      go_roundw
      case rel => exact ⟨j + 1, _, nx, false, by omega, by omega, by go_num, rfl, rfl, hB4.out, hN4, hD2⟩
      case measure => simp [intOf]; omega
    ·obtain ⟨nx, hnx⟩ : ∃ r, s - v = r := ⟨_, rfl⟩
     have hnn : nxV 1 s v = nx := by rw [← hnx]; unfold nxV; (first | rfl | (simp; omega))
     rw [hnn] at kbad kok
     have hw64 : wrap64 nx = nx := IntWalk.wrap64_in _ (by omega)
     clear hnn m1 m2 t1 t2
     by_cases hbad : nx < 0 ∨ 1073741823 < nx
     ·have hD2 := Lib.hid (kbad.out hbad)
      clear kbad kok
      by_cases hb1 : nx < 0
      ·go_wp2_with fail
       go_roundw
       case rel => exact ⟨j + 1, _, s, true, by omega, by omega, by go_num, rfl, rfl, hB4.out, hN4, hD2⟩
       case measure => simp [intOf]; omega
      ·have hb2 : 1073741823 < nx := hbad.resolve_left hb1
       go_wp2_with fail
       go_roundw
       case rel => exact ⟨j + 1, _, s, true, by omega, by omega, by go_num, rfl, rfl, hB4.out, hN4, hD2⟩
       case measure => simp [intOf]; omega
     ·have hD2 := Lib.hid (kok.out hbad)
      clear kbad kok
      have hb1 : ¬ nx < 0 := fun h => hbad (.inl h)
      have hb2 : ¬ 1073741823 < nx := fun h => hbad (.inr h)
      clear hbad
      go_wp2_with fail
      go_roundw
      case rel => exact ⟨j + 1, _, nx, false, by omega, by omega, by go_num, rfl, rfl, hB4.out, hN4, hD2⟩
      case measure => simp [intOf]; omega
    ·obtain ⟨nx, hnx⟩ : ∃ r, s * v = r := ⟨_, rfl⟩
     have hnn : nxV 2 s v = nx := by rw [← hnx]; unfold nxV; (first | rfl | (simp; omega))
     rw [hnn] at kbad kok
     have hw64 : wrap64 nx = nx := IntWalk.wrap64_in _ (by omega)
     clear hnn m1 m2 t1 t2
     by_cases hbad : nx < 0 ∨ 1073741823 < nx
     ·have hD2 := Lib.hid (kbad.out hbad)
      clear kbad kok
      by_cases hb1 : nx < 0
      ·go_wp2_with fail
       go_roundw
       case rel => exact ⟨j + 1, _, s, true, by omega, by omega, by go_num, rfl, rfl, hB4.out, hN4, hD2⟩
       case measure => simp [intOf]; omega
      ·have hb2 : 1073741823 < nx := hbad.resolve_left hb1
       go_wp2_with fail
       go_roundw
       case rel => exact ⟨j + 1, _, s, true, by omega, by omega, by go_num, rfl, rfl, hB4.out, hN4, hD2⟩
       case measure => simp [intOf]; omega
     ·have hD2 := Lib.hid (kok.out hbad)
      clear kbad kok
      have hb1 : ¬ nx < 0 := fun h => hbad (.inl h)
      have hb2 : ¬ 1073741823 < nx := fun h => hbad (.inr h)
      clear hbad
      go_wp2_with fail
      go_roundw
      case rel => exact ⟨j + 1, _, nx, false, by omega, by omega, by go_num, rfl, rfl, hB4.out, hN4, hD2⟩
      case measure => simp [intOf]; omega
    ·by_cases hv0 : 0 < v
     ·obtain ⟨nx, hnx⟩ : ∃ r, s.tdiv v = r := ⟨_, rfl⟩
      have hnn : nxV 3 s v = nx := by rw [← hnx]; unfold nxV; (first | rfl | (simp; omega))
      rw [hnn] at kbad kok
      have hw64 : wrap64 nx = nx := IntWalk.wrap64_in _ (by omega)
      clear hnn m1 m2 t1 t2
      by_cases hbad : nx < 0 ∨ 1073741823 < nx
      ·have hD2 := Lib.hid (kbad.out hbad)
       clear kbad kok
       by_cases hb1 : nx < 0
       ·go_wp2_with fail
        go_roundw
        case rel => exact ⟨j + 1, _, s, true, by omega, by omega, by go_num, rfl, rfl, hB4.out, hN4, hD2⟩
        case measure => simp [intOf]; omega
       ·have hb2 : 1073741823 < nx := hbad.resolve_left hb1
        go_wp2_with fail
        go_roundw
        case rel => exact ⟨j + 1, _, s, true, by omega, by omega, by go_num, rfl, rfl, hB4.out, hN4, hD2⟩
        case measure => simp [intOf]; omega
      ·have hD2 := Lib.hid (kok.out hbad)
       clear kbad kok
       have hb1 : ¬ nx < 0 := fun h => hbad (.inl h)
       have hb2 : ¬ 1073741823 < nx := fun h => hbad (.inr h)
       clear hbad
       go_wp2_with fail
       go_roundw
       case rel => exact ⟨j + 1, _, nx, false, by omega, by omega, by go_num, rfl, rfl, hB4.out, hN4, hD2⟩
       case measure => simp [intOf]; omega
     ·have hnn : nxV 3 s v = -1 := by unfold nxV; (simp; omega)
      rw [hnn] at kbad
      have hD2 := Lib.hid (kbad.out (.inl (by decide)))
      clear kbad kok hnn m1 m2 t1 t2
      go_wp2_with fail
      go_roundw
      case rel => exact ⟨j + 1, _, s, true, by omega, by omega, by go_num, rfl, rfl, hB4.out, hN4, hD2⟩
      case measure => simp [intOf]; omega
  ·by_cases hlt1 : j < ln
   ·have hn12 : ¬ (j : Int) < 12 := by omega
    have hj1 : (j : Int) < (ln : Int) := by omega
    clear hlt
    obtain ⟨f1, f2, f3, f4⟩ := dp_fin hD.out
    have hm := hD.out.may
    have hl25 : ns.length ≤ 25 := by have := hD.out.len; omega
    have hl1 : 1 ≤ ns.length := by have := hD.out.len; omega
    obtain ⟨a2, c2, rfl⟩ := own_sl hN.out
    have kT := Lib.hid ((tidy_any none a2 0 0 ns.length c2 [] ns wr (Lib.hid (oarg0 _ _)) (Lib.hid or_sz0) (by omega) (Lib.hid hN.out.arg) (Lib.hid (smay_sz hm)) (by omega) (Lib.hid (errTy_below hg.out hbw))).mono fun e w' h => td_ok h hm)
    obtain ⟨q, hq⟩ : ∃ q, td ns (ns.length - 1) [] = q := ⟨_, rfl⟩
    rw [hq] at f1 f2 f3 f4 kT
    have hbwh := Lib.hid hbw
    clear hm hD hN hq hl25 hbw
    go_wp2_with fail
    refine kT.out.mono ?_
    rintro e w5 ⟨ao, co, an, cn, rfl, hb5, -, hq5⟩
    clear kT
    have hB5 := Lib.hid (belT hbwh.out hb5)
    have hql : 1 ≤ q.length := by
     cases kb with
     | false => rw [f3 rfl]; exact Nat.le_refl _
     | true => have := f4 rfl; omega
    obtain ⟨g, hge, _, hgs, _, hgc, hS⟩ := own_at hq5 (p := 0) (by omega)
    subst hge
    have t1 := (hS 0 (by omega)).1
    have t2 := (hS 0 (by omega)).2.2.2.2.1
    rw [f1] at t1
    rw [f2] at t2
    simp only [Nat.zero_add, Nat.zero_mul, Nat.add_zero] at t1 t2
    clear f1 f2 hS hq5 hb5
    have hqi : ¬ (q.length : Int) < 1 := by omega
    have hq0 : (0 : Int) < (q.length : Int) := by omega
    cases kb with
    | false =>
     have hq1 := f3 rfl
     clear f3 f4
     rw [hq1] at hqi hq0 ⊢
     clear hql hq1
     go_wp2_with ((go_at_call 11; refine (num_any _ _ (by omega) (by omega)).mono ?_; rintro e w' ⟨rfl, rfl⟩))
     go_ret
     exact ⟨rfl, belA _ hB5.out⟩
    | true =>
     have hq1 : (1 : Int) < (q.length : Int) := by have := f4 rfl; omega
     clear f3 f4 hql
     go_wp2_with ((go_at_call 11; refine (num_any _ _ (by omega) (by omega)).mono ?_; rintro e w' ⟨rfl, rfl⟩))
     go_ret
     exact ⟨rfl, belA _ hB5.out⟩
   ·have hj1 : ¬ (j : Int) < (ln : Int) := by omega
    clear hlt hlt1
    obtain ⟨f1, f2, f3, f4⟩ := dp_fin hD.out
    have hm := hD.out.may
    have hl25 : ns.length ≤ 25 := by have := hD.out.len; omega
    have hl1 : 1 ≤ ns.length := by have := hD.out.len; omega
    obtain ⟨a2, c2, rfl⟩ := own_sl hN.out
    have kT := Lib.hid ((tidy_any none a2 0 0 ns.length c2 [] ns wr (Lib.hid (oarg0 _ _)) (Lib.hid or_sz0) (by omega) (Lib.hid hN.out.arg) (Lib.hid (smay_sz hm)) (by omega) (Lib.hid (errTy_below hg.out hbw))).mono fun e w' h => td_ok h hm)
    obtain ⟨q, hq⟩ : ∃ q, td ns (ns.length - 1) [] = q := ⟨_, rfl⟩
    rw [hq] at f1 f2 f3 f4 kT
    have hbwh := Lib.hid hbw
    clear hm hD hN hq hl25 hbw
    go_wp2_with fail
    refine kT.out.mono ?_
    rintro e w5 ⟨ao, co, an, cn, rfl, hb5, -, hq5⟩
    clear kT
    have hB5 := Lib.hid (belT hbwh.out hb5)
    have hql : 1 ≤ q.length := by
     cases kb with
     | false => rw [f3 rfl]; exact Nat.le_refl _
     | true => have := f4 rfl; omega
    obtain ⟨g, hge, _, hgs, _, hgc, hS⟩ := own_at hq5 (p := 0) (by omega)
    subst hge
    have t1 := (hS 0 (by omega)).1
    have t2 := (hS 0 (by omega)).2.2.2.2.1
    rw [f1] at t1
    rw [f2] at t2
    simp only [Nat.zero_add, Nat.zero_mul, Nat.add_zero] at t1 t2
    clear f1 f2 hS hq5 hb5
    have hqi : ¬ (q.length : Int) < 1 := by omega
    have hq0 : (0 : Int) < (q.length : Int) := by omega
    cases kb with
    | false =>
     have hq1 := f3 rfl
     clear f3 f4
     rw [hq1] at hqi hq0 ⊢
     clear hql hq1
     go_wp2_with ((go_at_call 11; refine (num_any _ _ (by omega) (by omega)).mono ?_; rintro e w' ⟨rfl, rfl⟩))
     go_ret
     exact ⟨rfl, belA _ hB5.out⟩
    | true =>
     have hq1 : (1 : Int) < (q.length : Int) := by have := f4 rfl; omega
     clear f3 f4 hql
     go_wp2_with ((go_at_call 11; refine (num_any _ _ (by omega) (by omega)).mono ?_; rintro e w' ⟨rfl, rfl⟩))
     go_ret
     exact ⟨rfl, belA _ hB5.out⟩
theorem walk {H : Type} {enc : TypeId × Value → H} (ad : Option Addr) (ln cp : Nat) (w : World) (f : ∃ fuel y, DataW.trod enc Tryz.prog w 0 (fun _ => true) true fuel 47 [.slice ad ln cp] = some y ∧ ∀ x ∈ DataW.weights Tryz.prog 47 y.1, x ≤ reachBytes) (hg : Hid (errTy w)) :
  Calls Tryz.prog 6 #[.slice ad ln cp] w fun e w' => e = .returned (.bool true) ∧ Below w.heap.size w w' := by
 obtain ⟨fuel, y, hf, hwt⟩ := f
 obtain ⟨hl, l, hll, ha⟩ := ints_open Tryz.underlying47 Tryz.underlying3 (by kernel_rfl) hf
 refine walk_in ad ln cp l w (Lib.hid hll) (by omega) (Lib.hid fun i hi => ?_) hg
 rcases ha with h0 | ⟨b, off, rfl, hs, hbl⟩
 ·omega
 ·exact ⟨b, off, rfl, hbl, hs i (by omega)⟩
theorem own : ownKnob Tryz.prog.godebug = none := by kernel_rfl
theorem laidOut : laidOutB Tryz.prog = true := by kernel_rfl
theorem contract (H : Type) (enc : TypeId × Value → H) (W : World) (base : Nat) (args : Array Value) (ds gs : List (DataW H)) (before : List MemPlace)
  (hval0 : ∀ (j : Nat) t v, Tryz.f6.params[j]? = some t → args[j]? = some v → Value.okWide Tryz.prog W .any base t v)
  (hW : DataW.Whole enc Tryz.prog Tryz.f6.params.toList Rows.tidyDeepSpec.vars false W args.toList ds gs before)
  (hsz0 : (DataW.weightsEach Tryz.prog (Tryz.f6.params.toList ++ Rows.tidyDeepSpec.plain.varTypes Tryz.prog) (ds ++ gs)).all (· ≤ reachBytes) = true)
  (hL : laidMetH Tryz.prog Rows.tidyDeepRow.laid W)
  : Calls Tryz.prog 6 args W fun e W' => ∃ v, e = .returned v ∧ Rows.tidyDeepSpec.post enc Tryz.prog Tryz.f6 false true false false W args v W' := by
 have hval : ∀ (j : Nat) t v, Tryz.f6.params[j]? = some t → args[j]? = some v → Value.okWide Tryz.prog W .any base t v := hval0
 have hsz : (DataW.weightsEach Tryz.prog (Tryz.f6.params.toList ++ Rows.tidyDeepSpec.plain.varTypes Tryz.prog) (ds ++ gs)).all (· ≤ reachBytes) = true := hsz0
 have hW' := hW
 obtain ⟨p, q, hA0, hV, rfl, hfz, hnd⟩ := hW
 have hA : DataW.TrodAll enc Tryz.prog W 0 (fun _ => true) true Tryz.f6.params.toList args.toList ds p := hA0
 rw [Tryz.params6] at hA hval hsz
 obtain ⟨v0, vs0, d0, ds0, p0, q0, hargs, rfl, rfl, h0, r0⟩ := trodAll_cons hA
 obtain ⟨rfl, rfl, rfl⟩ := trodAll_nil r0
 obtain rfl : args = #[v0] := by cases args; simp_all
 obtain ⟨rfl, rfl⟩ := trodVars_none hV
 have k0 := h0
 have lt0 : ∀ x ∈ p0, x.block < W.heap.size := by obtain ⟨m, hm⟩ := k0; exact DataW.trod_lt m _ _ _ hm
 obtain ⟨a0, n0, c0, rfl⟩ := okWide_slice Tryz.underlying47 (hval 0 47 v0 rfl rfl)
 have f0 : ∃ fuel y, DataW.trod enc Tryz.prog W 0 (fun _ => true) true fuel 47 [.slice a0 n0 c0] = some y ∧ ∀ x ∈ DataW.weights Tryz.prog 47 y.1, x ≤ reachBytes := by obtain ⟨fu, hf⟩ := h0; exact ⟨fu, _, by simpa [Value.cells] using hf, sized_of hsz (j := 0) (t := 47) rfl rfl⟩
 clear hA0 hval0
 refine (walk a0 n0 c0 W f0 (tabs hL)).mono fun e W' ⟨he, bel⟩ => ?_
 subst he
 exact ⟨_, rfl, _, _, _, [], _, [], hW', trodAll_mk1 (shut_bool Tryz.underlying4 _), (trodAll_cons_mk (Below.trod laidOut (by kernel_rfl) (of_decide_eq_true (by kernel_rfl)) k0 bel lt0) trodAll_mk0), rfl, bel.frame _, fun h => by cases h⟩
theorem laid_met (os : Os) : laidMetH Tryz.prog Rows.tidyDeepRow.laid ((handleWorld os).forCall (fun _ _ => 0) ⟨#[], #[.slice none 0 0], []⟩).memory := laidMetH_of_parts (laidMet_nil _ _) (by kernel_rfl)
theorem reads (os : Os) {H : Type} (enc : TypeId × Value → H) : ∃ places, DataW.whole enc Tryz.prog ((handleWorld os).forCall (fun _ _ => 0) ⟨#[], #[.slice none 0 0], []⟩).memory Tryz.f6.params.toList Rows.tidyDeepSpec.vars false #[(.slice none 0 0 : Value)].toList 8 = some ([.nil], [], places) := ⟨[], by kernel_rfl⟩
theorem lifted (os : Os) (started : os.Started) (H : Type) (enc : TypeId × Value → H) (F : Stop.Interp) :
  ReturnsInHanded {} Tryz.checked os 6 .any ((OpenSpec.ofChange Rows.tidyDeepSpec).preRow enc Tryz.prog Tryz.f6 Rows.tidyDeepRow.domain false Rows.tidyDeepRow.laid) (((OpenSpec.ofChange Rows.tidyDeepSpec).at F).post enc Tryz.prog Tryz.f6 false true false false) := by
 obtain ⟨places, hx⟩ := reads os enc
 refine returnsInHanded_of_row (C := Tryz.checked) (s := (OpenSpec.ofChange Rows.tidyDeepSpec)) own started (by kernel_rfl) Tryz.func6
  (witness_row_at (enc := enc) (C := Tryz.checked) false (handleWorld os) #[.slice none 0 0] rfl (by kernel_rfl) (by kernel_rfl) (by kernel_rfl)
   (OpenSpec.preRow_of_cond 8 hx (by kernel_rfl) (fun k hk => by cases hk) (by kernel_rfl) (laid_met os))) ?_
 intro W base args ds gs before hval hW _ hcnd hsz hL _ _
 exact contract H enc W base args ds gs before hval hW hsz  hL
theorem said : Rows.TidyDeepSaid :=
 OpenClaim.holds_of_cond 6 Tryz.f6 rfl rfl rfl rfl rfl rfl rfl ⟨rfl, rfl, rfl, rfl, rfl⟩ rfl rfl rfl rfl rfl (by kernel_rfl) Tryz.func6 (by kernel_rfl)
  (of_decide_eq_true (by kernel_rfl)) (by unfold Func.isWrapper; first | (rw [if_pos (by decide +kernel)]; kernel_rfl) | (rw [if_neg (by decide +kernel)]; exact ⟨rfl, rfl⟩))
  (fun os started H enc _ F => by rw [OpenClaim.pre_eq_preRow]; exact lifted os started H enc F)
theorem plain (f : FuncId) (fn : Func) (hf : Tryz.pinned.checked.prog.funcNamed "trammel/trammellaw25.TidyDeep" = some f) (hfn : Tryz.pinned.checked.prog.funcs[f]? = some fn) :
  true = Tryz.pinned.checked.prog.looks [] ∧ ∀ (j : Nat) t, fn.params[j]? = some t → Tryz.pinned.checked.prog.wantsStandIn t = false := by
 obtain rfl : f = 6 := Option.some.inj ((show Tryz.prog.funcNamed "trammel/trammellaw25.TidyDeep" = some 6 by kernel_rfl).symm.trans hf) |>.symm
 obtain rfl : fn = Tryz.f6 := (Option.some.inj (Tryz.func6.symm.trans hfn)).symm
 refine ⟨by kernel_rfl, fun j t ht => ?_⟩
 rw [Tryz.params6] at ht
 have hm := Array.mem_of_getElem? ht
 have hm2 : t ∈ ([47] : List Nat) := by simpa using hm
 simp only [List.mem_cons, List.not_mem_nil, or_false] at hm2
 subst hm2; exact (show Tryz.prog.wantsStandIn 47 = false by kernel_rfl)
theorem proved : Rows.TidyDeepCardSaid :=
 Claim7.holds_tied_plain_at .later [] _ _ _ _ said (fun _ h => by cases h) (by kernel_rfl) (fun _ h => by cases h) tidyDeep_row_tie rfl ⟨rfl, rfl⟩ (by kernel_rfl) rfl plain (by kernel_rfl)
end Go.Proofs.YthpcbgljbpmafaaGreatDoor.tidyDeep
