/- The reference's engine for targets: its run. -/
import Derived.Test.YtnjalpcmjkahkaaZt44
set_option maxRecDepth 100000
set_option maxHeartbeats 8000000
namespace Go.Proofs.Ytnjalpcmjkahkaa
open Go.RowKit
set_option linter.unusedVariables false
set_option linter.unusedSimpArgs false
theorem sim_nil {ts : List Tg} {fur : List Int} {m : RM} {v : NV} (h : MSim ts fur m (.gv [] v)) : rOver m = some (outR v.er) := by
 cases m with
 | ev _ _ _ => exact h.elim
 | en _ _ => exact h.elim
 | gv s u =>
  obtain ⟨rfl, _, h2⟩ := h
  cases s with
  | nil => rfl
  | cons _ _ => exact h2.elim
theorem sim_ev {ts : List Tg} {fur : List Int} {m : RM} {s : List NF} {n : Int} {e : NV} (h : MSim ts fur m (.ev s n e)) : rOver m = none ∧ rLen m = s.length := by
 cases m with
 | ev s0 n0 e0 => exact ⟨rfl, h.2.2.2.2.len⟩
 | en _ _ => exact h.elim
 | gv s u => exact h.elim
theorem sim_gv {ts : List Tg} {fur : List Int} {m : RM} {f : NF} {s : List NF} {v : NV} (h : MSim ts fur m (.gv (f :: s) v)) : rOver m = none ∧ rLen m = (f :: s).length := by
 cases m with
 | ev _ _ _ => exact h.elim
 | en _ _ => exact h.elim
 | gv s0 u =>
  obtain ⟨rfl, _, h2⟩ := h
  cases s0 with
  | nil => exact h2.elim
  | cons g s0 => exact ⟨rfl, h2.len⟩
theorem sim_en {ts : List Tg} {fur : List Int} {m : RM} {k n : Int} (h : MSim ts fur m (.en k n)) : rOver m = some (k, n) := by
 cases m with
 | ev _ _ _ => exact h.elim
 | gv _ _ => exact h.elim
 | en k0 n0 => obtain ⟨rfl, rfl⟩ := h; rfl
theorem mx_on {w0 : Gh} {ts : List Tg} {B G : Nat} {tv : Value} {fur : List Int} {m : RM} {m' : NM} {w : World} (h : MX w0 ts B G tv m' w) (hS : MSim ts fur m m') (hne : ∀ k n, m' ≠ .en k n) (hno : rOver m = none) :
  ∃ ev a k c, w.cell? ⟨G, 2, none⟩ = some (.bool ev) ∧ w.cell? ⟨G, 1, none⟩ = some (.slice a k c) ∧ w.cell? ⟨G, 12, none⟩ = some (.bool false) ∧ k = rLen m ∧ G < w.heap.size ∧ (ev = false → ((k : Int) == 0) = false) := by
 obtain ⟨sv, c, l, rfl, hx, hv⟩ := h
 obtain ⟨a, cp, rfl⟩ := own_slX hx.own
 cases m' with
 | ev s n e =>
  have := (sim_ev hS).2
  exact ⟨true, a, l.length, cp, by rw [← hv.2.1]; exact hx.ec.c2, hx.ec.c1, by rw [← hv.1]; exact hx.ec.c12, by rw [this, hv.2.2.2.1.len], hx.ec.lt, fun h => by cases h⟩
 | gv s v =>
  cases s with
  | nil => rw [sim_nil hS] at hno; cases hno
  | cons f s =>
   have := (sim_gv hS).2
   have hl := hv.2.2.1.len
   exact ⟨false, a, l.length, cp, by rw [← hv.2.1]; exact hx.ec.c2, hx.ec.c1, by rw [← hv.1]; exact hx.ec.c12, by rw [this, hl], hx.ec.lt, fun _ => by rw [hl, List.length_cons, beq_eq_false_iff_ne]; omega⟩
 | en k n => exact absurd rfl (hne k n)
theorem mx_over {w0 : Gh} {ts : List Tg} {B G : Nat} {tv : Value} {v : NV} {w : World} (h : MX w0 ts B G tv (.gv [] v) w) :
  ∃ c a cp, w.cell? ⟨G, 2, none⟩ = some (.bool false) ∧ w.cell? ⟨G, 1, none⟩ = some (.slice a 0 cp) ∧ G < w.heap.size ∧ ThG w G c ∧ VR w v (.inl c) := by
 obtain ⟨sv, c, l, rfl, hx, hv⟩ := h
 obtain rfl : l = [] := hv.2.2.1
 obtain ⟨a, cp, rfl⟩ := own_slX hx.own
 exact ⟨c.th, a, cp, by rw [← hv.2.1]; exact hx.ec.c2, hx.ec.c1, hx.ec.lt, hx.ec.thG, hv.2.2.2⟩
theorem mx_all {w0 : Gh} {ts : List Tg} {B G : Nat} {tv : Value} {m' : NM} {w : World} (h : MX w0 ts B G tv m' w) :
    ∃ a k c dn, w.cell? ⟨G, 1, none⟩ = some (.slice a k c) ∧ w.cell? ⟨G, 12, none⟩ = some (.bool dn) ∧ G < w.heap.size ∧
      ((∃ kk n, m' = .en kk n ∧ k ≤ 4096 ∧ dn = true ∧ w.cell? ⟨G, 13, none⟩ = some (.int .i64 kk) ∧ w.cell? ⟨G, 14, none⟩ = some (.int .i64 n)) ∨
       ((∀ kk n, m' ≠ .en kk n) ∧ dn = false ∧ ∀ {fur : List Int} {m : RM}, MSim ts fur m m' → k = rLen m ∧ (0 < k → rOver m = none))) := by
  obtain ⟨sv, c, l, rfl, hx, hv⟩ := h
  obtain ⟨a, cp, rfl⟩ := own_slX hx.own
  cases m' with
  | ev s n e =>
    exact ⟨a, l.length, cp, false, hx.ec.c1, by rw [← hv.1]; exact hx.ec.c12, hx.ec.lt, .inr ⟨(fun _ _ h => by cases h), rfl, fun hS => ⟨by rw [(sim_ev hS).2, hv.2.2.2.1.len], fun _ => (sim_ev hS).1⟩⟩⟩
  | gv s v =>
    refine ⟨a, l.length, cp, false, hx.ec.c1, by rw [← hv.1]; exact hx.ec.c12, hx.ec.lt, .inr ⟨(fun _ _ h => by cases h), rfl, fun {fur m} hS => ?_⟩⟩
    have hl := hv.2.2.1.len
    cases m with
    | ev _ _ _ => exact hS.elim
    | en _ _ => exact hS.elim
    | gv s0 u =>
      have h2 := hS.2.2.len
      refine ⟨by rw [hl, ← h2]; rfl, fun h0 => ?_⟩
      cases s0 with
      | nil => rw [List.length_nil] at h2; omega
      | cons _ _ => rfl
  | en k n =>
    exact ⟨a, l.length, cp, true, hx.ec.c1, by rw [← hv.1]; exact hx.ec.c12, hx.ec.lt, .inl ⟨k, n, rfl, hv.2.2.2, rfl, by rw [← hv.2.1]; exact hx.ec.c13, by rw [← hv.2.2.1]; exact hx.ec.c14⟩⟩
theorem RunT_ok (T off ct : Nat) (ts : List Tg) (w : World) (fuel : Nat) (h : Hid (TgSl w T off ts)) (hT : T < w.heap.size) (hm : mayV ts = true) (hfu : fuel ≤ 1048576) :
  Calls Try.prog 9 #[.slice (some ⟨T, off, none⟩) ts.length ct, .int .i64 fuel] w (RunP w (rRun ts (furV ts) fuel 0 (.ev [] ((ts.length : Int) - 1) .nil), 0)) := by
 have hlen := (may_parts hm).1
 have hmay := Lib.hid fun (W : World) (hb : Below w.heap.size w W) => rmay_any T off ct ts W (Lib.hid (h.out.below hb hT)) (Nat.lt_of_lt_of_le hT hb.size) (by omega)
 rw [hm] at hmay
 have hf0 : decide ((fuel : Int) < 0) = false := decide_eq_false (by omega)
 have hf1 : decide ((1048576 : Int) < (fuel : Int)) = false := decide_eq_false (by omega)
 have hmh := Lib.hid hm
 have hkk := kk_of hm
 have hkid := kidIn_of hm
 clear hm
 have hlh := Lib.hid hlen
 have wl : IntKind.i64.wrap ((ts.length : Int) - 1) = (ts.length : Int) - 1 := IntWalk.i64_in _ (by omega)
 obtain ⟨fur, hfur⟩ : ∃ f, furV ts = f := ⟨_, rfl⟩
 have hsc0 := Lib.hid fun m => furV_sc hmh.out m
 rw [hfur] at hsc0
 obtain ⟨R, hR⟩ : ∃ R, rRun ts (furV ts) fuel 0 (.ev [] ((ts.length : Int) - 1) .nil) = R := ⟨_, rfl⟩
 rw [hR]
 rw [hfur] at hR
 have hRh := Lib.hid hR
 have hkk := Lib.hid hkk; have hkid := Lib.hid hkid
 clear hlen hR hfur
 go_enter Try.func9, Try.ntmps9
 go_wp2_with fail
 refine (hmay.out _ (by (repeat' (first | (with_reducible first | exact bR _ _ | assumption | apply bS | apply bA | apply bD | apply bN | exact bL _) | (simp; done) | (simp; omega) | omega | exact bL _)))).mono ?_
 rintro e1 w1 ⟨rfl, hb1⟩
 have x0 : w1.cell? ⟨w.heap.size, 0, none⟩ = some (.int .i64 0) := carry hb1 (by simp) (by simp [go_sem])
 have x1 : w1.cell? ⟨w.heap.size, 1, none⟩ = some (.int .i64 0) := carry hb1 (by simp) (by simp [go_sem])
 have xf : ∀ o, w1.frozen? ⟨w.heap.size, o, none⟩ = false := fun o => by rw [hb1.frozen (p := ⟨w.heap.size, o, none⟩) (by simp)]; simp [go_sem]
 have xl : w.heap.size < w1.heap.size := Nat.lt_of_lt_of_le (by simp) hb1.size
 have hbw := Lib.hid (show Below w.heap.size w w1 from belT (by (repeat' (first | (with_reducible first | exact bR _ _ | assumption | apply bS | apply bA | apply bD | apply bN | exact bL _) | (simp; done) | (simp; omega) | omega | exact bL _))) hb1)
 clear hb1 hmay
 go_wp2_with fail
 obtain ⟨Wb, hWb⟩ : ∃ W, w1.alloc (.cells #[.slice (some ⟨T, off, none⟩) ts.length ct, .slice none 0 0, .bool false, .int .i64 0, .pointer none, .int .i64 0, .int .i64 0, .int .i64 0, .pointer none, .slice none 0 0, .pointer none, .pointer none, .bool false, .int .i64 0, .int .i64 0] 69) = W := ⟨_, rfl⟩
 rw [hWb]
 have hsb : Wb.heap.size = w1.heap.size + 1 := by rw [← hWb]; simp
 have hbb : Below w1.heap.size w1 Wb := by rw [← hWb]; exact below_alc _ _
 have hEC : EcC Wb w1.heap.size (.slice (some ⟨T, off, none⟩) ts.length ct) (.slice none 0 0) ⟨false, 0, none, v70, false, 0, 0, (Wb, fun k => k < w1.heap.size)⟩ :=
  ⟨by omega, by rw [← hWb]; exact TyAt.new _ _ _, fun o => by rw [← hWb]; simp [go_sem], by rw [← hWb]; simp [go_sem], by rw [← hWb]; simp [go_sem], by rw [← hWb]; simp [go_sem], by rw [← hWb]; simp [go_sem], by rw [← hWb]; simp [go_sem], by rw [← hWb]; simp [go_sem, v70], by rw [← hWb]; simp [go_sem, v70], by rw [← hWb]; simp [go_sem, v70], by rw [← hWb]; simp [go_sem, v70], by rw [← hWb]; simp [go_sem, v70], by rw [← hWb]; simp [go_sem, v70], by rw [← hWb]; simp [go_sem, v70], by rw [← hWb]; simp [go_sem], by rw [← hWb]; simp [go_sem], by rw [← hWb]; simp [go_sem], Bar.refl _ _, fun e => by have e : w1.heap.size < w1.heap.size := e; omega, fun k hk => by have hk : k < w1.heap.size := hk; omega⟩
 have hER : ERc (w1.heap.size + 1) w1.heap.size (.slice (some ⟨T, off, none⟩) ts.length ct) (.slice none 0 0) ⟨false, 0, none, v70, false, 0, 0, (Wb, fun k => k < w1.heap.size)⟩ [] Wb :=
  ⟨hEC, OwnX.nil _ _, by omega, by omega, (fun k hk => by cases hk), rfl⟩
 have hTb := h.out.below (belT hbw.out hbb) hT
 have x0 : Wb.cell? _ = _ := carry hbb xl x0
 have x1 : Wb.cell? _ = _ := carry hbb xl x1
 have xf : ∀ o, Wb.frozen? ⟨w.heap.size, o, none⟩ = false := fun o => (hbb.frozen (p := ⟨w.heap.size, o, none⟩) xl).trans (xf o)
 have hbW := Lib.hid (belT hbw.out hbb)
 have hT1 : T < w1.heap.size := Nat.lt_of_lt_of_le hT hbw.out.size
 obtain ⟨w0, hw0⟩ : ∃ x : Gh, (Wb, fun k => k < w1.heap.size) = x := ⟨_, rfl⟩
 have keep := Lib.hid (show ∀ W, Bar (fun k => ¬ w0.2 k) w0.1 W → (W.cell? ⟨w.heap.size, 0, none⟩ = some (.int .i64 0) ∧ W.cell? ⟨w.heap.size, 1, none⟩ = some (.int .i64 0) ∧ (∀ o, W.frozen? ⟨w.heap.size, o, none⟩ = false) ∧ w.heap.size < W.heap.size ∧ Below w.heap.size w W ∧ TvR (w1.heap.size + 1) w1.heap.size W (.slice (some ⟨T, off, none⟩) ts.length ct) ts) from fun W hb => by
  subst hw0
  have hn : ¬ ¬ (w.heap.size < w1.heap.size) := fun h => h xl
  have hnT : ¬ ¬ (T < w1.heap.size) := fun h => h hT1
  have hW := hbW.out
  refine ⟨hb.cell x0 hn, hb.cell x1 hn, fun o => (hb.frozen (a := ⟨w.heap.size, o, none⟩) (show w.heap.size < Wb.heap.size by omega) hn).trans (xf o), by have := hb.size; have hq : Wb.heap.size ≤ W.heap.size := hb.size; omega, ⟨hb.os.trans hW.os, hb.tape.trans hW.tape, hb.output.trans hW.output, Nat.le_trans hW.size hb.size, fun k hk => (hb.block k (show k < Wb.heap.size by omega) (fun e => e (show k < w1.heap.size by omega))).trans (hW.block k hk)⟩, T, off, ct, rfl, by omega, by omega, by have hq : Wb.heap.size ≤ W.heap.size := hb.size; omega, fun i hi => by
   obtain ⟨b0, b1, b2, b3, b4, b5, b6, b7, b8⟩ := hTb i hi
   exact ⟨hb.cell b0 hnT, hb.cell b1 hnT, hb.cell b2 hnT, hb.cell b3 hnT, hb.cell b4 hnT, hb.cell b5 hnT, hb.cell b6 hnT, hb.cell b7 hnT, hb.cell b8 hnT⟩⟩)
 have hgo := Lib.hid (goes_st hER (ts := ts) (stk := []) (env := .nil) (p := none) ((ts.length : Int) - 1) Wb (Below.refl _ _) rfl rfl)
 dsimp only at hgo
 rw [hw0] at hgo
 obtain ⟨G, hGe⟩ : ∃ G, w1.heap.size = G := ⟨_, rfl⟩
 rw [hGe] at hgo keep ⊢
 clear hEC hER hTb hWb hbb x0 x1 xf hbw hbW hw0 hsb hT1 xl
 go_wp2_with fail
 refine hgo.out.mono ?_
 rintro e2 w2 ⟨⟨rfl, hM2⟩, -, -⟩
 have hlen := hlh.out
 have hst := Lib.hid (show LoX w0 (G + 1) G (.slice (some ⟨T, off, none⟩) ts.length ct) ts fur fuel R (.int .i64 0) w2 from ⟨0, .ev [] ((ts.length : Int) - 1) .nil, .ev [] ((ts.length : Int) - 1) .nil, rfl, Nat.zero_le _, Lib.hid hM2, Lib.hid ⟨rfl, rfl, trivial, hsc0.out, trivial⟩, Lib.hid (Nat.zero_le _), Lib.hid (fun _ _ h => by cases h), Lib.hid ⟨⟨by omega, by omega⟩, Nat.le_refl _, trivial, fun f hf => by cases hf⟩, Lib.hid hRh.out⟩)
 clear hM2 hgo hsc0 hRh hmh hlen h hT
 go_wp2_with fail
 go_loopw [8] (fun v wr => LoX w0 (G + 1) G (.slice (some ⟨T, off, none⟩) ts.length ct) ts fur fuel R v wr) (fun v _ => fuel - (intOf v).toNat)
 case atStart => exact hst.out
 case round =>
  obtain ⟨j, m, m', rfl, hj, hM, hS, hsl, hne, hft, hRn⟩ := hrel
  clear hst
  have hj0 : (0 : Int) ≤ (j : Int) := by omega
  obtain ⟨x0, x1, xf, xl, hB, htv⟩ := keep.out wr hM.out.bs
  have xf0 := xf 0; have xf1 := xf 1
  have hB := Lib.hid hB; have htv := Lib.hid htv
  clear xf
  cases ho : rOver m with
  | some o =>
   -- a value, and no frame
   obtain ⟨v, rfl⟩ : ∃ v, m' = .gv [] v := by
    cases m' with
    | ev s n e => rw [(sim_ev hS.out).1] at ho; cases ho
    | en k n => exact absurd rfl (hne.out k n)
    | gv s v =>
     cases s with
     | nil => exact ⟨v, rfl⟩
     | cons f s => rw [(sim_gv hS.out).1] at ho; cases ho
   obtain rfl : outR v.er = o := Option.some.inj ((sim_nil hS.out).symm.trans ho)
   have hr : (outR v.er, j) = R := (rRun_over ho).symm.trans hRn.out
   obtain ⟨⟨t0, t1, t2, t3, t4, t5⟩, sa, scp, c2, c1, hG, ⟨c5, c6, c7, c8, c9, c10, c11⟩, hvt⟩ := mx_over hM.out
   have htold := Lib.hid fun (W : World) (hb : Below wr.heap.size wr W) => told_any W v ⟨t0, t1, t2, t3, t4, t5⟩ (Lib.hid (hvt.below hb))
   obtain ⟨⟨o1, o2⟩, hoo⟩ : ∃ o, outR v.er = o := ⟨_, rfl⟩
   rw [hoo] at htold hr
   subst hr
   dsimp only at c5 c6 c7 c8 c9 c10 c11 htold ⊢
   clear hM hS hsl hne hft hRn ho hvt htv keep hoo
   by_cases hj2 : j = fuel
   ·subst hj2
    go_wp2_with fail
    refine (htold.out _ (by (repeat' (first | (with_reducible first | exact bR _ _ | assumption | apply bS | apply bA | apply bD | apply bN | exact bL _) | (simp; done) | (simp; omega) | omega | exact bL _)))).mono ?_
    rintro e3 w3 ⟨rfl, hb3⟩
    have x0 : w3.cell? _ = _ := carry hb3 xl x0
    have x1 : w3.cell? _ = _ := carry hb3 xl x1
    have xf0 := (hb3.frozen (p := ⟨w.heap.size, 0, none⟩) xl).trans xf0
    have xf1 := (hb3.frozen (p := ⟨w.heap.size, 1, none⟩) xl).trans xf1
    have xl3 : w.heap.size < w3.heap.size := Nat.lt_of_lt_of_le xl hb3.size
    have hbw := belT hB.out hb3
    clear hb3 htold
    go_wp2_with fail
    exact bodyPost_ret (v := runR (((o1, o2), j), 0)) (by simp [results, Try.results9, go_sem, runR, *]) rfl ⟨rfl, by (repeat' (first | (with_reducible first | exact bR _ _ | assumption | apply bS | apply bA | apply bD | apply bN | exact bL _) | (simp; done) | (simp; omega) | omega | exact bL _))⟩
   ·have hlt : (j : Int) < (fuel : Int) := by omega
    go_wp2_with fail
    refine (htold.out _ (by (repeat' (first | (with_reducible first | exact bR _ _ | assumption | apply bS | apply bA | apply bD | apply bN | exact bL _) | (simp; done) | (simp; omega) | omega | exact bL _)))).mono ?_
    rintro e3 w3 ⟨rfl, hb3⟩
    have x0 : w3.cell? _ = _ := carry hb3 xl x0
    have x1 : w3.cell? _ = _ := carry hb3 xl x1
    have xf0 := (hb3.frozen (p := ⟨w.heap.size, 0, none⟩) xl).trans xf0
    have xf1 := (hb3.frozen (p := ⟨w.heap.size, 1, none⟩) xl).trans xf1
    have xl3 : w.heap.size < w3.heap.size := Nat.lt_of_lt_of_le xl hb3.size
    have hbw := belT hB.out hb3
    clear hb3 htold
    go_wp2_with fail
    exact bodyPost_ret (v := runR (((o1, o2), j), 0)) (by simp [results, Try.results9, go_sem, runR, *]) rfl ⟨rfl, by (repeat' (first | (with_reducible first | exact bR _ _ | assumption | apply bS | apply bA | apply bD | apply bN | exact bL _) | (simp; done) | (simp; omega) | omega | exact bL _))⟩
  | none =>
   obtain ⟨ev, sa, sk, scp, c2, c1, c12, hsk, hG, hev⟩ := mx_on hM.out hS.out hne.out ho
   have ho := Lib.hid ho
   by_cases hj2 : j = fuel
   ·subst hj2
    obtain rfl : ((4, 0), j) = R := by have := hRn.out; rw [Nat.sub_self, rRun_zero ho.out] at this; exact this
    clear hM hS hsl hne hft hRn ho htv keep hsk
    cases ev with
    | true =>
     go_wp2_with fail
     exact bodyPost_ret (v := runR (((4, 0), j), 0)) (by simp [results, Try.results9, go_sem, runR, *]) rfl ⟨rfl, by have := hB.out; (repeat' (first | (with_reducible first | exact bR _ _ | assumption | apply bS | apply bA | apply bD | apply bN | exact bL _) | (simp; done) | (simp; omega) | omega | exact bL _))⟩
    | false =>
     have hev := hev rfl
     go_wp2_with fail
     exact bodyPost_ret (v := runR (((4, 0), j), 0)) (by simp [results, Try.results9, go_sem, runR, *]) rfl ⟨rfl, by have := hB.out; (repeat' (first | (with_reducible first | exact bR _ _ | assumption | apply bS | apply bA | apply bD | apply bN | exact bL _) | (simp; done) | (simp; omega) | omega | exact bL _))⟩
   ·have hlt : (j : Int) < (fuel : Int) := by omega
    obtain ⟨q, hq⟩ : ∃ q, fuel - j = q + 1 := ⟨fuel - j - 1, by omega⟩
    have hR2 := hRn.out
    have hsl2 := hsl.out
    rw [hq, rRun_step ho.out (by omega)] at hR2
    have hstep := Lib.hid (step17_any w0 (G + 1) G (.slice (some ⟨T, off, none⟩) ts.length ct) ts fur m m' wr hM htv hkk.out hkid.out hS.out hft.out hsl.out ho.out)
    have hS2 := Lib.hid (sim_step hkk.out hS.out)
    have hf2 := Lib.hid (rStep_fit (by have := hlh.out; omega) hkid.out fur hft.out)
    have hR2 := Lib.hid hR2
    have hq := Lib.hid hq
    clear hM hS hsl hne hft hRn ho htv hsl2
    obtain ⟨m2, hm2⟩ : ∃ x, rStep ts fur m = x := ⟨_, rfl⟩
    obtain ⟨n2, hn2⟩ : ∃ x, nStep ts m' = x := ⟨_, rfl⟩
    rw [hm2] at hS2 hf2 hR2
    rw [hn2] at hstep hS2
    clear hm2 hn2 hsk
    have wj : IntKind.i64.wrap ((j : Int) + 1) = (j : Int) + 1 := IntWalk.i64_in _ (by omega)
    cases ev with
    | true =>
     go_wp2_with fail
     refine hstep.out.mono ?_
     rintro e3 w3 ⟨rfl, hM3⟩
     obtain ⟨x0, x1, xf, xl, hB, htv⟩ := keep.out w3 hM3.bs
     have xf0 := xf 0; have xf1 := xf 1
     have hB := Lib.hid hB
     obtain ⟨sa, sk, scp, dn, c1, c12, hG, hcs⟩ := mx_all hM3
     have hM3 := Lib.hid hM3
     clear xf htv hstep
     rcases hcs with ⟨kk, nn, rfl, hk4, rfl, c13, c14⟩ | ⟨hne, rfl, hmm⟩
     ·obtain rfl : ((kk, nn), j + 1) = R := (rRun_over (sim_en hS2.out)).symm.trans hR2.out
      have hdI : decide ((4096 : Int) < (sk : Int)) = false := decide_eq_false (by omega)
      clear hM3 hS2 hf2 hR2 keep
      go_wp2_with fail
      have hrr : runR (((kk, nn), j + 1), 0) = .tuple #[.agg #[.int .i64 kk, .int .i64 nn], .int .i64 ((j : Int) + 1), .int .i64 0] := rfl
      exact bodyPost_ret (v := runR (((kk, nn), j + 1), 0)) (by rw [hrr]; simp [results, Try.results9, go_sem, *]) rfl ⟨rfl, by have := hB.out; (repeat' (first | (with_reducible first | exact bR _ _ | assumption | apply bS | apply bA | apply bD | apply bN | exact bL _) | (simp; done) | (simp; omega) | omega | exact bL _))⟩
     ·obtain ⟨hsk, hov⟩ := hmm hS2.out
      by_cases hd : 4096 < sk
      ·have hdI : decide ((4096 : Int) < (sk : Int)) = true := decide_eq_true (by omega)
       obtain rfl : ((4, 0), j + 1) = R := (rRun_far (hov (by omega)) (by omega) _ _).symm.trans hR2.out
       clear hM3 hS2 hf2 hR2 keep hne hmm hov hsk
       go_wp2_with fail
       have hrr : runR (((4, 0), j + 1), 0) = .tuple #[.agg #[.int .i64 4, .int .i64 0], .int .i64 ((j : Int) + 1), .int .i64 0] := rfl
       exact bodyPost_ret (v := runR (((4, 0), j + 1), 0)) (by rw [hrr]; simp [results, Try.results9, go_sem, *]) rfl ⟨rfl, by have := hB.out; (repeat' (first | (with_reducible first | exact bR _ _ | assumption | apply bS | apply bA | apply bD | apply bN | exact bL _) | (simp; done) | (simp; omega) | omega | exact bL _))⟩
      ·have hdI : decide ((4096 : Int) < (sk : Int)) = false := decide_eq_false (by omega)
       have hrl := Lib.hid (show rLen m2 ≤ 4096 by omega)
       have hne := Lib.hid hne
       clear hmm hov hsk keep
       go_wp2_with fail
       go_roundw
       case rel => exact ⟨j + 1, m2, n2, by rw [show ((j + 1 : Nat) : Int) = (j : Int) + 1 by omega], by omega, hM3, hS2, hrl, hne, Lib.hid (by rw [show 2 * (j + 1) = 2 * j + 2 by omega]; exact hf2.out), Lib.hid (by rw [show fuel - (j + 1) = q by have := hq.out; omega]; exact hR2.out)⟩
       case measure => simp [intOf]; omega
    | false =>
     have hev := hev rfl
     go_wp2_with fail
     refine hstep.out.mono ?_
     rintro e3 w3 ⟨rfl, hM3⟩
     obtain ⟨x0, x1, xf, xl, hB, htv⟩ := keep.out w3 hM3.bs
     have xf0 := xf 0; have xf1 := xf 1
     have hB := Lib.hid hB
     obtain ⟨sa, sk, scp, dn, c1, c12, hG, hcs⟩ := mx_all hM3
     have hM3 := Lib.hid hM3
     clear xf htv hstep
     rcases hcs with ⟨kk, nn, rfl, hk4, rfl, c13, c14⟩ | ⟨hne, rfl, hmm⟩
     ·obtain rfl : ((kk, nn), j + 1) = R := (rRun_over (sim_en hS2.out)).symm.trans hR2.out
      have hdI : decide ((4096 : Int) < (sk : Int)) = false := decide_eq_false (by omega)
      clear hM3 hS2 hf2 hR2 keep
      go_wp2_with fail
      have hrr : runR (((kk, nn), j + 1), 0) = .tuple #[.agg #[.int .i64 kk, .int .i64 nn], .int .i64 ((j : Int) + 1), .int .i64 0] := rfl
      exact bodyPost_ret (v := runR (((kk, nn), j + 1), 0)) (by rw [hrr]; simp [results, Try.results9, go_sem, *]) rfl ⟨rfl, by have := hB.out; (repeat' (first | (with_reducible first | exact bR _ _ | assumption | apply bS | apply bA | apply bD | apply bN | exact bL _) | (simp; done) | (simp; omega) | omega | exact bL _))⟩
     ·obtain ⟨hsk, hov⟩ := hmm hS2.out
      by_cases hd : 4096 < sk
      ·have hdI : decide ((4096 : Int) < (sk : Int)) = true := decide_eq_true (by omega)
       obtain rfl : ((4, 0), j + 1) = R := (rRun_far (hov (by omega)) (by omega) _ _).symm.trans hR2.out
       clear hM3 hS2 hf2 hR2 keep hne hmm hov hsk
       go_wp2_with fail
       have hrr : runR (((4, 0), j + 1), 0) = .tuple #[.agg #[.int .i64 4, .int .i64 0], .int .i64 ((j : Int) + 1), .int .i64 0] := rfl
       exact bodyPost_ret (v := runR (((4, 0), j + 1), 0)) (by rw [hrr]; simp [results, Try.results9, go_sem, *]) rfl ⟨rfl, by have := hB.out; (repeat' (first | (with_reducible first | exact bR _ _ | assumption | apply bS | apply bA | apply bD | apply bN | exact bL _) | (simp; done) | (simp; omega) | omega | exact bL _))⟩
      ·have hdI : decide ((4096 : Int) < (sk : Int)) = false := decide_eq_false (by omega)
       have hrl := Lib.hid (show rLen m2 ≤ 4096 by omega)
       have hne := Lib.hid hne
       clear hmm hov hsk keep
       go_wp2_with fail
       go_roundw
       case rel => exact ⟨j + 1, m2, n2, by rw [show ((j + 1 : Nat) : Int) = (j : Int) + 1 by omega], by omega, hM3, hS2, hrl, hne, Lib.hid (by rw [show 2 * (j + 1) = 2 * j + 2 by omega]; exact hf2.out), Lib.hid (by rw [show fuel - (j + 1) = q by have := hq.out; omega]; exact hR2.out)⟩
       case measure => simp [intOf]; omega
open Go.RowKit
theorem RunT_any (T off ct : Nat) (ts : List Tg) (w : World) (fuel : Int) (h : Hid (TgSl w T off ts)) (hT : T < w.heap.size) (hl : ts.length ≤ 140737488351232) :
  Calls Try.prog 9 #[.slice (some ⟨T, off, none⟩) ts.length ct, .int .i64 fuel] w (RunP w (runV ts fuel)) := by
 unfold runV
 by_cases hc : mayV ts = true ∧ 0 ≤ fuel ∧ fuel ≤ 1048576
 ·rw [if_pos hc]
  obtain ⟨n, rfl⟩ : ∃ n : Nat, fuel = n := ⟨fuel.toNat, by omega⟩
  exact RunT_ok T off ct ts w n h hT hc.1 (by omega)
 ·rw [if_neg hc]
  refine RunT_bad T off ct ts w fuel h hT hl ?_
  cases hm : mayV ts with
  | false => exact .inl rfl
  | true => exact .inr ⟨rfl, by rw [hm] at hc; simp at hc; omega⟩
theorem RunT_arg (p : Option Addr) (n c : Nat) (ts : List Tg) (w : World) (fuel : Int) (h : Hid (TArg w p n ts)) (hl : n ≤ 140737488351232) :
  Calls Try.prog 9 #[.slice p n c, .int .i64 fuel] w (RunP w (runV ts fuel)) := by
 obtain ⟨hn, h0 | ⟨b, off, rfl, hs, hb⟩⟩ := h.out
 ·subst h0
  have e : runV ts fuel = (((0, 0), 0), 2100) := by
   unfold runV
   rw [if_neg (by rw [mayV_len ts (.inl hn)]; simp)]
  rw [e]
  exact RunT_nil p c w fuel
 ·subst hn
  exact RunT_any b off c ts w fuel (Lib.hid hs) hb hl
theorem runV_err (ts : List Tg) (fuel : Int) : 0 ≤ (runV ts fuel).2 ∧ (runV ts fuel).2 ≤ 2100 := by
 unfold runV
 split
 ·exact ⟨by show (0 : Int) ≤ 0; omega, by show (0 : Int) ≤ 2100; omega⟩
 ·exact ⟨by show (0 : Int) ≤ 2100; omega, by show (2100 : Int) ≤ 2100; omega⟩
end Go.Proofs.Ytnjalpcmjkahkaa
