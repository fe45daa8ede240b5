/- A set of binds: bind, walked. -/
import Derived.Test.YtfkdcconmecaoaaDoorSfa
import Derived.Test.YtfkdcconmecaoaaDoorRwW
import Derived.Deep.RegionHeld3
import Derived.Deep.DeepCutAuto
import Derived.BigQuiet
/- A set of binds: bind, walked. -/
namespace Go.Proofs.YtfkdcconmecaoaaDoor
open Go.RowKit Go.Maps
set_option linter.unusedVariables false
set_option linter.unusedSimpArgs false

structure SenB (B : Nat) (a0 a1 a2 : Addr) (w : World) : Prop where
  sen : SenW a0 a1 a2 w
  g0 : 0 < B
  g1 : 1 < B
  g2 : 2 < B
  l0 : a0.block < B
  l1 : a1.block < B
  l2 : a2.block < B
theorem SenB.bel {B : Nat} {a0 a1 a2 : Addr} {w w' : World} (h : SenB B a0 a1 a2 w) (hb : Below B w w') : SenB B a0 a1 a2 w' := by
  obtain ⟨⟨c0, c1, c2, ⟨x0, y0, b0⟩, ⟨x1, y1, b1⟩, ⟨x2, y2, b2⟩, n01, n02, n12⟩, g0, g1, g2, l0, l1, l2⟩ := h
  exact ⟨⟨(hb.cell (p := ⟨_, 0, none⟩) g0).trans c0, (hb.cell (p := ⟨_, 0, none⟩) g1).trans c1, (hb.cell (p := ⟨_, 0, none⟩) g2).trans c2, ⟨x0, y0, (hb.block _ l0).trans b0⟩, ⟨x1, y1, (hb.block _ l1).trans b1⟩, ⟨x2, y2, (hb.block _ l2).trans b2⟩, n01, n02, n12⟩, g0, g1, g2, l0, l1, l2⟩
theorem sg1_sz {v : Int} {T : TT} (hz : T.sz ≤ 256) : ∀ u U, sg1 v T u = some U → U.sz ≤ 256 := by
  intro u U hu
  unfold sg1 at hu
  by_cases e : u = v
  · rw [if_pos e] at hu; injection hu with hu; rw [← hu]; exact hz
  · rw [if_neg e] at hu; cases hu
theorem errN1 (a0 a1 a2 : Addr) : errN a0 a1 a2 1 = errV a1 := rfl
theorem errN2 (a0 a1 a2 : Addr) : errN a0 a1 a2 2 = errV a0 := rfl
theorem errN3 (a0 a1 a2 : Addr) : errN a0 a1 a2 3 = errV a2 := rfl
set_option maxRecDepth 100000 in
set_option maxHeartbeats 8000000 in
theorem setBind_any (a0 a1 a2 : Addr) (B : Nat) (w : World) (s : Nat) (mv : Value) (m1 m2 : Nat) (gs : List Nat) (st : US) (h : Hid (SetAt B w s mv m1 m2 gs st)) (hi : Hid (UInv st)) (hE : Hid (SenB B a0 a1 a2 w)) (v : Int) (hv : 0 ≤ v ∧ v < 4096) (T : TT) (g : Nat) (hS : Hid (Shp w T g)) :
    Calls Tryd.prog 79 #[ptrS s, .int .i64 v, ptrS g] w (SetPost a0 a1 a2 B w s m1 m2 mv (bindU st v T)) := by
  have hBw : B ≤ w.heap.size := by have := h.out.bs; have := h.out.s_lt; omega
  have hgl := hS.out.lt
  have hsl := h.out.s_lt
  have hml := Lib.hid (made_bd hi.out)
  have hlow := Lib.hid h.out.low
  -- what holds behind the three boxes
  have h3 := Lib.hid (show Below w.heap.size w (((w.alloc (.cells #[.int .i64 v] 3)).alloc (.cells #[ptrS g] 65)).alloc (.cells #[.bool false] 4)) from ((below_alc2 w _ _).alloc (by simp; omega) _))
  have hb4 := Lib.hid (show BoxAt (((w.alloc (.cells #[.int .i64 v] 3)).alloc (.cells #[ptrS g] 65)).alloc (.cells #[.bool false] 4)) w.heap.size (.int .i64 v) from .alloc _ (.alloc _ (box_lit w _ _ _ rfl)))
  have hb5 := Lib.hid (show BoxAt (((w.alloc (.cells #[.int .i64 v] 3)).alloc (.cells #[ptrS g] 65)).alloc (.cells #[.bool false] 4)) (w.heap.size + 1) (ptrS g) from .alloc _ (box_lit (w.alloc _) _ _ _ (by simp)))
  have hb7 := Lib.hid (show BlB (((w.alloc (.cells #[.int .i64 v] 3)).alloc (.cells #[ptrS g] 65)).alloc (.cells #[.bool false] 4)) (w.heap.size + 1 + 1) false from by
    have := alloc_last ((w.alloc (.cells #[.int .i64 v] 3)).alloc (.cells #[ptrS g] 65)) (.cells #[.bool false] 4)
    simpa [BlB] using this)
  have kV := Lib.hid (shVisit_any (w.heap.size + 1 + 1) w.heap.size v (by omega) T g _ false (Lib.hid (hS.out.keep h3.out)) hb7 hb4)
  simp only [Bool.false_or] at kV
  have hsz3 : (((w.alloc (.cells #[.int .i64 v] 3)).alloc (.cells #[ptrS g] 65)).alloc (.cells #[.bool false] 4)).heap.size = w.heap.size + 3 := by simp
  have hall := Lib.hid fun (W : World) (hbar : Bar (fun k => k = w.heap.size + 1 + 1) (((w.alloc (.cells #[.int .i64 v] 3)).alloc (.cells #[ptrS g] 65)).alloc (.cells #[.bool false] 4)) W) =>
    (show Below w.heap.size w W ∧ BoxAt W w.heap.size (.int .i64 v) ∧ BoxAt W (w.heap.size + 1) (ptrS g) from
      ⟨h3.out.trans (hbar.below (by rw [hsz3]; omega) (fun k hk => by omega)), hb4.out.bar hbar (by omega), hb5.out.bar hbar (by omega)⟩)
  clear hb4 hb5 hb7 h3 hsz3
  -- what is answered
  have hocc := Lib.hid fun (hq : hasVb T v = true) => (show bindU st v T = .error 2 from by unfold bindU; rw [if_pos hq])
  have hfit := Lib.hid fun (hq : hasVb T v = false) (hf : T.fits = false) => (show bindU st v T = .error 3 from by unfold bindU; rw [hq, hf]; rfl)
  have hmany := Lib.hid fun (hq : hasVb T v = false) (hf : T.fits = true) (hp : putM (sg1 v T) rh0 st.made = none) => (show bindU st v T = .error 3 from by unfold bindU; rw [hq, hf, hp]; rfl)
  have hyes := Lib.hid fun (hq : hasVb T v = false) (hf : T.fits = true) (m : List Bo) (hp : putM (sg1 v T) rh0 st.made = some m) => (show bindU st v T = .ok ⟨m ++ [.ty v T], st.fresh⟩ from by unfold bindU; rw [hq, hf, hp]; rfl)
  have kP := Lib.hid fun (W : World) (hz : T.sz ≤ 256) (hb : Below w.heap.size w W) (hb4 : BoxAt W w.heap.size (.int .i64 v)) (hb5 : BoxAt W (w.heap.size + 1) (ptrS g)) =>
    setPut_any 101 #[] #[.pointer (some ⟨w.heap.size + 1, 0, none⟩), .pointer (some ⟨w.heap.size, 0, none⟩)] 102 #[] #[] (sg1 v T) rh0
      (fun W => BoxAt W w.heap.size (.int .i64 v) ∧ BoxAt W (w.heap.size + 1) (ptrS g) ∧ Shp W T g ∧ SenB B a0 a1 a2 W) B W s mv m1 m2 gs st a0 a1 a2 (Lib.hid fun _ _ => by kernel_rfl) (Lib.hid fun _ _ => by kernel_rfl)
      (Lib.hid fun W hJ => ⟨bind3_fn hJ.2.1 hJ.1 hJ.2.2.1, bind4_fn W, hJ.2.2.2.sen⟩)
      (Lib.hid fun W W' gs' st' hA hJ hbar => ⟨hJ.1.bar hbar (fun hk => by have := (hlow.out _ hk).2; omega), hJ.2.1.bar hbar (fun hk => by have := (hlow.out _ hk).2; omega), hA.shape hbar hJ.2.2.1, hJ.2.2.2.bel (hA.bel hbar)⟩)
      (sg1_sz hz) (fun u q hq => by cases hq)
      (Lib.hid (h.out.keep hb)) hi (Lib.hid ⟨hb4, hb5, hS.out.keep hb, hE.out.bel (hb.mono hBw)⟩)
  have hSk := Lib.hid fun (W : World) (hb : Below w.heap.size w W) => hS.out.keep hb
  have hEk := Lib.hid fun (W : World) (hb : Below w.heap.size w W) => (hE.out.bel (hb.mono hBw)).sen
  have hEr := Lib.hid fun (W : World) (hb : Bar (SetB s m1 m2 mv) w W) (k : Nat) (e : bindU st v T = .error k) => (show SetPost a0 a1 a2 B w s m1 m2 mv (bindU st v T) (.returned (errN a0 a1 a2 k)) W from by rw [e]; exact ⟨⟨_, 0, rfl, rfl⟩, hb⟩)
  have hAk := Lib.hid fun (W : World) (hb : Below w.heap.size w W) => h.out.keep hb
  generalize hR : bindU st v T = R at hocc hfit hmany hyes hEr ⊢
  clear hR hi h hS hE
  unfold ptrS fnW fnB fnN at *
  go_enter Tryd.func79, Tryd.ntmps79
  go_wp2_with fail
  refine kV.out.mono ?_
  rintro e w1 ⟨rfl, hB1, hbar1⟩
  obtain ⟨hb1, hx4, hx5⟩ := hall.out w1 hbar1
  obtain ⟨d7, _, hl7⟩ := hB1.cell
  obtain ⟨hl5, d5⟩ := hx5
  have hb1' := Lib.hid hb1
  have hx4' := Lib.hid hx4
  have hc := hEk.out w1 hb1
  have e0 := hc.c0; have e2 := hc.c2
  unfold errV at e0 e2
  clear hc hB1 hbar1 kV hall hb1 hx4
  cases hq : hasVb T v
  · rw [hq] at d7
    go_wp2_with fail
    refine (shFits_any T g w1 (Lib.hid (hSk.out w1 hb1'.out))).mono ?_
    rintro e w2 ⟨rfl, hb2⟩
    have hB2 := Lib.hid (belT hb1'.out hb2)
    have hy4 := Lib.hid (hx4'.out.below hb2)
    have hy5 := Lib.hid (BoxAt.below ⟨hl5, d5⟩ hb2)
    have e2' := (hEk.out w2 hB2.out).c2
    unfold errV at e2'
    clear hb2 d7 d5 hl5 hl7 e0 e2
    cases hf : T.fits
    · have hans := Lib.hid (hEr.out w2 (Bar.of_below hB2.out) 3 (hfit.out hq hf))
      rw [errN3] at hans
      unfold errV at hans
      clear hq hf
      go_wp2_with fail
      go_ret
      exact hans.out
    · have hz := (fits_iff.1 hf).1
      have kP2 := Lib.hid (kP.out w2 hz hB2.out hy4.out hy5.out)
      have hmany' := Lib.hid (hmany.out hq hf)
      have hyes' := Lib.hid (hyes.out hq hf)
      clear hq hf hz kP hmany hyes hfit hocc
      obtain ⟨o, ho⟩ : ∃ o, putM (sg1 v T) rh0 st.made = o := ⟨_, rfl⟩
      rw [ho] at kP2
      go_wp2_with fail
      refine kP2.out.mono ?_
      rintro e w3 ⟨hr3, hbar3⟩
      cases o with
      | none =>
        obtain rfl := hr3
        have hans := Lib.hid (hEr.out w3 ((Bar.of_below hB2.out).trans hbar3 fun _ _ h => h) 3 (hmany'.out ho))
        rw [errN3] at hans
        unfold errV at *
        clear hbar3 hmany' hyes' kP2
        go_wp2_with fail
        go_ret
        exact hans.out
      | some m =>
        obtain ⟨rfl, gs', hA3⟩ := hr3
        have hR := Lib.hid (hyes'.out m ho)
        have hmv : ∃ a c, mv = .slice a m.length c := by
          rcases hA3.own.2 with ⟨rfl, h0⟩ | ⟨g', cap, cur, rfl, _⟩
          · exact ⟨none, 0, by simp only at h0; rw [h0]⟩
          · exact ⟨_, _, rfl⟩
        obtain ⟨a, c, rfl⟩ := hmv
        obtain ⟨f0, f1, _, _, fz⟩ := hA3.cs
        have fz0 := fz 0
        obtain ⟨l4, x4⟩ := hy4.out.bar hbar3 (fun hk => by have := (hlow.out _ hk).2; omega)
        obtain ⟨l5, x5⟩ := hy5.out.bar hbar3 (fun hk => by have := (hlow.out _ hk).2; omega)
        have hsl3 := hA3.s_lt
        have hml' : m.length ≤ 8192 := by rw [(putM_some ho).1, List.length_map]; exact hml.out
        have hS3 := Lib.hid (hA3.shape (Bar.refl _ _) (hA3.shape (w := w3) (Bar.refl _ _) (show Shp w3 T g from by
          have h2 := hSk.out w2 hB2.out
          have hA2 := hAk.out w2 hB2.out
          exact hA2.shape hbar3 h2)))
        obtain ⟨w5, hup, hM1, hbar5⟩ := fs_put (w := w3.drew) (f' := tyI (m ++ [.ty v T]) 0) (show FsLe w3.drew m1 m.length (tyI m 0) from hA3.mp1) v hv m.length (by omega) (by omega) (by rw [tyI_app]; simp [Bo.tyOf]) (fun u hu => by rw [tyI_app]; simp [Bo.tyOf, hu])
        have hM2 : Hid (FsLe w5 m2 (m.length + 1) (rwI (m ++ [.ty v T]) 0)) := Lib.hid (((FsLe.bar (w := w3.drew) (show FsLe w3.drew m2 m.length (rwI m 0) from hA3.mp2) hbar5 (fun e => hA3.ne e.symm)).mono (by omega)).congr fun u => by rw [rwI_app]; simp [Bo.rwOf])
        have hbar5' : Hid (Bar (fun k => k = m1) w3 w5) := Lib.hid ⟨hbar5.os, hbar5.tape, hbar5.output, hbar5.size, hbar5.block⟩
        have nm1 : ∀ {k : Nat} {cs : Array Value} {t : TypeId}, w3.heap[k]? = some (.cells cs t (0, 0)) → ¬ k = m1 := by
          rintro k cs t hk rfl
          obtain ⟨es, c', hm⟩ := hA3.mp1.blk; rw [hm] at hk; cases hk
        have hown3 := hA3.own
        have hown5 : Hid (w5.ownsRow B 150 8 (.slice a m.length c) m.length (bdL gs' m)) := Lib.hid (hbar5.own (w := w3.drew) hown3 (fun k hk e => by
          rcases hown3.2 with ⟨h0, _⟩ | ⟨g', cap, cur, h0, _, hg, _⟩
          · rw [h0] at hk; cases hk
          · rw [h0] at hk; injection hk with hk; subst hk; exact nm1 hg e))
        have g0 := hbar5.cell (w := w3.drew) (show w3.drew.cell? ⟨s, 0, none⟩ = some (.slice a m.length c) from f0) (nm1 hA3.blk)
        have gfz := (hbar5.frozen (a := ⟨s, 0, none⟩) (show s < w3.drew.heap.size from hsl3) (nm1 hA3.blk)).trans fz0
        have gsl : s < w5.heap.size := by have := hbar5.size; exact Nat.lt_of_lt_of_le hsl3 this
        have hnw : ∀ p, w.heap.size ≤ p → ¬ p = m1 := fun p hp e => by have := (hlow.out m1 (.inr (.inl rfl))).2; omega
        have g4 := hbar5.cell (w := w3.drew) (show w3.drew.cell? ⟨w.heap.size, 0, none⟩ = some (.int .i64 v) from x4) (hnw _ (Nat.le_refl _))
        have g5 := hbar5.cell (w := w3.drew) (show w3.drew.cell? ⟨w.heap.size + 1, 0, none⟩ = some (ptrS g) from x5) (hnw _ (Nat.le_succ _))
        have gl4 : w.heap.size < w5.heap.size := Nat.lt_of_lt_of_le l4 hbar5.size
        have gl5 : w.heap.size + 1 < w5.heap.size := Nat.lt_of_lt_of_le l5 hbar5.size
        have hB5 : Hid (B ≤ w5.heap.size) := Lib.hid (Nat.le_of_lt (Nat.lt_of_le_of_lt hA3.bs gsl))
        have hA3' := Lib.hid hA3
        have hb03 := Lib.hid ((Bar.of_below (S := SetB s m1 m2 (.slice a m.length c)) hB2.out).trans hbar3 fun _ _ h => h)
        have hsOwn : Hid (¬ (Value.slice a m.length c).ownBlock = some s) := Lib.hid (by
          intro e
          rcases hown3.2 with ⟨h0, _⟩ | ⟨g', cap, cur, h0, _, hg, _⟩
          · rw [h0] at e; cases e
          · rw [h0] at e; injection e with e; subst e; have := hA3.blk; rw [hg] at this; unfold sObj at this; injection this with this; injection this with _ this _; exact absurd this (by decide))
        have hln : Hid (m.length ≤ 1000000) := Lib.hid (by omega)
        have hgl' : Hid (gs'.length = m.length) := Lib.hid hA3.len
        have hM1' := Lib.hid hM1
        have hS3' := Lib.hid hS3.out
        unfold ptrS at g5
        clear hM1 hbar5 nm1 hown3 hnw hA3 hbar3 hml' fz hmany' hyes' kP2
        go_wp2_with fail
        go_region
        all_goals
          go_wp2_with fail
          go_region_law ((refine step_bo rfl (.tmp 42) (.tmp 46) w5.drew B (show B ≤ w5.drew.heap.size from hB5.out) (.slice a m.length c) gs' m hgl'.out g (.ty v T) _ rfl rfl _ (by simp) rfl rfl (show w5.drew.ownsRow B 150 8 (.slice a m.length c) m.length (bdL gs' m) from hown5.out) hln.out ?_; intro G9 c9 w9 hO9 hB9 hA9; have q0 := Bar.cell hB9 (show w5.drew.cell? ⟨s, 0, none⟩ = some (.slice a m.length c) from g0) hsOwn.out; have q1 := (hB9.frozen (a := ⟨s, 0, none⟩) (show s < w5.drew.heap.size from gsl) hsOwn.out).trans gfz))
          all_goals
            go_wp2_with fail
            go_ret
            obtain ⟨k1, k2, k3⟩ := SetAt.grow hA3'.out (.ty v T) g (hbar5'.out.wide fun k hk => .inl hk) hM1'.out hM2.out (Bar.mk (w := w5) hB9.os hB9.tape hB9.output hB9.size hB9.block) hO9 hA9 (fun u U e => by injection e with e1 e2; subst e2; exact hS3'.out)
            rw [hR.out]
            exact ⟨⟨rfl, _, _, k1, fun k hk => k3 k (Nat.lt_of_lt_of_le hk hb03.out.size)⟩, hb03.out.trans k2 fun _ _ h => h⟩
  · rw [hq] at d7
    have hans := Lib.hid (hEr.out w1 (Bar.of_below hb1'.out) 2 (hocc.out hq))
    rw [errN2] at hans
    unfold errV at hans
    go_wp2_with fail
    go_ret
    exact hans.out
end Go.Proofs.YtfkdcconmecaoaaDoor

/- A set of binds: bindTail, walked. -/
namespace Go.Proofs.YtfkdcconmecaoaaDoor
open Go.RowKit Go.Maps
set_option linter.unusedVariables false
set_option linter.unusedSimpArgs false

theorem RowAt.bar {S : Nat → Prop} {w w' : World} {g : Nat} {r : Rw} (h : RowAt w g r) (hb : Bar S w w') (hn : ¬ S g) : RowAt w' g r := by
  obtain ⟨h0, h1, h2, h3, h4, h5⟩ := h
  exact ⟨by have := hb.size; omega, hb.cell h1 hn, hb.cell h2 hn, hb.cell h3 hn, hb.cell h4 hn, hb.cell h5 hn⟩
theorem rh1_may {v : Int} {r : Rw} (hr : r.may = true) : ∀ u q, rh1 v r u = some q → q.may = true := by
  intro u q hu
  unfold rh1 at hu
  by_cases e : u = v
  · rw [if_pos e] at hu; injection hu with hu; rw [← hu]; exact hr
  · rw [if_neg e] at hu; cases hu
set_option maxRecDepth 100000 in
set_option maxHeartbeats 8000000 in
theorem setBindR_any (a0 a1 a2 : Addr) (B : Nat) (w : World) (s : Nat) (mv : Value) (m1 m2 : Nat) (gs : List Nat) (st : US) (h : Hid (SetAt B w s mv m1 m2 gs st)) (hi : Hid (UInv st)) (hE : Hid (SenB B a0 a1 a2 w)) (v : Int) (hv : 0 ≤ v ∧ v < 4096) (r : Rw) (hrm : r.may = true) :
    Calls Tryd.prog 111 #[ptrS s, .int .i64 v, rwV r] w (SetPost a0 a1 a2 B w s m1 m2 mv (bindR st v r)) := by
  have hBw : B ≤ w.heap.size := by have := h.out.bs; have := h.out.s_lt; omega
  have hsl := h.out.s_lt
  have hml := Lib.hid (made_bd hi.out)
  have hlow := Lib.hid h.out.low
  have h3 := Lib.hid (show Below w.heap.size w ((w.alloc (.cells #[.int .i64 v] 3)).alloc (.cells #[.int .i64 r.a, .int .i64 r.b, .int .i64 r.c, .int .i64 r.d, .int .i64 r.t] 36)) from below_alc2 w _ _)
  have hb4 := Lib.hid (show BoxAt ((w.alloc (.cells #[.int .i64 v] 3)).alloc (.cells #[.int .i64 r.a, .int .i64 r.b, .int .i64 r.c, .int .i64 r.d, .int .i64 r.t] 36)) w.heap.size (.int .i64 v) from .alloc _ (box_lit w _ _ _ rfl))
  have hb5 := Lib.hid (show RowAt ((w.alloc (.cells #[.int .i64 v] 3)).alloc (.cells #[.int .i64 r.a, .int .i64 r.b, .int .i64 r.c, .int .i64 r.d, .int .i64 r.t] 36)) (w.heap.size + 1) r from row_lit (w.alloc _) _ _ _ (by simp))
  have hmany := Lib.hid fun (hp : putM sg0 (rh1 v r) st.made = none) => (show bindR st v r = .error 3 from by unfold bindR; rw [hp])
  have hyes := Lib.hid fun (m : List Bo) (hp : putM sg0 (rh1 v r) st.made = some m) => (show bindR st v r = .ok ⟨m ++ [.rw v r], st.fresh⟩ from by unfold bindR; rw [hp])
  have kP := Lib.hid fun (W : World) (hb : Below w.heap.size w W) (hb4 : BoxAt W w.heap.size (.int .i64 v)) (hb5 : RowAt W (w.heap.size + 1) r) =>
    setPut_any 117 #[] #[] 118 #[] #[.pointer (some ⟨w.heap.size + 1, 0, none⟩), .pointer (some ⟨w.heap.size, 0, none⟩)] sg0 (rh1 v r)
      (fun W => BoxAt W w.heap.size (.int .i64 v) ∧ RowAt W (w.heap.size + 1) r ∧ SenB B a0 a1 a2 W) B W s mv m1 m2 gs st a0 a1 a2 (Lib.hid fun _ _ => by kernel_rfl) (Lib.hid fun _ _ => by kernel_rfl)
      (Lib.hid fun W hJ => ⟨tail1_fn W, tail2_fn hJ.2.1 hJ.1, hJ.2.2.sen⟩)
      (Lib.hid fun W W' gs' st' hA hJ hbar => ⟨hJ.1.bar hbar (fun hk => by have := (hlow.out _ hk).2; omega), hJ.2.1.bar hbar (fun hk => by have := (hlow.out _ hk).2; omega), hJ.2.2.bel (hA.bel hbar)⟩)
      (fun u U hu => by cases hu) (rh1_may hrm)
      (Lib.hid (h.out.keep hb)) hi (Lib.hid ⟨hb4, hb5, hE.out.bel (hb.mono hBw)⟩)
  have kP2 := Lib.hid (kP.out _ h3.out hb4.out hb5.out)
  have hEr := Lib.hid fun (W : World) (hb : Bar (SetB s m1 m2 mv) w W) (k : Nat) (e : bindR st v r = .error k) => (show SetPost a0 a1 a2 B w s m1 m2 mv (bindR st v r) (.returned (errN a0 a1 a2 k)) W from by rw [e]; exact ⟨⟨_, 0, rfl, rfl⟩, hb⟩)
  generalize hR : bindR st v r = R at hmany hyes hEr ⊢
  obtain ⟨o, ho⟩ : ∃ o, putM sg0 (rh1 v r) st.made = o := ⟨_, rfl⟩
  rw [ho] at kP2
  clear hR hi h hE kP
  unfold ptrS fnW rwV at *
  go_enter Tryd.func111, Tryd.ntmps111
  go_wp2_with fail
  refine kP2.out.mono ?_
  rintro e w3 ⟨hr3, hbar3⟩
  have hb03 := Lib.hid ((Bar.of_below (S := SetB s m1 m2 mv) h3.out).trans hbar3 fun _ _ h => h)
  cases o with
  | none =>
    obtain rfl := hr3
    have hans := Lib.hid (hEr.out w3 hb03.out 3 (hmany.out ho))
    rw [errN3] at hans
    unfold errV at *
    clear hbar3 hmany hyes kP2
    go_wp2_with fail
    go_ret
    exact hans.out
  | some m =>
    obtain ⟨rfl, gs', hA3⟩ := hr3
    have hR := Lib.hid (hyes.out m ho)
    have hmv : ∃ a c, mv = .slice a m.length c := by
      rcases hA3.own.2 with ⟨rfl, h0⟩ | ⟨g', cap, cur, rfl, _⟩
      · exact ⟨none, 0, by simp only at h0; rw [h0]⟩
      · exact ⟨_, _, rfl⟩
    obtain ⟨a, c, rfl⟩ := hmv
    obtain ⟨f0, _, f1, _, fz⟩ := hA3.cs
    have fz0 := fz 0
    obtain ⟨l4, x4⟩ := hb4.out.bar hbar3 (fun hk => by have := (hlow.out _ hk).2; omega)
    obtain ⟨l5, x5, x6, x7, x8, x9⟩ := hb5.out.bar hbar3 (fun hk => by have := (hlow.out _ hk).2; omega)
    have hsl3 := hA3.s_lt
    have hml' : m.length ≤ 8192 := by rw [(putM_some ho).1, List.length_map]; exact hml.out
    obtain ⟨w5, hup, hM1, hbar5⟩ := fs_put (w := w3.drew) (f' := rwI (m ++ [.rw v r]) 0) (show FsLe w3.drew m2 m.length (rwI m 0) from hA3.mp2) v hv m.length (by omega) (by omega) (by rw [rwI_app]; simp [Bo.rwOf]) (fun u hu => by rw [rwI_app]; simp [Bo.rwOf, hu])
    have hM2 : Hid (FsLe w5 m1 (m.length + 1) (tyI (m ++ [.rw v r]) 0)) := Lib.hid (((FsLe.bar (w := w3.drew) (show FsLe w3.drew m1 m.length (tyI m 0) from hA3.mp1) hbar5 (fun e => hA3.ne e)).mono (by omega)).congr fun u => by rw [tyI_app]; simp [Bo.tyOf])
    have hbar5' : Hid (Bar (fun k => k = m2) w3 w5) := Lib.hid ⟨hbar5.os, hbar5.tape, hbar5.output, hbar5.size, hbar5.block⟩
    have nm1 : ∀ {k : Nat} {cs : Array Value} {t : TypeId}, w3.heap[k]? = some (.cells cs t (0, 0)) → ¬ k = m2 := by
      rintro k cs t hk rfl
      obtain ⟨es, c', hm⟩ := hA3.mp2.blk; rw [hm] at hk; cases hk
    have hown3 := hA3.own
    have hown5 : Hid (w5.ownsRow B 150 8 (.slice a m.length c) m.length (bdL gs' m)) := Lib.hid (hbar5.own (w := w3.drew) hown3 (fun k hk e => by
      rcases hown3.2 with ⟨h0, _⟩ | ⟨g', cap, cur, h0, _, hg, _⟩
      · rw [h0] at hk; cases hk
      · rw [h0] at hk; injection hk with hk; subst hk; exact nm1 hg e))
    have g0 := hbar5.cell (w := w3.drew) (show w3.drew.cell? ⟨s, 0, none⟩ = some (.slice a m.length c) from f0) (nm1 hA3.blk)
    have gfz := (hbar5.frozen (a := ⟨s, 0, none⟩) (show s < w3.drew.heap.size from hsl3) (nm1 hA3.blk)).trans fz0
    have gsl : s < w5.heap.size := by have := hbar5.size; exact Nat.lt_of_lt_of_le hsl3 this
    have hnw : ∀ p, w.heap.size ≤ p → ¬ p = m2 := fun p hp e => by have := (hlow.out m2 (.inr (.inr (.inl rfl)))).2; omega
    have g4 := hbar5.cell (w := w3.drew) (show w3.drew.cell? ⟨w.heap.size, 0, none⟩ = some (.int .i64 v) from x4) (hnw _ (Nat.le_refl _))
    have g5 := hbar5.cell (w := w3.drew) (show w3.drew.cell? ⟨w.heap.size + 1, 0, none⟩ = some (.int .i64 r.a) from x5) (hnw _ (Nat.le_succ _))
    have g6 := hbar5.cell (w := w3.drew) (show w3.drew.cell? ⟨w.heap.size + 1, 1, none⟩ = some (.int .i64 r.b) from x6) (hnw _ (Nat.le_succ _))
    have g7 := hbar5.cell (w := w3.drew) (show w3.drew.cell? ⟨w.heap.size + 1, 2, none⟩ = some (.int .i64 r.c) from x7) (hnw _ (Nat.le_succ _))
    have g8 := hbar5.cell (w := w3.drew) (show w3.drew.cell? ⟨w.heap.size + 1, 3, none⟩ = some (.int .i64 r.d) from x8) (hnw _ (Nat.le_succ _))
    have g9 := hbar5.cell (w := w3.drew) (show w3.drew.cell? ⟨w.heap.size + 1, 4, none⟩ = some (.int .i64 r.t) from x9) (hnw _ (Nat.le_succ _))
    have gl4 : w.heap.size < w5.heap.size := Nat.lt_of_lt_of_le l4 hbar5.size
    have gl5 : w.heap.size + 1 < w5.heap.size := Nat.lt_of_lt_of_le l5 hbar5.size
    have hB5 : Hid (B ≤ w5.heap.size) := Lib.hid (Nat.le_of_lt (Nat.lt_of_le_of_lt hA3.bs gsl))
    have hA3' := Lib.hid hA3
    have hsOwn : Hid (¬ (Value.slice a m.length c).ownBlock = some s) := Lib.hid (by
      intro e
      rcases hown3.2 with ⟨h0, _⟩ | ⟨g', cap, cur, h0, _, hg, _⟩
      · rw [h0] at e; cases e
      · rw [h0] at e; injection e with e; subst e; have := hA3.blk; rw [hg] at this; unfold sObj at this; injection this with this; injection this with _ this _; exact absurd this (by decide))
    have hln : Hid (m.length ≤ 1000000) := Lib.hid (by omega)
    have hgl' : Hid (gs'.length = m.length) := Lib.hid hA3.len
    have hM1' := Lib.hid hM1
    clear hM1 hbar5 nm1 hown3 hnw hA3 hbar3 hml' fz hmany hyes kP2 hb4 hb5
    go_wp2_with fail
    go_region
    all_goals
      go_wp2_with fail
      go_region_law ((refine step_bo rfl (.tmp 32) (.tmp 36) w5.drew B (show B ≤ w5.drew.heap.size from hB5.out) (.slice a m.length c) gs' m hgl'.out 0 (.rw v r) _ rfl rfl _ (by simp) rfl rfl (show w5.drew.ownsRow B 150 8 (.slice a m.length c) m.length (bdL gs' m) from hown5.out) hln.out ?_; intro G9 c9 w9 hO9 hB9 hA9; have q0 := Bar.cell hB9 (show w5.drew.cell? ⟨s, 0, none⟩ = some (.slice a m.length c) from g0) hsOwn.out; have q1 := (hB9.frozen (a := ⟨s, 0, none⟩) (show s < w5.drew.heap.size from gsl) hsOwn.out).trans gfz))
      all_goals
        go_wp2_with fail
        go_ret
        obtain ⟨k1, k2, k3⟩ := SetAt.grow hA3'.out (.rw v r) 0 (hbar5'.out.wide fun k hk => .inr hk) hM2.out hM1'.out (Bar.mk (w := w5) hB9.os hB9.tape hB9.output hB9.size hB9.block) hO9 hA9 (fun u U e => by cases e)
        rw [hR.out]
        exact ⟨⟨rfl, _, _, k1, fun k hk => k3 k (Nat.lt_of_lt_of_le hk hb03.out.size)⟩, hb03.out.trans k2 fun _ _ h => h⟩
end Go.Proofs.YtfkdcconmecaoaaDoor

/- A set of binds: OneRow. -/
namespace Go.Proofs.YtfkdcconmecaoaaDoor
open Go.RowKit Go.Maps
set_option linter.unusedVariables false
set_option linter.unusedSimpArgs false

theorem putR_W {ρ : Int → Option Rw} (hρ : ∀ v q, ρ v = some q → q.may = true) {r : Rw} (h : r.may = true) : mayW (putR ρ r).a (putR ρ r).b (putR ρ r).c (putR ρ r).d (putR ρ r).t = true := by
  have h1 := putR_bd hρ h
  have h2 := putR_tail hρ h
  exact decide_eq_true (by omega)
/-- what the first statement leaves. -/
def RowsPost (w : World) (A B : Rw) (W : World) : Prop := RowAt W w.heap.size A ∧ RowAt W (w.heap.size + 1) B ∧ Below w.heap.size w W
theorem rows_fin {w W : World} {A B : Rw} {x0 x1 x2 x3 x4 y0 y1 y2 y3 y4 : Value} (hs : w.heap.size + 1 < W.heap.size) (hb : Below w.heap.size w W)
    (h0 : W.cell? ⟨w.heap.size, 0, none⟩ = some x0) (h1 : W.cell? ⟨w.heap.size, 1, none⟩ = some x1) (h2 : W.cell? ⟨w.heap.size, 2, none⟩ = some x2) (h3 : W.cell? ⟨w.heap.size, 3, none⟩ = some x3) (h4 : W.cell? ⟨w.heap.size, 4, none⟩ = some x4)
    (g0 : W.cell? ⟨w.heap.size + 1, 0, none⟩ = some y0) (g1 : W.cell? ⟨w.heap.size + 1, 1, none⟩ = some y1) (g2 : W.cell? ⟨w.heap.size + 1, 2, none⟩ = some y2) (g3 : W.cell? ⟨w.heap.size + 1, 3, none⟩ = some y3) (g4 : W.cell? ⟨w.heap.size + 1, 4, none⟩ = some y4) :
    RowsPost w A B ((((((((((W.setCell ⟨w.heap.size, 0, none⟩ (.int .i64 A.a)).setCell ⟨w.heap.size, 1, none⟩ (.int .i64 A.b)).setCell ⟨w.heap.size, 2, none⟩ (.int .i64 A.c)).setCell ⟨w.heap.size, 3, none⟩ (.int .i64 A.d)).setCell ⟨w.heap.size, 4, none⟩ (.int .i64 A.t)).setCell ⟨w.heap.size + 1, 0, none⟩ (.int .i64 B.a)).setCell ⟨w.heap.size + 1, 1, none⟩ (.int .i64 B.b)).setCell ⟨w.heap.size + 1, 2, none⟩ (.int .i64 B.c)).setCell ⟨w.heap.size + 1, 3, none⟩ (.int .i64 B.d)).setCell ⟨w.heap.size + 1, 4, none⟩ (.int .i64 B.t)) := by
  unfold RowsPost RowAt
  have hz : ∀ (X : World) (p : Addr) (v : Value), (X.setCell p v).heap.size = X.heap.size := fun X p v => by simp [World.setCell]
  simp only [hz]
  refine ⟨⟨by omega, ?_, ?_, ?_, ?_, ?_⟩, ⟨by omega, ?_, ?_, ?_, ?_, ?_⟩, ?_⟩
  · exact setO (setO (setO (setO (setO (setO (setO (setO (setO (setS h0) (by simp)) (by simp)) (by simp)) (by simp)) (by simp)) (by simp)) (by simp)) (by simp)) (by simp)
  · exact setO (setO (setO (setO (setO (setO (setO (setO (setS (setO h1 (by simp))) (by simp)) (by simp)) (by simp)) (by simp)) (by simp)) (by simp)) (by simp)) (by simp)
  · exact setO (setO (setO (setO (setO (setO (setO (setS (setO (setO h2 (by simp)) (by simp))) (by simp)) (by simp)) (by simp)) (by simp)) (by simp)) (by simp)) (by simp)
  · exact setO (setO (setO (setO (setO (setO (setS (setO (setO (setO h3 (by simp)) (by simp)) (by simp))) (by simp)) (by simp)) (by simp)) (by simp)) (by simp)) (by simp)
  · exact setO (setO (setO (setO (setO (setS (setO (setO (setO (setO h4 (by simp)) (by simp)) (by simp)) (by simp))) (by simp)) (by simp)) (by simp)) (by simp)) (by simp)
  · exact setO (setO (setO (setO (setS (setO (setO (setO (setO (setO g0 (by simp)) (by simp)) (by simp)) (by simp)) (by simp))) (by simp)) (by simp)) (by simp)) (by simp)
  · exact setO (setO (setO (setS (setO (setO (setO (setO (setO (setO g1 (by simp)) (by simp)) (by simp)) (by simp)) (by simp)) (by simp))) (by simp)) (by simp)) (by simp)
  · exact setO (setO (setS (setO (setO (setO (setO (setO (setO (setO g2 (by simp)) (by simp)) (by simp)) (by simp)) (by simp)) (by simp)) (by simp))) (by simp)) (by simp)
  · exact setO (setS (setO (setO (setO (setO (setO (setO (setO (setO g3 (by simp)) (by simp)) (by simp)) (by simp)) (by simp)) (by simp)) (by simp)) (by simp))) (by simp)
  · exact setS (setO (setO (setO (setO (setO (setO (setO (setO (setO g4 (by simp)) (by simp)) (by simp)) (by simp)) (by simp)) (by simp)) (by simp)) (by simp)) (by simp))
  · have k : ∀ (X : World) (b o : Nat) (v : Value), w.heap.size ≤ b → Below w.heap.size w X → Below w.heap.size w (X.setCell ⟨b, o, none⟩ v) := fun X b o v hb h => h.setCell (by simpa using hb) _
    exact k _ _ _ _ (by omega) (k _ _ _ _ (by omega) (k _ _ _ _ (by omega) (k _ _ _ _ (by omega) (k _ _ _ _ (by omega) (k _ _ _ _ (by omega) (k _ _ _ _ (by omega) (k _ _ _ _ (by omega) (k _ _ _ _ (by omega) (k _ _ _ _ (by omega) hb)))))))))
/-- the two boxes, whatever was called. -/
theorem rows_keep {w W : World} {a b : Rw} (hb : Below (w.heap.size + 2) ((w.alloc (.cells #[.int .i64 a.a, .int .i64 a.b, .int .i64 a.c, .int .i64 a.d, .int .i64 a.t] 36)).alloc (.cells #[.int .i64 b.a, .int .i64 b.b, .int .i64 b.c, .int .i64 b.d, .int .i64 b.t] 36)) W) :
    RowAt W w.heap.size a ∧ RowAt W (w.heap.size + 1) b ∧ (∀ o, W.frozen? ⟨w.heap.size, o, none⟩ = false) ∧ (∀ o, W.frozen? ⟨w.heap.size + 1, o, none⟩ = false) ∧ Below w.heap.size w W ∧ w.heap.size + 1 < W.heap.size := by
  have hs := hb.size
  have hsz : ((w.alloc (.cells #[.int .i64 a.a, .int .i64 a.b, .int .i64 a.c, .int .i64 a.d, .int .i64 a.t] 36)).alloc (.cells #[.int .i64 b.a, .int .i64 b.b, .int .i64 b.c, .int .i64 b.d, .int .i64 b.t] 36)).heap.size = w.heap.size + 2 := by simp
  have hb' : Below ((w.alloc (.cells #[.int .i64 a.a, .int .i64 a.b, .int .i64 a.c, .int .i64 a.d, .int .i64 a.t] 36)).alloc (.cells #[.int .i64 b.a, .int .i64 b.b, .int .i64 b.c, .int .i64 b.d, .int .i64 b.t] 36)).heap.size ((w.alloc (.cells #[.int .i64 a.a, .int .i64 a.b, .int .i64 a.c, .int .i64 a.d, .int .i64 a.t] 36)).alloc (.cells #[.int .i64 b.a, .int .i64 b.b, .int .i64 b.c, .int .i64 b.d, .int .i64 b.t] 36)) W := by rw [hsz]; exact hb
  refine ⟨(RowAt.alloc _ (row_lit w _ _ a rfl)).below hb', (row_lit (w.alloc _) _ _ b (by simp)).below hb', fun o => ?_, fun o => ?_, (below_alc2 w (.cells #[.int .i64 a.a, .int .i64 a.b, .int .i64 a.c, .int .i64 a.d, .int .i64 a.t] 36) (.cells #[.int .i64 b.a, .int .i64 b.b, .int .i64 b.c, .int .i64 b.d, .int .i64 b.t] 36)).trans (hb.mono (by omega)), by rw [hsz] at hs; omega⟩
  · rw [hb.frozen (p := ⟨w.heap.size, o, none⟩) (by simp)]; simp [go_sem]
  · rw [hb.frozen (p := ⟨w.heap.size + 1, o, none⟩) (by simp)]; simp [go_sem]
theorem rows_s {w W : World} {a b : Rw} (hb : Below (w.heap.size + 2) ((w.alloc (.cells #[.int .i64 a.a, .int .i64 a.b, .int .i64 a.c, .int .i64 a.d, .int .i64 a.t] 36)).alloc (.cells #[.int .i64 b.a, .int .i64 b.b, .int .i64 b.c, .int .i64 b.d, .int .i64 b.t] 36)) W) : W.cell? ⟨w.heap.size, 0, none⟩ = some (.int .i64 a.a) ∧ W.cell? ⟨w.heap.size, 1, none⟩ = some (.int .i64 a.b) ∧ W.cell? ⟨w.heap.size, 2, none⟩ = some (.int .i64 a.c) ∧ W.cell? ⟨w.heap.size, 3, none⟩ = some (.int .i64 a.d) ∧ W.cell? ⟨w.heap.size, 4, none⟩ = some (.int .i64 a.t) ∧ W.cell? ⟨w.heap.size + 1, 0, none⟩ = some (.int .i64 b.a) ∧ W.cell? ⟨w.heap.size + 1, 1, none⟩ = some (.int .i64 b.b) ∧ W.cell? ⟨w.heap.size + 1, 2, none⟩ = some (.int .i64 b.c) ∧ W.cell? ⟨w.heap.size + 1, 3, none⟩ = some (.int .i64 b.d) ∧ W.cell? ⟨w.heap.size + 1, 4, none⟩ = some (.int .i64 b.t) ∧ W.frozen? ⟨w.heap.size, 0, none⟩ = false ∧ W.frozen? ⟨w.heap.size, 1, none⟩ = false ∧ W.frozen? ⟨w.heap.size, 2, none⟩ = false ∧ W.frozen? ⟨w.heap.size, 3, none⟩ = false ∧ W.frozen? ⟨w.heap.size, 4, none⟩ = false ∧ W.frozen? ⟨w.heap.size + 1, 0, none⟩ = false ∧ W.frozen? ⟨w.heap.size + 1, 1, none⟩ = false ∧ W.frozen? ⟨w.heap.size + 1, 2, none⟩ = false ∧ W.frozen? ⟨w.heap.size + 1, 3, none⟩ = false ∧ W.frozen? ⟨w.heap.size + 1, 4, none⟩ = false ∧ Below w.heap.size w W ∧ w.heap.size + 1 < W.heap.size := by
  obtain ⟨⟨_, h0, h1, h2, h3, h4⟩, ⟨_, g0, g1, g2, g3, g4⟩, f, f', hbl, hs⟩ := rows_keep hb
  exact ⟨h0, h1, h2, h3, h4, g0, g1, g2, g3, g4, f 0, f 1, f 2, f 3, f 4, f' 0, f' 1, f' 2, f' 3, f' 4, hbl, hs⟩
theorem rows_end {w W : World} {a b A C : Rw} (h : W.cell? ⟨w.heap.size, 0, none⟩ = some (.int .i64 a.a) ∧ W.cell? ⟨w.heap.size, 1, none⟩ = some (.int .i64 a.b) ∧ W.cell? ⟨w.heap.size, 2, none⟩ = some (.int .i64 a.c) ∧ W.cell? ⟨w.heap.size, 3, none⟩ = some (.int .i64 a.d) ∧ W.cell? ⟨w.heap.size, 4, none⟩ = some (.int .i64 a.t) ∧ W.cell? ⟨w.heap.size + 1, 0, none⟩ = some (.int .i64 b.a) ∧ W.cell? ⟨w.heap.size + 1, 1, none⟩ = some (.int .i64 b.b) ∧ W.cell? ⟨w.heap.size + 1, 2, none⟩ = some (.int .i64 b.c) ∧ W.cell? ⟨w.heap.size + 1, 3, none⟩ = some (.int .i64 b.d) ∧ W.cell? ⟨w.heap.size + 1, 4, none⟩ = some (.int .i64 b.t) ∧ W.frozen? ⟨w.heap.size, 0, none⟩ = false ∧ W.frozen? ⟨w.heap.size, 1, none⟩ = false ∧ W.frozen? ⟨w.heap.size, 2, none⟩ = false ∧ W.frozen? ⟨w.heap.size, 3, none⟩ = false ∧ W.frozen? ⟨w.heap.size, 4, none⟩ = false ∧ W.frozen? ⟨w.heap.size + 1, 0, none⟩ = false ∧ W.frozen? ⟨w.heap.size + 1, 1, none⟩ = false ∧ W.frozen? ⟨w.heap.size + 1, 2, none⟩ = false ∧ W.frozen? ⟨w.heap.size + 1, 3, none⟩ = false ∧ W.frozen? ⟨w.heap.size + 1, 4, none⟩ = false ∧ Below w.heap.size w W ∧ w.heap.size + 1 < W.heap.size) : RowsPost w A C ((((((((((W.setCell ⟨w.heap.size, 0, none⟩ (.int .i64 A.a)).setCell ⟨w.heap.size, 1, none⟩ (.int .i64 A.b)).setCell ⟨w.heap.size, 2, none⟩ (.int .i64 A.c)).setCell ⟨w.heap.size, 3, none⟩ (.int .i64 A.d)).setCell ⟨w.heap.size, 4, none⟩ (.int .i64 A.t)).setCell ⟨w.heap.size + 1, 0, none⟩ (.int .i64 C.a)).setCell ⟨w.heap.size + 1, 1, none⟩ (.int .i64 C.b)).setCell ⟨w.heap.size + 1, 2, none⟩ (.int .i64 C.c)).setCell ⟨w.heap.size + 1, 3, none⟩ (.int .i64 C.d)).setCell ⟨w.heap.size + 1, 4, none⟩ (.int .i64 C.t)) := by
  obtain ⟨h0, h1, h2, h3, h4, g0, g1, g2, g3, g4, _, _, _, _, _, _, _, _, _, _, hbl, hs⟩ := h
  exact rows_fin hs hbl h0 h1 h2 h3 h4 g0 g1 g2 g3 g4
theorem rows_bel {w W : World} {a b : Rw} (h : W.cell? ⟨w.heap.size, 0, none⟩ = some (.int .i64 a.a) ∧ W.cell? ⟨w.heap.size, 1, none⟩ = some (.int .i64 a.b) ∧ W.cell? ⟨w.heap.size, 2, none⟩ = some (.int .i64 a.c) ∧ W.cell? ⟨w.heap.size, 3, none⟩ = some (.int .i64 a.d) ∧ W.cell? ⟨w.heap.size, 4, none⟩ = some (.int .i64 a.t) ∧ W.cell? ⟨w.heap.size + 1, 0, none⟩ = some (.int .i64 b.a) ∧ W.cell? ⟨w.heap.size + 1, 1, none⟩ = some (.int .i64 b.b) ∧ W.cell? ⟨w.heap.size + 1, 2, none⟩ = some (.int .i64 b.c) ∧ W.cell? ⟨w.heap.size + 1, 3, none⟩ = some (.int .i64 b.d) ∧ W.cell? ⟨w.heap.size + 1, 4, none⟩ = some (.int .i64 b.t) ∧ W.frozen? ⟨w.heap.size, 0, none⟩ = false ∧ W.frozen? ⟨w.heap.size, 1, none⟩ = false ∧ W.frozen? ⟨w.heap.size, 2, none⟩ = false ∧ W.frozen? ⟨w.heap.size, 3, none⟩ = false ∧ W.frozen? ⟨w.heap.size, 4, none⟩ = false ∧ W.frozen? ⟨w.heap.size + 1, 0, none⟩ = false ∧ W.frozen? ⟨w.heap.size + 1, 1, none⟩ = false ∧ W.frozen? ⟨w.heap.size + 1, 2, none⟩ = false ∧ W.frozen? ⟨w.heap.size + 1, 3, none⟩ = false ∧ W.frozen? ⟨w.heap.size + 1, 4, none⟩ = false ∧ Below w.heap.size w W ∧ w.heap.size + 1 < W.heap.size) : Below w.heap.size w W := by
  obtain ⟨h0, h1, h2, h3, h4, g0, g1, g2, g3, g4, _, _, _, _, _, _, _, _, _, _, hbl, hs⟩ := h
  exact hbl
theorem rows_go {w W W' : World} {a b : Rw} (h : W.cell? ⟨w.heap.size, 0, none⟩ = some (.int .i64 a.a) ∧ W.cell? ⟨w.heap.size, 1, none⟩ = some (.int .i64 a.b) ∧ W.cell? ⟨w.heap.size, 2, none⟩ = some (.int .i64 a.c) ∧ W.cell? ⟨w.heap.size, 3, none⟩ = some (.int .i64 a.d) ∧ W.cell? ⟨w.heap.size, 4, none⟩ = some (.int .i64 a.t) ∧ W.cell? ⟨w.heap.size + 1, 0, none⟩ = some (.int .i64 b.a) ∧ W.cell? ⟨w.heap.size + 1, 1, none⟩ = some (.int .i64 b.b) ∧ W.cell? ⟨w.heap.size + 1, 2, none⟩ = some (.int .i64 b.c) ∧ W.cell? ⟨w.heap.size + 1, 3, none⟩ = some (.int .i64 b.d) ∧ W.cell? ⟨w.heap.size + 1, 4, none⟩ = some (.int .i64 b.t) ∧ W.frozen? ⟨w.heap.size, 0, none⟩ = false ∧ W.frozen? ⟨w.heap.size, 1, none⟩ = false ∧ W.frozen? ⟨w.heap.size, 2, none⟩ = false ∧ W.frozen? ⟨w.heap.size, 3, none⟩ = false ∧ W.frozen? ⟨w.heap.size, 4, none⟩ = false ∧ W.frozen? ⟨w.heap.size + 1, 0, none⟩ = false ∧ W.frozen? ⟨w.heap.size + 1, 1, none⟩ = false ∧ W.frozen? ⟨w.heap.size + 1, 2, none⟩ = false ∧ W.frozen? ⟨w.heap.size + 1, 3, none⟩ = false ∧ W.frozen? ⟨w.heap.size + 1, 4, none⟩ = false ∧ Below w.heap.size w W ∧ w.heap.size + 1 < W.heap.size) (hb : Below W.heap.size W W') : W'.cell? ⟨w.heap.size, 0, none⟩ = some (.int .i64 a.a) ∧ W'.cell? ⟨w.heap.size, 1, none⟩ = some (.int .i64 a.b) ∧ W'.cell? ⟨w.heap.size, 2, none⟩ = some (.int .i64 a.c) ∧ W'.cell? ⟨w.heap.size, 3, none⟩ = some (.int .i64 a.d) ∧ W'.cell? ⟨w.heap.size, 4, none⟩ = some (.int .i64 a.t) ∧ W'.cell? ⟨w.heap.size + 1, 0, none⟩ = some (.int .i64 b.a) ∧ W'.cell? ⟨w.heap.size + 1, 1, none⟩ = some (.int .i64 b.b) ∧ W'.cell? ⟨w.heap.size + 1, 2, none⟩ = some (.int .i64 b.c) ∧ W'.cell? ⟨w.heap.size + 1, 3, none⟩ = some (.int .i64 b.d) ∧ W'.cell? ⟨w.heap.size + 1, 4, none⟩ = some (.int .i64 b.t) ∧ W'.frozen? ⟨w.heap.size, 0, none⟩ = false ∧ W'.frozen? ⟨w.heap.size, 1, none⟩ = false ∧ W'.frozen? ⟨w.heap.size, 2, none⟩ = false ∧ W'.frozen? ⟨w.heap.size, 3, none⟩ = false ∧ W'.frozen? ⟨w.heap.size, 4, none⟩ = false ∧ W'.frozen? ⟨w.heap.size + 1, 0, none⟩ = false ∧ W'.frozen? ⟨w.heap.size + 1, 1, none⟩ = false ∧ W'.frozen? ⟨w.heap.size + 1, 2, none⟩ = false ∧ W'.frozen? ⟨w.heap.size + 1, 3, none⟩ = false ∧ W'.frozen? ⟨w.heap.size + 1, 4, none⟩ = false ∧ Below w.heap.size w W' ∧ w.heap.size + 1 < W'.heap.size := by
  obtain ⟨h0, h1, h2, h3, h4, g0, g1, g2, g3, g4, f0, f1, f2, f3, f4, e0, e1, e2, e3, e4, hbl, hs⟩ := h
  have c : ∀ {p : Addr} {v : Value}, p.block < W.heap.size → W.cell? p = some v → W'.cell? p = some v := fun hp hv => (hb.cell hp).trans hv
  have f : ∀ {p : Addr}, p.block < W.heap.size → W.frozen? p = false → W'.frozen? p = false := fun hp hv => (hb.frozen hp).trans hv
  have hl : ∀ o, (⟨w.heap.size, o, none⟩ : Addr).block < W.heap.size := fun o => by show w.heap.size < _; omega
  have hr : ∀ o, (⟨w.heap.size + 1, o, none⟩ : Addr).block < W.heap.size := fun o => hs
  exact ⟨c (hl 0) h0, c (hl 1) h1, c (hl 2) h2, c (hl 3) h3, c (hl 4) h4, c (hr 0) g0, c (hr 1) g1, c (hr 2) g2, c (hr 3) g3, c (hr 4) g4, f (hl 0) f0, f (hl 1) f1, f (hl 2) f2, f (hl 3) f3, f (hl 4) f4, f (hr 0) e0, f (hr 1) e1, f (hr 2) e2, f (hr 3) e3, f (hr 4) e4, belT hbl hb, by have := hb.size; omega⟩
end Go.Proofs.YtfkdcconmecaoaaDoor

/- A set of binds: OneRow, walked. -/
namespace Go.Proofs.YtfkdcconmecaoaaDoor
open Go.RowKit Go.Maps
set_option linter.unusedVariables false
set_option linter.unusedSimpArgs false

/-- the next row variable is another one. -/
theorem SetAt.next {B : Nat} {w : World} {s m1 m2 : Nat} {mv : Value} {gs : List Nat} {m : List Bo} {f : Int} (h : SetAt B w s mv m1 m2 gs ⟨m, f⟩) (f' : Int) :
    SetAt B (w.setCell ⟨s, 3, none⟩ (.int .i64 f')) s mv m1 m2 gs ⟨m, f'⟩ ∧ Bar (SetB s m1 m2 mv) w (w.setCell ⟨s, 3, none⟩ (.int .i64 f')) := by
  have hbar : Bar (SetB s m1 m2 mv) w (w.setCell ⟨s, 3, none⟩ (.int .i64 f')) := Bar.set _ _ (.inl rfl)
  have hne : ∀ k, k ≠ s → (w.setCell ⟨s, 3, none⟩ (.int .i64 f')).heap[k]? = w.heap[k]? := fun k hk => Deep.blk_setCell_other _ _ _ _ hk
  have hb := h.blk
  have n1 : m1 ≠ s := by rintro rfl; obtain ⟨es, c, hm⟩ := h.mp1.blk; rw [hm] at hb; unfold sObj at hb; cases hb
  have n2 : m2 ≠ s := by rintro rfl; obtain ⟨es, c, hm⟩ := h.mp2.blk; rw [hm] at hb; unfold sObj at hb; cases hb
  refine ⟨⟨?_, ?_, h.len, fun i v T hi => h.shape hbar (h.shp i v T hi), ?_, ?_, h.ne, h.bs, h.b1, h.b2⟩, hbar⟩
  · unfold sObj at hb ⊢
    simp [World.setCell, Array.getElem?_modify, hb]
  · refine ⟨h.own.1, ?_⟩
    rcases h.own.2 with h0 | ⟨g', cap, cur, rfl, x1, x2, x3⟩
    · exact .inl h0
    · refine .inr ⟨g', cap, cur, rfl, x1, (hne g' ?_).trans x2, x3⟩
      rintro rfl
      rw [hb] at x2; unfold sObj at x2; injection x2 with x2; injection x2 with _ x2 _; exact absurd x2 (by decide)
  · obtain ⟨k, hk, D, ⟨es, c, x1, x2⟩, x3⟩ := h.mp1
    exact ⟨k, hk, D, ⟨es, c, (hne m1 n1).trans x1, x2⟩, x3⟩
  · obtain ⟨k, hk, D, ⟨es, c, x1, x2⟩, x3⟩ := h.mp2
    exact ⟨k, hk, D, ⟨es, c, (hne m2 n2).trans x1, x2⟩, x3⟩
def thenRs (l : List Bd) : Except Nat US → Except Nat US
  | .error e => .error e
  | .ok s' => bindRs s' l
theorem bindRs_cons (s : US) (x : Bd) (l : List Bd) : bindRs s (x :: l) = thenRs l (bindR s x.v ⟨x.a, x.b, x.c, x.d, x.t⟩) := by
  unfold bindRs thenRs
  cases bindR s x.v ⟨x.a, x.b, x.c, x.d, x.t⟩ <;> rfl
def rowRes (st : US) (A C : Rw) (o : Option (List Bd)) : Except Nat US := match o with
  | none => .error 1
  | some l => if !A.cnt || !C.cnt || decide (4096 ≤ st.fresh) then .error 3 else bindRs ⟨st.made, if l.length = 2 then st.fresh + 1 else st.fresh⟩ l
/-- what holds in each round of OneRow. -/
structure RowInv (a0 a1 a2 : Addr) (B : Nat) (w : World) (s m1 m2 : Nat) (mv : Value) (R : Except Nat US) (v2 : Value) (l : List Bd) (j : Nat) (wr : World) : Prop where
  ex : ∃ mv' gs' st', SetAt B wr s mv' m1 m2 gs' st' ∧ GoodL st' (l.drop j) ∧ bindRs st' (l.drop j) = R ∧ (∀ k, k < w.heap.size → mv'.ownBlock = some k → mv.ownBlock = some k) ∧
    ((v2 = .slice none 0 0 ∧ l = []) ∨ ∃ g, v2 = .slice (some ⟨g, 0, none⟩) l.length l.length ∧ g < wr.heap.size ∧ w.heap.size ≤ g ∧ ¬ mv'.ownBlock = some g ∧ ∀ i, i < l.length → BdAt wr g i (l.getD i ⟨0, 0, 0, 0, 0, 0⟩))
  bar : Bar (SetB s m1 m2 mv) w wr
  sen : SenB B a0 a1 a2 wr
theorem RowInv.done {a0 a1 a2 : Addr} {B : Nat} {w : World} {s m1 m2 : Nat} {mv : Value} {R : Except Nat US} {v2 : Value} {l : List Bd} {j : Nat} {wr : World} (h : RowInv a0 a1 a2 B w s m1 m2 mv R v2 l j wr) (hj : l.length ≤ j) : SetPost a0 a1 a2 B w s m1 m2 mv R (.returned .nilIface) wr := by
  obtain ⟨⟨mv', gs', st', h1, h2, h3, h4, _⟩, hb, _⟩ := h
  rw [List.drop_of_length_le hj] at h3
  simp only [bindRs] at h3
  subst h3
  exact ⟨⟨rfl, mv', gs', h1, h4⟩, hb⟩
def UnC (W0 : World) (o : Option (List Bd)) (s7 s8 : Value) (W : World) : Prop := s8 = .bool o.isSome ∧ BdsIs W0.heap.size W s7 (o.getD []) ∧ Below W0.heap.size W0 W
set_option maxRecDepth 100000 in
set_option maxHeartbeats 8000000 in
theorem oneRow_any (a0 a1 a2 : Addr) (B : Nat) (w : World) (s : Nat) (mv : Value) (m1 m2 : Nat) (gs : List Nat) (st : US) (h : Hid (SetAt B w s mv m1 m2 gs st)) (hi : Hid (UInv st)) (hE : Hid (SenB B a0 a1 a2 w)) (a b : Rw) (ha : a.may = true) (hb : b.may = true) (hta : a.t < st.fresh) (htb : b.t < st.fresh) :
    Calls Tryd.prog 104 #[ptrS s, rwV a, rwV b] w (SetPost a0 a1 a2 B w s m1 m2 mv (rowU st a b)) := by
  have hBw : B ≤ w.heap.size := by have := h.out.bs; have := h.out.s_lt; omega
  have hsl := h.out.s_lt
  have kA := Lib.hid fun (W : World) (hW : Below w.heap.size w W) => underRow_any B W s mv m1 m2 gs st (Lib.hid (h.out.keep hW)) hi a ha
  have kB := Lib.hid fun (W : World) (hW : Below w.heap.size w W) => underRow_any B W s mv m1 m2 gs st (Lib.hid (h.out.keep hW)) hi b hb
  generalize hAe : putR (rhU st.made) a = A at kA
  generalize hBe : putR (rhU st.made) b = C at kB
  obtain ⟨R, hR0⟩ : ∃ R, rowU st a b = R := ⟨_, rfl⟩
  rw [hR0]
  have hR0' := Lib.hid hR0
  clear hR0
  have hAe' := Lib.hid hAe
  have hBe' := Lib.hid hBe
  clear hAe hBe
  unfold ptrS rwV at *
  go_enter Tryd.func104, Tryd.ntmps104
  go_upto_region 1 with fail
  go_cut [12, 13, 14, 15, 16, 17] (fun s12 s13 s14 s15 s16 s17 wx => RowsPost w A C wx)
  case first =>
    have hst := rows_s (w := w) (a := a) (b := b) ((Below.refl (w.heap.size + 2) ((w.alloc (.cells #[.int .i64 a.a, .int .i64 a.b, .int .i64 a.c, .int .i64 a.d, .int .i64 a.t] 36)).alloc (.cells #[.int .i64 b.a, .int .i64 b.b, .int .i64 b.c, .int .i64 b.d, .int .i64 b.t] 36))).drew)
    go_region_with ((go_at_call 109; (first | (with_reducible refine (kA.out _ (rows_bel (by assumption))).mono ?_; rintro e w1 ⟨rfl, hb1⟩; have hSA := rows_go (by assumption) hb1; obtain ⟨p0, p1, p2, p3, p4, p5, p6, p7, p8, p9, p10, p11, p12, p13, p14, p15, p16, p17, p18, p19, pb, ps⟩ := id hSA) | (with_reducible refine (kB.out _ (rows_bel (by assumption))).mono ?_; rintro e w2 ⟨rfl, hb2⟩; have hSB := rows_go (by assumption) hb2; obtain ⟨q0, q1, q2, q3, q4, q5, q6, q7, q8, q9, q10, q11, q12, q13, q14, q15, q16, q17, q18, q19, qb, qs⟩ := id hSB))))
    all_goals (go_wp2_with fail; go_meet)
    all_goals (first | with_reducible exact rows_end hSB | with_reducible exact rows_end hSA)
  case rest =>
    rename World => W1
    obtain ⟨⟨l4, x0, x1, x2, x3, x4⟩, ⟨l5, y0, y1, y2, y3, y4⟩, hbc⟩ := hcut
    have hAc := h.out.keep hbc
    obtain ⟨_, _, _, f3, fz⟩ := hAc.cs
    have hslc := hAc.s_lt
    have hWA : mayW A.a A.b A.c A.d A.t = true := by rw [← hAe'.out]; exact putR_W (rhU_ok hi.out) ha
    have hWC : mayW C.a C.b C.c C.d C.t = true := by rw [← hBe'.out]; exact putR_W (rhU_ok hi.out) hb
    have hWA' := Lib.hid hWA
    have hWC' := Lib.hid hWC
    have hAc' := Lib.hid hAc
    have hbc' := Lib.hid hbc
    clear hAc hbc hWA hWC kA kB
    have kU := Lib.hid fun (W : World) => unify_anyW A.a A.b A.c A.d A.t C.a C.b C.c C.d C.t st.fresh W hWA'.out hWC'.out
    obtain ⟨o, ho⟩ : ∃ o, uniR A C st.fresh = o := ⟨_, rfl⟩
    unfold uniR at ho
    rw [ho] at kU
    have ho' := Lib.hid (show uniR A C st.fresh = o from ho)
    clear ho
    go_upto_region 2 with fail
    go_cut [7, 8, 18, 19, 20, 21, 22, 23, 24, 25, 26, 27] (fun s7 s8 s18 s19 s20 s21 s22 s23 s24 s25 s26 s27 wx => UnC W1 o s7 s8 wx)
    case first =>
      go_region_with ((go_at_call 110; refine (kU.out _).mono ?_; rintro e w2 ⟨v2, rfl, hBd, hb2⟩))
      all_goals (go_wp2_with fail; go_meet)
      all_goals exact ⟨rfl, hBd, ⟨hb2.os, hb2.tape, hb2.output, hb2.size, hb2.block⟩⟩
    case rest =>
      obtain ⟨rfl, hBd, hb2⟩ := hcut
      have hBd' := Lib.hid hBd
      have hbw : Hid (Below w.heap.size w wc) := Lib.hid (hbc'.out.trans (hb2.mono hbc'.out.size))
      have hAc := Lib.hid (hAc'.out.keep hb2)
      have hSe := Lib.hid (hE.out.bel (hbw.out.mono hBw))
      have hrow := Lib.hid (show R = rowRes st A C o from by
        rw [← hR0'.out]; unfold rowU rowRes; rw [hAe'.out, hBe'.out, ho'.out]; cases o <;> rfl)
      have hEr := Lib.hid fun (W : World) (hb : Bar (SetB s m1 m2 mv) w W) (k : Nat) (e : R = .error k) => (show SetPost a0 a1 a2 B w s m1 m2 mv R (.returned (errN a0 a1 a2 k)) W from by rw [e]; exact ⟨⟨_, 0, rfl, rfl⟩, hb⟩)
      have hgood := Lib.hid fun (l : List Bd) (hA : A.cnt = true) (hC : C.cnt = true) (hf : st.fresh < 4096) (hl : o = some l) => (show GoodL ⟨st.made, if l.length = 2 then st.fresh + 1 else st.fresh⟩ l from uniR_good hi.out ha hb hta htb (by rw [hAe'.out]; exact hA) (by rw [hBe'.out]; exact hC) hf (by rw [hAe'.out, hBe'.out, ho'.out]; exact hl))
      have hfr0 := hi.out.f0
      have hfr1 := hi.out.f1
      have rA := (show RowAt W1 w.heap.size A from ⟨l4, x0, x1, x2, x3, x4⟩).below hb2
      have rC := (show RowAt W1 (w.heap.size + 1) C from ⟨l5, y0, y1, y2, y3, y4⟩).below hb2
      have hl2 : Hid (∀ l, o = some l → l.length ≤ 2) := Lib.hid fun l hl => by
        have h0 := ho'.out
        rw [hl] at h0
        have := uniR_cases (by have := of_decide_eq_true hWA'.out; omega) (by have := of_decide_eq_true hWC'.out; omega) h0
        rcases this with rfl | ⟨_, _, rfl⟩ | ⟨_, _, rfl⟩ | ⟨_, _, _, rfl⟩ <;> simp
      clear hb2 hBd x0 x1 x2 x3 x4 y0 y1 y2 y3 y4 f3 fz hAc' hWA' hWC' hAe' hBe' ho' kU hb ha hta htb
      cases o with
      | none =>
        have hc := hSe.out.sen.c1
        have hans := Lib.hid (hEr.out wc (Bar.of_below hbw.out) 1 hrow.out)
        rw [errN1] at hans
        clear rA rC
        unfold errV at *
        simp only [Option.isSome_none] at *
        go_wp2_with fail
        go_ret
        exact hans.out
      | some l =>
        simp only [Option.isSome_some] at *
        have hl2' := hl2.out l rfl
        obtain ⟨l4, x0, x1, x2, x3, x4⟩ := rA
        obtain ⟨l5, y0, y1, y2, y3, y4⟩ := rC
        have hkA : Hid (A.cnt = cntR A.a A.b A.c A.d) := Lib.hid rfl
        have hkC : Hid (C.cnt = cntR C.a C.b C.c C.d) := Lib.hid rfl
        obtain ⟨qA, hqA⟩ : ∃ q, cntR A.a A.b A.c A.d = q := ⟨_, rfl⟩
        obtain ⟨qC, hqC⟩ : ∃ q, cntR C.a C.b C.c C.d = q := ⟨_, rfl⟩
        have kA := Lib.hid fun (W : World) => cntMay_any A.a A.b A.c A.d A.t W
        have kC := Lib.hid fun (W : World) => cntMay_any C.a C.b C.c C.d C.t W
        rw [hqA] at kA hkA
        rw [hqC] at kC hkC
        have hm3 := Lib.hid fun (hq : (!A.cnt || !C.cnt || decide (4096 ≤ st.fresh)) = true) => (show R = .error 3 from by rw [hrow.out]; unfold rowRes; simp only [hq, if_true])
        have hAk := Lib.hid fun (W : World) (hW : Below wc.heap.size wc W) => (show Below w.heap.size w W from hbw.out.trans (hW.mono hbw.out.size))
        have hSk := Lib.hid fun (W : World) (hW : Below w.heap.size w W) => (hE.out.bel (hW.mono hBw)).sen.c2
        have rC := Lib.hid (show RowAt wc (w.heap.size + 1) C from ⟨l5, y0, y1, y2, y3, y4⟩)
        clear l5 y0 y1 y2 y3 y4
        cases qA
        · have hans := Lib.hid fun (W : World) (hW : Below w.heap.size w W) => hEr.out W (Bar.of_below hW) 3 (hm3.out (by rw [hkA.out]; rfl))
          rw [errN3] at hans
          go_wp2_with fail
          refine (kA.out _).mono ?_
          rintro e w3 ⟨rfl, hb3⟩
          have hW3 := Lib.hid (hAk.out w3 hb3)
          have hc := hSk.out w3 hW3.out
          clear hb3 x0 x1 x2 x3 x4
          unfold errV at *
          go_wp2_with fail
          go_ret
          exact hans.out _ hW3.out
        · go_wp2_with fail
          refine (kA.out _).mono ?_
          rintro e w3 ⟨rfl, hb3⟩
          obtain ⟨l5, y0, y1, y2, y3, y4⟩ := rC.out.below hb3
          have hb3' := Lib.hid hb3
          clear hb3 x0 x1 x2 x3 x4 l4
          cases qC
          · have hans := Lib.hid fun (W : World) (hW : Below w.heap.size w W) => hEr.out W (Bar.of_below hW) 3 (hm3.out (by rw [hkA.out, hkC.out]; rfl))
            rw [errN3] at hans
            go_wp2_with fail
            refine (kC.out _).mono ?_
            rintro e w4 ⟨rfl, hb4⟩
            have hW4 := Lib.hid (hAk.out w4 (belT hb3'.out hb4))
            have hc := hSk.out w4 hW4.out
            clear hb4 y0 y1 y2 y3 y4 l5
            unfold errV at *
            go_wp2_with fail
            go_ret
            exact hans.out _ hW4.out
          · go_wp2_with fail
            refine (kC.out _).mono ?_
            rintro e w4 ⟨rfl, hb4⟩
            have hb4' := Lib.hid (belT hb3'.out hb4)
            have hW4 := Lib.hid (hAk.out w4 hb4'.out)
            have hA4 := Lib.hid (hAc.out.keep hb4'.out)
            obtain ⟨_, _, _, f3, fz⟩ := hA4.out.cs
            have fz3 := fz 3
            have hsl4 := hA4.out.s_lt
            clear hb4 y0 y1 y2 y3 y4 l5 fz
            by_cases hf : 4096 ≤ st.fresh
            · have hans := Lib.hid (hEr.out w4 (Bar.of_below hW4.out) 3 (hm3.out (by rw [hkA.out, hkC.out, decide_eq_true hf]; rfl)))
              rw [errN3] at hans
              have hc := hSk.out w4 hW4.out
              unfold errV at *
              go_wp2_with fail
              go_ret
              exact hans.out
            · have hR := Lib.hid (show R = bindRs ⟨st.made, if l.length = 2 then st.fresh + 1 else st.fresh⟩ l from by
                rw [hrow.out]; unfold rowRes; simp only []; rw [hkA.out, hkC.out, decide_eq_false hf]; rfl)
              have hg := Lib.hid (hgood.out l hkA.out hkC.out (by omega) rfl)
              have hBd4 : Hid ((u7 = .slice none 0 0 ∧ l = []) ∨ ∃ g, u7 = .slice (some ⟨g, 0, none⟩) l.length l.length ∧ g < w4.heap.size ∧ W1.heap.size ≤ g ∧ ∀ i, i < l.length → BdAt w4 g i (l.getD i ⟨0, 0, 0, 0, 0, 0⟩)) := Lib.hid (by
                rcases hBd'.out with h0 | ⟨g, h1, h2, h3, h4⟩
                · exact .inl h0
                · refine .inr ⟨g, h3, by have := hb4'.out.size; omega, h1, fun i hi => ?_⟩
                  obtain ⟨k0, k1, k2, k3, k4, k5, k6, k7⟩ := h4 i hi
                  exact ⟨carry hb4'.out h2 k0, carry hb4'.out h2 k1, carry hb4'.out h2 k2, carry hb4'.out h2 k3, carry hb4'.out h2 k4, carry hb4'.out h2 k5, carry hb4'.out h2 k6, carry hb4'.out h2 k7⟩)
              have hSe4 := Lib.hid (hE.out.bel (hW4.out.mono hBw))
              obtain ⟨ad, rfl⟩ : ∃ ad, u7 = .slice ad l.length l.length := by
                rcases hBd4.out with ⟨rfl, h0⟩ | ⟨g, rfl, _⟩
                · exact ⟨none, by rw [h0]; rfl⟩
                · exact ⟨_, rfl⟩
              have hlow := Lib.hid h.out.low
              have hB4 := Lib.hid (Bar.of_below (S := SetB s m1 m2 mv) hW4.out)
              have hW1z : w.heap.size ≤ W1.heap.size := hbc'.out.size
              have hmk := Lib.hid fun (W8 : World) (st8 : US) (hA8 : SetAt B W8 s mv m1 m2 gs st8) (hb8 : Bar (SetB s m1 m2 mv) w4 W8) (hst8 : st8 = ⟨st.made, if l.length = 2 then st.fresh + 1 else st.fresh⟩) => (show RowInv a0 a1 a2 B w s m1 m2 mv R (.slice ad l.length l.length) l 0 W8 from
                ⟨⟨mv, gs, st8, hA8, by rw [List.drop_zero, hst8]; exact hg.out, by rw [List.drop_zero, hst8]; exact hR.out.symm, fun k _ hk => hk, by
                  rcases hBd4.out with h0 | ⟨g, h1, h2, h3, h4⟩
                  · exact .inl h0
                  · have hng : ¬ SetB s m1 m2 mv g := fun hk => by have := (hlow.out g hk).2; omega
                    refine .inr ⟨g, h1, by have := hb8.size; omega, by omega, fun hk => hng (.inr (.inr (.inr hk))), fun i hi => ?_⟩
                    obtain ⟨k0, k1, k2, k3, k4, k5, k6, k7⟩ := h4 i hi
                    exact ⟨hb8.cell k0 hng, hb8.cell k1 hng, hb8.cell k2 hng, hb8.cell k3 hng, hb8.cell k4 hng, hb8.cell k5 hng, hb8.cell k6 hng, hb8.cell k7 hng⟩⟩,
                  hB4.out.trans hb8 fun _ _ h => h, hSe4.out.bel (hA4.out.bel hb8)⟩)
              clear hBd4 hg hR hgood hm3 hrow hl2 hBd' hSk hAk hAc hW4 hb3' hb4' hkA hkC kA kC rC
              by_cases h2 : l.length = 2
              · have h2i : (l.length : Int) = 2 := by omega
                obtain ⟨hA8, hb8⟩ := SetAt.next (m := st.made) (f := st.fresh) hA4.out (st.fresh + 1)
                have hI := Lib.hid (hmk.out _ ⟨st.made, st.fresh + 1⟩ hA8 hb8 (by rw [if_pos h2]))
                clear hA8 hb8 hmk
                go_wp2_with fail
                go_loopw [59] (fun i wr => ∃ j : Nat, j ≤ l.length ∧ i = .int .i64 j ∧ Hid (RowInv a0 a1 a2 B w s m1 m2 mv R (.slice ad l.length l.length) l j wr)) (fun i _ => l.length - (intOf i).toNat)
                case atStart => exact ⟨0, by omega, rfl, hI⟩
                case round =>
                  obtain ⟨j, hj, rfl, hJ⟩ := hrel
                  by_cases hlt : j < l.length
                  · obtain ⟨mv', gs', st', q1, q2, q3, q4, q5⟩ := hJ.out.ex
                    obtain ⟨g, hq, hgl, hgw, hgm, hcl⟩ : ∃ g, ad = some ⟨g, 0, none⟩ ∧ g < wr.heap.size ∧ w.heap.size ≤ g ∧ ¬ mv'.ownBlock = some g ∧ ∀ i, i < l.length → BdAt wr g i (l.getD i ⟨0, 0, 0, 0, 0, 0⟩) := by
                      rcases q5 with ⟨_, h0⟩ | ⟨g, h1, h2, h3, h4, h5⟩
                      · rw [h0] at hlt; simp at hlt
                      · injection h1 with h1 _ _; exact ⟨g, h1, h2, h3, h4, h5⟩
                    subst hq
                    have hdr : l.drop j = l.getD j ⟨0, 0, 0, 0, 0, 0⟩ :: l.drop (j + 1) := by
                      rw [List.drop_eq_getElem_cons hlt]; congr 1; rw [List.getD_eq_getElem?_getD, List.getElem?_eq_getElem hlt]; rfl
                    rw [hdr] at q2 q3
                    obtain ⟨k0, k1, k2, k3, k4, k5, k6, k7⟩ := hcl j hlt
                    have hcl' := Lib.hid hcl
                    generalize l.getD j ⟨0, 0, 0, 0, 0, 0⟩ = x at q2 q3 k0 k1 k2 k3 k4 k5 k6 k7
                    obtain ⟨g1, g2, g3, g4⟩ := q2
                    have hJb := Lib.hid hJ.out.bar
                    have hJs := Lib.hid hJ.out.sen
                    have hlt' : (j : Int) < (l.length : Int) := by omega
                    have hj0 : (0 : Int) ≤ (j : Int) := by omega
                    have kT := Lib.hid fun (W : World) (hW : Below wr.heap.size wr W) => setBindR_any a0 a1 a2 B W s mv' m1 m2 gs' st' (Lib.hid (q1.keep hW)) (Lib.hid g1) (Lib.hid (hJs.out.bel (hW.mono (by have := q1.bs; have := q1.s_lt; omega)))) x.v g2 x.row g3
                    have hst := Lib.hid fun (W W' : World) (hW : Below wr.heap.size wr W) (hb : Bar (SetB s m1 m2 mv') W W') => (show Bar (SetB s m1 m2 mv) w W' from (hJb.out.trans (Bar.of_below (S := SetB s m1 m2 mv) hW) fun _ _ h => h).trans hb fun k hk hs => by
                      rcases hs with h | h | h | h
                      · exact .inl h
                      · exact .inr (.inl h)
                      · exact .inr (.inr (.inl h))
                      · exact .inr (.inr (.inr (q4 k hk h))))
                    have hlow' := Lib.hid q1.low
                    have hq3 := Lib.hid q3
                    have hq4 := Lib.hid q4
                    have hg4 := Lib.hid g4
                    have hgm' := Lib.hid hgm
                    have hbs := Lib.hid (show ∀ k, SetB s m1 m2 mv' k → B ≤ k from fun k hk => (q1.low k hk).1)
                    have hBr : B ≤ wr.heap.size := by have := q1.bs; have := q1.s_lt; omega
                    have hsm : Hid (¬ SetB s m1 m2 mv' g) := Lib.hid (by
                      have hl0 := hlow.out
                      rintro (h | h | h | h)
                      · omega
                      · have := (hl0 m1 (.inr (.inl rfl))).2; omega
                      · have := (hl0 m2 (.inr (.inr (.inl rfl)))).2; omega
                      · exact hgm h)
                    clear q1 q3 q4 q5 g1 g2 g3 g4 hcl hgm hJ hI hdr
                    unfold Bd.row rwV ptrS at kT
                    simp only [] at kT
                    obtain ⟨rr, hrr⟩ : ∃ rr, bindR st' x.v ⟨x.a, x.b, x.c, x.d, x.t⟩ = rr := ⟨_, rfl⟩
                    rw [hrr] at kT
                    have hq3' := Lib.hid (show thenRs (l.drop (j + 1)) rr = R from by rw [← hq3.out, ← hrr]; exact (bindRs_cons st' x _).symm)
                    have hg4' := Lib.hid fun (s' : US) (e : rr = .ok s') => hg4.out s' (by rw [← e, ← hrr]; rfl)
                    clear hrr hq3 hg4
                    go_wp2_with fail
                    refine (kT.out _ (below_alc wr _)).mono ?_
                    rintro e w5 ⟨hr5, hbar5⟩
                    have hw5 := Lib.hid (hst.out _ w5 (below_alc wr _) hbar5)
                    have hs5 := Lib.hid (hJs.out.bel ((below_alc wr (.cells #[.int .i64 x.v, .bool true, .slice none 0 0, .int .i64 x.a, .int .i64 x.b, .int .i64 x.c, .int .i64 x.d, .int .i64 x.t] 40)).mono hBr |>.trans (hbar5.below (by simp; omega) hbs.out)))
                    cases rr with
                    | error k =>
                      obtain ⟨v5, d5, rfl, hD5⟩ := hr5
                      obtain ⟨t5, u5, rfl⟩ := hD5.iface
                      have hD5' := Lib.hid hD5
                      have hne : ∀ W : World, (binOp .neq 59 (.iface t5 u5) .nilIface).run Tryd.prog W = .ok (.bool true) W := fun W => by kernel_rfl
                      clear hD5 hbar5 kT k0 k1 k2 k3 k4 k5 k6 k7
                      go_wp2_with fail
                      go_ret
                      rw [← hq3'.out]
                      exact ⟨⟨_, d5, rfl, hD5'.out⟩, hw5.out⟩
                    | ok s5 =>
                      obtain ⟨rfl, mv5, gs5, hA5, hm5⟩ := hr5
                      have hfin := Lib.hid (show RowInv a0 a1 a2 B w s m1 m2 mv R (.slice (some ⟨g, 0, none⟩) l.length l.length) l (j + 1) w5 from
                        ⟨⟨mv5, gs5, s5, hA5, hg4'.out s5 rfl, hq3'.out, fun k hk e => hq4.out k hk (hm5 k (by have := hJb.out.size; simp; omega) e), .inr ⟨g, rfl, by have := hbar5.size; simp at this; omega, hgw, fun e => hgm'.out (hm5 g (by simp; omega) e), fun i hi => by
                          obtain ⟨k0, k1, k2, k3, k4, k5, k6, k7⟩ := hcl'.out i hi
                          have ha := below_alc wr (.cells #[.int .i64 x.v, .bool true, .slice none 0 0, .int .i64 x.a, .int .i64 x.b, .int .i64 x.c, .int .i64 x.d, .int .i64 x.t] 40)
                          exact ⟨hbar5.cell (carry ha hgl k0) hsm.out, hbar5.cell (carry ha hgl k1) hsm.out, hbar5.cell (carry ha hgl k2) hsm.out, hbar5.cell (carry ha hgl k3) hsm.out, hbar5.cell (carry ha hgl k4) hsm.out, hbar5.cell (carry ha hgl k5) hsm.out, hbar5.cell (carry ha hgl k6) hsm.out, hbar5.cell (carry ha hgl k7) hsm.out⟩⟩⟩, hw5.out, hs5.out⟩)
                      clear hA5 hm5 hbar5 kT k0 k1 k2 k3 k4 k5 k6 k7
                      go_wp2_with fail
                      go_roundw
                      case rel => exact ⟨j + 1, by omega, by go_num, hfin⟩
                      case measure => simp [intOf]; omega
                  · obtain rfl : j = l.length := by omega
                    have hfin := Lib.hid (hJ.out.done (Nat.le_refl _))
                    clear hJ hI
                    go_wp2_with fail
                    go_ret
                    exact hfin.out
              · have h2i : ((l.length : Int) == 2) = false := by rw [beq_eq_false_iff_ne]; omega
                have hI := Lib.hid (hmk.out w4 st hA4.out (Bar.refl _ _) (by rw [if_neg h2]))
                clear hmk h2
                go_wp2_with fail
                go_loopw [59] (fun i wr => ∃ j : Nat, j ≤ l.length ∧ i = .int .i64 j ∧ Hid (RowInv a0 a1 a2 B w s m1 m2 mv R (.slice ad l.length l.length) l j wr)) (fun i _ => l.length - (intOf i).toNat)
                case atStart => exact ⟨0, by omega, rfl, hI⟩
                case round =>
                  obtain ⟨j, hj, rfl, hJ⟩ := hrel
                  by_cases hlt : j < l.length
                  · obtain ⟨mv', gs', st', q1, q2, q3, q4, q5⟩ := hJ.out.ex
                    obtain ⟨g, hq, hgl, hgw, hgm, hcl⟩ : ∃ g, ad = some ⟨g, 0, none⟩ ∧ g < wr.heap.size ∧ w.heap.size ≤ g ∧ ¬ mv'.ownBlock = some g ∧ ∀ i, i < l.length → BdAt wr g i (l.getD i ⟨0, 0, 0, 0, 0, 0⟩) := by
                      rcases q5 with ⟨_, h0⟩ | ⟨g, h1, h2, h3, h4, h5⟩
                      · rw [h0] at hlt; simp at hlt
                      · injection h1 with h1 _ _; exact ⟨g, h1, h2, h3, h4, h5⟩
                    subst hq
                    have hdr : l.drop j = l.getD j ⟨0, 0, 0, 0, 0, 0⟩ :: l.drop (j + 1) := by
                      rw [List.drop_eq_getElem_cons hlt]; congr 1; rw [List.getD_eq_getElem?_getD, List.getElem?_eq_getElem hlt]; rfl
                    rw [hdr] at q2 q3
                    obtain ⟨k0, k1, k2, k3, k4, k5, k6, k7⟩ := hcl j hlt
                    have hcl' := Lib.hid hcl
                    generalize l.getD j ⟨0, 0, 0, 0, 0, 0⟩ = x at q2 q3 k0 k1 k2 k3 k4 k5 k6 k7
                    obtain ⟨g1, g2, g3, g4⟩ := q2
                    have hJb := Lib.hid hJ.out.bar
                    have hJs := Lib.hid hJ.out.sen
                    have hlt' : (j : Int) < (l.length : Int) := by omega
                    have hj0 : (0 : Int) ≤ (j : Int) := by omega
                    have kT := Lib.hid fun (W : World) (hW : Below wr.heap.size wr W) => setBindR_any a0 a1 a2 B W s mv' m1 m2 gs' st' (Lib.hid (q1.keep hW)) (Lib.hid g1) (Lib.hid (hJs.out.bel (hW.mono (by have := q1.bs; have := q1.s_lt; omega)))) x.v g2 x.row g3
                    have hst := Lib.hid fun (W W' : World) (hW : Below wr.heap.size wr W) (hb : Bar (SetB s m1 m2 mv') W W') => (show Bar (SetB s m1 m2 mv) w W' from (hJb.out.trans (Bar.of_below (S := SetB s m1 m2 mv) hW) fun _ _ h => h).trans hb fun k hk hs => by
                      rcases hs with h | h | h | h
                      · exact .inl h
                      · exact .inr (.inl h)
                      · exact .inr (.inr (.inl h))
                      · exact .inr (.inr (.inr (q4 k hk h))))
                    have hlow' := Lib.hid q1.low
                    have hq3 := Lib.hid q3
                    have hq4 := Lib.hid q4
                    have hg4 := Lib.hid g4
                    have hgm' := Lib.hid hgm
                    have hbs := Lib.hid (show ∀ k, SetB s m1 m2 mv' k → B ≤ k from fun k hk => (q1.low k hk).1)
                    have hBr : B ≤ wr.heap.size := by have := q1.bs; have := q1.s_lt; omega
                    have hsm : Hid (¬ SetB s m1 m2 mv' g) := Lib.hid (by
                      have hl0 := hlow.out
                      rintro (h | h | h | h)
                      · omega
                      · have := (hl0 m1 (.inr (.inl rfl))).2; omega
                      · have := (hl0 m2 (.inr (.inr (.inl rfl)))).2; omega
                      · exact hgm h)
                    clear q1 q3 q4 q5 g1 g2 g3 g4 hcl hgm hJ hI hdr
                    unfold Bd.row rwV ptrS at kT
                    simp only [] at kT
                    obtain ⟨rr, hrr⟩ : ∃ rr, bindR st' x.v ⟨x.a, x.b, x.c, x.d, x.t⟩ = rr := ⟨_, rfl⟩
                    rw [hrr] at kT
                    have hq3' := Lib.hid (show thenRs (l.drop (j + 1)) rr = R from by rw [← hq3.out, ← hrr]; exact (bindRs_cons st' x _).symm)
                    have hg4' := Lib.hid fun (s' : US) (e : rr = .ok s') => hg4.out s' (by rw [← e, ← hrr]; rfl)
                    clear hrr hq3 hg4
                    go_wp2_with fail
                    refine (kT.out _ (below_alc wr _)).mono ?_
                    rintro e w5 ⟨hr5, hbar5⟩
                    have hw5 := Lib.hid (hst.out _ w5 (below_alc wr _) hbar5)
                    have hs5 := Lib.hid (hJs.out.bel ((below_alc wr (.cells #[.int .i64 x.v, .bool true, .slice none 0 0, .int .i64 x.a, .int .i64 x.b, .int .i64 x.c, .int .i64 x.d, .int .i64 x.t] 40)).mono hBr |>.trans (hbar5.below (by simp; omega) hbs.out)))
                    cases rr with
                    | error k =>
                      obtain ⟨v5, d5, rfl, hD5⟩ := hr5
                      obtain ⟨t5, u5, rfl⟩ := hD5.iface
                      have hD5' := Lib.hid hD5
                      have hne : ∀ W : World, (binOp .neq 59 (.iface t5 u5) .nilIface).run Tryd.prog W = .ok (.bool true) W := fun W => by kernel_rfl
                      clear hD5 hbar5 kT k0 k1 k2 k3 k4 k5 k6 k7
                      go_wp2_with fail
                      go_ret
                      rw [← hq3'.out]
                      exact ⟨⟨_, d5, rfl, hD5'.out⟩, hw5.out⟩
                    | ok s5 =>
                      obtain ⟨rfl, mv5, gs5, hA5, hm5⟩ := hr5
                      have hfin := Lib.hid (show RowInv a0 a1 a2 B w s m1 m2 mv R (.slice (some ⟨g, 0, none⟩) l.length l.length) l (j + 1) w5 from
                        ⟨⟨mv5, gs5, s5, hA5, hg4'.out s5 rfl, hq3'.out, fun k hk e => hq4.out k hk (hm5 k (by have := hJb.out.size; simp; omega) e), .inr ⟨g, rfl, by have := hbar5.size; simp at this; omega, hgw, fun e => hgm'.out (hm5 g (by simp; omega) e), fun i hi => by
                          obtain ⟨k0, k1, k2, k3, k4, k5, k6, k7⟩ := hcl'.out i hi
                          have ha := below_alc wr (.cells #[.int .i64 x.v, .bool true, .slice none 0 0, .int .i64 x.a, .int .i64 x.b, .int .i64 x.c, .int .i64 x.d, .int .i64 x.t] 40)
                          exact ⟨hbar5.cell (carry ha hgl k0) hsm.out, hbar5.cell (carry ha hgl k1) hsm.out, hbar5.cell (carry ha hgl k2) hsm.out, hbar5.cell (carry ha hgl k3) hsm.out, hbar5.cell (carry ha hgl k4) hsm.out, hbar5.cell (carry ha hgl k5) hsm.out, hbar5.cell (carry ha hgl k6) hsm.out, hbar5.cell (carry ha hgl k7) hsm.out⟩⟩⟩, hw5.out, hs5.out⟩)
                      clear hA5 hm5 hbar5 kT k0 k1 k2 k3 k4 k5 k6 k7
                      go_wp2_with fail
                      go_roundw
                      case rel => exact ⟨j + 1, by omega, by go_num, hfin⟩
                      case measure => simp [intOf]; omega
                  · obtain rfl : j = l.length := by omega
                    have hfin := Lib.hid (hJ.out.done (Nat.le_refl _))
                    clear hJ hI
                    go_wp2_with fail
                    go_ret
                    exact hfin.out
end Go.Proofs.YtfkdcconmecaoaaDoor

/- A set of binds: functions, given what One does. -/
namespace Go.Proofs.YtfkdcconmecaoaaDoor
open Go.RowKit Go.Maps
set_option linter.unusedVariables false
set_option linter.unusedSimpArgs false

theorem SetPost.trans {a0 a1 a2 : Addr} {B : Nat} {w w1 w2 : World} {s m1 m2 : Nat} {mv mv1 : Value} {r : Except Nat US} {e : Ending} (hb : Bar (SetB s m1 m2 mv) w w1) (ho : ∀ k, k < w.heap.size → mv1.ownBlock = some k → mv.ownBlock = some k)
    (h : SetPost a0 a1 a2 B w1 s m1 m2 mv1 r e w2) : SetPost a0 a1 a2 B w s m1 m2 mv r e w2 := by
  obtain ⟨h1, h2⟩ := h
  have hb2 : Bar (SetB s m1 m2 mv) w w2 := hb.trans h2 fun k hk hs => by
    rcases hs with h | h | h | h
    · exact .inl h
    · exact .inr (.inl h)
    · exact .inr (.inr (.inl h))
    · exact .inr (.inr (.inr (ho k hk h)))
  refine ⟨?_, hb2⟩
  cases r with
  | error k => exact h1
  | ok st' =>
    obtain ⟨rfl, mv', gs', h3, h4⟩ := h1
    exact ⟨rfl, mv', gs', h3, fun k hk e => ho k hk (h4 k (by have := hb.size; omega) e)⟩
theorem SetPost.ret {a0 a1 a2 : Addr} {B : Nat} {w w1 : World} {s m1 m2 : Nat} {mv : Value} {r : Except Nat US} {e : Ending} (h : SetPost a0 a1 a2 B w s m1 m2 mv r e w1) : ∃ v, e = .returned v := by
  obtain ⟨h1, _⟩ := h
  cases r with
  | error k => obtain ⟨v, d, rfl, _⟩ := h1; exact ⟨v, rfl⟩
  | ok st' => exact ⟨_, h1.1⟩
theorem SetPost.err {a0 a1 a2 : Addr} {B : Nat} {w w1 : World} {s m1 m2 : Nat} {mv : Value} {k : Nat} {v : Value} (h : SetPost a0 a1 a2 B w s m1 m2 mv (.error k) (.returned v) w1) : ∃ t u, v = .iface t u := by
  obtain ⟨⟨v', d, e, hD⟩, _⟩ := h
  injection e with e; subst e
  exact hD.iface
/-- an error in a part. -/
theorem SetPost.part {a0 a1 a2 : Addr} {B : Nat} {w w1 : World} {s m1 m2 : Nat} {mv : Value} {k : Nat} {v : Value} (h : SetPost a0 a1 a2 B w s m1 m2 mv (.error k) (.returned v) w1) (x : ByteArray) :
    SetPost a0 a1 a2 B w s m1 m2 mv (.error k) (.returned (.iface 177 (.pointer (some ⟨w1.heap.size, 0, none⟩)))) (w1.alloc (.cells #[.string x, v] 179)) := by
  obtain ⟨⟨v', d, e, hD⟩, hb⟩ := h
  injection e with e; subst e
  exact ⟨⟨_, d + 1, rfl, w1.heap.size, x, v, rfl, alloc_last _ _, hD.below (below_alc _ _)⟩, hb.trans (Bar.of_below (S := SetB s m1 m2 mv) (below_alc _ _)) fun _ _ h => h⟩
def fnU (n : Nat) (st : US) (a1 : TT) (r1 : Rw) (b1 a2 : TT) (r2 : Rw) (b2 : TT) : Option (Except Nat US) :=
  match oneU n st a1 a2 with
  | none => none
  | some (.error e) => some (.error e)
  | some (.ok s1) => match rowU s1 r1 r2 with
    | .error e => some (.error e)
    | .ok s2 => oneU n s2 b1 b2
/-- what One does, as far as n tells. -/
def OneCon (a0 a1 a2 : Addr) (B s m1 m2 n : Nat) : Prop := ∀ (w : World) (mv : Value) (gs : List Nat) (st : US) (T1 T2 : TT) (g1 g2 : Nat) (r : Except Nat US),
  SetAt B w s mv m1 m2 gs st → UInv st → SenB B a0 a1 a2 w → TIn st T1 → TIn st T2 → T1.sz ≤ 256 → T2.sz ≤ 256 → Shp w T1 g1 → Shp w T2 g2 → oneU n st T1 T2 = some r →
  Calls Tryd.prog 46 #[ptrS s, ptrS g1, ptrS g2] w (SetPost a0 a1 a2 B w s m1 m2 mv r)
theorem nil_neq (W : World) : (binOp .neq 59 .nilIface .nilIface).run Tryd.prog W = .ok (.bool false) W := by kernel_rfl
theorem ifc_neq (t : TypeId) (u : Value) (W : World) : (binOp .neq 59 (.iface t u) .nilIface).run Tryd.prog W = .ok (.bool true) W := by kernel_rfl
/-- behind a step that went well. -/
structure Went (a0 a1 a2 : Addr) (B s m1 m2 : Nat) (w : World) (mv : Value) (st : US) (mv1 : Value) (gs1 : List Nat) (s1 : US) (w1 : World) : Prop where
  at_ : SetAt B w1 s mv1 m1 m2 gs1 s1
  own : ∀ k, k < w.heap.size → mv1.ownBlock = some k → mv.ownBlock = some k
  bar : Bar (SetB s m1 m2 mv) w w1
theorem Went.of {a0 a1 a2 : Addr} {B s m1 m2 : Nat} {w : World} {mv : Value} {st s1 : US} {w1 : World} {v : Value} (h : SetPost a0 a1 a2 B w s m1 m2 mv (.ok s1) (.returned v) w1) : v = .nilIface ∧ ∃ mv1 gs1, Went a0 a1 a2 B s m1 m2 w mv st mv1 gs1 s1 w1 := by
  obtain ⟨⟨e, mv', gs', h3, h4⟩, hb⟩ := h
  injection e with e
  exact ⟨e, mv', gs', h3, h4, hb⟩
set_option maxRecDepth 100000 in
set_option maxHeartbeats 8000000 in
theorem functions_any (a0 a1 a2 : Addr) (B s m1 m2 n : Nat) (hone : Hid (OneCon a0 a1 a2 B s m1 m2 n)) (w : World) (mv : Value) (gs : List Nat) (st : US) (A1 : TT) (r1 : Rw) (B1 A2 : TT) (r2 : Rw) (B2 : TT) (g1 g2 : Nat) (r : Except Nat US)
    (h : Hid (SetAt B w s mv m1 m2 gs st)) (hi : Hid (UInv st)) (hE : Hid (SenB B a0 a1 a2 w)) (h1 : Hid (TIn st (.fn A1 r1 B1))) (h2 : Hid (TIn st (.fn A2 r2 B2))) (hz1 : (TT.fn A1 r1 B1).sz ≤ 256) (hz2 : (TT.fn A2 r2 B2).sz ≤ 256)
    (hS1 : Hid (Shp w (.fn A1 r1 B1) g1)) (hS2 : Hid (Shp w (.fn A2 r2 B2) g2)) (hr : Hid (fnU n st A1 r1 B1 A2 r2 B2 = some r)) :
    Calls Tryd.prog 80 #[ptrS s, ptrS g1, ptrS g2] w (SetPost a0 a1 a2 B w s m1 m2 mv r) := by
  obtain ⟨oa1, or1, ob1⟩ := fn_ok h1.out.ok
  obtain ⟨oa2, or2, ob2⟩ := fn_ok h2.out.ok
  obtain ⟨ta1, tr1, tb1⟩ := fn_tl h1.out.tl
  obtain ⟨ta2, tr2, tb2⟩ := fn_tl h2.out.tl
  simp only [TT.sz] at hz1 hz2
  have hBw : B ≤ w.heap.size := by have := h.out.bs; have := h.out.s_lt; omega
  obtain ⟨q1, hq1⟩ : ∃ q, oneU n st A1 A2 = some q := by
    have := hr.out; unfold fnU at this
    cases hq : oneU n st A1 A2 with
    | none => rw [hq] at this; cases this
    | some q => exact ⟨q, rfl⟩
  have hshp := Lib.hid fun (W : World) (mv' : Value) (hb : Bar (SetB s m1 m2 mv) w W) => And.intro (h.out.shape hb hS1.out) (h.out.shape hb hS2.out)
  obtain ⟨ga1, gb1, hB1, hA1, hBb1⟩ := hS1.out
  obtain ⟨ga2, gb2, hB2, hA2, hBb2⟩ := hS2.out
  have hl1 := hS1.out.lt
  have hl2 := hS2.out.lt
  have c1 := (shC_of hB1).c2
  have c2 := (shC_of hB2).c2
  have k1 := Lib.hid fun (W : World) (hW : Below w.heap.size w W) => hone.out W mv gs st A1 A2 ga1 ga2 q1 (h.out.keep hW) hi.out (hE.out.bel (hW.mono hBw)) ⟨oa1, ta1⟩ ⟨oa2, ta2⟩ (by omega) (by omega) (hA1.keep hW) (hA2.keep hW) hq1
  have hblk := Lib.hid (And.intro hB1 hB2)
  have hn1 : Hid (¬ SetB s m1 m2 mv g1 ∧ ¬ SetB s m1 m2 mv g2) := Lib.hid ⟨h.out.shp_not hS1.out, h.out.shp_not hS2.out⟩
  clear hB1 hB2 hBb1 hBb2 hA1 hA2
  unfold ptrS at *
  go_enter Tryd.func80, Tryd.ntmps80
  go_upto_region 1 with fail
  go_cut [7, 10, 11, 12, 13, 14, 15, 16, 17, 18, 19] (fun s7 s10 s11 s12 s13 s14 s15 s16 s17 s18 s19 wx => SetPost a0 a1 a2 B w s m1 m2 mv q1 (.returned s7) wx)
  case first =>
    go_region_with ((go_at_call 46; refine (k1.out _ ((Below.refl _ _).drew)).mono ?_; rintro e w1 hp; obtain ⟨v7, rfl⟩ := hp.ret))
    all_goals (go_wp2_with fail; go_meet)
    all_goals exact hp.trans (Bar.of_below (Below.refl _ _).drew) fun k _ e => e
  case rest =>
    rename World => W1
    have nn := nil_neq
    cases q1 with
    | error k =>
      have hrr : r = .error k := by
        have := hr.out; unfold fnU at this; rw [hq1] at this; simp only [Option.some.injEq] at this; exact this.symm
      subst hrr
      obtain ⟨t7, x7, rfl⟩ := hcut.err
      have hfin := Lib.hid fun (x : ByteArray) => hcut.part x
      have hne := ifc_neq t7 x7
      clear hcut hshp k1
      go_wp2_with fail
      go_ret
      exact hfin.out _
    | ok s1 =>
      obtain ⟨rfl, mv1, gs1, hw1⟩ := Went.of (st := st) hcut
      have p1 := oneU_res n hi.out ⟨oa1, ta1⟩ ⟨oa2, ta2⟩ hq1
      have hl1' := p1.fr
      have hE1 := hE.out.bel (h.out.bel hw1.bar)
      have hA1 := hw1.at_
      have hBw1 : B ≤ W1.heap.size := by have := hA1.bs; have := hA1.s_lt; omega
      obtain ⟨hT1, hT2⟩ := hshp.out W1 mv hw1.bar
      have hl1 := hT1.lt
      have hl2 := hT2.lt
      have hsh1 := Lib.hid fun (W : World) (hb : Bar (SetB s m1 m2 mv1) W1 W) => And.intro (hA1.shape hb hT1) (hA1.shape hb hT2)
      obtain ⟨ga1', gb1', hB1, _, _⟩ := hT1
      obtain ⟨ga2', gb2', hB2, _, _⟩ := hT2
      have hC1 := shC_of hB1
      have hC2 := shC_of hB2
      have c4 := hC1.c4; have c5 := hC1.c5; have c6 := hC1.c6; have c7 := hC1.c7; have c8 := hC1.c8
      have d4 := hC2.c4; have d5 := hC2.c5; have d6 := hC2.c6; have d7 := hC2.c7; have d8 := hC2.c8
      obtain ⟨q2, hq2⟩ : ∃ q, rowU s1 r1 r2 = q := ⟨_, rfl⟩
      have k2 := Lib.hid fun (W : World) (hW : Below W1.heap.size W1 W) => oneRow_any a0 a1 a2 B W s mv1 m1 m2 gs1 s1 (Lib.hid (hA1.keep hW)) (Lib.hid p1.inv) (Lib.hid (hE1.bel (hW.mono hBw1))) r1 r2 or1 or2 (by omega) (by omega)
      rw [hq2] at k2
      have hw1' := Lib.hid hw1
      have hE1' := Lib.hid hE1
      have p1' := Lib.hid p1
      clear hcut hB1 hB2 hC1 hC2 hA1 hE1 k1 hshp hw1 p1 c1 c2
      unfold rwV ptrS at k2
      go_upto_region 4 with fail
      go_cut [8, 26, 27, 28, 29, 30, 31, 32, 33, 34, 35] (fun s8 s26 s27 s28 s29 s30 s31 s32 s33 s34 s35 wx => SetPost a0 a1 a2 B W1 s m1 m2 mv1 q2 (.returned s8) wx)
      case first =>
        go_region_with ((go_at_call 104; refine (k2.out _ ((Below.refl _ _).drew)).mono ?_; rintro e w1 hp; obtain ⟨v7, rfl⟩ := hp.ret))
        all_goals (go_wp2_with fail; go_meet)
        all_goals exact hp.trans (Bar.of_below (Below.refl _ _).drew) fun k _ e => e
      case rest =>
        rename World => W2
        cases q2 with
        | error k =>
          have hrr : r = .error k := by
            have := hr.out; unfold fnU at this; rw [hq1] at this; simp only [hq2, Option.some.injEq] at this; exact this.symm
          subst hrr
          have hcut := hcut.trans hw1'.out.bar hw1'.out.own
          obtain ⟨t7, x7, rfl⟩ := hcut.err
          have hfin := Lib.hid fun (x : ByteArray) => hcut.part x
          have hne := ifc_neq t7 x7
          clear hcut k2 c4 c5 c6 c7 c8 d4 d5 d6 d7 d8
          rename SetPost _ _ _ _ _ _ _ _ _ _ _ _ => hold
          clear hold
          go_wp2_with fail
          go_ret
          exact hfin.out _
        | ok s2 =>
          obtain ⟨rfl, mv2, gs2, hw2⟩ := Went.of (st := s1) hcut
          have p2 := rowU_res p1'.out.inv or1 or2 (by omega) (by omega) hq2
          have hl2' := p2.fr
          have hE2 := hE1'.out.bel (hw1'.out.at_.bel hw2.bar)
          have hA2 := hw2.at_
          have hBw2 : B ≤ W2.heap.size := by have := hA2.bs; have := hA2.s_lt; omega
          obtain ⟨hT1, hT2⟩ := hsh1.out W2 hw2.bar
          have hl1 := hT1.lt
          have hl2 := hT2.lt
          obtain ⟨ga1', gb1', hB1, _, hb1⟩ := hT1
          obtain ⟨ga2', gb2', hB2, _, hb2⟩ := hT2
          have f1 := (shC_of hB1).c3
          have f2 := (shC_of hB2).c3
          have hq3 : oneU n s2 B1 B2 = some r := by
            have := hr.out; unfold fnU at this; rw [hq1] at this; simp only [hq2] at this; exact this
          have k3 := Lib.hid fun (W : World) (hW : Below W2.heap.size W2 W) => hone.out W mv2 gs2 s2 B1 B2 gb1' gb2' r (hA2.keep hW) p2.inv (hE2.bel (hW.mono hBw2)) ⟨ob1, TT.tl_mono (by omega) hi.out.f0 tb1⟩ ⟨ob2, TT.tl_mono (by omega) hi.out.f0 tb2⟩ (by omega) (by omega) (hb1.keep hW) (hb2.keep hW) hq3
          have hw2' := Lib.hid hw2
          clear hcut hB1 hB2 hA2 hE2 k2 hsh1 hw2 p2 c4 c5 c6 c7 c8 d4 d5 d6 d7 d8 hb1 hb2
          unfold ptrS at *
          go_upto_region 7 with fail
          go_cut [9, 42, 43, 44, 45, 46, 47, 48, 49, 50, 51] (fun s9 s42 s43 s44 s45 s46 s47 s48 s49 s50 s51 wx => SetPost a0 a1 a2 B W2 s m1 m2 mv2 r (.returned s9) wx)
          case first =>
            go_region_with ((go_at_call 46; refine (k3.out _ ((Below.refl _ _).drew)).mono ?_; rintro e w1 hp; obtain ⟨v7, rfl⟩ := hp.ret))
            all_goals (go_wp2_with fail; go_meet)
            all_goals exact hp.trans (Bar.of_below (Below.refl _ _).drew) fun k _ e => e
          case rest =>
            rename World => W3
            have hall := (hcut.trans hw2'.out.bar hw2'.out.own).trans hw1'.out.bar hw1'.out.own
            cases r with
            | error k =>
              obtain ⟨t7, x7, rfl⟩ := hall.err
              have hfin := Lib.hid fun (x : ByteArray) => hall.part x
              have hne := ifc_neq t7 x7
              clear hcut hall k3 f1 f2
              go_wp2_with fail
              go_ret
              exact hfin.out _
            | ok s3 =>
              obtain ⟨rfl, _⟩ := Went.of (st := s1) hcut
              have hfin := Lib.hid hall
              clear hcut hall k3 f1 f2
              go_wp2_with fail
              go_ret
              exact hfin.out
end Go.Proofs.YtfkdcconmecaoaaDoor

/- A set of binds: One. -/
namespace Go.Proofs.YtfkdcconmecaoaaDoor
open Go.RowKit Go.Maps
set_option linter.unusedVariables false
set_option linter.unusedSimpArgs false

theorem kinds4 (A : TT) (h : A.cnt = true → A.ok = true) : (∃ v, A = .var v) ∨ A = .base 0 ∨ A = .base 1 ∨ ∃ a r b, A = .fn a r b := by
  cases A with
  | var v => exact .inl ⟨v, rfl⟩
  | base k =>
    have hk : k = 0 ∨ k = 1 := by have := h rfl; simpa [TT.ok] using this
    rcases hk with rfl | rfl
    · exact .inr (.inl rfl)
    · exact .inr (.inr (.inl rfl))
  | fn a r b => exact .inr (.inr (.inr ⟨a, r, b, rfl⟩))
theorem setPost_err {a0 a1 a2 : Addr} {B : Nat} {w W : World} {s m1 m2 : Nat} {mv : Value} (hb : Below w.heap.size w W) (k : Nat) : SetPost a0 a1 a2 B w s m1 m2 mv (.error k) (.returned (errN a0 a1 a2 k)) W := ⟨⟨_, 0, rfl, rfl⟩, Bar.of_below hb⟩
theorem setPost_same {a0 a1 a2 : Addr} {B : Nat} {w W : World} {s m1 m2 : Nat} {mv : Value} {gs : List Nat} {st : US} (hA : SetAt B W s mv m1 m2 gs st) (hb : Below w.heap.size w W) : SetPost a0 a1 a2 B w s m1 m2 mv (.ok st) (.returned .nilIface) W := ⟨⟨rfl, mv, gs, hA, fun _ _ e => e⟩, Bar.of_below hb⟩
set_option maxRecDepth 100000 in
set_option maxHeartbeats 16000000 in
theorem one_step (a0 a1 a2 : Addr) (B s m1 m2 n : Nat) (ih : Hid (OneCon a0 a1 a2 B s m1 m2 n)) : OneCon a0 a1 a2 B s m1 m2 (n + 1) := by
  intro w mv gs st T1 T2 g1 g2 r h hi hE h1 h2 hz1 hz2 hS1 hS2 hr
  rw [oneU_succ] at hr
  have hBw : B ≤ w.heap.size := by have := h.bs; have := h.s_lt; omega
  have kU1 := Lib.hid (under_any B w s mv m1 m2 gs st (Lib.hid h) (Lib.hid hi) T1 g1 (Lib.hid hS1) h1.ok hz1)
  have kU2 := Lib.hid fun (W : World) (hW : Below w.heap.size w W) => under_any B W s mv m1 m2 gs st (Lib.hid (h.keep hW)) (Lib.hid hi) T2 g2 (Lib.hid (hS2.keep hW)) h2.ok hz2
  have oA := under_ok hi h1.ok
  have oC := under_ok hi h2.ok
  have vA := fun v => under_var hi h1.ok (v := v)
  have vC := fun v => under_var hi h2.ok (v := v)
  have tA := under_tl hi h1.tl
  have tC := under_tl hi h2.tl
  generalize underU st T1 = A at *
  generalize underU st T2 = C at *
  have kBind := Lib.hid fun (W : World) (hW : Below w.heap.size w W) (v : Int) (hv : 0 ≤ v ∧ v < 4096) (T : TT) (g : Nat) (hS : Shp W T g) => setBind_any a0 a1 a2 B W s mv m1 m2 gs st (Lib.hid (h.keep hW)) (Lib.hid hi) (Lib.hid (hE.bel (hW.mono hBw))) v hv T g (Lib.hid hS)
  have kFun := Lib.hid fun (W : World) (hW : Below w.heap.size w W) (A1 : TT) (r1 : Rw) (B1 A2 : TT) (r2 : Rw) (B2 : TT) (g1 g2 : Nat) (hA : TIn st (.fn A1 r1 B1)) (hC : TIn st (.fn A2 r2 B2)) (z1 : (TT.fn A1 r1 B1).sz ≤ 256) (z2 : (TT.fn A2 r2 B2).sz ≤ 256) (hS1 : Shp W (.fn A1 r1 B1) g1) (hS2 : Shp W (.fn A2 r2 B2) g2) (r : Except Nat US) (hr : fnU n st A1 r1 B1 A2 r2 B2 = some r) =>
    functions_any a0 a1 a2 B s m1 m2 n ih W mv gs st A1 r1 B1 A2 r2 B2 g1 g2 r (Lib.hid (h.keep hW)) (Lib.hid hi) (Lib.hid (hE.bel (hW.mono hBw))) (Lib.hid hA) (Lib.hid hC) z1 z2 (Lib.hid hS1) (Lib.hid hS2) (Lib.hid hr)
  have hse := Lib.hid fun (W : World) (hW : Below w.heap.size w W) => (hE.bel (hW.mono hBw)).sen
  have hat := Lib.hid fun (W : World) (hW : Below w.heap.size w W) => h.keep hW
  have hr' := Lib.hid hr
  have oA' := Lib.hid oA
  have oC' := Lib.hid oC
  have vA' := Lib.hid vA
  have vC' := Lib.hid vC
  have tA' := Lib.hid tA
  have tC' := Lib.hid tC
  have hkA := kinds4 A oA
  have hkC := kinds4 C oC
  clear hr oA oC vA vC tA tC hE hi h hS1 hS2 h1 h2
  unfold ptrS at *
  go_enter Tryd.func46, Tryd.ntmps46
  go_wp2_with fail
  refine kU1.out.mono ?_
  rintro e w1 ⟨x1, rfl, hs1, hb1⟩
  have hs1' := Lib.hid hs1
  have hb1' := Lib.hid hb1
  clear hb1 hs1 kU1
  go_wp2_with fail
  refine (kU2.out w1 hb1'.out).mono ?_
  rintro e w2 ⟨x2, rfl, hs2, hb2⟩
  have hsA := Lib.hid (hs1'.out.keep hb2)
  have hsC := Lib.hid hs2
  have hb := Lib.hid (hb1'.out.trans (hb2.mono hb1'.out.size))
  clear hb2 hs2 kU2 hs1' hb1'
  have lA := hsA.out.lt
  have lC := hsC.out.lt
  obtain ⟨pA, qA, bA⟩ := hsA.out.blk
  obtain ⟨pC, qC, bC⟩ := hsC.out.blk
  have cA0 := (shC_of bA).c0
  have cA1 := (shC_of bA).c1
  have cC0 := (shC_of bC).c0
  have cC1 := (shC_of bC).c1
  clear bA bC
  rcases hkA with ⟨v, rfl⟩ | rfl | rfl | ⟨A1, rA, A2, rfl⟩
  · rcases hkC with ⟨u, rfl⟩ | rfl | rfl | ⟨C1, rC, C2, rfl⟩
    · simp only [kdS, vrS] at cA0 cA1 cC0 cC1
      have hrr := hr'.out
      simp only [stepU] at hrr
      by_cases hvu : v = u
      · rw [if_pos hvu] at hrr
        injection hrr with hrr
        subst hrr
        subst hvu
        have hfin := Lib.hid fun (W : World) (hW : Below w2.heap.size w2 W) => setPost_same (a0 := a0) (a1 := a1) (a2 := a2) (hat.out W (hb.out.trans (hW.mono hb.out.size))) (hb.out.trans (hW.mono hb.out.size))
        clear kBind kFun
        go_wp2_with fail
        go_quiet (fail)
        go_wp2_with fail
        go_ret
        exact hfin.out _ (below_drewN (Below.refl _ _) _)
      · rw [if_neg hvu] at hrr
        injection hrr with hrr
        subst hrr
        have hvu' : (v == u) = false := by rw [beq_eq_false_iff_ne]; exact hvu
        clear hvu
        have kb := Lib.hid fun (W : World) (hW : Below w2.heap.size w2 W) => kBind.out W (hb.out.trans (hW.mono hb.out.size)) v (vA'.out v rfl) _ x2 (hsC.out.keep hW)
        clear kBind kFun
        go_wp2_with fail
        go_quiet (fail)
        go_wp2_with fail
        refine (kb.out _ (below_drewN (Below.refl _ _) nq)).mono ?_
        rintro e w3 hp
        obtain ⟨v3, rfl⟩ := hp.ret
        have hfin := Lib.hid (hp.trans (Bar.of_below (hb.out.trans ((below_drewN (Below.refl _ _) nq).mono hb.out.size))) fun k _ e => e)
        clear hp kb
        go_wp2_with fail
        go_ret
        exact hfin.out
    · simp only [kdS, vrS] at cA0 cA1 cC0 cC1
      have hrr := hr'.out
      simp only [stepU] at hrr
      injection hrr with hrr
      subst hrr
      have kb := Lib.hid fun (W : World) (hW : Below w2.heap.size w2 W) => kBind.out W (hb.out.trans (hW.mono hb.out.size)) v (vA'.out v rfl) _ x2 (hsC.out.keep hW)
      clear kBind kFun
      go_wp2_with fail
      go_quiet (fail)
      go_wp2_with fail
      refine (kb.out _ (below_drewN (Below.refl _ _) nq)).mono ?_
      rintro e w3 hp
      obtain ⟨v3, rfl⟩ := hp.ret
      have hfin := Lib.hid (hp.trans (Bar.of_below (hb.out.trans ((below_drewN (Below.refl _ _) nq).mono hb.out.size))) fun k _ e => e)
      clear hp kb
      go_wp2_with fail
      go_ret
      exact hfin.out
    · simp only [kdS, vrS] at cA0 cA1 cC0 cC1
      have hrr := hr'.out
      simp only [stepU] at hrr
      injection hrr with hrr
      subst hrr
      have kb := Lib.hid fun (W : World) (hW : Below w2.heap.size w2 W) => kBind.out W (hb.out.trans (hW.mono hb.out.size)) v (vA'.out v rfl) _ x2 (hsC.out.keep hW)
      clear kBind kFun
      go_wp2_with fail
      go_quiet (fail)
      go_wp2_with fail
      refine (kb.out _ (below_drewN (Below.refl _ _) nq)).mono ?_
      rintro e w3 hp
      obtain ⟨v3, rfl⟩ := hp.ret
      have hfin := Lib.hid (hp.trans (Bar.of_below (hb.out.trans ((below_drewN (Below.refl _ _) nq).mono hb.out.size))) fun k _ e => e)
      clear hp kb
      go_wp2_with fail
      go_ret
      exact hfin.out
    · simp only [kdS, vrS] at cA0 cA1 cC0 cC1
      have hrr := hr'.out
      simp only [stepU] at hrr
      injection hrr with hrr
      subst hrr
      have kb := Lib.hid fun (W : World) (hW : Below w2.heap.size w2 W) => kBind.out W (hb.out.trans (hW.mono hb.out.size)) v (vA'.out v rfl) _ x2 (hsC.out.keep hW)
      clear kBind kFun
      go_wp2_with fail
      go_quiet (fail)
      go_wp2_with fail
      refine (kb.out _ (below_drewN (Below.refl _ _) nq)).mono ?_
      rintro e w3 hp
      obtain ⟨v3, rfl⟩ := hp.ret
      have hfin := Lib.hid (hp.trans (Bar.of_below (hb.out.trans ((below_drewN (Below.refl _ _) nq).mono hb.out.size))) fun k _ e => e)
      clear hp kb
      go_wp2_with fail
      go_ret
      exact hfin.out
  · rcases hkC with ⟨u, rfl⟩ | rfl | rfl | ⟨C1, rC, C2, rfl⟩
    · simp only [kdS, vrS] at cA0 cA1 cC0 cC1
      have hrr := hr'.out
      simp only [stepU] at hrr
      injection hrr with hrr
      subst hrr
      have kb := Lib.hid fun (W : World) (hW : Below w2.heap.size w2 W) => kBind.out W (hb.out.trans (hW.mono hb.out.size)) u (vC'.out u rfl) _ x1 (hsA.out.keep hW)
      clear kBind kFun
      go_wp2_with fail
      go_quiet (fail)
      go_wp2_with fail
      refine (kb.out _ (below_drewN (Below.refl _ _) nq)).mono ?_
      rintro e w3 hp
      obtain ⟨v3, rfl⟩ := hp.ret
      have hfin := Lib.hid (hp.trans (Bar.of_below (hb.out.trans ((below_drewN (Below.refl _ _) nq).mono hb.out.size))) fun k _ e => e)
      clear hp kb
      go_wp2_with fail
      go_ret
      exact hfin.out
    · simp only [kdS, vrS] at cA0 cA1 cC0 cC1
      have hrr := hr'.out
      simp only [stepU] at hrr
      simp only [if_true] at hrr
      injection hrr with hrr
      subst hrr
      have kF1 := Lib.hid fun (W : World) (hW : Below w2.heap.size w2 W) => shFits_any _ x1 W (Lib.hid (hsA.out.keep hW))
      have kF2 := Lib.hid fun (W : World) (hW : Below w2.heap.size w2 W) => shFits_any _ x2 W (Lib.hid (hsC.out.keep hW))
      rw [show (TT.base 0).fits = true from rfl] at kF1 kF2
      have hfin := Lib.hid fun (W : World) (hW : Below w2.heap.size w2 W) => setPost_same (a0 := a0) (a1 := a1) (a2 := a2) (hat.out W (hb.out.trans (hW.mono hb.out.size))) (hb.out.trans (hW.mono hb.out.size))
      clear kBind kFun
      go_wp2_with fail
      go_quiet (fail)
      go_wp2_with fail
      go_quiet (fail)
      go_wp2_with fail
      refine (kF1.out _ (below_drewN (Below.refl _ _) _)).mono ?_
      rintro e w3 ⟨rfl, hb3⟩
      have hb3' := Lib.hid (Below.trans (below_drewN (Below.refl w2.heap.size w2) _) (hb3.mono (Nat.le_refl _)))
      clear hb3
      have f0 := carry hb3'.out lA cA0
      have lA3 : x1 < w3.heap.size := by have := hb3'.out.size; omega
      go_wp2_with fail
      refine (kF2.out _ hb3'.out).mono ?_
      rintro e w4 ⟨rfl, hb4⟩
      have hb4' := Lib.hid (hb3'.out.trans (hb4.mono hb3'.out.size))
      clear hb4
      have f1 := carry hb4'.out lA cA0
      have lA4 : x1 < w4.heap.size := by have := hb4'.out.size; omega
      go_wp2_with fail
      go_ret
      exact hfin.out _ hb4'.out
    · simp only [kdS, vrS] at cA0 cA1 cC0 cC1
      have hrr := hr'.out
      simp only [stepU] at hrr
      rw [if_neg (by decide)] at hrr
      injection hrr with hrr
      subst hrr
      have hcl := (hse.out w2 hb.out).c1
      have hfin := Lib.hid fun (W : World) (hW : Below w2.heap.size w2 W) => setPost_err (a0 := a0) (a1 := a1) (a2 := a2) (B := B) (s := s) (m1 := m1) (m2 := m2) (mv := mv) (hb.out.trans (hW.mono hb.out.size)) 1
      rw [errN1] at hfin
      clear kBind kFun hse
      unfold errV at *
      go_wp2_with fail
      go_quiet (fail)
      go_wp2_with fail
      go_quiet (fail)
      go_wp2_with fail
      go_ret
      exact hfin.out _ (below_drewN (Below.refl _ _) _)
    · simp only [kdS, vrS] at cA0 cA1 cC0 cC1
      have hrr := hr'.out
      simp only [stepU] at hrr
      injection hrr with hrr
      subst hrr
      have hcl := (hse.out w2 hb.out).c1
      have hfin := Lib.hid fun (W : World) (hW : Below w2.heap.size w2 W) => setPost_err (a0 := a0) (a1 := a1) (a2 := a2) (B := B) (s := s) (m1 := m1) (m2 := m2) (mv := mv) (hb.out.trans (hW.mono hb.out.size)) 1
      rw [errN1] at hfin
      clear kBind kFun hse
      unfold errV at *
      go_wp2_with fail
      go_quiet (fail)
      go_wp2_with fail
      go_quiet (fail)
      go_wp2_with fail
      go_ret
      exact hfin.out _ (below_drewN (Below.refl _ _) _)
  · rcases hkC with ⟨u, rfl⟩ | rfl | rfl | ⟨C1, rC, C2, rfl⟩
    · simp only [kdS, vrS] at cA0 cA1 cC0 cC1
      have hrr := hr'.out
      simp only [stepU] at hrr
      injection hrr with hrr
      subst hrr
      have kb := Lib.hid fun (W : World) (hW : Below w2.heap.size w2 W) => kBind.out W (hb.out.trans (hW.mono hb.out.size)) u (vC'.out u rfl) _ x1 (hsA.out.keep hW)
      clear kBind kFun
      go_wp2_with fail
      go_quiet (fail)
      go_wp2_with fail
      refine (kb.out _ (below_drewN (Below.refl _ _) nq)).mono ?_
      rintro e w3 hp
      obtain ⟨v3, rfl⟩ := hp.ret
      have hfin := Lib.hid (hp.trans (Bar.of_below (hb.out.trans ((below_drewN (Below.refl _ _) nq).mono hb.out.size))) fun k _ e => e)
      clear hp kb
      go_wp2_with fail
      go_ret
      exact hfin.out
    · simp only [kdS, vrS] at cA0 cA1 cC0 cC1
      have hrr := hr'.out
      simp only [stepU] at hrr
      rw [if_neg (by decide)] at hrr
      injection hrr with hrr
      subst hrr
      have hcl := (hse.out w2 hb.out).c1
      have hfin := Lib.hid fun (W : World) (hW : Below w2.heap.size w2 W) => setPost_err (a0 := a0) (a1 := a1) (a2 := a2) (B := B) (s := s) (m1 := m1) (m2 := m2) (mv := mv) (hb.out.trans (hW.mono hb.out.size)) 1
      rw [errN1] at hfin
      clear kBind kFun hse
      unfold errV at *
      go_wp2_with fail
      go_quiet (fail)
      go_wp2_with fail
      go_quiet (fail)
      go_wp2_with fail
      go_ret
      exact hfin.out _ (below_drewN (Below.refl _ _) _)
    · simp only [kdS, vrS] at cA0 cA1 cC0 cC1
      have hrr := hr'.out
      simp only [stepU] at hrr
      simp only [if_true] at hrr
      injection hrr with hrr
      subst hrr
      have kF1 := Lib.hid fun (W : World) (hW : Below w2.heap.size w2 W) => shFits_any _ x1 W (Lib.hid (hsA.out.keep hW))
      have kF2 := Lib.hid fun (W : World) (hW : Below w2.heap.size w2 W) => shFits_any _ x2 W (Lib.hid (hsC.out.keep hW))
      rw [show (TT.base 1).fits = true from rfl] at kF1 kF2
      have hfin := Lib.hid fun (W : World) (hW : Below w2.heap.size w2 W) => setPost_same (a0 := a0) (a1 := a1) (a2 := a2) (hat.out W (hb.out.trans (hW.mono hb.out.size))) (hb.out.trans (hW.mono hb.out.size))
      clear kBind kFun
      go_wp2_with fail
      go_quiet (fail)
      go_wp2_with fail
      go_quiet (fail)
      go_wp2_with fail
      refine (kF1.out _ (below_drewN (Below.refl _ _) _)).mono ?_
      rintro e w3 ⟨rfl, hb3⟩
      have hb3' := Lib.hid (Below.trans (below_drewN (Below.refl w2.heap.size w2) _) (hb3.mono (Nat.le_refl _)))
      clear hb3
      have f0 := carry hb3'.out lA cA0
      have lA3 : x1 < w3.heap.size := by have := hb3'.out.size; omega
      go_wp2_with fail
      refine (kF2.out _ hb3'.out).mono ?_
      rintro e w4 ⟨rfl, hb4⟩
      have hb4' := Lib.hid (hb3'.out.trans (hb4.mono hb3'.out.size))
      clear hb4
      have f1 := carry hb4'.out lA cA0
      have lA4 : x1 < w4.heap.size := by have := hb4'.out.size; omega
      go_wp2_with fail
      go_ret
      exact hfin.out _ hb4'.out
    · simp only [kdS, vrS] at cA0 cA1 cC0 cC1
      have hrr := hr'.out
      simp only [stepU] at hrr
      injection hrr with hrr
      subst hrr
      have hcl := (hse.out w2 hb.out).c1
      have hfin := Lib.hid fun (W : World) (hW : Below w2.heap.size w2 W) => setPost_err (a0 := a0) (a1 := a1) (a2 := a2) (B := B) (s := s) (m1 := m1) (m2 := m2) (mv := mv) (hb.out.trans (hW.mono hb.out.size)) 1
      rw [errN1] at hfin
      clear kBind kFun hse
      unfold errV at *
      go_wp2_with fail
      go_quiet (fail)
      go_wp2_with fail
      go_quiet (fail)
      go_wp2_with fail
      go_ret
      exact hfin.out _ (below_drewN (Below.refl _ _) _)
  · rcases hkC with ⟨u, rfl⟩ | rfl | rfl | ⟨C1, rC, C2, rfl⟩
    · simp only [kdS, vrS] at cA0 cA1 cC0 cC1
      have hrr := hr'.out
      simp only [stepU] at hrr
      injection hrr with hrr
      subst hrr
      have kb := Lib.hid fun (W : World) (hW : Below w2.heap.size w2 W) => kBind.out W (hb.out.trans (hW.mono hb.out.size)) u (vC'.out u rfl) _ x1 (hsA.out.keep hW)
      clear kBind kFun
      go_wp2_with fail
      go_quiet (fail)
      go_wp2_with fail
      refine (kb.out _ (below_drewN (Below.refl _ _) nq)).mono ?_
      rintro e w3 hp
      obtain ⟨v3, rfl⟩ := hp.ret
      have hfin := Lib.hid (hp.trans (Bar.of_below (hb.out.trans ((below_drewN (Below.refl _ _) nq).mono hb.out.size))) fun k _ e => e)
      clear hp kb
      go_wp2_with fail
      go_ret
      exact hfin.out
    · simp only [kdS, vrS] at cA0 cA1 cC0 cC1
      have hrr := hr'.out
      simp only [stepU] at hrr
      injection hrr with hrr
      subst hrr
      have hcl := (hse.out w2 hb.out).c1
      have hfin := Lib.hid fun (W : World) (hW : Below w2.heap.size w2 W) => setPost_err (a0 := a0) (a1 := a1) (a2 := a2) (B := B) (s := s) (m1 := m1) (m2 := m2) (mv := mv) (hb.out.trans (hW.mono hb.out.size)) 1
      rw [errN1] at hfin
      clear kBind kFun hse
      unfold errV at *
      go_wp2_with fail
      go_quiet (fail)
      go_wp2_with fail
      go_quiet (fail)
      go_wp2_with fail
      go_ret
      exact hfin.out _ (below_drewN (Below.refl _ _) _)
    · simp only [kdS, vrS] at cA0 cA1 cC0 cC1
      have hrr := hr'.out
      simp only [stepU] at hrr
      injection hrr with hrr
      subst hrr
      have hcl := (hse.out w2 hb.out).c1
      have hfin := Lib.hid fun (W : World) (hW : Below w2.heap.size w2 W) => setPost_err (a0 := a0) (a1 := a1) (a2 := a2) (B := B) (s := s) (m1 := m1) (m2 := m2) (mv := mv) (hb.out.trans (hW.mono hb.out.size)) 1
      rw [errN1] at hfin
      clear kBind kFun hse
      unfold errV at *
      go_wp2_with fail
      go_quiet (fail)
      go_wp2_with fail
      go_quiet (fail)
      go_wp2_with fail
      go_ret
      exact hfin.out _ (below_drewN (Below.refl _ _) _)
    · simp only [kdS, vrS] at cA0 cA1 cC0 cC1
      have hrr := hr'.out
      simp only [stepU] at hrr
      have kF1 := Lib.hid fun (W : World) (hW : Below w2.heap.size w2 W) => shFits_any _ x1 W (Lib.hid (hsA.out.keep hW))
      have kF2 := Lib.hid fun (W : World) (hW : Below w2.heap.size w2 W) => shFits_any _ x2 W (Lib.hid (hsC.out.keep hW))
      have hsm := Lib.hid fun (W : World) (hW : Below w2.heap.size w2 W) => (hse.out W (hb.out.trans (hW.mono hb.out.size))).c2
      have hfin := Lib.hid fun (W : World) (hW : Below w2.heap.size w2 W) => setPost_err (a0 := a0) (a1 := a1) (a2 := a2) (B := B) (s := s) (m1 := m1) (m2 := m2) (mv := mv) (hb.out.trans (hW.mono hb.out.size)) 3
      rw [errN3] at hfin
      obtain ⟨fA, hfA⟩ : ∃ q, (TT.fn A1 rA A2).fits = q := ⟨_, rfl⟩
      obtain ⟨fC, hfC⟩ : ∃ q, (TT.fn C1 rC C2).fits = q := ⟨_, rfl⟩
      rw [hfA] at kF1
      rw [hfC] at kF2
      rw [hfA, hfC] at hrr
      cases fA
      · simp only [Bool.not_false, Bool.true_or, if_true] at hrr
        injection hrr with hrr
        subst hrr
        clear kBind kFun kF2
        unfold errV at *
        go_wp2_with fail
        go_quiet (fail)
        go_wp2_with fail
        go_quiet (fail)
        go_wp2_with fail
        refine (kF1.out _ (below_drewN (Below.refl _ _) _)).mono ?_
        rintro e w3 ⟨rfl, hb3⟩
        have hb3' := Lib.hid (Below.trans (below_drewN (Below.refl w2.heap.size w2) _) (hb3.mono (Nat.le_refl _)))
        clear hb3
        have hcm := hsm.out w3 hb3'.out
        go_wp2_with fail
        go_ret
        exact hfin.out _ hb3'.out
      · cases fC
        · simp only [Bool.not_false, Bool.or_true, if_true] at hrr
          injection hrr with hrr
          subst hrr
          clear kBind kFun
          unfold errV at *
          go_wp2_with fail
          go_quiet (fail)
          go_wp2_with fail
          go_quiet (fail)
          go_wp2_with fail
          refine (kF1.out _ (below_drewN (Below.refl _ _) _)).mono ?_
          rintro e w3 ⟨rfl, hb3⟩
          have hb3' := Lib.hid (Below.trans (below_drewN (Below.refl w2.heap.size w2) _) (hb3.mono (Nat.le_refl _)))
          clear hb3
          go_wp2_with fail
          refine (kF2.out _ hb3'.out).mono ?_
          rintro e w4 ⟨rfl, hb4⟩
          have hb4' := Lib.hid (hb3'.out.trans (hb4.mono hb3'.out.size))
          clear hb4
          have hcm := hsm.out w4 hb4'.out
          go_wp2_with fail
          go_ret
          exact hfin.out _ hb4'.out
        · simp only [Bool.not_true, Bool.or_self, Bool.false_eq_true, if_false] at hrr
          have hfu : Hid (fnU n st A1 rA A2 C1 rC C2 = some r) := Lib.hid (by unfold fnU; exact hrr)
          have kG := Lib.hid fun (W : World) (hW : Below w2.heap.size w2 W) => kFun.out W (hb.out.trans (hW.mono hb.out.size)) A1 rA A2 C1 rC C2 x1 x2 ⟨oA'.out (fits_iff.1 hfA).2, tA'.out⟩ ⟨oC'.out (fits_iff.1 hfC).2, tC'.out⟩ (fits_iff.1 hfA).1 (fits_iff.1 hfC).1 (hsA.out.keep hW) (hsC.out.keep hW) r hfu.out
          clear kBind kFun hfin hrr
          go_wp2_with fail
          go_quiet (fail)
          go_wp2_with fail
          go_quiet (fail)
          go_wp2_with fail
          refine (kF1.out _ (below_drewN (Below.refl _ _) _)).mono ?_
          rintro e w3 ⟨rfl, hb3⟩
          have hb3' := Lib.hid (Below.trans (below_drewN (Below.refl w2.heap.size w2) _) (hb3.mono (Nat.le_refl _)))
          clear hb3
          go_wp2_with fail
          refine (kF2.out _ hb3'.out).mono ?_
          rintro e w4 ⟨rfl, hb4⟩
          have hb4' := Lib.hid (hb3'.out.trans (hb4.mono hb3'.out.size))
          clear hb4
          have f1 := carry hb4'.out lA cA0
          have lA4 : x1 < w4.heap.size := by have := hb4'.out.size; omega
          go_wp2_with fail
          refine (kG.out _ hb4'.out).mono ?_
          rintro e w5 hp
          obtain ⟨v3, rfl⟩ := hp.ret
          have hfin := Lib.hid (hp.trans (Bar.of_below (hb.out.trans (hb4'.out.mono hb.out.size))) fun k _ e => e)
          clear hp kG
          go_wp2_with fail
          go_ret
          exact hfin.out
theorem one_any (a0 a1 a2 : Addr) (B s m1 m2 : Nat) : ∀ n, OneCon a0 a1 a2 B s m1 m2 n := by
  intro n
  induction n with
  | zero => intro w mv gs st T1 T2 g1 g2 r _ _ _ _ _ _ _ _ _ hr; cases hr
  | succ n ih => exact one_step a0 a1 a2 B s m1 m2 n (Lib.hid ih)
end Go.Proofs.YtfkdcconmecaoaaDoor
