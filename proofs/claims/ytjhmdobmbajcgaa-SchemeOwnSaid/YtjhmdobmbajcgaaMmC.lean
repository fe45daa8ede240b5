/- (*matcher).match. -/
import Derived.Test.YtjhmdobmbajcgaaMmB
import Derived.Deep.RegionWith
namespace Go.Proofs.Ytjhmdobmbajcgaa
open Go.RowKit Go.Maps
set_option linter.unusedVariables false
set_option linter.unusedSimpArgs false

def MsOk (m : MS) : Prop := ∀ v T, m.s v = some T → T.ok = true
theorem mtR_s {g s : Rw} {m m' : MS} (h : mtR g s m = some m') : m'.s = m.s := by
  unfold mtR at h
  split at h
  · split at h
    · cases h; rfl
    · cases h
  · split at h
    · split at h
      · cases h; rfl
      · split at h
        · cases h; rfl
        · cases h
    · cases h
theorem mtT_ok : ∀ (G S : TT) (m m' : MS), S.ok = true → MsOk m → mtT G S m = some m' → MsOk m'
  | .var v, S, m, m', hS, hm, h => by
    unfold mtT at h
    split at h
    · cases h
      intro u T hT
      simp only [upd] at hT
      by_cases e : u = v
      · rw [if_pos e] at hT; cases hT; exact hS
      · rw [if_neg e] at hT; exact hm u T hT
    · split at h
      · cases h; exact hm
      · cases h
  | .base k, S, m, m', hS, hm, h => by
    unfold mtT at h
    split at h
    · cases h; exact hm
    · cases h
  | .fn a r b, .base _, m, m', hS, hm, h => by cases h
  | .fn a r b, .var _, m, m', hS, hm, h => by cases h
  | .fn a r b, .fn a' r' b', m, m', hS, hm, h => by
    unfold TT.ok at hS
    simp only [Bool.and_eq_true] at hS
    have h : ((mtT a a' m).bind (mtR r r')).bind (mtT b b') = some m' := h
    cases h1 : mtT a a' m with
    | none => rw [h1] at h; cases h
    | some m1 =>
      rw [h1, Option.bind_some] at h
      have k1 := mtT_ok a a' m m1 hS.1.1 hm h1
      cases h2 : mtR r r' m1 with
      | none => rw [h2] at h; cases h
      | some m2 =>
        rw [h2, Option.bind_some] at h
        have k2 : MsOk m2 := by intro u T hT; rw [mtR_s h2] at hT; exact k1 u T hT
        exact mtT_ok b b' m2 m' hS.2 k2 h
theorem zeroSh (w : World) : (zeroValue 83).run Try.prog w = .ok (.pointer none) w := by kernel_rfl
theorem bar_drewN {S : Nat → Prop} {w w' : World} (h : Bar S w w') (n : Nat) : Bar S w (w'.drewN n) := h.next (below_drewN (Below.refl _ _) n)
set_option maxRecDepth 100000 in
set_option maxHeartbeats 8000000 in
theorem mtMatch_var (v : Int) (S : TT) (gg gs gm b1 b2 n : Nat) (m : MS) (w : World) (h : Hid (MtAt w gm b1 b2 n m)) (hG : Hid (Shp w (.var v) gg)) (hS : Hid (Shp w S gs)) (hoG : (TT.var v).ok = true) (hoS : S.ok = true) (hm : MsOk m) (hn : n + 1 ≤ 1000000) :
    Calls Try.prog 65 #[.pointer (some ⟨gm, 0, none⟩), ptrS gg, ptrS gs] w (MrPost gm b1 b2 (n + 1) (mtT (.var v) S m) w) := by
  have hv : 0 ≤ v ∧ v < 4096 := by simpa [TT.ok] using hoG
  have cG := shC_of (show w.heap[gg]? = _ from hG.out)
  have a0 := cG.c0; have a1 := cG.c1
  have hgl := hG.out.lt
  obtain ⟨p0, p1, p2, p3, ⟨ft, p4, p5⟩, p6⟩ := h.out
  have hLk : Hid (∀ k, (Instr.lookup 107 (.map (some b1)) (.int .i64 v) true).run Try.prog (w.drewN k) = .ok (.tuple #[(ftV ft v).getD (.pointer none), .bool (ftV ft v).isSome]) (w.drewN k)) := Lib.hid fun k =>
    look_run (p4.below (below_drewN (Below.refl _ _) k)) _ _ _ Try.underlying107 (zeroSh _) _ (by omega)
  have p5v := p5 v
  clear cG hG
  cases hs : m.s v with
  | none =>
    have hft : ft v = none := by
      rw [hs] at p5v
      cases hf : ft v with
      | none => rfl
      | some g => rw [hf] at p5v; exact p5v.elim
    have hfv : ftV ft v = none := by unfold ftV; rw [hft]; rfl
    simp only [hfv, Option.getD_none, Option.isSome_none] at hLk
    have l1 := hLk.out
    have hup := fun (X : World) (hX : Below w.heap.size w X) => mput_run (p4.below hX) 107 _ Try.underlying107 (by omega) v (by omega) (ptrS gs)
    have hfin : Hid (∀ X W', Below w.heap.size w X → MapOf W' b1 (n + 1) (upd (ftV ft) v (ptrS gs)) → Bar (fun k => k = b1) X W' → MrPost gm b1 b2 (n + 1) (mtT (.var v) S m) w (.returned (.bool true)) W') := Lib.hid fun X W' hX hM hB => by
      have e : mtT (.var v) S m = some ⟨upd m.s v S, m.r⟩ := by unfold mtT; rw [hs]
      rw [e]
      refine ⟨rfl, (Bar.of_below (S := fun k => k = b1 ∨ k = b2) hX).trans hB fun k _ hk => .inl hk, fun m' h' => ?_⟩
      cases h'
      have hb2 : Bar (fun k => k = b1 ∨ k = b2) X W' := hB.mono fun k hk => .inl hk
      have hX' := h.out.below hX
      have hsh := fun u fu (hs : ShO X (m.s u) fu) => ShO.maps hX' hb2 hs
      have hT' := hX'.shp hb2 (hS.out.keep hX)
      have q4 := p4.below hX
      have q6 := p6.below hX
      refine ⟨by have := hX.size; have := hB.size; omega, hB.cell (carry hX p0 p1) (q4.ne (carry hX p0 p1)), hB.cell (carry hX p0 p2) (q4.ne (carry hX p0 p2)), p3, ⟨upd ft v gs, ?_, ?_⟩, (q6.bar hB (fun e => p3 e.symm)).mono (by omega)⟩
      · have e : ftV (upd ft v gs) = upd (ftV ft) v (ptrS gs) := by
          funext u; unfold ftV upd; split <;> rfl
        rw [e]; exact hM
      · intro u
        show ShO W' (upd m.s v S u) (upd ft v gs u)
        unfold upd
        by_cases hu : u = v
        · rw [if_pos hu, if_pos hu]; exact hT'
        · rw [if_neg hu, if_neg hu]; exact hsh u _ ((p5 u).below hX)
    generalize mtT (.var v) S m = R at hfin ⊢
    clear hLk hfv hft p5v p5 p6 h hS hs hm p3
    have p4' := Lib.hid p4
    clear p4
    unfold ptrS at *
    go_enter Try.func65, Try.ntmps65
    go_wp2_with fail
    go_quiet (fail)
    obtain ⟨X, hX⟩ : ∃ X, (w.drewN nq).drew = X := ⟨_, rfl⟩
    have hbX : Below w.heap.size w X := by rw [← hX]; exact (below_drewN (Below.refl _ _) nq).drew
    obtain ⟨w', hu, hMU, hBU⟩ := hup X hbX
    have hE := Lib.hid (hfin.out X w' hbX hMU hBU)
    clear hMU hBU hbX hup hfin
    rw [← hX] at hu
    clear hX
    simp only [World.drew_drewN] at hu
    go_wp2_with fail
    go_region
    go_wp2_with fail
    go_ret
    exact hE.out
  | some q =>
    obtain ⟨g, hft⟩ : ∃ g, ft v = some g := by
      rw [hs] at p5v
      cases hf : ft v with
      | none => rw [hf] at p5v; exact p5v.elim
      | some g => exact ⟨g, rfl⟩
    have hsq : Shp w q g := by rw [hs, hft] at p5v; exact p5v
    have hfv : ftV ft v = some (ptrS g) := by unfold ftV; rw [hft]; rfl
    simp only [hfv, Option.getD_some, Option.isSome_some] at hLk
    have l1 := hLk.out
    have kS := Lib.hid fun (k : Nat) => shSame_any q S g gs (w.drewN k) (Lib.hid (hsq.keep (below_drewN (Below.refl _ _) k))) (Lib.hid (hS.out.keep (below_drewN (Below.refl _ _) k))) (hm v q hs) hoS
    have hfin : Hid (∀ W x, decide (q = S) = x → Below w.heap.size w W → MrPost gm b1 b2 (n + 1) (mtT (.var v) S m) w (.returned (.bool x)) W) := Lib.hid fun W x hx hW => by
      have e : mtT (.var v) S m = if q = S then some m else none := by unfold mtT; rw [hs]
      rw [e]
      cases x
      · rw [if_neg (of_decide_eq_false hx)]; exact ⟨rfl, Bar.of_below hW, fun m' h' => by cases h'⟩
      · rw [if_pos (of_decide_eq_true hx)]; exact ⟨rfl, Bar.of_below hW, fun m' h' => by cases h'; exact (h.out.below hW).mono (by omega)⟩
    generalize mtT (.var v) S m = R at hfin ⊢
    obtain ⟨x, hx⟩ : ∃ x, decide (q = S) = x := ⟨_, rfl⟩
    rw [hx] at kS
    have hfin := Lib.hid fun W => hfin.out W x hx
    clear hLk hfv hft p5v p5 p6 h hS hs hm p3 p4 hx
    unfold ptrS at *
    go_enter Try.func65, Try.ntmps65
    go_wp2_with fail
    go_quiet (fail)
    go_wp2_with fail
    refine (kS.out _).mono ?_
    rintro e w1 ⟨rfl, n2, rfl⟩
    go_wp2_with fail
    go_ret
    exact hfin.out _ (below_drewN (Below.refl _ _) _)

set_option maxRecDepth 100000 in
set_option maxHeartbeats 8000000 in
theorem mtMatch_leaf (G S : TT) (gg gs gm b1 b2 n : Nat) (m : MS) (w : World) (h : Hid (MtAt w gm b1 b2 n m)) (hG : Hid (Shp w G gg)) (hS : Hid (Shp w S gs)) (hoG : G.ok = true) (hoS : S.ok = true) (hnv : kdS G ≠ 2) (hk : kdS G = 3 → kdS S ≠ 3) (N : Nat) (hN : n ≤ N) :
    Calls Try.prog 65 #[.pointer (some ⟨gm, 0, none⟩), ptrS gg, ptrS gs] w (MrPost gm b1 b2 N (mtT G S m) w) := by
  obtain ⟨pa, pb, hbA⟩ := hG.out.blk
  obtain ⟨qa, qb, hbB⟩ := hS.out.blk
  have a0 := (shC_of hbA).c0
  have b0 := (shC_of hbB).c0
  have hla := hG.out.lt
  have hlb := hS.out.lt
  have hM := Lib.hid fun W (hW : Below w.heap.size w W) => (h.out.below hW).mono hN
  have hno : Hid ((kdS G == kdS S) = false → mtT G S m = none) := Lib.hid fun e => by
    cases G with
    | var v => exact absurd rfl hnv
    | base k =>
      show (if S = .base k then some m else none) = none
      rw [if_neg]; rintro rfl; simp at e
    | fn a r b =>
      cases S with
      | fn _ _ _ => exact absurd rfl (hk rfl)
      | var _ => rfl
      | base _ => rfl
  have hyes : Hid ((kdS G == kdS S) = true → mtT G S m = some m ∧ (kdS G == 3) = false) := Lib.hid fun e => by
    cases G with
    | var v => exact absurd rfl hnv
    | base k =>
      have e : k = kdS S := eq_of_beq e
      have hk2 : k = 0 ∨ k = 1 := by simpa [TT.ok] using hoG
      have hS' : S = .base k := by
        cases S with
        | base k' => rw [show k = k' from e]
        | var _ => have e : k = 2 := e; omega
        | fn _ _ _ => have e : k = 3 := e; omega
      refine ⟨?_, ?_⟩
      · show (if S = .base k then some m else none) = some m
        rw [if_pos hS']
      · show (k == 3) = false
        simp; omega
    | fn a r b =>
      have e : (3 : Int) = kdS S := eq_of_beq e
      have e : kdS S = 3 := e.symm
      exact absurd e (hk rfl)
  have hnv' : (kdS G == 2) = false := by simpa using hnv
  have e1 : (kdS G != kdS S) = !(kdS G == kdS S) := rfl
  have e3 : (kdS G != 3) = !(kdS G == 3) := rfl
  clear h hG hS hoG hoS hk hbA hbB hnv
  generalize mtT G S m = R at hno hyes ⊢
  generalize kdS G = kg at a0 hno hyes hnv' e1 e3
  generalize kdS S = ks at b0 hno hyes e1
  unfold ptrS
  cases hq : (kg == ks)
  · obtain rfl := hno.out hq
    have hfin := Lib.hid fun (W : World) (hW : Below w.heap.size w W) => (show MrPost gm b1 b2 N none w (.returned (.bool false)) W from ⟨rfl, Bar.of_below hW, fun m' h' => by cases h'⟩)
    rw [hq] at e1
    have e1 : (kg != ks) = true := e1
    go_enter Try.func65, Try.ntmps65
    go_wp2_with fail
    go_quiet (fail)
    go_wp2_with fail
    go_ret
    exact hfin.out _ (below_drewN (Below.refl _ _) _)
  · obtain ⟨rfl, h3⟩ := hyes.out hq
    have hfin := Lib.hid fun (W : World) (hW : Below w.heap.size w W) => (show MrPost gm b1 b2 N (some m) w (.returned (.bool true)) W from ⟨rfl, Bar.of_below hW, fun m' h' => by cases h'; exact hM.out W hW⟩)
    rw [hq] at e1
    have e1 : (kg != ks) = false := e1
    rw [h3] at e3
    have e3 : (kg != 3) = true := e3
    go_enter Try.func65, Try.ntmps65
    go_wp2_with fail
    go_quiet (fail)
    go_wp2_with fail
    go_quiet (fail)
    go_wp2_with fail
    go_ret
    exact hfin.out _ (below_drewN (below_drewN (Below.refl _ _) _) _)
end Go.Proofs.Ytjhmdobmbajcgaa
