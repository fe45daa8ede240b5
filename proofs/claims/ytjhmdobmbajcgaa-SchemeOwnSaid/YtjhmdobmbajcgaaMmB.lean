/- (*matcher).row. -/
import Derived.Test.YtjhmdobmbajcgaaMmA
namespace Go.Proofs.Ytjhmdobmbajcgaa
open Go.RowKit Go.Maps
set_option linter.unusedVariables false
set_option linter.unusedSimpArgs false

def MrPost (gm b1 b2 n : Nat) (r : Option MS) (w : World) (e : Ending) (w' : World) : Prop :=
  e = .returned (.bool r.isSome) ∧ Bar (fun k => k = b1 ∨ k = b2) w w' ∧ ∀ m', r = some m' → MtAt w' gm b1 b2 n m'
theorem MtAt.mono {w : World} {gm b1 b2 n n' : Nat} {m : MS} (h : MtAt w gm b1 b2 n m) (hn : n ≤ n') : MtAt w gm b1 b2 n' m := by
  obtain ⟨h1, h2, h3, h4, ⟨ft, h5, h6⟩, h7⟩ := h
  exact ⟨h1, h2, h3, h4, ⟨ft, h5.mono hn, h6⟩, h7.mono hn⟩
def GeK (k : Nat) (s g : Rw) : Prop := (1 ≤ k → g.a ≤ s.a) ∧ (2 ≤ k → g.b ≤ s.b) ∧ (3 ≤ k → g.c ≤ s.c) ∧ (4 ≤ k → g.d ≤ s.d)
theorem zeroRw (w : World) : (zeroValue 28).run Try.prog w = .ok (.agg #[.int .i64 0, .int .i64 0, .int .i64 0, .int .i64 0, .int .i64 0]) w := by kernel_rfl
theorem mtR_neg {g s : Rw} {m : MS} (h : g.t < 0) : mtR g s m = if rwQ g.a g.b g.c g.d g.t s.a s.b s.c s.d s.t then some m else none := by
  unfold mtR
  rw [if_pos h, rwQ_iff]
  by_cases e : g = s
  · rw [if_pos e, if_pos (decide_eq_true e)]
  · rw [if_neg e, if_neg (by rw [decide_eq_false e]; simp)]
theorem mtR_less {g s : Rw} {m : MS} (h : ¬ g.t < 0) (h2 : geR s g = false) : mtR g s m = none := by
  unfold mtR; rw [if_neg h, h2]; rfl
theorem mtR_new {g s : Rw} {m : MS} (h : ¬ g.t < 0) (h2 : geR s g = true) (h3 : m.r g.t = none) : mtR g s m = some ⟨m.s, upd m.r g.t (subRw s g)⟩ := by
  unfold mtR; rw [if_neg h, if_pos h2, h3]
theorem mtR_old {g s q : Rw} {m : MS} (h : ¬ g.t < 0) (h2 : geR s g = true) (h3 : m.r g.t = some q) : mtR g s m = if rwQ q.a q.b q.c q.d q.t (subRw s g).a (subRw s g).b (subRw s g).c (subRw s g).d (subRw s g).t then some m else none := by
  unfold mtR; rw [if_neg h, if_pos h2, h3, rwQ_iff]
  by_cases e : q = subRw s g
  · simp only [e, if_true, decide_true]
  · simp only [e, if_false, decide_false, Bool.false_eq_true]
set_option maxRecDepth 100000 in
set_option maxHeartbeats 8000000 in
theorem mtRow_any (gm b1 b2 n : Nat) (m : MS) (ga gb gc gd gt sa sb sc sd st : Int) (w : World) (h : Hid (MtAt w gm b1 b2 n m)) (hn : n ≤ 1000000) (hg : Rw.may ⟨ga, gb, gc, gd, gt⟩ = true) (hs : Rw.may ⟨sa, sb, sc, sd, st⟩ = true) :
    Calls Try.prog 88 #[.pointer (some ⟨gm, 0, none⟩), .agg #[.int .i64 ga, .int .i64 gb, .int .i64 gc, .int .i64 gd, .int .i64 gt], .agg #[.int .i64 sa, .int .i64 sb, .int .i64 sc, .int .i64 sd, .int .i64 st]] w (MrPost gm b1 b2 (n + 1) (mtR ⟨ga, gb, gc, gd, gt⟩ ⟨sa, sb, sc, sd, st⟩ m) w) := by
  have hin := fun (x0 x1 x2 x3 x4 y0 y1 y2 y3 y4 : Int) (W : World) => row_in 9997 x0 x1 x2 x3 x4 y0 y1 y2 y3 y4 W
  simp only [Nat.reduceAdd] at hin
  by_cases ht : gt < 0
  · have hfin : Hid (∀ x, rwQ ga gb gc gd gt sa sb sc sd st = x → ∀ W, Below w.heap.size w W → MrPost gm b1 b2 (n + 1) (mtR ⟨ga, gb, gc, gd, gt⟩ ⟨sa, sb, sc, sd, st⟩ m) w (.returned (.bool x)) W) := Lib.hid fun x hx W hW => by
      rw [mtR_neg (show (⟨ga, gb, gc, gd, gt⟩ : Rw).t < 0 from ht)]
      simp only [hx]
      cases x
      · exact ⟨rfl, Bar.of_below hW, fun m' h' => by cases h'⟩
      · exact ⟨rfl, Bar.of_below hW, fun m' h' => by cases h'; exact (h.out.below hW).mono (by omega)⟩
    generalize mtR ⟨ga, gb, gc, gd, gt⟩ ⟨sa, sb, sc, sd, st⟩ m = R at hfin ⊢
    clear h hg hs
    obtain ⟨x, hx⟩ : ∃ x, rwQ ga gb gc gd gt sa sb sc sd st = x := ⟨_, rfl⟩
    go_enter Try.func88, Try.ntmps88
    go_wp2_with fail
    go_ret
    exact hfin.out x hx _ (by (repeat' (first | with_reducible exact Below.refl _ _ | with_reducible assumption | with_reducible apply Below.setCell | with_reducible apply Below.alloc | with_reducible apply Below.drew | with_reducible apply below_drewN | with_reducible exact Nat.le_refl _ | (simp; done) | (simp; omega) | omega | exact Nat.le_refl _)))
  have hg := of_decide_eq_true (show mayR ga gb gc gd gt = true from hg)
  have hs := of_decide_eq_true (show mayR sa sb sc sd st = true from hs)
  have hi0 : Hid (∀ W : World, (Instr.index 26 (.agg #[.int .i64 ga, .int .i64 gb, .int .i64 gc, .int .i64 gd]) (.int .i64 0)).run Try.prog W = .ok (.int .i64 ga) W) := Lib.hid fun _ => by kernel_rfl
  have hi1 : Hid (∀ W : World, (Instr.index 26 (.agg #[.int .i64 ga, .int .i64 gb, .int .i64 gc, .int .i64 gd]) (.int .i64 1)).run Try.prog W = .ok (.int .i64 gb) W) := Lib.hid fun _ => by kernel_rfl
  have hi2 : Hid (∀ W : World, (Instr.index 26 (.agg #[.int .i64 ga, .int .i64 gb, .int .i64 gc, .int .i64 gd]) (.int .i64 2)).run Try.prog W = .ok (.int .i64 gc) W) := Lib.hid fun _ => by kernel_rfl
  have hi3 : Hid (∀ W : World, (Instr.index 26 (.agg #[.int .i64 ga, .int .i64 gb, .int .i64 gc, .int .i64 gd]) (.int .i64 3)).run Try.prog W = .ok (.int .i64 gd) W) := Lib.hid fun _ => by kernel_rfl
  have hfin0 : Hid (∀ W, Below w.heap.size w W → geR ⟨sa, sb, sc, sd, st⟩ ⟨ga, gb, gc, gd, gt⟩ = false → MrPost gm b1 b2 (n + 1) (mtR ⟨ga, gb, gc, gd, gt⟩ ⟨sa, sb, sc, sd, st⟩ m) w (.returned (.bool false)) W) := Lib.hid fun W hW hge => by
    rw [mtR_less (show ¬ (⟨ga, gb, gc, gd, gt⟩ : Rw).t < 0 from ht) hge]
    exact ⟨rfl, Bar.of_below hW, fun m' h' => by cases h'⟩
  have hM := Lib.hid fun (W : World) (hW : Below w.heap.size w W) => h.out.below hW
  have hfin1 : Hid (geR ⟨sa, sb, sc, sd, st⟩ ⟨ga, gb, gc, gd, gt⟩ = true → m.r gt = none → ∀ W W', Below w.heap.size w W → Bar (fun k => k = b2) W W' → MapOf W' b2 (n + 1) (upd (rmV m.r) gt (.agg #[.int .i64 (sa - ga), .int .i64 (sb - gb), .int .i64 (sc - gc), .int .i64 (sd - gd), .int .i64 st])) → MrPost gm b1 b2 (n + 1) (mtR ⟨ga, gb, gc, gd, gt⟩ ⟨sa, sb, sc, sd, st⟩ m) w (.returned (.bool true)) W') := Lib.hid fun hge hr W W' hW hB hM' => by
    rw [mtR_new (show ¬ (⟨ga, gb, gc, gd, gt⟩ : Rw).t < 0 from ht) hge hr]
    refine ⟨rfl, (Bar.of_below (S := fun k => k = b1 ∨ k = b2) hW).trans hB fun k _ hk => .inr hk, fun m' h' => ?_⟩
    cases h'
    exact MtAt.putR (q := subRw ⟨sa, sb, sc, sd, st⟩ ⟨ga, gb, gc, gd, gt⟩) (hM.out W hW) hM' hB
  have hfin2 : Hid (geR ⟨sa, sb, sc, sd, st⟩ ⟨ga, gb, gc, gd, gt⟩ = true → ∀ q, m.r gt = some q → ∀ x, rwQ q.a q.b q.c q.d q.t (sa - ga) (sb - gb) (sc - gc) (sd - gd) st = x → ∀ W, Below w.heap.size w W → MrPost gm b1 b2 (n + 1) (mtR ⟨ga, gb, gc, gd, gt⟩ ⟨sa, sb, sc, sd, st⟩ m) w (.returned (.bool x)) W) := Lib.hid fun hge q hr x hx W hW => by
    rw [mtR_old (show ¬ (⟨ga, gb, gc, gd, gt⟩ : Rw).t < 0 from ht) hge hr]
    have hx : rwQ q.a q.b q.c q.d q.t (subRw ⟨sa, sb, sc, sd, st⟩ ⟨ga, gb, gc, gd, gt⟩).a (subRw ⟨sa, sb, sc, sd, st⟩ ⟨ga, gb, gc, gd, gt⟩).b (subRw ⟨sa, sb, sc, sd, st⟩ ⟨ga, gb, gc, gd, gt⟩).c (subRw ⟨sa, sb, sc, sd, st⟩ ⟨ga, gb, gc, gd, gt⟩).d (subRw ⟨sa, sb, sc, sd, st⟩ ⟨ga, gb, gc, gd, gt⟩).t = x := hx
    rw [hx]
    cases x
    · exact ⟨rfl, Bar.of_below hW, fun m' h' => by cases h'⟩
    · exact ⟨rfl, Bar.of_below hW, fun m' h' => by cases h'; exact (hM.out W hW).mono (by omega)⟩
  generalize mtR ⟨ga, gb, gc, gd, gt⟩ ⟨sa, sb, sc, sd, st⟩ m = R at hfin0 hfin1 hfin2 ⊢
  have hgl := h.out.1
  clear h
  have w0 : IntKind.i64.wrap (sa - ga) = sa - ga := IntWalk.i64_in _ (by omega)
  have w1 : IntKind.i64.wrap (sb - gb) = sb - gb := IntWalk.i64_in _ (by omega)
  have w2 : IntKind.i64.wrap (sc - gc) = sc - gc := IntWalk.i64_in _ (by omega)
  have w3 : IntKind.i64.wrap (sd - gd) = sd - gd := IntWalk.i64_in _ (by omega)
  go_enter Try.func88, Try.ntmps88
  go_wp2_with fail
  go_loopw [21] (fun i wr => ∃ (k : Nat) (z : Int), k ≤ 4 ∧ i = .int .i64 z ∧ z = k ∧ Hid (GeK k ⟨sa, sb, sc, sd, st⟩ ⟨ga, gb, gc, gd, gt⟩) ∧ Hid (Below w.heap.size w wr) ∧ Hid (RowAt wr w.heap.size ⟨ga, gb, gc, gd, gt⟩) ∧ Hid (RwFr wr (w.heap.size + 2) (subK k ⟨sa, sb, sc, sd, st⟩ ⟨ga, gb, gc, gd, gt⟩))) (fun i _ => 4 - (intOf i).toNat)
  case atStart =>
    exact ⟨0, 0, by omega, rfl, rfl, Lib.hid ⟨by omega, by omega, by omega, by omega⟩, Lib.hid (by (repeat' (first | with_reducible exact Below.refl _ _ | with_reducible assumption | with_reducible apply Below.setCell | with_reducible apply Below.alloc | with_reducible apply Below.drew | with_reducible apply below_drewN | with_reducible exact Nat.le_refl _ | (simp; done) | (simp; omega) | omega | exact Nat.le_refl _))), Lib.hid (RowAt.alloc _ (RowAt.alloc _ (row_lit _ _ _ ⟨ga, gb, gc, gd, gt⟩ rfl))), Lib.hid (rwfr_lit _ _ _ ⟨sa, sb, sc, sd, st⟩ (by simp))⟩
  case round =>
    obtain ⟨k, z, hk, rfl, hz, hG, hB, hA, hF⟩ := hrel
    have hk5 : k = 0 ∨ k = 1 ∨ k = 2 ∨ k = 3 ∨ k = 4 := by omega
    rcases hk5 with rfl | rfl | rfl | rfl | rfl
    · obtain rfl : z = 0 := by omega
      clear hz
      have j0 := hi0.out
      obtain ⟨⟨y0, y1, y2, y3, y4, y5⟩, f1, f2, f3, f4, f5⟩ := hF.out
      simp only [subK] at y1 y2 y3 y4 y5
      by_cases hlt : sa - ga < 0
      · go_wp2_with fail
        go_ret
        exact hfin0.out _ (hB.out.setCell (by exact Nat.le_add_right _ 2) _) (by unfold geR; exact decide_eq_false (by simp only []; omega))
      · go_wp2_with fail
        go_roundw
        case rel => exact ⟨1, 1, by omega, rfl, rfl, Lib.hid ⟨by simp only []; omega, by omega, by omega, by omega⟩, Lib.hid (hB.out.setCell (by exact Nat.le_add_right _ 2) _), Lib.hid (hA.out.put (by omega)), Lib.hid (hF.out.set (.inl ⟨rfl, rfl, rfl, rfl, rfl⟩))⟩
        case measure => simp [intOf]
    · obtain rfl : z = 1 := by omega
      clear hz
      have j0 := hi1.out
      obtain ⟨⟨y0, y1, y2, y3, y4, y5⟩, f1, f2, f3, f4, f5⟩ := hF.out
      simp only [subK] at y1 y2 y3 y4 y5
      by_cases hlt : sb - gb < 0
      · go_wp2_with fail
        go_ret
        exact hfin0.out _ (hB.out.setCell (by exact Nat.le_add_right _ 2) _) (by unfold geR; exact decide_eq_false (by simp only []; omega))
      · go_wp2_with fail
        go_roundw
        case rel => exact ⟨2, 2, by omega, rfl, rfl, Lib.hid ⟨fun _ => hG.out.1 (by omega), by simp only []; omega, by omega, by omega⟩, Lib.hid (hB.out.setCell (by exact Nat.le_add_right _ 2) _), Lib.hid (hA.out.put (by omega)), Lib.hid (hF.out.set (.inr (.inl ⟨rfl, rfl, rfl, rfl, rfl⟩)))⟩
        case measure => simp [intOf]
    · obtain rfl : z = 2 := by omega
      clear hz
      have j0 := hi2.out
      obtain ⟨⟨y0, y1, y2, y3, y4, y5⟩, f1, f2, f3, f4, f5⟩ := hF.out
      simp only [subK] at y1 y2 y3 y4 y5
      by_cases hlt : sc - gc < 0
      · go_wp2_with fail
        go_ret
        exact hfin0.out _ (hB.out.setCell (by exact Nat.le_add_right _ 2) _) (by unfold geR; exact decide_eq_false (by simp only []; omega))
      · go_wp2_with fail
        go_roundw
        case rel => exact ⟨3, 3, by omega, rfl, rfl, Lib.hid ⟨fun _ => hG.out.1 (by omega), fun _ => hG.out.2.1 (by omega), by simp only []; omega, by omega⟩, Lib.hid (hB.out.setCell (by exact Nat.le_add_right _ 2) _), Lib.hid (hA.out.put (by omega)), Lib.hid (hF.out.set (.inr (.inr (.inl ⟨rfl, rfl, rfl, rfl, rfl⟩))))⟩
        case measure => simp [intOf]
    · obtain rfl : z = 3 := by omega
      clear hz
      have j0 := hi3.out
      obtain ⟨⟨y0, y1, y2, y3, y4, y5⟩, f1, f2, f3, f4, f5⟩ := hF.out
      simp only [subK] at y1 y2 y3 y4 y5
      by_cases hlt : sd - gd < 0
      · go_wp2_with fail
        go_ret
        exact hfin0.out _ (hB.out.setCell (by exact Nat.le_add_right _ 2) _) (by unfold geR; exact decide_eq_false (by simp only []; omega))
      · go_wp2_with fail
        go_roundw
        case rel => exact ⟨4, 4, by omega, rfl, rfl, Lib.hid ⟨fun _ => hG.out.1 (by omega), fun _ => hG.out.2.1 (by omega), fun _ => hG.out.2.2.1 (by omega), by simp only []; omega⟩, Lib.hid (hB.out.setCell (by exact Nat.le_add_right _ 2) _), Lib.hid (hA.out.put (by omega)), Lib.hid (hF.out.set (.inr (.inr (.inr ⟨rfl, rfl, rfl, rfl, rfl⟩))))⟩
        case measure => simp [intOf]
    · obtain rfl : z = 4 := by omega
      clear hz
      have hge : geR ⟨sa, sb, sc, sd, st⟩ ⟨ga, gb, gc, gd, gt⟩ = true := decide_eq_true ⟨hG.out.1 (by omega), hG.out.2.1 (by omega), hG.out.2.2.1 (by omega), hG.out.2.2.2 (by omega)⟩
      have hfin1 := Lib.hid (hfin1.out hge)
      have hfin2 := Lib.hid (hfin2.out hge)
      clear hge hG hi0 hi1 hi2 hi3 w0 w1 w2 w3 hfin0
      have hMr := hM.out _ hB.out
      have hLk : Hid (∀ X : World, Below wr.heap.size wr X → (Instr.lookup 108 (.map (some b2)) (.int .i64 gt) true).run Try.prog X = .ok (.tuple #[(rmV m.r gt).getD (.agg #[.int .i64 0, .int .i64 0, .int .i64 0, .int .i64 0, .int .i64 0]), .bool (rmV m.r gt).isSome]) X) := Lib.hid fun X hX =>
        look_run (hMr.below hX).2.2.2.2.2 _ _ _ Try.underlying108 (zeroRw _) _ (by omega)
      obtain ⟨c0, c1, c2, hbne, _, hMp⟩ := hMr
      have hMp' := Lib.hid hMp
      clear hMp c1
      obtain ⟨a0, a1, a2, a3, a4, a5⟩ := hA.out
      obtain ⟨⟨y0, y1, y2, y3, y4, y5⟩, f1, f2, f3, f4, f5⟩ := hF.out
      simp only [subK, subRw] at y1 y2 y3 y4 y5
      have hB' := Lib.hid hB.out
      clear f1 f2 f3 f4 f5 hF hA hB hM
      cases hq : m.r gt with
      | none =>
        have hv : rmV m.r gt = none := by unfold rmV; rw [hq]; rfl
        simp only [hv, Option.getD_none, Option.isSome_none] at hLk
        have l1 := hLk.out wr.drew ((Below.refl _ _).drew)
        have l2 := fun o => hLk.out (wr.alloc o).drew ((below_alc _ _).drew)
        have l3 := fun o => hLk.out (wr.drew.alloc o) (belA _ ((Below.refl _ _).drew))
        have hfin := Lib.hid (hfin1.out hq)
        clear hfin1 hfin2 hLk hv hq
        go_wp2_with fail
        go_region
        clear l1 l2 l3
        obtain ⟨X, hX⟩ : ∃ X, (wr.alloc (.cells #[.int .i64 0, .int .i64 0, .int .i64 0, .int .i64 0, .int .i64 0] 28)).drew.drew = X := ⟨_, rfl⟩
        have hbX : Below wr.heap.size wr X := by rw [← hX]; exact (below_alc _ _).drew.drew
        obtain ⟨w', hup, hMU, hBU⟩ := mput_run (hMp'.out.below hbX) 108 _ Try.underlying108 (by omega) gt (by omega) (.agg #[.int .i64 (sa - ga), .int .i64 (sb - gb), .int .i64 (sc - gc), .int .i64 (sd - gd), .int .i64 st])
        have hE := Lib.hid (hfin.out X w' (belT hB'.out hbX) hBU hMU)
        clear hMU hBU hbX
        rw [← hX] at hup
        clear hX hfin
        go_wp2_with fail
        go_region
        go_wp2_with fail
        go_ret
        exact hE.out
      | some q =>
        have hv : rmV m.r gt = some (.agg #[.int .i64 q.a, .int .i64 q.b, .int .i64 q.c, .int .i64 q.d, .int .i64 q.t]) := by unfold rmV; rw [hq]; rfl
        simp only [hv, Option.getD_some, Option.isSome_some] at hLk
        have l1 := hLk.out wr.drew ((Below.refl _ _).drew)
        have l2 := fun o => hLk.out (wr.alloc o).drew ((below_alc _ _).drew)
        have l3 := fun o => hLk.out (wr.drew.alloc o) (belA _ ((Below.refl _ _).drew))
        have hfin := Lib.hid (hfin2.out q hq)
        obtain ⟨q0, q1, q2, q3, q4⟩ := q
        simp only [] at l1 l2 l3 hfin
        clear hfin1 hfin2 hLk hv hq
        obtain ⟨x, hx⟩ : ∃ x, rwQ q0 q1 q2 q3 q4 (sa - ga) (sb - gb) (sc - gc) (sd - gd) st = x := ⟨_, rfl⟩
        go_wp2_with fail
        go_region
        clear l1 l2 l3
        go_wp2_with fail
        go_ret
        exact hfin.out x hx _ (by have := hB'.out; (repeat' (first | with_reducible exact Below.refl _ _ | with_reducible assumption | with_reducible apply Below.setCell | with_reducible apply Below.alloc | with_reducible apply Below.drew | with_reducible apply below_drewN | with_reducible exact Nat.le_refl _ | (simp; done) | (simp; omega) | omega | exact Nat.le_refl _)))
end Go.Proofs.Ytjhmdobmbajcgaa
