/- The resolver of layer 21: what the names of a term mean. -/
import Derived.Test.YtnjalpcmjkahkaaRsY
import Derived.Deep.OwnRows
import Derived.Carry
namespace Go.Proofs.Ytnjalpcmjkahkaa
open Go.RowKit
set_option linter.unusedVariables false
set_option linter.unusedSimpArgs false

theorem walkR_any {R F bm cp T off ct : Nat} {ts : List Tg} (hk : KidLt ts) (hn : NamIn ts) : ∀ (n i : Nat), i < n → i < ts.length → WkOk R F bm cp T off ct ts n i
  | 0, i, h, _ => by omega
  | n + 1, i, h, hi => fun w fur lv m b hz hb hbi hmi ho => by
    obtain ⟨x, hx⟩ : ∃ x, ts.getD i tg0 = x := ⟨_, rfl⟩
    have hk1 := hk i hi
    have hn1 := hn i hi
    have hnd : ndT ts (i : Int) = x := hx
    rw [hx] at hk1 hn1
    obtain ⟨xk, xa, xb, xc, xn, xx, xy, xz, xw⟩ := x
    obtain ⟨ka, kb, kc⟩ := hk1
    obtain ⟨nn, nx, ny, nz, nw⟩ := hn1
    dsimp only at ka kb kc nn nx ny nz nw
    have wk : ∀ a : Int, 0 ≤ a → a < i → Hid (WkOk R F bm cp T off ct ts n a) := fun a h0 h1 => by
      obtain ⟨j, rfl⟩ : ∃ j : Nat, a = j := ⟨a.toNat, by omega⟩
      exact Lib.hid (walkR_any hk hn n j (by omega) (by omega))
    have e : ∀ fur, rsW ts (n + 1) (i : Int) b lv fur = rsW ts (n + 1) (i : Int) b lv fur := fun _ => rfl
    unfold rsW
    rw [hnd]
    dsimp only
    by_cases h0 : xk = 0
    · subst h0
      rw [if_pos rfl]
      exact walk_0 R F bm cp T off ct ts n i hi w fur lv m b hz hb hbi hmi ho xa xb xc xn xx xy xz xw hx (nn rfl)
    rw [if_neg h0]
    by_cases h3 : xk = 3
    · subst h3
      rw [if_pos rfl]
      obtain ⟨a1, a2⟩ := ka (by omega) (by omega) (by omega)
      exact walk_3 R F bm cp T off ct ts n i hi w fur lv m b hz hb hbi hmi ho xa xb xc xn xx xy xz xw hx a1 a2 (wk _ a1 a2) nx
    rw [if_neg h3]
    by_cases h4 : xk = 4
    · subst h4
      rw [if_pos rfl]
      obtain ⟨a1, a2⟩ := ka (by omega) (by omega) (by omega)
      exact walk_4 R F bm cp T off ct ts n i hi w fur lv m b hz hb hbi hmi ho xa xb xc xn xx xy xz xw hx a1 a2 (wk _ a1 a2) nx ny
    rw [if_neg h4]
    by_cases h9 : xk = 9
    · subst h9
      rw [if_pos rfl]
      obtain ⟨a1, a2⟩ := ka (by omega) (by omega) (by omega)
      exact walk_9 R F bm cp T off ct ts n i hi w fur lv m b hz hb hbi hmi ho xa xb xc xn xx xy xz xw hx a1 a2 (wk _ a1 a2)
    rw [if_neg h9]
    by_cases h6 : xk = 6 ∨ xk = 11
    · rw [if_pos h6]
      obtain ⟨a1, a2⟩ := ka (by omega) (by omega) (by omega)
      obtain ⟨b1, b2⟩ := kb (by omega)
      rcases h6 with h6 | h6
      · subst h6
        exact walk_6 R F bm cp T off ct ts n i hi w fur lv m b hz hb hbi hmi ho xa xb xc xn xx xy xz xw hx a1 a2 (wk _ a1 a2) b1 b2 (wk _ b1 b2) nx
      · subst h6
        exact walk_11 R F bm cp T off ct ts n i hi w fur lv m b hz hb hbi hmi ho xa xb xc xn xx xy xz xw hx a1 a2 (wk _ a1 a2) b1 b2 (wk _ b1 b2) nx
    rw [if_neg h6]
    by_cases h12 : xk = 12
    · subst h12
      rw [if_pos rfl]
      obtain ⟨a1, a2⟩ := ka (by omega) (by omega) (by omega)
      obtain ⟨b1, b2⟩ := kb (by omega)
      obtain ⟨c1, c2⟩ := kc (by omega)
      exact walk_12 R F bm cp T off ct ts n i hi w fur lv m b hz hb hbi hmi ho xa xb xc xn xx xy xz xw hx a1 a2 (wk _ a1 a2) b1 b2 (wk _ b1 b2) c1 c2 (wk _ c1 c2) nw nx ny nz
    rw [if_neg h12]
    by_cases h7 : xk = 7
    · subst h7
      rw [if_pos rfl]
      obtain ⟨a1, a2⟩ := ka (by omega) (by omega) (by omega)
      obtain ⟨b1, b2⟩ := kb (by omega)
      obtain ⟨c1, c2⟩ := kc (by omega)
      exact walk_7 R F bm cp T off ct ts n i hi w fur lv m b hz hb hbi hmi ho xa xb xc xn xx xy xz xw hx a1 a2 (wk _ a1 a2) b1 b2 (wk _ b1 b2) c1 c2 (wk _ c1 c2)
    rw [if_neg h7]
    by_cases h5 : xk = 5 ∨ xk = 8 ∨ xk = 10
    · rw [if_pos h5]
      obtain ⟨a1, a2⟩ := ka (by omega) (by omega) (by omega)
      obtain ⟨b1, b2⟩ := kb (by omega)
      rcases h5 with h5 | h5 | h5
      · subst h5
        exact walk_5 R F bm cp T off ct ts n i hi w fur lv m b hz hb hbi hmi ho xa xb xc xn xx xy xz xw hx a1 a2 (wk _ a1 a2) b1 b2 (wk _ b1 b2)
      · subst h5
        exact walk_8 R F bm cp T off ct ts n i hi w fur lv m b hz hb hbi hmi ho xa xb xc xn xx xy xz xw hx a1 a2 (wk _ a1 a2) b1 b2 (wk _ b1 b2)
      · subst h5
        exact walk_10 R F bm cp T off ct ts n i hi w fur lv m b hz hb hbi hmi ho xa xb xc xn xx xy xz xw hx a1 a2 (wk _ a1 a2) b1 b2 (wk _ b1 b2)
    rw [if_neg h5]
    exact walk_no R F bm cp T off ct ts n i hi w fur lv m b hz hb hbi hmi ho xk xa xb xc xn xx xy xz xw hx ⟨h0, h3, h4, h9, by omega, by omega, h12, h7, by omega, by omega, by omega⟩
theorem made_at {w : World} {n i : Nat} (hi : i < n) : (w.alloc (.cells (madeCells #[.int .i64 0] n) 3)).cell? ⟨w.heap.size, i, none⟩ = some (.int .i64 0) := by
  rw [World.cell?_alloc_at _ _ _ _ rfl]
  simp [madeCells, hi, Nat.mod_one]
def RvP (w : World) (ts : List Tg) (e : Ending) (w' : World) : Prop := ∃ F c, e = .returned (.slice (some ⟨F, 0, none⟩) ts.length c) ∧ w.heap.size ≤ F ∧ F < w'.heap.size ∧ (∀ i, i < ts.length → w'.cell? ⟨F, i, none⟩ = some (.int .i64 ((furV ts).getD i 0))) ∧ Below w.heap.size w w'
set_option maxHeartbeats 1600000 in
theorem resolve_any (T off ct : Nat) (ts : List Tg) (w : World) (h : Hid (TgSl w T off ts)) (hT : T < w.heap.size) (h1 : 1 ≤ ts.length) (h2 : ts.length ≤ 8192) (hk : KidLt ts) (hn : NamIn ts) :
    Calls Try.prog 16 #[.slice (some ⟨T, off, none⟩) ts.length ct] w (RvP w ts) := by
  have hmk := run_make_row' (P := Try.prog) 46 3 (.int .i64 0) 8 Try.underlying46 (by kernel_rfl) rfl .i64 .i64 ts.length (by omega) (by omega)
  have hmm := @run_makeMap Try.prog
  have wl : IntKind.i64.wrap ((ts.length : Int) - 1) = ((ts.length - 1 : Nat) : Int) := by rw [IntWalk.i64_in _ (by omega)]; omega
  go_enter Try.func16, Try.ntmps16
  go_wp2_with fail
  obtain ⟨W0, hW0⟩ : ∃ W, ((w.alloc (.cells (madeCells #[.int .i64 0] ts.length) 3)).alloc (.map #[] 0)).alloc (.cells #[.slice (some ⟨T, off, none⟩) ts.length ct, .slice (some ⟨w.heap.size, 0, none⟩) ts.length ts.length, .map (some (w.heap.size + 1))] 82) = W := ⟨_, rfl⟩
  rw [hW0]
  have hB : Below w.heap.size w W0 := by rw [← hW0]; (repeat' (first | with_reducible exact Below.refl _ _ | with_reducible assumption | with_reducible apply Below.setCell | with_reducible apply Below.alloc | with_reducible apply Below.drew | with_reducible apply below_drewN | with_reducible exact Nat.le_refl _ | (simp; done) | (simp; omega) | omega | exact Nat.le_refl _))
  have hz : RzC (w.heap.size + 2) w.heap.size (w.heap.size + 1) ts.length T off ct ts W0 (List.replicate ts.length 0) Lv.no 0 := by
    have hsz : W0.heap.size = w.heap.size + 3 := by rw [← hW0]; simp
    have b1 : Below (w.alloc (.cells (madeCells #[.int .i64 0] ts.length) 3)).heap.size (w.alloc (.cells (madeCells #[.int .i64 0] ts.length) 3)) W0 := by rw [← hW0]; exact ((Below.refl _ _).alloc (Nat.le_refl _) _).alloc (by simp) _
    have b2 : Below ((w.alloc (.cells (madeCells #[.int .i64 0] ts.length) 3)).alloc (.map #[] 0)).heap.size ((w.alloc (.cells (madeCells #[.int .i64 0] ts.length) 3)).alloc (.map #[] 0)) W0 := by rw [← hW0]; exact (Below.refl _ _).alloc (Nat.le_refl _) _
    have hl := (lvM_made (w.alloc (.cells (madeCells #[.int .i64 0] ts.length) 3))).below b2
    rw [show (w.alloc (.cells (madeCells #[.int .i64 0] ts.length) 3)).heap.size = w.heap.size + 1 from by simp] at hl
    exact ⟨by omega, by omega, by omega, by rw [← hW0]; simp [go_sem], by rw [← hW0]; simp [go_sem], by rw [← hW0]; simp [go_sem], by simp,
      fun i hi => by
        have hi : i < ts.length := by simpa using hi
        rw [List.getD_eq_getElem?_getD, List.getElem?_replicate, if_pos hi]
        exact carry b1 (by simp) (made_at hi),
      fun o => by rw [← hW0]; simp [go_sem], hl, h.out.below hB hT, by omega, by omega, by omega, by omega, by omega⟩
  have hwk := walkR_any (R := w.heap.size + 2) (F := w.heap.size) (bm := w.heap.size + 1) (cp := ts.length) (T := T) (off := off) (ct := ct) hk hn ts.length (ts.length - 1) (by omega) (by omega) W0 _ _ _ 0 (Lib.hid hz) (by omega) (by omega) (by omega) Lv.ok_no
  have hBh := Lib.hid hB
  clear hW0 hz hB hmk hmm
  refine hwk.mono ?_
  rintro e w1 ⟨rfl, hz, hb⟩
  have hR := hz.r
  have r1 := hz.r1
  have hfin := Lib.hid (show RvP w ts (.returned (.slice (some ⟨w.heap.size, 0, none⟩) ts.length ts.length)) w1 from ⟨w.heap.size, ts.length, rfl, Nat.le_refl _, hz.f, fun i hi => by
      have := hz.fs i (by rw [rsW_len]; simpa using hi)
      rw [show ((ts.length - 1 : Nat) : Int) = (ts.length : Int) - 1 by omega] at this
      exact this, ⟨hb.os.trans hBh.out.os, hb.tape.trans hBh.out.tape, hb.output.trans hBh.out.output, Nat.le_trans hBh.out.size hb.size, fun k hk => (hb.block k (by have := hBh.out.size; omega) (fun e => by rcases e with e | e <;> omega)).trans (hBh.out.block k hk)⟩⟩)
  clear hz hb hwk
  go_wp2_with fail
  go_ret
  exact hfin.out
end Go.Proofs.Ytnjalpcmjkahkaa
