/- Rows of target nodes lent, and held against what they were. -/
import Derived.Test.YtnjalpcmjkahkaaTgL
import Derived.WalkSmall
namespace Go.Proofs.Ytnjalpcmjkahkaa
open Go.RowKit
set_option linter.unusedVariables false
set_option linter.unusedSimpArgs false

set_option maxHeartbeats 400000 in
theorem Copy_nil (p : Option Addr) (c : Nat) (w : World) :
    Calls Try.prog 14 #[.slice p 0 c] w fun e w' => ∃ v, e = .returned v ∧ w'.ownsRow w.heap.size 37 9 v 0 (rowT []) ∧ Below w.heap.size w w' := by
  obtain ⟨i0, hi, hz0, hz1, hz2⟩ := info_parts infoT
  have hown0 : (w.alloc (.cells #[] 37)).ownsRow w.heap.size 37 9 (.slice (some ⟨w.heap.size, 0, none⟩) 0 0) 0 [] :=
    ⟨rfl, .inr ⟨w.heap.size, 0, #[], rfl, Nat.le_refl _, heap_alloc_last _ _, Nat.le_refl _, by decide, rfl, rfl⟩⟩
  have hown0' := Lib.hid hown0; clear hown0
  cases p with
  | none =>
    go_enter Try.func14, Try.ntmps14
    go_wp2_with fail
    go_ret
    exact ⟨_, rfl, hown0'.out, by (repeat' (first | with_reducible exact Below.refl _ _ | with_reducible assumption | with_reducible apply Below.setCell | with_reducible apply Below.alloc | with_reducible apply Below.drew | with_reducible apply below_drewN | with_reducible exact Nat.le_refl _ | (simp; done) | (simp; omega) | omega | exact Nat.le_refl _))⟩
  | some ad =>
    go_enter Try.func14, Try.ntmps14
    go_wp2_with (at_builtin; refine wpList_append_own _ rfl (.tmp 3) (.tmp 4) 22 rfl w.heap.size 37 i0 zT 9 72 Try.underlying22 hi hz0 hz1 hz2 rfl (by decide) _ 0 [] rfl hown0'.out ad 0 c [] rfl rfl (by simp) (by simp) (by unfold maxLen; omega) (by omega) (by simp) ?_)
    intro v' w1 hown1 hgr _
    have hbel : Below w.heap.size w w1 := ((Below.refl _ _).alloc (Nat.le_refl _) _).grown hgr (by simp) (by intro k hk; simp [Value.ownBlock] at hk; omega)
    have hown1' := Lib.hid hown1; clear hown1 hgr
    go_wp2_with fail
    go_ret
    exact ⟨v', rfl, hown1'.out, hbel⟩

def t7 : Tg := ⟨0, 0, 0, 0, 77777, 0, 0, 0, 0⟩
def LendPost (ts : List Tg) (w : World) (e : Ending) (w' : World) : Prop :=
  ∃ g cap, e = .returned (.slice (some ⟨g, 0, none⟩) ts.length cap) ∧ ts.length + 2 ≤ cap ∧ w.heap.size ≤ g ∧ g < w'.heap.size ∧ TgSl w' g 0 (ts ++ [t7, t7]) ∧ Below w.heap.size w w'

set_option maxHeartbeats 400000 in
theorem lend_tail (a0 : Value) (ts : List Tg) (w : World) (ha : (∃ p c, a0 = .slice p 0 c) ∧ ts = [] ∨ ∃ b off cp, a0 = .slice (some ⟨b, off, none⟩) ts.length cp ∧ Hid (TgSl w b off ts) ∧ b < w.heap.size) (hl : ts.length * 72 ≤ 140737488351232) :
    Calls Try.prog 7 #[a0] w (LendPost ts w) := by
  obtain ⟨i0, hi, hz0, hz1, hz2⟩ := info_parts infoT
  have hcopy : Hid (Calls Try.prog 14 #[a0] w fun e w' => ∃ v, e = .returned v ∧ w'.ownsRow w.heap.size 37 9 v ts.length (rowT ts) ∧ Below w.heap.size w w') := Lib.hid (by
    rcases ha with ⟨⟨p, c, rfl⟩, rfl⟩ | ⟨b, off, cp, rfl, h, hbs⟩
    · exact Copy_nil p c w
    · exact Copy_any b off cp ts w h hbs hl)
  have hlen : Hid (∃ p c, a0 = .slice p ts.length c) := Lib.hid (by
    rcases ha with ⟨⟨p, c, rfl⟩, rfl⟩ | ⟨b, off, cp, rfl, h, hbs⟩
    · exact ⟨_, _, rfl⟩
    · exact ⟨_, _, rfl⟩)
  clear ha
  obtain ⟨p, c, rfl⟩ := hlen.out
  clear hlen
  go_enter Try.func7, Try.ntmps7
  go_wp2_with fail
  refine hcopy.out.mono ?_
  rintro e w1 ⟨v, rfl, hown, hb1⟩
  have hown' := Lib.hid hown; clear hown
  have hnews : Hid (∀ j u, (rowT [t7, t7])[j]? = some u → (w1.alloc (.cells (rowT [t7, t7]).toArray 37)).cell? ((⟨w1.heap.size, 0, none⟩ : Addr).add j) = some u) := Lib.hid (by
    intro j u hj
    have e : (⟨w1.heap.size, 0, none⟩ : Addr).add j = ⟨w1.heap.size, j, none⟩ := by simp [Addr.add]; try omega
    rw [e, World.cell?_alloc_new]
    simpa using hj)
  have hownA : Hid ((w1.alloc (.cells (rowT [t7, t7]).toArray 37)).ownsRow w.heap.size 37 9 v ts.length (rowT ts)) := Lib.hid (hown'.out.alloc _)
  have hw1s := hb1.size
  go_wp2_with (at_builtin; refine wpList_append_own (w := w1.alloc (.cells (rowT [t7, t7]).toArray 37)) rfl (.tmp 5) (.tmp 8) 22 rfl w.heap.size 37 i0 zT 9 72 Try.underlying22 hi hz0 hz1 hz2 rfl (by decide) v ts.length (rowT ts) rfl hownA.out ⟨w1.heap.size, 0, none⟩ 2 2 (rowT [t7, t7]) rfl (rowT_len _) hnews.out (rowT_one _) (by unfold maxLen; omega) (by omega) (by simp; omega) ?_)
  intro v' w2 hown2 hgr _
  have hbel : Below w.heap.size w w2 := (hb1.alloc (by omega) _).grown hgr (by simp; omega) (by
    intro k hk
    have := hownA.out
    obtain ⟨_, ⟨rfl, _⟩ | ⟨g, cap, cur, rfl, hbg, _⟩⟩ := this
    · simp [Value.ownBlock] at hk
    · simp [Value.ownBlock] at hk; omega)
  rw [← rowT_app] at hown2
  obtain ⟨g, cap, hv, hbg, hgl, hcap, _, hsl⟩ := owns_sl hown2 (by omega)
  have hsl' := Lib.hid hsl
  clear hown2 hgr hsl
  rw [hv]
  clear hv
  go_wp2_with fail
  go_ret
  exact ⟨g, cap, rfl, hcap, hbg, hgl, hsl'.out, hbel⟩

theorem Same_nil (w : World) (a : Value) (c : Nat) (p' : Option Addr) (c' : Nat) (ha : ∃ p, a = .slice p 0 c) : Calls Try.prog 23 #[a, .slice p' 0 c'] w fun e w' => e = .returned (.bool true) ∧ Below w.heap.size w w' := by
  obtain ⟨p, rfl⟩ := ha
  go_enter Try.func23, Try.ntmps23
  go_wp2_with fail
  go_loop [5] (fun i => i = .int .i64 0) (fun _ => 0)
  case atStart => rfl
  case round =>
    obtain rfl := hrel
    go_wp2_with fail
    go_ret
    exact ⟨rfl, Below.refl _ _⟩

set_option maxHeartbeats 400000 in
theorem Same_any (b off cp b' off' cp' : Nat) (ts : List Tg) (w : World) (h : Hid (TgSl w b off ts)) (h' : Hid (TgSl w b' off' ts)) (hbs : b < w.heap.size) (hbs' : b' < w.heap.size) (hl : ts.length * 72 ≤ 140737488351232) :
    Calls Try.prog 23 #[.slice (some ⟨b, off, none⟩) ts.length cp, .slice (some ⟨b', off', none⟩) ts.length cp'] w fun e w' => e = .returned (.bool true) ∧ Below w.heap.size w w' := by
  go_enter Try.func23, Try.ntmps23
  go_wp2_with fail
  go_loopw [5] (fun i wr => ∃ j : Nat, j ≤ ts.length ∧ i = .int .i64 j ∧ Below w.heap.size w wr) (fun i _ => ts.length - (intOf i).toNat)
  case atStart => exact ⟨0, by omega, rfl, Below.refl _ _⟩
  case round =>
    obtain ⟨j, hj, rfl, hbw⟩ := hrel
    by_cases hlt : j < ts.length
    · have hT := (h.out j hlt).below hbw hbs
      have hT' := (h'.out j hlt).below hbw hbs'
      generalize ts.getD j tg0 = t at hT hT'
      obtain ⟨e0, e1, e2, e3, e4, e5, e6, e7, e8⟩ := hT
      obtain ⟨d0, d1, d2, d3, d4, d5, d6, d7, d8⟩ := hT'
      have hlt' : (j : Int) < (ts.length : Int) := by omega
      have hj0 : (0 : Int) ≤ (j : Int) := by omega
      go_wp2_with fail
      go_quiet (fail)
      go_wp2_with fail
      go_roundw
      case rel => exact ⟨j + 1, by omega, by go_num, below_drewN hbw _⟩
      case measure => simp [intOf]; omega
    · go_wp2_with fail
      go_ret
      exact ⟨rfl, hbw⟩

theorem tgSl_app {w : World} {b off : Nat} {ts us : List Tg} (h : TgSl w b off (ts ++ us)) : TgSl w b off ts ∧ ∀ i, i < us.length → TgAt w b off (us.getD i tg0) (ts.length + i) := by
  constructor
  · intro i hi
    have := h i (by rw [List.length_append]; omega)
    rwa [List.getD_eq_getElem?_getD, List.getElem?_append_left hi, ← List.getD_eq_getElem?_getD] at this
  · intro i hi
    have := h (ts.length + i) (by rw [List.length_append]; omega)
    rwa [List.getD_eq_getElem?_getD, List.getElem?_append_right (by omega), Nat.add_sub_cancel_left, ← List.getD_eq_getElem?_getD] at this

set_option maxHeartbeats 400000 in
theorem Kept_any (a0 : Value) (g cap : Nat) (ts : List Tg) (w : World) (ha : (∃ p c, a0 = .slice p 0 c) ∧ ts = [] ∨ ∃ b off cp, a0 = .slice (some ⟨b, off, none⟩) ts.length cp ∧ Hid (TgSl w b off ts) ∧ b < w.heap.size) (hl : ts.length * 72 ≤ 140737488351232) (hc : ts.length + 2 ≤ cap) (h : Hid (TgSl w g 0 (ts ++ [t7, t7]))) (hgs : g < w.heap.size) :
    Calls Try.prog 11 #[.slice (some ⟨g, 0, none⟩) ts.length cap, a0] w fun e w' => e = .returned (.bool true) ∧ Below w.heap.size w w' := by
  have hs' := Lib.hid (tgSl_app h.out).1
  have hsame : Hid (Calls Try.prog 23 #[.slice (some ⟨g, 0, none⟩) ts.length cap, a0] w fun e w' => e = .returned (.bool true) ∧ Below w.heap.size w w') := Lib.hid (by
    rcases ha with ⟨⟨p, c, rfl⟩, rfl⟩ | ⟨b, off, cp, rfl, h', hb⟩
    · exact Same_nil w _ cap p c ⟨_, rfl⟩
    · exact Same_any g 0 cap b off cp ts w hs' h' hgs hb hl)
  have hlen : Hid (∃ p c, a0 = .slice p ts.length c) := Lib.hid (by
    rcases ha with ⟨⟨p, c, rfl⟩, rfl⟩ | ⟨b, off, cp, rfl, h', _⟩
    · exact ⟨_, _, rfl⟩
    · exact ⟨_, _, rfl⟩)
  clear ha
  obtain ⟨p, c, rfl⟩ := hlen.out
  clear hlen
  go_enter Try.func11, Try.ntmps11
  go_wp2_with fail
  refine hsame.out.mono ?_
  rintro e w1 ⟨rfl, hb1⟩
  have hr := (tgSl_app (h.out.below hb1 hgs)).2
  have hgs1 : g < w1.heap.size := by have := hb1.size; omega
  obtain ⟨e0, e1, e2, e3, e4, e5, e6, e7, e8⟩ := hr 0 (by decide)
  obtain ⟨d0, d1, d2, d3, d4, d5, d6, d7, d8⟩ := hr 1 (by decide)
  simp only [t7, List.getD_cons_zero, List.getD_cons_succ, Nat.add_zero, Nat.zero_add] at e0 e1 e2 e3 e4 e5 e6 e7 e8 d0 d1 d2 d3 d4 d5 d6 d7 d8
  clear hr
  go_wp2_with fail
  go_ret
  exact ⟨rfl, hb1⟩
end Go.Proofs.Ytnjalpcmjkahkaa
