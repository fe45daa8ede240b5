/- target.May. -/
import Derived.Test.YtnjalpcmjkahkaaZt4
import Derived.Test.YtnjalpcmjkahkaaZt5
import Derived.WalkSmall
set_option maxRecDepth 100000
set_option maxHeartbeats 8000000
namespace Go.Proofs.Ytnjalpcmjkahkaa
open Go.RowKit
set_option linter.unusedVariables false
set_option linter.unusedSimpArgs false
def mayV (ts : List Tg) : Bool := decide (1 ≤ ts.length ∧ ts.length ≤ 8192) && ts.all okT && decide (bg (ksT ts) (ts.length - 1) = 0)
theorem mayV_node (ts : List Tg) (j : Nat) (h : j < ts.length) (hn : okT (ts.getD j tg0) = false) : mayV ts = false := by
 have : ts.all okT = false := by
  cases hc : ts.all okT
  ·rfl
  ·rw [List.all_eq_true] at hc
   have := hc (ts.getD j tg0) (by simp [h])
   rw [this] at hn; cases hn
 unfold mayV; rw [this]; simp
theorem mayV_len (ts : List Tg) (h : ts.length = 0 ∨ 8192 < ts.length) : mayV ts = false := by
 unfold mayV; rw [decide_eq_false (by omega)]; simp
theorem mayV_ok (ts : List Tg) (h0 : 0 < ts.length) (h1 : ts.length ≤ 8192) (h : ts.all okT = true) : mayV ts = (decide (0 < ts.length) && decide (bg (ksT ts) (ts.length - 1) = 0)) := by
 unfold mayV; rw [h, decide_eq_true (by omega), decide_eq_true h0]; simp
theorem may_nil (p : Option Addr) (c : Nat) (w : World) :
  Calls Try.prog 15 #[.slice p 0 c] w fun e w' => e = .returned (.bool false) ∧ Below w.heap.size w w' := by
 go_enter Try.func15, Try.ntmps15
 go_wp2_with fail
 go_ret
 exact ⟨rfl, by (repeat' (first | (with_reducible first | exact bR _ _ | assumption | apply bS | apply bA | apply bD | apply bN | exact bL _) | (simp; done) | (simp; omega) | omega | exact bL _))⟩
theorem may_any (b off cp : Nat) (ts : List Tg) (w : World) (h : Hid (TgSl w b off ts)) (hbs : b < w.heap.size) (hl : ts.length ≤ 140737488351232) :
  Calls Try.prog 15 #[.slice (some ⟨b, off, none⟩) ts.length cp] w fun e w' => e = .returned (.bool (mayV ts)) ∧ Below w.heap.size w w' := by
 by_cases h0 : ts.length = 0
 ·have hv := Lib.hid (mayV_len ts (.inl h0))
  have h0' : ((ts.length : Int) == 0) = true := by rw [beq_iff_eq]; omega
  have h0'' := Lib.hid h0; clear h0
  go_enter Try.func15, Try.ntmps15
  go_wp2_with fail
  go_ret
  exact ⟨ret_b hv.out.symm, by (repeat' (first | (with_reducible first | exact bR _ _ | assumption | apply bS | apply bA | apply bD | apply bN | exact bL _) | (simp; done) | (simp; omega) | omega | exact bL _))⟩
 have h0' : ((ts.length : Int) == 0) = false := by rw [beq_eq_false_iff_ne]; omega
 by_cases h1 : 8192 < ts.length
 ·have hv := Lib.hid (mayV_len ts (.inr h1))
  go_enter Try.func15, Try.ntmps15
  go_wp2_with fail
  go_ret
  exact ⟨ret_b hv.out.symm, by (repeat' (first | (with_reducible first | exact bR _ _ | assumption | apply bS | apply bA | apply bD | apply bN | exact bL _) | (simp; done) | (simp; omega) | omega | exact bL _))⟩
 have hfin : Hid (∀ j, j < ts.length → okT (ts.getD j tg0) = false → mayV ts = false) := Lib.hid (mayV_node ts)
 have hokv : Hid (ts.all okT = true → mayV ts = (decide (0 < ts.length) && decide (bg (ksT ts) (ts.length - 1) = 0))) := Lib.hid (mayV_ok ts (by omega) (by omega))
 go_enter Try.func15, Try.ntmps15
 go_wp2_with fail
 go_loopw [17] (fun i wr => ∃ j : Nat, j ≤ ts.length ∧ i = .int .i64 j ∧ Below w.heap.size w wr ∧ Hid ((ts.take j).all okT = true) ∧ wr.cell? ⟨w.heap.size, 0, none⟩ = some (.slice (some ⟨b, off, none⟩) ts.length cp) ∧ w.heap.size < wr.heap.size) (fun i _ => ts.length - (intOf i).toNat)
 case atStart => exact ⟨0, by omega, rfl, by (repeat' (first | (with_reducible first | exact bR _ _ | assumption | apply bS | apply bA | apply bD | apply bN | exact bL _) | (simp; done) | (simp; omega) | omega | exact bL _)), Lib.hid rfl, by simp, by simp⟩
 case round =>
  obtain ⟨j, hj, rfl, hbw, hall, hcell, hws⟩ := hrel
  by_cases hlt : j < ts.length
  ·have hT := (h.out j hlt).below hbw hbs
   have htk : Hid ((ts.take (j + 1)).all okT = ((ts.take j).all okT && okT (ts.getD j tg0))) := Lib.hid (allT_take ts tg0 okT j hlt)
   have hfj : Hid (okT (ts.getD j tg0) = false → mayV ts = false) := Lib.hid (hfin.out j hlt)
   generalize ts.getD j tg0 = t at hT htk hfj
   obtain ⟨e0, e1, e2, e3, e4, e5, e6, e7, e8⟩ := hT
   have hbr : b < wr.heap.size := by have := hbw.size; omega
   go_wp2_with fail
   refine (isPlain_any _ _ _ _ _ _ _ _ _ _).mono ?_
   rintro e w1 ⟨rfl, hb1⟩
   obtain ⟨hc1, hf1⟩ := bcell hb1
   have hz1_0 : wr.heap.size < w1.heap.size := by have := hb1.size; (try simp at this); omega
   cases hp : plainT t.k t.a t.b t.c t.n t.x t.y t.z t.w
   ·have hf := Lib.hid (hfj.out (by unfold okT; rw [hp]; rfl)); clear hp
    go_wp2_with fail
    go_ret
    exact ⟨ret_b hf.out.symm, belT hbw (belT (by (repeat' (first | (with_reducible first | exact bR _ _ | assumption | apply bS | apply bA | apply bD | apply bN | exact bL _) | (simp; done) | (simp; omega) | omega | exact bL _))) hb1)⟩
   ·have hp' := Lib.hid hp; clear hp
    go_wp2_with fail
    refine (isNum_any _ _ _ _ _ _ _ _ _ _).mono ?_
    rintro e w2 ⟨rfl, hb2⟩
    obtain ⟨hc2, hf2⟩ := bcell hb2
    have hz2_0 : wr.heap.size < w2.heap.size := by have := hb2.size; (try simp at this); omega
    cases hn : numT t.k t.n
    ·have hf := Lib.hid (hfj.out (by unfold okT; rw [hp'.out, hn]; rfl)); clear hn
     go_wp2_with fail
     go_ret
     exact ⟨ret_b hf.out.symm, belT hbw (belT (belT (by (repeat' (first | (with_reducible first | exact bR _ _ | assumption | apply bS | apply bA | apply bD | apply bN | exact bL _) | (simp; done) | (simp; omega) | omega | exact bL _))) hb1) hb2)⟩
    ·have hn' := Lib.hid hn; clear hn
     go_wp2_with fail
     refine (areNames_any _ _ _ _ _ _ _ _ _ _).mono ?_
     rintro e w3 ⟨rfl, hb3⟩
     obtain ⟨hc3, hf3⟩ := bcell hb3
     have hz3_0 : wr.heap.size < w3.heap.size := by have := hb3.size; (try simp at this); omega
     have hbw3 := belT hbw (belT (belT (belT (by (repeat' (first | (with_reducible first | exact bR _ _ | assumption | apply bS | apply bA | apply bD | apply bN | exact bL _) | (simp; done) | (simp; omega) | omega | exact bL _))) hb1) hb2) hb3)
     cases hm : okNames t.k t.n t.x t.y t.z t.w
     ·have hf := Lib.hid (hfj.out (by unfold okT; rw [hp'.out, hn'.out, hm]; rfl)); clear hm
      go_wp2_with fail
      go_ret
      exact ⟨ret_b hf.out.symm, hbw3⟩
     ·have hm' := Lib.hid hm; clear hm
      go_wp2_with fail
      go_round
      case rel =>
       refine ⟨j + 1, by omega, by go_num, hbw3, Lib.hid ?_, ?_, by omega⟩
       ·rw [htk.out, hall.out]; unfold okT; rw [hp'.out, hn'.out, hm'.out]; rfl
       ·rw [hc3 _ _ (by omega), hc2 _ _ (by omega), hc1 _ _ (by simp; omega), World.cell?_alloc_past _ _ _ hws]; exact hcell
      case measure => simp [intOf]; omega
  ·have hval : Hid (mayV ts = (decide (0 < ts.length) && decide (bg (ksT ts) (ts.length - 1) = 0))) := Lib.hid (hokv.out (by have := hall.out; rwa [List.take_of_length_le (by omega)] at this))
   go_wp2_with fail
   refine (begins_any b off cp w.heap.size ts _ hcell (Lib.hid (h.out.below hbw hbs)) (by omega) (by omega)).mono ?_
   rintro e w1 ⟨v, rfl, hb1⟩
   rw [← hval.out]
   go_wp2_with fail
   go_ret
   exact ⟨rfl, belT hbw hb1⟩
open Go.RowKit
theorem Copy_nil (p : Option Addr) (c : Nat) (w : World) :
  Calls Try.prog 14 #[.slice p 0 c] w fun e w' => ∃ v, e = .returned v ∧ w'.ownsRow w.heap.size 37 9 v 0 (rowT []) ∧ Below w.heap.size w w' := by
 obtain ⟨i0, hi, hz0, hz1, hz2⟩ := info_parts infoT
 have hown0 : (w.alloc (.cells #[] 37)).ownsRow w.heap.size 37 9 (.slice (some ⟨w.heap.size, 0, none⟩) 0 0) 0 [] :=
  ⟨rfl, .inr ⟨w.heap.size, 0, #[], rfl, Nat.le_refl _, heap_alloc_last _ _, Nat.le_refl _, by decide, rfl, rfl⟩⟩
 have hown0' := Lib.hid hown0; clear hown0
 cases p with
 | none =>
  go_enter Try.func14, Try.ntmps14
  go_wp2_with fail
  go_ret
  exact ⟨_, rfl, hown0'.out, by (repeat' (first | (with_reducible first | exact bR _ _ | assumption | apply bS | apply bA | apply bD | apply bN | exact bL _) | (simp; done) | (simp; omega) | omega | exact bL _))⟩
 | some ad =>
  go_enter Try.func14, Try.ntmps14
  go_wp2_with (at_builtin; refine wpList_append_own _ rfl (.tmp 3) (.tmp 4) 22 rfl w.heap.size 37 i0 zT 9 72 Try.underlying22 hi hz0 hz1 hz2 rfl (by decide) _ 0 [] rfl hown0'.out ad 0 c [] rfl rfl (by simp) (by simp) (by unfold maxLen; omega) (by omega) (by simp) ?_)
  intro v' w1 hown1 hgr _
  have hbel : Below w.heap.size w w1 := ((Below.refl _ _).alloc (Nat.le_refl _) _).grown hgr (by simp) (by intro k hk; simp [Value.ownBlock] at hk; omega)
  have hown1' := Lib.hid hown1; clear hown1 hgr
  go_wp2_with fail
  go_ret
  exact ⟨v', rfl, hown1'.out, hbel⟩
def t7 : Tg := ⟨0, 0, 0, 0, 77777, 0, 0, 0, 0⟩
def LendPost (ts : List Tg) (w : World) (e : Ending) (w' : World) : Prop :=
 ∃ g cap, e = .returned (.slice (some ⟨g, 0, none⟩) ts.length cap) ∧ ts.length + 2 ≤ cap ∧ w.heap.size ≤ g ∧ g < w'.heap.size ∧ TgSl w' g 0 (ts ++ [t7, t7]) ∧ Below w.heap.size w w'
theorem lend_tail (a0 : Value) (ts : List Tg) (w : World) (ha : (∃ p c, a0 = .slice p 0 c) ∧ ts = [] ∨ ∃ b off cp, a0 = .slice (some ⟨b, off, none⟩) ts.length cp ∧ Hid (TgSl w b off ts) ∧ b < w.heap.size) (hl : ts.length * 72 ≤ 140737488351232) :
  Calls Try.prog 7 #[a0] w (LendPost ts w) := by
 obtain ⟨i0, hi, hz0, hz1, hz2⟩ := info_parts infoT
 have hcopy : Hid (Calls Try.prog 14 #[a0] w fun e w' => ∃ v, e = .returned v ∧ w'.ownsRow w.heap.size 37 9 v ts.length (rowT ts) ∧ Below w.heap.size w w') := Lib.hid (by
  rcases ha with ⟨⟨p, c, rfl⟩, rfl⟩ | ⟨b, off, cp, rfl, h, hbs⟩
  ·exact Copy_nil p c w
  ·exact Copy_any b off cp ts w h hbs hl)
 have hlen : Hid (∃ p c, a0 = .slice p ts.length c) := Lib.hid (by
  rcases ha with ⟨⟨p, c, rfl⟩, rfl⟩ | ⟨b, off, cp, rfl, h, hbs⟩
  ·exact ⟨_, _, rfl⟩
  ·exact ⟨_, _, rfl⟩)
 clear ha
 obtain ⟨p, c, rfl⟩ := hlen.out
 clear hlen
 go_enter Try.func7, Try.ntmps7
 go_wp2_with fail
 refine hcopy.out.mono ?_
 rintro e w1 ⟨v, rfl, hown, hb1⟩
 have hown' := Lib.hid hown; clear hown
 have hnews : Hid (∀ j u, (rowT [t7, t7])[j]? = some u → (w1.alloc (.cells (rowT [t7, t7]).toArray 37)).cell? ((⟨w1.heap.size, 0, none⟩ : Addr).add j) = some u) := Lib.hid (by
  intro j u hj
  have e : (⟨w1.heap.size, 0, none⟩ : Addr).add j = ⟨w1.heap.size, j, none⟩ := by simp [Addr.add]; try omega
  rw [e, World.cell?_alloc_new]
  simpa using hj)
 have hownA : Hid ((w1.alloc (.cells (rowT [t7, t7]).toArray 37)).ownsRow w.heap.size 37 9 v ts.length (rowT ts)) := Lib.hid (hown'.out.alloc _)
 have hw1s := hb1.size
 go_wp2_with (at_builtin; refine wpList_append_own (w := w1.alloc (.cells (rowT [t7, t7]).toArray 37)) rfl (.tmp 5) (.tmp 8) 22 rfl w.heap.size 37 i0 zT 9 72 Try.underlying22 hi hz0 hz1 hz2 rfl (by decide) v ts.length (rowT ts) rfl hownA.out ⟨w1.heap.size, 0, none⟩ 2 2 (rowT [t7, t7]) rfl (rowT_len _) hnews.out (rowT_one _) (by unfold maxLen; omega) (by omega) (by simp; omega) ?_)
 intro v' w2 hown2 hgr _
 have hbel : Below w.heap.size w w2 := (hb1.alloc (by omega) _).grown hgr (by simp; omega) (by
  intro k hk
  have := hownA.out
  obtain ⟨_, ⟨rfl, _⟩ | ⟨g, cap, cur, rfl, hbg, _⟩⟩ := this
  ·simp [Value.ownBlock] at hk
  ·simp [Value.ownBlock] at hk; omega)
 rw [← rowT_app] at hown2
 obtain ⟨g, cap, hv, hbg, hgl, hcap, _, hsl⟩ := owns_sl hown2 (by omega)
 have hsl' := Lib.hid hsl
 clear hown2 hgr hsl
 rw [hv]
 clear hv
 go_wp2_with fail
 go_ret
 exact ⟨g, cap, rfl, hcap, hbg, hgl, hsl'.out, hbel⟩
theorem Same_nil (w : World) (a : Value) (c : Nat) (p' : Option Addr) (c' : Nat) (ha : ∃ p, a = .slice p 0 c) : Calls Try.prog 23 #[a, .slice p' 0 c'] w fun e w' => e = .returned (.bool true) ∧ Below w.heap.size w w' := by
 obtain ⟨p, rfl⟩ := ha
 go_enter Try.func23, Try.ntmps23
 go_wp2_with fail
 go_loop [5] (fun i => i = .int .i64 0) (fun _ => 0)
 case atStart => rfl
 case round =>
  obtain rfl := hrel
  go_wp2_with fail
  go_ret
  exact ⟨rfl, Below.refl _ _⟩
theorem Same_any (b off cp b' off' cp' : Nat) (ts : List Tg) (w : World) (h : Hid (TgSl w b off ts)) (h' : Hid (TgSl w b' off' ts)) (hbs : b < w.heap.size) (hbs' : b' < w.heap.size) (hl : ts.length * 72 ≤ 140737488351232) :
  Calls Try.prog 23 #[.slice (some ⟨b, off, none⟩) ts.length cp, .slice (some ⟨b', off', none⟩) ts.length cp'] w fun e w' => e = .returned (.bool true) ∧ Below w.heap.size w w' := by
 go_enter Try.func23, Try.ntmps23
 go_wp2_with fail
 go_loopw [5] (fun i wr => ∃ j : Nat, j ≤ ts.length ∧ i = .int .i64 j ∧ Below w.heap.size w wr) (fun i _ => ts.length - (intOf i).toNat)
 case atStart => exact ⟨0, by omega, rfl, Below.refl _ _⟩
 case round =>
  obtain ⟨j, hj, rfl, hbw⟩ := hrel
  by_cases hlt : j < ts.length
  ·have hT := (h.out j hlt).below hbw hbs
   have hT' := (h'.out j hlt).below hbw hbs'
   generalize ts.getD j tg0 = t at hT hT'
   obtain ⟨e0, e1, e2, e3, e4, e5, e6, e7, e8⟩ := hT
   obtain ⟨d0, d1, d2, d3, d4, d5, d6, d7, d8⟩ := hT'
   have hlt' : (j : Int) < (ts.length : Int) := by omega
   have hj0 : (0 : Int) ≤ (j : Int) := by omega
   go_wp2_with fail
   go_quiet (fail)
   go_wp2_with fail
   go_roundw
   case rel => exact ⟨j + 1, by omega, by go_num, below_drewN hbw _⟩
   case measure => simp [intOf]; omega
  ·go_wp2_with fail
   go_ret
   exact ⟨rfl, hbw⟩
theorem tgSl_app {w : World} {b off : Nat} {ts us : List Tg} (h : TgSl w b off (ts ++ us)) : TgSl w b off ts ∧ ∀ i, i < us.length → TgAt w b off (us.getD i tg0) (ts.length + i) := by
 constructor
 ·intro i hi
  have := h i (by rw [List.length_append]; omega)
  rwa [List.getD_eq_getElem?_getD, List.getElem?_append_left hi, ← List.getD_eq_getElem?_getD] at this
 ·intro i hi
  have := h (ts.length + i) (by rw [List.length_append]; omega)
  rwa [List.getD_eq_getElem?_getD, List.getElem?_append_right (by omega), Nat.add_sub_cancel_left, ← List.getD_eq_getElem?_getD] at this
theorem Kept_any (a0 : Value) (g cap : Nat) (ts : List Tg) (w : World) (ha : (∃ p c, a0 = .slice p 0 c) ∧ ts = [] ∨ ∃ b off cp, a0 = .slice (some ⟨b, off, none⟩) ts.length cp ∧ Hid (TgSl w b off ts) ∧ b < w.heap.size) (hl : ts.length * 72 ≤ 140737488351232) (hc : ts.length + 2 ≤ cap) (h : Hid (TgSl w g 0 (ts ++ [t7, t7]))) (hgs : g < w.heap.size) :
  Calls Try.prog 11 #[.slice (some ⟨g, 0, none⟩) ts.length cap, a0] w fun e w' => e = .returned (.bool true) ∧ Below w.heap.size w w' := by
 have hs' := Lib.hid (tgSl_app h.out).1
 have hsame : Hid (Calls Try.prog 23 #[.slice (some ⟨g, 0, none⟩) ts.length cap, a0] w fun e w' => e = .returned (.bool true) ∧ Below w.heap.size w w') := Lib.hid (by
  rcases ha with ⟨⟨p, c, rfl⟩, rfl⟩ | ⟨b, off, cp, rfl, h', hb⟩
  ·exact Same_nil w _ cap p c ⟨_, rfl⟩
  ·exact Same_any g 0 cap b off cp ts w hs' h' hgs hb hl)
 have hlen : Hid (∃ p c, a0 = .slice p ts.length c) := Lib.hid (by
  rcases ha with ⟨⟨p, c, rfl⟩, rfl⟩ | ⟨b, off, cp, rfl, h', _⟩
  ·exact ⟨_, _, rfl⟩
  ·exact ⟨_, _, rfl⟩)
 clear ha
 obtain ⟨p, c, rfl⟩ := hlen.out
 clear hlen
 go_enter Try.func11, Try.ntmps11
 go_wp2_with fail
 refine hsame.out.mono ?_
 rintro e w1 ⟨rfl, hb1⟩
 have hr := (tgSl_app (h.out.below hb1 hgs)).2
 have hgs1 : g < w1.heap.size := by have := hb1.size; omega
 obtain ⟨e0, e1, e2, e3, e4, e5, e6, e7, e8⟩ := hr 0 (by decide)
 obtain ⟨d0, d1, d2, d3, d4, d5, d6, d7, d8⟩ := hr 1 (by decide)
 simp only [t7, List.getD_cons_zero, List.getD_cons_succ, Nat.add_zero, Nat.zero_add] at e0 e1 e2 e3 e4 e5 e6 e7 e8 d0 d1 d2 d3 d4 d5 d6 d7 d8
 clear hr
 go_wp2_with fail
 go_ret
 exact ⟨rfl, hb1⟩
end Go.Proofs.Ytnjalpcmjkahkaa
