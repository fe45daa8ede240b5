/- The reference's text of a part. Written by gen_shc.py. -/
import Derived.Test.YtidlljookjicpaaGreatDoorPwS
import Derived.Test.YtidlljookjicpaaGreatDoorPwA
import Derived.Test.YtidlljookjicpaaGreatDoorDec
import Derived.Test.YtidlljookjicpaaGreatDoorLxH
namespace Go.Proofs.YtidlljookjicpaaGreatDoor
open Go.RowKit
set_option linter.unusedVariables false
set_option linter.unusedSimpArgs false

theorem bz_app (l r : List UInt8) : bs (l ++ r) = bs l ++ bs r := by apply ByteArray.ext; simp [bs]
theorem bz_dat (x : ByteArray) : bs x.data.toList = x := rfl
theorem mx2_run (a b : Int) (W : World) : (Builtin.max_ #[3, 3] 3 #[.int .i64 a, .int .i64 b]).run Tryz.prog W = .ok (.int .i64 (max a b)) W := by
  have h2 : ∀ x y : Int, Builtin.max2 (.int .i64 x) (.int .i64 y) = pure (.int .i64 (max x y)) := by
    intro x y
    simp only [Builtin.max2]
    rcases Int.lt_or_le x y with h | h
    · rw [if_pos h, Int.max_eq_right (by omega)]
    · rw [if_neg (by omega), Int.max_eq_left (by omega)]
  simp [Builtin.max_, h2]
theorem mx3_run (a b c : Int) (W : World) : (Builtin.max_ #[3, 3, 3] 3 #[.int .i64 a, .int .i64 b, .int .i64 c]).run Tryz.prog W = .ok (.int .i64 (max (max a b) c)) W := by
  have h2 : ∀ x y : Int, Builtin.max2 (.int .i64 x) (.int .i64 y) = pure (.int .i64 (max x y)) := by
    intro x y
    simp only [Builtin.max2]
    rcases Int.lt_or_le x y with h | h
    · rw [if_pos h, Int.max_eq_right (by omega)]
    · rw [if_neg (by omega), Int.max_eq_left (by omega)]
  simp [Builtin.max_, h2]
def RTx (bk off cp : Nat) (ts : List Nd) (T : PT) : Prop := ∀ (i : Nat) (w : World), T.At ts i → i < ts.length → Hid (NdSl w bk off ts) → bk < w.heap.size →
  Calls Tryz.prog 29 #[.slice (some ⟨bk, off, none⟩) ts.length cp, .int .i64 i] w fun e w' => e = .returned (.tuple #[.string (bs T.tx), .int .i64 ((T.ins : Int) + 1)]) ∧ Below w.heap.size w w'
def RSd (bk off cp : Nat) (ts : List Nd) (T : PT) : Prop := ∀ (i : Nat) (w : World), T.At ts i → i < ts.length → Hid (NdSl w bk off ts) → bk < w.heap.size →
  Calls Tryz.prog 48 #[.slice (some ⟨bk, off, none⟩) ts.length cp, .int .i64 i] w fun e w' => e = .returned (.tuple #[.string (bs (brS T.atm T.tx)), .int .i64 (sdD T : Int)]) ∧ Below w.heap.size w w'
theorem PT.ins_le : ∀ T : PT, T.ins + 1 ≤ T.sz
  | .var _ => Nat.le_refl 1 | .int _ => Nat.le_refl 1 | .bol _ => Nat.le_refl 1
  | .fn _ a => by have := a.ins_le; simp only [PT.ins, PT.sz]; omega
  | .app a b => by have := a.ins_le; have := b.ins_le; simp only [PT.ins, PT.sz]; split <;> split <;> omega
  | .lt _ a b => by have := a.ins_le; have := b.ins_le; simp only [PT.ins, PT.sz]; omega
  | .rc _ _ a b => by have := a.ins_le; have := b.ins_le; simp only [PT.ins, PT.sz]; omega
  | .cd a b c => by have := a.ins_le; have := b.ins_le; have := c.ins_le; simp only [PT.ins, PT.sz]; omega
  | .pr _ a b => by have := a.ins_le; have := b.ins_le; simp only [PT.ins, PT.sz]; split <;> split <;> omega
  | .ac _ a => by have := a.ins_le; simp only [PT.ins, PT.sz]; split <;> omega
  | .hn _ _ _ _ a b c => by have := a.ins_le; have := b.ins_le; have := c.ins_le; simp only [PT.ins, PT.sz]; omega
theorem sz_bs {l : List UInt8} {n : Nat} (h : l.length ≤ n) : (bs l).size ≤ n := by rw [bs_size]; exact h
set_option maxRecDepth 100000 in
set_option maxHeartbeats 2000000 in
theorem rside_of {bk off cp : Nat} {ts : List Nd} (hl : ts.length ≤ 512) {T : PT} (hT : T.ok) (hR : RTx bk off cp ts T) : RSd bk off cp ts T := by
  intro i w hA hi h hbk
  have hk := hA.k
  have kT := Lib.hid (hR i w hA hi h hbk)
  have hsz := hA.sz
  have hln := T.tx_len hT
  have hin := T.ins_le
  have e0 := Lib.hid fun (W : World) (hW : Below w.heap.size w W) => ((h.out.below hW hbk) i hi).1
  generalize (ts.getD i nd0).k = kd at hk e0
  have hii : (i : Int) < (ts.length : Int) := by omega
  have hi0 : (0 : Int) ≤ (i : Int) := by omega
  obtain ⟨s, hs⟩ : ∃ s, bs T.tx = s := ⟨_, rfl⟩
  have hss : s.size ≤ 100000 := by rw [← hs]; exact sz_bs (by omega)
  obtain ⟨m, hm⟩ : ∃ m, T.ins = m := ⟨_, rfl⟩
  rw [hs, hm] at kT
  have hm2 : m ≤ 512 := by omega
  have hF : Hid (∀ s' k', ((T.atm = true ∧ s' = s ∧ k' = (m : Int)) ∨ (T.atm = false ∧ s' = (⟨#[40]⟩ : ByteArray) ++ s ++ (⟨#[41]⟩ : ByteArray) ∧ k' = (m : Int) + 1)) → (Ending.returned (.tuple #[.string s', .int .i64 k']) = .returned (.tuple #[.string (bs (brS T.atm T.tx)), .int .i64 (sdD T : Int)]))) := Lib.hid (by
    intro s' k' hh
    rcases hh with ⟨h1, rfl, rfl⟩ | ⟨h1, rfl, rfl⟩
    · unfold brS sdD; rw [h1, if_pos rfl, if_pos rfl, hs, hm]
    · unfold brS sdD; rw [h1, if_neg (by decide), if_neg (by decide), hm, ← hs, show (40 :: (T.tx ++ [41])) = [40] ++ T.tx ++ [41] from rfl, bz_app, bz_app]; rfl)
  clear hs hm hsz hln hin hR hA
  go_enter Tryz.func48, Tryz.ntmps48
  go_wp2_with fail
  refine kT.out.mono ?_
  rintro e w1 ⟨rfl, hb1⟩
  have e1 := e0.out w1 hb1
  have hb1' := Lib.hid hb1
  have hbz := hb1.size
  have hbl : bk < w1.heap.size := by omega
  clear hb1 kT e0
  rcases hk with ⟨ha, hk | hk | hk | hk⟩ | ⟨ha, hk | hk | hk | hk | hk | hk | hk⟩
  all_goals
    rw [hk] at e1
    have ha' := Lib.hid ha
    clear hk ha
    go_wp2_with fail
    go_ret2
  all_goals first | exact ⟨hF.out _ _ (.inl ⟨ha'.out, rfl, by first | rfl | omega⟩), hb1'.out⟩ | exact ⟨hF.out _ _ (.inr ⟨ha'.out, by first | rfl | simp, rfl⟩), hb1'.out⟩

set_option maxRecDepth 100000 in
set_option maxHeartbeats 4000000 in
theorem rt_fn {bk off cp : Nat} {ts : List Nd} (hl : ts.length ≤ 512) {x : ByteArray} {a : PT} (hT : (PT.fn x a).ok) (ka : RTx bk off cp ts a) : RTx bk off cp ts (PT.fn x a) := by
  intro i w hA hi h hbk
  have hsz := hA.sz
  obtain ⟨j, p, rfl, hg, ha⟩ := hA
  have hN := h.out (j + 1) hi
  rw [hg] at hN
  unfold NdAt at hN
  obtain ⟨e0, e1, e2, e3, e4, e5, e6, e7, e8, e9⟩ := hN
  dsimp only at e0 e1 e2 e3 e4 e5 e6 e7 e8 e9
  have hii : ((j + 1 : Nat) : Int) < (ts.length : Int) := by omega
  have hi0 : (0 : Int) ≤ ((j + 1 : Nat) : Int) := by omega
  push_cast at e0 e1 e2 e3 e4 e5 e6 e7 e8 e9 hii hi0
  have hln := (PT.fn x a).tx_len hT
  have qa := PT.ins_le a
  simp only [PT.sz] at hsz hln
  have z_x := sz_nm hT.1
  have la := a.tx_len hT.2
  have ka := Lib.hid fun (W : World) (hW : Below w.heap.size w W) => ka j W ha (by omega) (Lib.hid (h.out.below hW hbk)) (by have := hW.size; omega)
  obtain ⟨sa, e_a⟩ : ∃ s, bs a.tx = s := ⟨_, rfl⟩
  have ya : sa.size ≤ 100000 := by rw [← e_a]; exact sz_bs (by omega)
  obtain ⟨da, g_a⟩ : ∃ d, a.ins = d := ⟨_, rfl⟩
  have xa : da ≤ 600 := by omega
  rw [e_a, g_a] at ka
  have hF : Hid (∀ s' k', s'.data.toList = [102, 117, 110, 32] ++ x.data.toList ++ [32, 45, 62, 32] ++ sa.data.toList → k' = ((da : Int) + 1) + 1 → Ending.returned (.tuple #[.string s', .int .i64 k']) = .returned (.tuple #[.string (bs (PT.fn x a).tx), .int .i64 (((PT.fn x a).ins : Int) + 1)])) := Lib.hid (by
    intro s' k' h1 h2
    have h3 : s' = bs (PT.fn x a).tx := by
      apply ba_x
      rw [h1]
      simp [← e_a, PT.tx, bs]
    have h4 : k' = ((PT.fn x a).ins : Int) + 1 := by
      subst h2
      simp only [← g_a, PT.ins]
      try omega
    rw [h3, h4])
  clear hln qa la e_a g_a
  go_enter Tryz.func29, Tryz.ntmps29
  go_wp2_with fail
  refine (ka.out _ (by (repeat' (first | with_reducible exact Below.refl _ _ | with_reducible assumption | with_reducible apply Below.setCell | with_reducible apply Below.alloc | with_reducible apply Below.drew | with_reducible apply below_drewN | with_reducible exact Nat.le_refl _ | (simp; done) | (simp; omega) | omega | exact Nat.le_refl _)))).mono ?_
  rintro e w1 ⟨rfl, hb⟩
  have hB := Lib.hid (belT (show Below w.heap.size w _ from by (repeat' (first | with_reducible exact Below.refl _ _ | with_reducible assumption | with_reducible apply Below.setCell | with_reducible apply Below.alloc | with_reducible apply Below.drew | with_reducible apply below_drewN | with_reducible exact Nat.le_refl _ | (simp; done) | (simp; omega) | omega | exact Nat.le_refl _))) hb)
  have hX := Lib.hid ((bxn_lit w (⟨3, (j : Nat), 0, 0, 0, ⟨#[]⟩, x, ⟨#[]⟩, ⟨#[]⟩, p⟩ : Nd)).below hb)
  have hz := hX.out.lt
  obtain ⟨q0, q1, q2, q3, q4, q5, q6, q7, q8, q9⟩ := hX.out.cells
  dsimp only at q0 q1 q2 q3 q4 q5 q6 q7 q8 q9
  clear hb
  go_wp2_with fail
  go_ret2
  exact ⟨hF.out _ _ (by simp) (by first | rfl | omega), hB.out⟩
set_option maxRecDepth 100000 in
set_option maxHeartbeats 4000000 in
theorem rt_ac {bk off cp : Nat} {ts : List Nd} (hl : ts.length ≤ 512) {nm : ByteArray} {a : PT} (hT : (PT.ac nm a).ok) (ka : RSd bk off cp ts a) : RTx bk off cp ts (PT.ac nm a) := by
  intro i w hA hi h hbk
  have hsz := hA.sz
  obtain ⟨j, p, rfl, hg, ha⟩ := hA
  have hN := h.out (j + 1) hi
  rw [hg] at hN
  unfold NdAt at hN
  obtain ⟨e0, e1, e2, e3, e4, e5, e6, e7, e8, e9⟩ := hN
  dsimp only at e0 e1 e2 e3 e4 e5 e6 e7 e8 e9
  have hii : ((j + 1 : Nat) : Int) < (ts.length : Int) := by omega
  have hi0 : (0 : Int) ≤ ((j + 1 : Nat) : Int) := by omega
  push_cast at e0 e1 e2 e3 e4 e5 e6 e7 e8 e9 hii hi0
  have hln := (PT.ac nm a).tx_len hT
  have qa := PT.ins_le a
  simp only [PT.sz] at hsz hln
  have z_nm := sz_nm hT.1
  have la := a.tx_len hT.2
  have ka := Lib.hid fun (W : World) (hW : Below w.heap.size w W) => ka j W ha (by omega) (Lib.hid (h.out.below hW hbk)) (by have := hW.size; omega)
  obtain ⟨sa, e_a⟩ : ∃ s, bs (brS a.atm a.tx) = s := ⟨_, rfl⟩
  have ya : sa.size ≤ 100000 := by rw [← e_a]; have := brS_len a.atm a.tx; exact sz_bs (by omega)
  obtain ⟨da, g_a⟩ : ∃ d, sdD a = d := ⟨_, rfl⟩
  have xa : da ≤ 600 := by rw [← g_a]; unfold sdD; split <;> omega
  rw [e_a, g_a] at ka
  have hF : Hid (∀ s' k', s'.data.toList = [100, 111, 32] ++ nm.data.toList ++ [32] ++ sa.data.toList → k' = (da : Int) + 1 → Ending.returned (.tuple #[.string s', .int .i64 k']) = .returned (.tuple #[.string (bs (PT.ac nm a).tx), .int .i64 (((PT.ac nm a).ins : Int) + 1)])) := Lib.hid (by
    intro s' k' h1 h2
    have h3 : s' = bs (PT.ac nm a).tx := by
      apply ba_x
      rw [h1]
      simp [← e_a, PT.tx, bs]
    have h4 : k' = ((PT.ac nm a).ins : Int) + 1 := by
      subst h2
      simp only [← g_a, PT.ins, sdD]
      try omega
    rw [h3, h4])
  clear hln qa la e_a g_a
  go_enter Tryz.func29, Tryz.ntmps29
  go_wp2_with fail
  refine (ka.out _ (by (repeat' (first | with_reducible exact Below.refl _ _ | with_reducible assumption | with_reducible apply Below.setCell | with_reducible apply Below.alloc | with_reducible apply Below.drew | with_reducible apply below_drewN | with_reducible exact Nat.le_refl _ | (simp; done) | (simp; omega) | omega | exact Nat.le_refl _)))).mono ?_
  rintro e w1 ⟨rfl, hb⟩
  have hB := Lib.hid (belT (show Below w.heap.size w _ from by (repeat' (first | with_reducible exact Below.refl _ _ | with_reducible assumption | with_reducible apply Below.setCell | with_reducible apply Below.alloc | with_reducible apply Below.drew | with_reducible apply below_drewN | with_reducible exact Nat.le_refl _ | (simp; done) | (simp; omega) | omega | exact Nat.le_refl _))) hb)
  have hX := Lib.hid ((bxn_lit w (⟨9, (j : Nat), 0, 0, 0, nm, ⟨#[]⟩, ⟨#[]⟩, ⟨#[]⟩, p⟩ : Nd)).below hb)
  have hz := hX.out.lt
  obtain ⟨q0, q1, q2, q3, q4, q5, q6, q7, q8, q9⟩ := hX.out.cells
  dsimp only at q0 q1 q2 q3 q4 q5 q6 q7 q8 q9
  clear hb
  go_wp2_with fail
  go_ret2
  exact ⟨hF.out _ _ (by simp) (by first | rfl | omega), hB.out⟩
set_option maxRecDepth 100000 in
set_option maxHeartbeats 4000000 in
theorem rt2_app {bk off cp : Nat} {ts : List Nd} (hl : ts.length ≤ 512) {a b : PT} (hT : (PT.app a b).ok) (ka : RSd bk off cp ts a) (kb : RSd bk off cp ts b) (j k : Nat) (p : Int) (w : World) (ha : a.At ts j) (hb : b.At ts k) (hi : k < ts.length) (hsz : (PT.app a b).sz ≤ 512) (h : Hid (NdSl w bk off ts)) (hbk : bk < w.heap.size) (hltj : j < ts.length) :
    Calls Tryz.prog 49 #[.slice (some ⟨bk, off, none⟩) ts.length cp, .agg #[.int .i64 4, .int .i64 (j : Nat), .int .i64 (k : Nat), .int .i64 0, .int .i64 0, .string ⟨#[]⟩, .string ⟨#[]⟩, .string ⟨#[]⟩, .string ⟨#[]⟩, .int .i64 p]] w fun e w' => e = .returned (.tuple #[.string (bs (PT.app a b).tx), .int .i64 (((PT.app a b).ins : Int) + 1)]) ∧ Below w.heap.size w w' := by
  have hln := (PT.app a b).tx_len hT
  have qa := PT.ins_le a
  have qb := PT.ins_le b
  simp only [PT.sz] at hsz hln
  have la := a.tx_len hT.1
  have ka := Lib.hid fun (W : World) (hW : Below w.heap.size w W) => ka j W ha (by omega) (Lib.hid (h.out.below hW hbk)) (by have := hW.size; omega)
  obtain ⟨sa, e_a⟩ : ∃ s, bs (brS a.atm a.tx) = s := ⟨_, rfl⟩
  have ya : sa.size ≤ 100000 := by rw [← e_a]; have := brS_len a.atm a.tx; exact sz_bs (by omega)
  obtain ⟨da, g_a⟩ : ∃ d, sdD a = d := ⟨_, rfl⟩
  have xa : da ≤ 600 := by rw [← g_a]; unfold sdD; split <;> omega
  rw [e_a, g_a] at ka
  have lb := b.tx_len hT.2
  have kb := Lib.hid fun (W : World) (hW : Below w.heap.size w W) => kb k W hb (by omega) (Lib.hid (h.out.below hW hbk)) (by have := hW.size; omega)
  obtain ⟨sb, e_b⟩ : ∃ s, bs (brS b.atm b.tx) = s := ⟨_, rfl⟩
  have yb : sb.size ≤ 100000 := by rw [← e_b]; have := brS_len b.atm b.tx; exact sz_bs (by omega)
  obtain ⟨db, g_b⟩ : ∃ d, sdD b = d := ⟨_, rfl⟩
  have xb : db ≤ 600 := by rw [← g_b]; unfold sdD; split <;> omega
  rw [e_b, g_b] at kb
  have hF : Hid (∀ s' k', s'.data.toList = sa.data.toList ++ [32] ++ sb.data.toList → k' = max (da : Int) (db : Int) + 1 → Ending.returned (.tuple #[.string s', .int .i64 k']) = .returned (.tuple #[.string (bs (PT.app a b).tx), .int .i64 (((PT.app a b).ins : Int) + 1)])) := Lib.hid (by
    intro s' k' h1 h2
    have h3 : s' = bs (PT.app a b).tx := by
      apply ba_x
      rw [h1]
      simp [← e_a, ← e_b, PT.tx, bs]
    have h4 : k' = ((PT.app a b).ins : Int) + 1 := by
      subst h2
      simp only [← g_a, ← g_b, PT.ins, sdD]
      try omega
    rw [h3, h4])
  clear hln qa qb la lb e_a e_b g_a g_b
  have hm2 := mx2_run
  go_enter Tryz.func49, Tryz.ntmps49
  go_wp2_with fail
  refine (ka.out _ (by (repeat' (first | with_reducible exact Below.refl _ _ | with_reducible assumption | with_reducible apply Below.setCell | with_reducible apply Below.alloc | with_reducible apply Below.drew | with_reducible apply below_drewN | with_reducible exact Nat.le_refl _ | (simp; done) | (simp; omega) | omega | exact Nat.le_refl _)))).mono ?_
  rintro e w1 ⟨rfl, hb⟩
  have hB := Lib.hid (belT (show Below w.heap.size w _ from by (repeat' (first | with_reducible exact Below.refl _ _ | with_reducible assumption | with_reducible apply Below.setCell | with_reducible apply Below.alloc | with_reducible apply Below.drew | with_reducible apply below_drewN | with_reducible exact Nat.le_refl _ | (simp; done) | (simp; omega) | omega | exact Nat.le_refl _))) hb)
  have hX := Lib.hid ((bxn_lit w (⟨4, (j : Nat), (k : Nat), 0, 0, ⟨#[]⟩, ⟨#[]⟩, ⟨#[]⟩, ⟨#[]⟩, p⟩ : Nd)).below hb)
  have hz := hX.out.lt
  obtain ⟨q0, q1, q2, q3, q4, q5, q6, q7, q8, q9⟩ := hX.out.cells
  dsimp only at q0 q1 q2 q3 q4 q5 q6 q7 q8 q9
  clear hb
  go_wp2_with fail
  clear q0 q1 q2 q3 q4 q5 q6 q7 q8 q9
  refine (kb.out _ hB.out).mono ?_
  rintro e w2 ⟨rfl, hb⟩
  have hB := Lib.hid (belT hB.out hb)
  have hX := Lib.hid (hX.out.below hb)
  have hz := hX.out.lt
  obtain ⟨q0, q1, q2, q3, q4, q5, q6, q7, q8, q9⟩ := hX.out.cells
  dsimp only at q0 q1 q2 q3 q4 q5 q6 q7 q8 q9
  clear hb
  go_wp2_with fail
  go_ret2
  exact ⟨hF.out _ _ (by simp) (by first | rfl | omega), hB.out⟩
set_option maxRecDepth 100000 in
set_option maxHeartbeats 4000000 in
theorem rt_app {bk off cp : Nat} {ts : List Nd} (hl : ts.length ≤ 512) {a b : PT} (hT : (PT.app a b).ok) (ka : RSd bk off cp ts a) (kb : RSd bk off cp ts b) : RTx bk off cp ts (PT.app a b) := by
  intro i w hA hi h hbk
  have hsz := hA.sz
  obtain ⟨j, k, p, rfl, hq1, hg, ha, hb⟩ := hA
  have hN := h.out (k + 1) hi
  rw [hg] at hN
  unfold NdAt at hN
  obtain ⟨e0, e1, e2, e3, e4, e5, e6, e7, e8, e9⟩ := hN
  dsimp only at e0 e1 e2 e3 e4 e5 e6 e7 e8 e9
  have hii : ((k + 1 : Nat) : Int) < (ts.length : Int) := by omega
  have hi0 : (0 : Int) ≤ ((k + 1 : Nat) : Int) := by omega
  push_cast at e0 e1 e2 e3 e4 e5 e6 e7 e8 e9 hii hi0
  have k2 := Lib.hid fun (W : World) (hW : Below w.heap.size w W) => rt2_app hl hT ka kb j k p W ha hb (by omega) (by omega) (Lib.hid (h.out.below hW hbk)) (by have := hW.size; omega) (by omega)
  generalize (PT.app a b).tx = tx at k2 ⊢
  generalize (PT.app a b).ins = ins at k2 ⊢
  clear hsz hg hq1 hT ka kb ha hb
  go_enter Tryz.func29, Tryz.ntmps29
  go_wp2_with fail
  refine (k2.out _ (by (repeat' (first | with_reducible exact Below.refl _ _ | with_reducible assumption | with_reducible apply Below.setCell | with_reducible apply Below.alloc | with_reducible apply Below.drew | with_reducible apply below_drewN | with_reducible exact Nat.le_refl _ | (simp; done) | (simp; omega) | omega | exact Nat.le_refl _)))).mono ?_
  rintro e w1 ⟨rfl, hb1⟩
  have hB := Lib.hid (belT (show Below w.heap.size w _ from by (repeat' (first | with_reducible exact Below.refl _ _ | with_reducible assumption | with_reducible apply Below.setCell | with_reducible apply Below.alloc | with_reducible apply Below.drew | with_reducible apply below_drewN | with_reducible exact Nat.le_refl _ | (simp; done) | (simp; omega) | omega | exact Nat.le_refl _))) hb1)
  clear hb1
  go_wp2_with fail
  go_ret2
  exact ⟨rfl, hB.out⟩
set_option maxRecDepth 100000 in
set_option maxHeartbeats 4000000 in
theorem rt2_pr {bk off cp : Nat} {ts : List Nd} (hl : ts.length ≤ 512) {n : Int} {a b : PT} (hT : (PT.pr n a b).ok) (ka : RSd bk off cp ts a) (kb : RSd bk off cp ts b) (j k : Nat) (p : Int) (w : World) (ha : a.At ts j) (hb : b.At ts k) (hi : k < ts.length) (hsz : (PT.pr n a b).sz ≤ 512) (h : Hid (NdSl w bk off ts)) (hbk : bk < w.heap.size) (hltj : j < ts.length) :
    Calls Tryz.prog 49 #[.slice (some ⟨bk, off, none⟩) ts.length cp, .agg #[.int .i64 8, .int .i64 (j : Nat), .int .i64 (k : Nat), .int .i64 0, .int .i64 n, .string ⟨#[]⟩, .string ⟨#[]⟩, .string ⟨#[]⟩, .string ⟨#[]⟩, .int .i64 p]] w fun e w' => e = .returned (.tuple #[.string (bs (PT.pr n a b).tx), .int .i64 (((PT.pr n a b).ins : Int) + 1)]) ∧ Below w.heap.size w w' := by
  have hln := (PT.pr n a b).tx_len hT
  have qa := PT.ins_le a
  have qb := PT.ins_le b
  simp only [PT.sz] at hsz hln
  have la := a.tx_len hT.2.1
  have ka := Lib.hid fun (W : World) (hW : Below w.heap.size w W) => ka j W ha (by omega) (Lib.hid (h.out.below hW hbk)) (by have := hW.size; omega)
  obtain ⟨sa, e_a⟩ : ∃ s, bs (brS a.atm a.tx) = s := ⟨_, rfl⟩
  have ya : sa.size ≤ 100000 := by rw [← e_a]; have := brS_len a.atm a.tx; exact sz_bs (by omega)
  obtain ⟨da, g_a⟩ : ∃ d, sdD a = d := ⟨_, rfl⟩
  have xa : da ≤ 600 := by rw [← g_a]; unfold sdD; split <;> omega
  rw [e_a, g_a] at ka
  have lb := b.tx_len hT.2.2
  have kb := Lib.hid fun (W : World) (hW : Below w.heap.size w W) => kb k W hb (by omega) (Lib.hid (h.out.below hW hbk)) (by have := hW.size; omega)
  obtain ⟨sb, e_b⟩ : ∃ s, bs (brS b.atm b.tx) = s := ⟨_, rfl⟩
  have yb : sb.size ≤ 100000 := by rw [← e_b]; have := brS_len b.atm b.tx; exact sz_bs (by omega)
  obtain ⟨db, g_b⟩ : ∃ d, sdD b = d := ⟨_, rfl⟩
  have xb : db ≤ 600 := by rw [← g_b]; unfold sdD; split <;> omega
  rw [e_b, g_b] at kb
  have hF : Hid (∀ s' k', s'.data.toList = sa.data.toList ++ sgT n ++ sb.data.toList → k' = max (da : Int) (db : Int) + 1 → Ending.returned (.tuple #[.string s', .int .i64 k']) = .returned (.tuple #[.string (bs (PT.pr n a b).tx), .int .i64 (((PT.pr n a b).ins : Int) + 1)])) := Lib.hid (by
    intro s' k' h1 h2
    have h3 : s' = bs (PT.pr n a b).tx := by
      apply ba_x
      rw [h1]
      simp [← e_a, ← e_b, PT.tx, bs]
    have h4 : k' = ((PT.pr n a b).ins : Int) + 1 := by
      subst h2
      simp only [← g_a, ← g_b, PT.ins, sdD]
      try omega
    rw [h3, h4])
  clear hln qa qb la lb e_a e_b g_a g_b
  have hm2 := mx2_run
  obtain ⟨n0, n5⟩ := hT.1
  have hn : n = 0 ∨ n = 1 ∨ n = 2 ∨ n = 3 ∨ n = 4 ∨ n = 5 := by omega
  clear hT hsz n0 n5
  have sg0 : (((⟨#[43, 45, 42, 47, 61, 60]⟩ : ByteArray).extract 0 1).toList == [61]) = false := by decide +kernel
  have sg1 : (((⟨#[43, 45, 42, 47, 61, 60]⟩ : ByteArray).extract 1 2).toList == [61]) = false := by decide +kernel
  have sg2 : (((⟨#[43, 45, 42, 47, 61, 60]⟩ : ByteArray).extract 2 3).toList == [61]) = false := by decide +kernel
  have sg3 : (((⟨#[43, 45, 42, 47, 61, 60]⟩ : ByteArray).extract 3 4).toList == [61]) = false := by decide +kernel
  have sg4 : (((⟨#[43, 45, 42, 47, 61, 60]⟩ : ByteArray).extract 4 5).toList == [61]) = true := by decide +kernel
  have sg5 : (((⟨#[43, 45, 42, 47, 61, 60]⟩ : ByteArray).extract 5 6).toList == [61]) = false := by decide +kernel
  rcases hn with rfl | rfl | rfl | rfl | rfl | rfl
  all_goals
    go_enter Tryz.func49, Tryz.ntmps49
    go_wp2_with fail
    refine (ka.out _ (by (repeat' (first | with_reducible exact Below.refl _ _ | with_reducible assumption | with_reducible apply Below.setCell | with_reducible apply Below.alloc | with_reducible apply Below.drew | with_reducible apply below_drewN | with_reducible exact Nat.le_refl _ | (simp; done) | (simp; omega) | omega | exact Nat.le_refl _)))).mono ?_
    rintro e w1 ⟨rfl, hb⟩
    have hB := Lib.hid (belT (show Below w.heap.size w _ from by (repeat' (first | with_reducible exact Below.refl _ _ | with_reducible assumption | with_reducible apply Below.setCell | with_reducible apply Below.alloc | with_reducible apply Below.drew | with_reducible apply below_drewN | with_reducible exact Nat.le_refl _ | (simp; done) | (simp; omega) | omega | exact Nat.le_refl _))) hb)
    have hX := Lib.hid ((bxn_lit w (⟨8, (j : Nat), (k : Nat), 0, _, ⟨#[]⟩, ⟨#[]⟩, ⟨#[]⟩, ⟨#[]⟩, p⟩ : Nd)).below hb)
    have hz := hX.out.lt
    obtain ⟨q0, q1, q2, q3, q4, q5, q6, q7, q8, q9⟩ := hX.out.cells
    dsimp only at q0 q1 q2 q3 q4 q5 q6 q7 q8 q9
    clear hb
    go_wp2_with fail
    clear q0 q1 q2 q3 q4 q5 q6 q7 q8 q9
    refine (kb.out _ hB.out).mono ?_
    rintro e w2 ⟨rfl, hb⟩
    have hB := Lib.hid (belT hB.out hb)
    have hX := Lib.hid (hX.out.below hb)
    have hz := hX.out.lt
    obtain ⟨q0, q1, q2, q3, q4, q5, q6, q7, q8, q9⟩ := hX.out.cells
    dsimp only at q0 q1 q2 q3 q4 q5 q6 q7 q8 q9
    clear hb
    go_wp2_with fail
    go_ret2
    exact ⟨hF.out _ _ (by simp [sgT]) (by first | rfl | omega), hB.out⟩
set_option maxRecDepth 100000 in
set_option maxHeartbeats 4000000 in
theorem rt_pr {bk off cp : Nat} {ts : List Nd} (hl : ts.length ≤ 512) {n : Int} {a b : PT} (hT : (PT.pr n a b).ok) (ka : RSd bk off cp ts a) (kb : RSd bk off cp ts b) : RTx bk off cp ts (PT.pr n a b) := by
  intro i w hA hi h hbk
  have hsz := hA.sz
  obtain ⟨j, k, p, rfl, hq1, hg, ha, hb⟩ := hA
  have hN := h.out (k + 1) hi
  rw [hg] at hN
  unfold NdAt at hN
  obtain ⟨e0, e1, e2, e3, e4, e5, e6, e7, e8, e9⟩ := hN
  dsimp only at e0 e1 e2 e3 e4 e5 e6 e7 e8 e9
  have hii : ((k + 1 : Nat) : Int) < (ts.length : Int) := by omega
  have hi0 : (0 : Int) ≤ ((k + 1 : Nat) : Int) := by omega
  push_cast at e0 e1 e2 e3 e4 e5 e6 e7 e8 e9 hii hi0
  have k2 := Lib.hid fun (W : World) (hW : Below w.heap.size w W) => rt2_pr hl hT ka kb j k p W ha hb (by omega) (by omega) (Lib.hid (h.out.below hW hbk)) (by have := hW.size; omega) (by omega)
  generalize (PT.pr n a b).tx = tx at k2 ⊢
  generalize (PT.pr n a b).ins = ins at k2 ⊢
  clear hsz hg hq1 hT ka kb ha hb
  go_enter Tryz.func29, Tryz.ntmps29
  go_wp2_with fail
  refine (k2.out _ (by (repeat' (first | with_reducible exact Below.refl _ _ | with_reducible assumption | with_reducible apply Below.setCell | with_reducible apply Below.alloc | with_reducible apply Below.drew | with_reducible apply below_drewN | with_reducible exact Nat.le_refl _ | (simp; done) | (simp; omega) | omega | exact Nat.le_refl _)))).mono ?_
  rintro e w1 ⟨rfl, hb1⟩
  have hB := Lib.hid (belT (show Below w.heap.size w _ from by (repeat' (first | with_reducible exact Below.refl _ _ | with_reducible assumption | with_reducible apply Below.setCell | with_reducible apply Below.alloc | with_reducible apply Below.drew | with_reducible apply below_drewN | with_reducible exact Nat.le_refl _ | (simp; done) | (simp; omega) | omega | exact Nat.le_refl _))) hb1)
  clear hb1
  go_wp2_with fail
  go_ret2
  exact ⟨rfl, hB.out⟩
set_option maxRecDepth 100000 in
set_option maxHeartbeats 4000000 in
theorem rt2_lt {bk off cp : Nat} {ts : List Nd} (hl : ts.length ≤ 512) {x : ByteArray} {a b : PT} (hT : (PT.lt x a b).ok) (ka : RTx bk off cp ts a) (kb : RTx bk off cp ts b) (j k : Nat) (p : Int) (w : World) (ha : a.At ts j) (hb : b.At ts k) (hi : k < ts.length) (hsz : (PT.lt x a b).sz ≤ 512) (h : Hid (NdSl w bk off ts)) (hbk : bk < w.heap.size) (hltj : j < ts.length) :
    Calls Tryz.prog 49 #[.slice (some ⟨bk, off, none⟩) ts.length cp, .agg #[.int .i64 5, .int .i64 (j : Nat), .int .i64 (k : Nat), .int .i64 0, .int .i64 0, .string ⟨#[]⟩, .string x, .string ⟨#[]⟩, .string ⟨#[]⟩, .int .i64 p]] w fun e w' => e = .returned (.tuple #[.string (bs (PT.lt x a b).tx), .int .i64 (((PT.lt x a b).ins : Int) + 1)]) ∧ Below w.heap.size w w' := by
  have hln := (PT.lt x a b).tx_len hT
  have qa := PT.ins_le a
  have qb := PT.ins_le b
  simp only [PT.sz] at hsz hln
  have z_x := sz_nm hT.1
  have la := a.tx_len hT.2.1
  have ka := Lib.hid fun (W : World) (hW : Below w.heap.size w W) => ka j W ha (by omega) (Lib.hid (h.out.below hW hbk)) (by have := hW.size; omega)
  obtain ⟨sa, e_a⟩ : ∃ s, bs a.tx = s := ⟨_, rfl⟩
  have ya : sa.size ≤ 100000 := by rw [← e_a]; exact sz_bs (by omega)
  obtain ⟨da, g_a⟩ : ∃ d, a.ins = d := ⟨_, rfl⟩
  have xa : da ≤ 600 := by omega
  rw [e_a, g_a] at ka
  have lb := b.tx_len hT.2.2
  have kb := Lib.hid fun (W : World) (hW : Below w.heap.size w W) => kb k W hb (by omega) (Lib.hid (h.out.below hW hbk)) (by have := hW.size; omega)
  obtain ⟨sb, e_b⟩ : ∃ s, bs b.tx = s := ⟨_, rfl⟩
  have yb : sb.size ≤ 100000 := by rw [← e_b]; exact sz_bs (by omega)
  obtain ⟨db, g_b⟩ : ∃ d, b.ins = d := ⟨_, rfl⟩
  have xb : db ≤ 600 := by omega
  rw [e_b, g_b] at kb
  have hF : Hid (∀ s' k', s'.data.toList = [108, 101, 116, 32] ++ x.data.toList ++ [32, 61, 32] ++ sa.data.toList ++ [32, 105, 110, 32] ++ sb.data.toList → k' = max ((da : Int) + 1) ((db : Int) + 1) + 1 → Ending.returned (.tuple #[.string s', .int .i64 k']) = .returned (.tuple #[.string (bs (PT.lt x a b).tx), .int .i64 (((PT.lt x a b).ins : Int) + 1)])) := Lib.hid (by
    intro s' k' h1 h2
    have h3 : s' = bs (PT.lt x a b).tx := by
      apply ba_x
      rw [h1]
      simp [← e_a, ← e_b, PT.tx, bs]
    have h4 : k' = ((PT.lt x a b).ins : Int) + 1 := by
      subst h2
      simp only [← g_a, ← g_b, PT.ins]
      try omega
    rw [h3, h4])
  clear hln qa qb la lb e_a e_b g_a g_b
  have hm2 := mx2_run
  go_enter Tryz.func49, Tryz.ntmps49
  go_wp2_with fail
  refine (ka.out _ (by (repeat' (first | with_reducible exact Below.refl _ _ | with_reducible assumption | with_reducible apply Below.setCell | with_reducible apply Below.alloc | with_reducible apply Below.drew | with_reducible apply below_drewN | with_reducible exact Nat.le_refl _ | (simp; done) | (simp; omega) | omega | exact Nat.le_refl _)))).mono ?_
  rintro e w1 ⟨rfl, hb⟩
  have hB := Lib.hid (belT (show Below w.heap.size w _ from by (repeat' (first | with_reducible exact Below.refl _ _ | with_reducible assumption | with_reducible apply Below.setCell | with_reducible apply Below.alloc | with_reducible apply Below.drew | with_reducible apply below_drewN | with_reducible exact Nat.le_refl _ | (simp; done) | (simp; omega) | omega | exact Nat.le_refl _))) hb)
  have hX := Lib.hid ((bxn_lit w (⟨5, (j : Nat), (k : Nat), 0, 0, ⟨#[]⟩, x, ⟨#[]⟩, ⟨#[]⟩, p⟩ : Nd)).below hb)
  have hz := hX.out.lt
  obtain ⟨q0, q1, q2, q3, q4, q5, q6, q7, q8, q9⟩ := hX.out.cells
  dsimp only at q0 q1 q2 q3 q4 q5 q6 q7 q8 q9
  clear hb
  go_wp2_with fail
  clear q0 q1 q2 q3 q4 q5 q6 q7 q8 q9
  refine (kb.out _ hB.out).mono ?_
  rintro e w2 ⟨rfl, hb⟩
  have hB := Lib.hid (belT hB.out hb)
  have hX := Lib.hid (hX.out.below hb)
  have hz := hX.out.lt
  obtain ⟨q0, q1, q2, q3, q4, q5, q6, q7, q8, q9⟩ := hX.out.cells
  dsimp only at q0 q1 q2 q3 q4 q5 q6 q7 q8 q9
  clear hb
  go_wp2_with fail
  go_ret2
  exact ⟨hF.out _ _ (by simp) (by first | rfl | omega), hB.out⟩
set_option maxRecDepth 100000 in
set_option maxHeartbeats 4000000 in
theorem rt_lt {bk off cp : Nat} {ts : List Nd} (hl : ts.length ≤ 512) {x : ByteArray} {a b : PT} (hT : (PT.lt x a b).ok) (ka : RTx bk off cp ts a) (kb : RTx bk off cp ts b) : RTx bk off cp ts (PT.lt x a b) := by
  intro i w hA hi h hbk
  have hsz := hA.sz
  obtain ⟨j, k, p, rfl, hq1, hg, ha, hb⟩ := hA
  have hN := h.out (k + 1) hi
  rw [hg] at hN
  unfold NdAt at hN
  obtain ⟨e0, e1, e2, e3, e4, e5, e6, e7, e8, e9⟩ := hN
  dsimp only at e0 e1 e2 e3 e4 e5 e6 e7 e8 e9
  have hii : ((k + 1 : Nat) : Int) < (ts.length : Int) := by omega
  have hi0 : (0 : Int) ≤ ((k + 1 : Nat) : Int) := by omega
  push_cast at e0 e1 e2 e3 e4 e5 e6 e7 e8 e9 hii hi0
  have k2 := Lib.hid fun (W : World) (hW : Below w.heap.size w W) => rt2_lt hl hT ka kb j k p W ha hb (by omega) (by omega) (Lib.hid (h.out.below hW hbk)) (by have := hW.size; omega) (by omega)
  generalize (PT.lt x a b).tx = tx at k2 ⊢
  generalize (PT.lt x a b).ins = ins at k2 ⊢
  clear hsz hg hq1 hT ka kb ha hb
  go_enter Tryz.func29, Tryz.ntmps29
  go_wp2_with fail
  refine (k2.out _ (by (repeat' (first | with_reducible exact Below.refl _ _ | with_reducible assumption | with_reducible apply Below.setCell | with_reducible apply Below.alloc | with_reducible apply Below.drew | with_reducible apply below_drewN | with_reducible exact Nat.le_refl _ | (simp; done) | (simp; omega) | omega | exact Nat.le_refl _)))).mono ?_
  rintro e w1 ⟨rfl, hb1⟩
  have hB := Lib.hid (belT (show Below w.heap.size w _ from by (repeat' (first | with_reducible exact Below.refl _ _ | with_reducible assumption | with_reducible apply Below.setCell | with_reducible apply Below.alloc | with_reducible apply Below.drew | with_reducible apply below_drewN | with_reducible exact Nat.le_refl _ | (simp; done) | (simp; omega) | omega | exact Nat.le_refl _))) hb1)
  clear hb1
  go_wp2_with fail
  go_ret2
  exact ⟨rfl, hB.out⟩
set_option maxRecDepth 100000 in
set_option maxHeartbeats 4000000 in
theorem rt2_rc {bk off cp : Nat} {ts : List Nd} (hl : ts.length ≤ 512) {x y : ByteArray} {a b : PT} (hT : (PT.rc x y a b).ok) (ka : RTx bk off cp ts a) (kb : RTx bk off cp ts b) (j k : Nat) (p : Int) (w : World) (ha : a.At ts j) (hb : b.At ts k) (hi : k < ts.length) (hsz : (PT.rc x y a b).sz ≤ 512) (h : Hid (NdSl w bk off ts)) (hbk : bk < w.heap.size) (hltj : j < ts.length) :
    Calls Tryz.prog 49 #[.slice (some ⟨bk, off, none⟩) ts.length cp, .agg #[.int .i64 6, .int .i64 (j : Nat), .int .i64 (k : Nat), .int .i64 0, .int .i64 0, .string ⟨#[]⟩, .string x, .string y, .string ⟨#[]⟩, .int .i64 p]] w fun e w' => e = .returned (.tuple #[.string (bs (PT.rc x y a b).tx), .int .i64 (((PT.rc x y a b).ins : Int) + 1)]) ∧ Below w.heap.size w w' := by
  have hln := (PT.rc x y a b).tx_len hT
  have qa := PT.ins_le a
  have qb := PT.ins_le b
  simp only [PT.sz] at hsz hln
  have z_x := sz_nm hT.1.1
  have z_y := sz_nm hT.1.2
  have la := a.tx_len hT.2.1
  have ka := Lib.hid fun (W : World) (hW : Below w.heap.size w W) => ka j W ha (by omega) (Lib.hid (h.out.below hW hbk)) (by have := hW.size; omega)
  obtain ⟨sa, e_a⟩ : ∃ s, bs a.tx = s := ⟨_, rfl⟩
  have ya : sa.size ≤ 100000 := by rw [← e_a]; exact sz_bs (by omega)
  obtain ⟨da, g_a⟩ : ∃ d, a.ins = d := ⟨_, rfl⟩
  have xa : da ≤ 600 := by omega
  rw [e_a, g_a] at ka
  have lb := b.tx_len hT.2.2
  have kb := Lib.hid fun (W : World) (hW : Below w.heap.size w W) => kb k W hb (by omega) (Lib.hid (h.out.below hW hbk)) (by have := hW.size; omega)
  obtain ⟨sb, e_b⟩ : ∃ s, bs b.tx = s := ⟨_, rfl⟩
  have yb : sb.size ≤ 100000 := by rw [← e_b]; exact sz_bs (by omega)
  obtain ⟨db, g_b⟩ : ∃ d, b.ins = d := ⟨_, rfl⟩
  have xb : db ≤ 600 := by omega
  rw [e_b, g_b] at kb
  have hF : Hid (∀ s' k', s'.data.toList = [108, 101, 116, 32, 114, 101, 99, 32] ++ x.data.toList ++ [32] ++ y.data.toList ++ [32, 61, 32] ++ sa.data.toList ++ [32, 105, 110, 32] ++ sb.data.toList → k' = max ((da : Int) + 1) ((db : Int) + 1) + 1 → Ending.returned (.tuple #[.string s', .int .i64 k']) = .returned (.tuple #[.string (bs (PT.rc x y a b).tx), .int .i64 (((PT.rc x y a b).ins : Int) + 1)])) := Lib.hid (by
    intro s' k' h1 h2
    have h3 : s' = bs (PT.rc x y a b).tx := by
      apply ba_x
      rw [h1]
      simp [← e_a, ← e_b, PT.tx, bs]
    have h4 : k' = ((PT.rc x y a b).ins : Int) + 1 := by
      subst h2
      simp only [← g_a, ← g_b, PT.ins]
      try omega
    rw [h3, h4])
  clear hln qa qb la lb e_a e_b g_a g_b
  have hm2 := mx2_run
  go_enter Tryz.func49, Tryz.ntmps49
  go_wp2_with fail
  refine (ka.out _ (by (repeat' (first | with_reducible exact Below.refl _ _ | with_reducible assumption | with_reducible apply Below.setCell | with_reducible apply Below.alloc | with_reducible apply Below.drew | with_reducible apply below_drewN | with_reducible exact Nat.le_refl _ | (simp; done) | (simp; omega) | omega | exact Nat.le_refl _)))).mono ?_
  rintro e w1 ⟨rfl, hb⟩
  have hB := Lib.hid (belT (show Below w.heap.size w _ from by (repeat' (first | with_reducible exact Below.refl _ _ | with_reducible assumption | with_reducible apply Below.setCell | with_reducible apply Below.alloc | with_reducible apply Below.drew | with_reducible apply below_drewN | with_reducible exact Nat.le_refl _ | (simp; done) | (simp; omega) | omega | exact Nat.le_refl _))) hb)
  have hX := Lib.hid ((bxn_lit w (⟨6, (j : Nat), (k : Nat), 0, 0, ⟨#[]⟩, x, y, ⟨#[]⟩, p⟩ : Nd)).below hb)
  have hz := hX.out.lt
  obtain ⟨q0, q1, q2, q3, q4, q5, q6, q7, q8, q9⟩ := hX.out.cells
  dsimp only at q0 q1 q2 q3 q4 q5 q6 q7 q8 q9
  clear hb
  go_wp2_with fail
  clear q0 q1 q2 q3 q4 q5 q6 q7 q8 q9
  refine (kb.out _ hB.out).mono ?_
  rintro e w2 ⟨rfl, hb⟩
  have hB := Lib.hid (belT hB.out hb)
  have hX := Lib.hid (hX.out.below hb)
  have hz := hX.out.lt
  obtain ⟨q0, q1, q2, q3, q4, q5, q6, q7, q8, q9⟩ := hX.out.cells
  dsimp only at q0 q1 q2 q3 q4 q5 q6 q7 q8 q9
  clear hb
  go_wp2_with fail
  go_ret2
  exact ⟨hF.out _ _ (by simp) (by first | rfl | omega), hB.out⟩
set_option maxRecDepth 100000 in
set_option maxHeartbeats 4000000 in
theorem rt_rc {bk off cp : Nat} {ts : List Nd} (hl : ts.length ≤ 512) {x y : ByteArray} {a b : PT} (hT : (PT.rc x y a b).ok) (ka : RTx bk off cp ts a) (kb : RTx bk off cp ts b) : RTx bk off cp ts (PT.rc x y a b) := by
  intro i w hA hi h hbk
  have hsz := hA.sz
  obtain ⟨j, k, p, rfl, hq1, hg, ha, hb⟩ := hA
  have hN := h.out (k + 1) hi
  rw [hg] at hN
  unfold NdAt at hN
  obtain ⟨e0, e1, e2, e3, e4, e5, e6, e7, e8, e9⟩ := hN
  dsimp only at e0 e1 e2 e3 e4 e5 e6 e7 e8 e9
  have hii : ((k + 1 : Nat) : Int) < (ts.length : Int) := by omega
  have hi0 : (0 : Int) ≤ ((k + 1 : Nat) : Int) := by omega
  push_cast at e0 e1 e2 e3 e4 e5 e6 e7 e8 e9 hii hi0
  have k2 := Lib.hid fun (W : World) (hW : Below w.heap.size w W) => rt2_rc hl hT ka kb j k p W ha hb (by omega) (by omega) (Lib.hid (h.out.below hW hbk)) (by have := hW.size; omega) (by omega)
  generalize (PT.rc x y a b).tx = tx at k2 ⊢
  generalize (PT.rc x y a b).ins = ins at k2 ⊢
  clear hsz hg hq1 hT ka kb ha hb
  go_enter Tryz.func29, Tryz.ntmps29
  go_wp2_with fail
  refine (k2.out _ (by (repeat' (first | with_reducible exact Below.refl _ _ | with_reducible assumption | with_reducible apply Below.setCell | with_reducible apply Below.alloc | with_reducible apply Below.drew | with_reducible apply below_drewN | with_reducible exact Nat.le_refl _ | (simp; done) | (simp; omega) | omega | exact Nat.le_refl _)))).mono ?_
  rintro e w1 ⟨rfl, hb1⟩
  have hB := Lib.hid (belT (show Below w.heap.size w _ from by (repeat' (first | with_reducible exact Below.refl _ _ | with_reducible assumption | with_reducible apply Below.setCell | with_reducible apply Below.alloc | with_reducible apply Below.drew | with_reducible apply below_drewN | with_reducible exact Nat.le_refl _ | (simp; done) | (simp; omega) | omega | exact Nat.le_refl _))) hb1)
  clear hb1
  go_wp2_with fail
  go_ret2
  exact ⟨rfl, hB.out⟩
set_option maxRecDepth 100000 in
set_option maxHeartbeats 4000000 in
theorem rt2_cd {bk off cp : Nat} {ts : List Nd} (hl : ts.length ≤ 512) {a b c : PT} (hT : (PT.cd a b c).ok) (ka : RTx bk off cp ts a) (kb : RTx bk off cp ts b) (kc : RTx bk off cp ts c) (j k m : Nat) (p : Int) (w : World) (ha : a.At ts j) (hb : b.At ts k) (hc : c.At ts m) (hi : m < ts.length) (hsz : (PT.cd a b c).sz ≤ 512) (h : Hid (NdSl w bk off ts)) (hbk : bk < w.heap.size) (hltj : j < ts.length) (hltk : k < ts.length) :
    Calls Tryz.prog 49 #[.slice (some ⟨bk, off, none⟩) ts.length cp, .agg #[.int .i64 7, .int .i64 (j : Nat), .int .i64 (k : Nat), .int .i64 (m : Nat), .int .i64 0, .string ⟨#[]⟩, .string ⟨#[]⟩, .string ⟨#[]⟩, .string ⟨#[]⟩, .int .i64 p]] w fun e w' => e = .returned (.tuple #[.string (bs (PT.cd a b c).tx), .int .i64 (((PT.cd a b c).ins : Int) + 1)]) ∧ Below w.heap.size w w' := by
  have hln := (PT.cd a b c).tx_len hT
  have qa := PT.ins_le a
  have qb := PT.ins_le b
  have qc := PT.ins_le c
  simp only [PT.sz] at hsz hln
  have la := a.tx_len hT.1
  have ka := Lib.hid fun (W : World) (hW : Below w.heap.size w W) => ka j W ha (by omega) (Lib.hid (h.out.below hW hbk)) (by have := hW.size; omega)
  obtain ⟨sa, e_a⟩ : ∃ s, bs a.tx = s := ⟨_, rfl⟩
  have ya : sa.size ≤ 100000 := by rw [← e_a]; exact sz_bs (by omega)
  obtain ⟨da, g_a⟩ : ∃ d, a.ins = d := ⟨_, rfl⟩
  have xa : da ≤ 600 := by omega
  rw [e_a, g_a] at ka
  have lb := b.tx_len hT.2.1
  have kb := Lib.hid fun (W : World) (hW : Below w.heap.size w W) => kb k W hb (by omega) (Lib.hid (h.out.below hW hbk)) (by have := hW.size; omega)
  obtain ⟨sb, e_b⟩ : ∃ s, bs b.tx = s := ⟨_, rfl⟩
  have yb : sb.size ≤ 100000 := by rw [← e_b]; exact sz_bs (by omega)
  obtain ⟨db, g_b⟩ : ∃ d, b.ins = d := ⟨_, rfl⟩
  have xb : db ≤ 600 := by omega
  rw [e_b, g_b] at kb
  have lc := c.tx_len hT.2.2
  have kc := Lib.hid fun (W : World) (hW : Below w.heap.size w W) => kc m W hc (by omega) (Lib.hid (h.out.below hW hbk)) (by have := hW.size; omega)
  obtain ⟨sc, e_c⟩ : ∃ s, bs c.tx = s := ⟨_, rfl⟩
  have yc : sc.size ≤ 100000 := by rw [← e_c]; exact sz_bs (by omega)
  obtain ⟨dc, g_c⟩ : ∃ d, c.ins = d := ⟨_, rfl⟩
  have xc : dc ≤ 600 := by omega
  rw [e_c, g_c] at kc
  have hF : Hid (∀ s' k', s'.data.toList = [105, 102, 32] ++ sa.data.toList ++ [32, 116, 104, 101, 110, 32] ++ sb.data.toList ++ [32, 101, 108, 115, 101, 32] ++ sc.data.toList → k' = max (max ((da : Int) + 1) ((db : Int) + 1)) ((dc : Int) + 1) + 1 → Ending.returned (.tuple #[.string s', .int .i64 k']) = .returned (.tuple #[.string (bs (PT.cd a b c).tx), .int .i64 (((PT.cd a b c).ins : Int) + 1)])) := Lib.hid (by
    intro s' k' h1 h2
    have h3 : s' = bs (PT.cd a b c).tx := by
      apply ba_x
      rw [h1]
      simp [← e_a, ← e_b, ← e_c, PT.tx, bs]
    have h4 : k' = ((PT.cd a b c).ins : Int) + 1 := by
      subst h2
      simp only [← g_a, ← g_b, ← g_c, PT.ins]
      try omega
    rw [h3, h4])
  clear hln qa qb qc la lb lc e_a e_b e_c g_a g_b g_c
  have hm3 := mx3_run
  go_enter Tryz.func49, Tryz.ntmps49
  go_wp2_with fail
  refine (ka.out _ (by (repeat' (first | with_reducible exact Below.refl _ _ | with_reducible assumption | with_reducible apply Below.setCell | with_reducible apply Below.alloc | with_reducible apply Below.drew | with_reducible apply below_drewN | with_reducible exact Nat.le_refl _ | (simp; done) | (simp; omega) | omega | exact Nat.le_refl _)))).mono ?_
  rintro e w1 ⟨rfl, hb⟩
  have hB := Lib.hid (belT (show Below w.heap.size w _ from by (repeat' (first | with_reducible exact Below.refl _ _ | with_reducible assumption | with_reducible apply Below.setCell | with_reducible apply Below.alloc | with_reducible apply Below.drew | with_reducible apply below_drewN | with_reducible exact Nat.le_refl _ | (simp; done) | (simp; omega) | omega | exact Nat.le_refl _))) hb)
  have hX := Lib.hid ((bxn_lit w (⟨7, (j : Nat), (k : Nat), (m : Nat), 0, ⟨#[]⟩, ⟨#[]⟩, ⟨#[]⟩, ⟨#[]⟩, p⟩ : Nd)).below hb)
  have hz := hX.out.lt
  obtain ⟨q0, q1, q2, q3, q4, q5, q6, q7, q8, q9⟩ := hX.out.cells
  dsimp only at q0 q1 q2 q3 q4 q5 q6 q7 q8 q9
  clear hb
  go_wp2_with fail
  clear q0 q1 q2 q3 q4 q5 q6 q7 q8 q9
  refine (kb.out _ hB.out).mono ?_
  rintro e w2 ⟨rfl, hb⟩
  have hB := Lib.hid (belT hB.out hb)
  have hX := Lib.hid (hX.out.below hb)
  have hz := hX.out.lt
  obtain ⟨q0, q1, q2, q3, q4, q5, q6, q7, q8, q9⟩ := hX.out.cells
  dsimp only at q0 q1 q2 q3 q4 q5 q6 q7 q8 q9
  clear hb
  go_wp2_with fail
  clear q0 q1 q2 q3 q4 q5 q6 q7 q8 q9
  refine (kc.out _ hB.out).mono ?_
  rintro e w3 ⟨rfl, hb⟩
  have hB := Lib.hid (belT hB.out hb)
  have hX := Lib.hid (hX.out.below hb)
  have hz := hX.out.lt
  obtain ⟨q0, q1, q2, q3, q4, q5, q6, q7, q8, q9⟩ := hX.out.cells
  dsimp only at q0 q1 q2 q3 q4 q5 q6 q7 q8 q9
  clear hb
  go_wp2_with fail
  go_ret2
  exact ⟨hF.out _ _ (by simp) (by first | rfl | omega), hB.out⟩
set_option maxRecDepth 100000 in
set_option maxHeartbeats 4000000 in
theorem rt_cd {bk off cp : Nat} {ts : List Nd} (hl : ts.length ≤ 512) {a b c : PT} (hT : (PT.cd a b c).ok) (ka : RTx bk off cp ts a) (kb : RTx bk off cp ts b) (kc : RTx bk off cp ts c) : RTx bk off cp ts (PT.cd a b c) := by
  intro i w hA hi h hbk
  have hsz := hA.sz
  obtain ⟨j, k, m, p, rfl, hq1, hq2, hg, ha, hb, hc⟩ := hA
  have hN := h.out (m + 1) hi
  rw [hg] at hN
  unfold NdAt at hN
  obtain ⟨e0, e1, e2, e3, e4, e5, e6, e7, e8, e9⟩ := hN
  dsimp only at e0 e1 e2 e3 e4 e5 e6 e7 e8 e9
  have hii : ((m + 1 : Nat) : Int) < (ts.length : Int) := by omega
  have hi0 : (0 : Int) ≤ ((m + 1 : Nat) : Int) := by omega
  push_cast at e0 e1 e2 e3 e4 e5 e6 e7 e8 e9 hii hi0
  have k2 := Lib.hid fun (W : World) (hW : Below w.heap.size w W) => rt2_cd hl hT ka kb kc j k m p W ha hb hc (by omega) (by omega) (Lib.hid (h.out.below hW hbk)) (by have := hW.size; omega) (by omega) (by omega)
  generalize (PT.cd a b c).tx = tx at k2 ⊢
  generalize (PT.cd a b c).ins = ins at k2 ⊢
  clear hsz hg hq1 hq2 hT ka kb kc ha hb hc
  go_enter Tryz.func29, Tryz.ntmps29
  go_wp2_with fail
  refine (k2.out _ (by (repeat' (first | with_reducible exact Below.refl _ _ | with_reducible assumption | with_reducible apply Below.setCell | with_reducible apply Below.alloc | with_reducible apply Below.drew | with_reducible apply below_drewN | with_reducible exact Nat.le_refl _ | (simp; done) | (simp; omega) | omega | exact Nat.le_refl _)))).mono ?_
  rintro e w1 ⟨rfl, hb1⟩
  have hB := Lib.hid (belT (show Below w.heap.size w _ from by (repeat' (first | with_reducible exact Below.refl _ _ | with_reducible assumption | with_reducible apply Below.setCell | with_reducible apply Below.alloc | with_reducible apply Below.drew | with_reducible apply below_drewN | with_reducible exact Nat.le_refl _ | (simp; done) | (simp; omega) | omega | exact Nat.le_refl _))) hb1)
  clear hb1
  go_wp2_with fail
  go_ret2
  exact ⟨rfl, hB.out⟩
set_option maxRecDepth 100000 in
set_option maxHeartbeats 4000000 in
theorem rt2_hn {bk off cp : Nat} {ts : List Nd} (hl : ts.length ≤ 512) {nm x y z : ByteArray} {a b c : PT} (hT : (PT.hn nm x y z a b c).ok) (ka : RTx bk off cp ts a) (kb : RTx bk off cp ts b) (kc : RTx bk off cp ts c) (j k m : Nat) (p : Int) (w : World) (ha : a.At ts j) (hb : b.At ts k) (hc : c.At ts m) (hi : m < ts.length) (hsz : (PT.hn nm x y z a b c).sz ≤ 512) (h : Hid (NdSl w bk off ts)) (hbk : bk < w.heap.size) (hltj : j < ts.length) (hltk : k < ts.length) :
    Calls Tryz.prog 49 #[.slice (some ⟨bk, off, none⟩) ts.length cp, .agg #[.int .i64 10, .int .i64 (j : Nat), .int .i64 (k : Nat), .int .i64 (m : Nat), .int .i64 0, .string nm, .string x, .string y, .string z, .int .i64 p]] w fun e w' => e = .returned (.tuple #[.string (bs (PT.hn nm x y z a b c).tx), .int .i64 (((PT.hn nm x y z a b c).ins : Int) + 1)]) ∧ Below w.heap.size w w' := by
  have hln := (PT.hn nm x y z a b c).tx_len hT
  have qa := PT.ins_le a
  have qb := PT.ins_le b
  have qc := PT.ins_le c
  simp only [PT.sz] at hsz hln
  have z_nm := sz_nm hT.1.1
  have z_x := sz_nm hT.1.2.1
  have z_y := sz_nm hT.1.2.2.1
  have z_z := sz_nm hT.1.2.2.2
  have la := a.tx_len hT.2.1
  have ka := Lib.hid fun (W : World) (hW : Below w.heap.size w W) => ka j W ha (by omega) (Lib.hid (h.out.below hW hbk)) (by have := hW.size; omega)
  obtain ⟨sa, e_a⟩ : ∃ s, bs a.tx = s := ⟨_, rfl⟩
  have ya : sa.size ≤ 100000 := by rw [← e_a]; exact sz_bs (by omega)
  obtain ⟨da, g_a⟩ : ∃ d, a.ins = d := ⟨_, rfl⟩
  have xa : da ≤ 600 := by omega
  rw [e_a, g_a] at ka
  have lb := b.tx_len hT.2.2.1
  have kb := Lib.hid fun (W : World) (hW : Below w.heap.size w W) => kb k W hb (by omega) (Lib.hid (h.out.below hW hbk)) (by have := hW.size; omega)
  obtain ⟨sb, e_b⟩ : ∃ s, bs b.tx = s := ⟨_, rfl⟩
  have yb : sb.size ≤ 100000 := by rw [← e_b]; exact sz_bs (by omega)
  obtain ⟨db, g_b⟩ : ∃ d, b.ins = d := ⟨_, rfl⟩
  have xb : db ≤ 600 := by omega
  rw [e_b, g_b] at kb
  have lc := c.tx_len hT.2.2.2
  have kc := Lib.hid fun (W : World) (hW : Below w.heap.size w W) => kc m W hc (by omega) (Lib.hid (h.out.below hW hbk)) (by have := hW.size; omega)
  obtain ⟨sc, e_c⟩ : ∃ s, bs c.tx = s := ⟨_, rfl⟩
  have yc : sc.size ≤ 100000 := by rw [← e_c]; exact sz_bs (by omega)
  obtain ⟨dc, g_c⟩ : ∃ d, c.ins = d := ⟨_, rfl⟩
  have xc : dc ≤ 600 := by omega
  rw [e_c, g_c] at kc
  have hF : Hid (∀ s' k', s'.data.toList = [104, 97, 110, 100, 108, 101, 32] ++ sa.data.toList ++ [32, 119, 105, 116, 104, 32] ++ nm.data.toList ++ [32] ++ x.data.toList ++ [32] ++ y.data.toList ++ [32, 45, 62, 32] ++ sb.data.toList ++ [32, 114, 101, 116, 117, 114, 110, 32] ++ z.data.toList ++ [32, 45, 62, 32] ++ sc.data.toList ++ [32, 101, 110, 100] → k' = max (max ((da : Int) + 1) ((db : Int) + 1)) ((dc : Int) + 1) + 1 → Ending.returned (.tuple #[.string s', .int .i64 k']) = .returned (.tuple #[.string (bs (PT.hn nm x y z a b c).tx), .int .i64 (((PT.hn nm x y z a b c).ins : Int) + 1)])) := Lib.hid (by
    intro s' k' h1 h2
    have h3 : s' = bs (PT.hn nm x y z a b c).tx := by
      apply ba_x
      rw [h1]
      simp [← e_a, ← e_b, ← e_c, PT.tx, bs]
    have h4 : k' = ((PT.hn nm x y z a b c).ins : Int) + 1 := by
      subst h2
      simp only [← g_a, ← g_b, ← g_c, PT.ins]
      try omega
    rw [h3, h4])
  clear hln qa qb qc la lb lc e_a e_b e_c g_a g_b g_c
  have hm3 := mx3_run
  go_enter Tryz.func49, Tryz.ntmps49
  go_wp2_with fail
  refine (ka.out _ (by (repeat' (first | with_reducible exact Below.refl _ _ | with_reducible assumption | with_reducible apply Below.setCell | with_reducible apply Below.alloc | with_reducible apply Below.drew | with_reducible apply below_drewN | with_reducible exact Nat.le_refl _ | (simp; done) | (simp; omega) | omega | exact Nat.le_refl _)))).mono ?_
  rintro e w1 ⟨rfl, hb⟩
  have hB := Lib.hid (belT (show Below w.heap.size w _ from by (repeat' (first | with_reducible exact Below.refl _ _ | with_reducible assumption | with_reducible apply Below.setCell | with_reducible apply Below.alloc | with_reducible apply Below.drew | with_reducible apply below_drewN | with_reducible exact Nat.le_refl _ | (simp; done) | (simp; omega) | omega | exact Nat.le_refl _))) hb)
  have hX := Lib.hid ((bxn_lit w (⟨10, (j : Nat), (k : Nat), (m : Nat), 0, nm, x, y, z, p⟩ : Nd)).below hb)
  have hz := hX.out.lt
  obtain ⟨q0, q1, q2, q3, q4, q5, q6, q7, q8, q9⟩ := hX.out.cells
  dsimp only at q0 q1 q2 q3 q4 q5 q6 q7 q8 q9
  clear hb
  go_wp2_with fail
  clear q0 q1 q2 q3 q4 q5 q6 q7 q8 q9
  refine (kb.out _ hB.out).mono ?_
  rintro e w2 ⟨rfl, hb⟩
  have hB := Lib.hid (belT hB.out hb)
  have hX := Lib.hid (hX.out.below hb)
  have hz := hX.out.lt
  obtain ⟨q0, q1, q2, q3, q4, q5, q6, q7, q8, q9⟩ := hX.out.cells
  dsimp only at q0 q1 q2 q3 q4 q5 q6 q7 q8 q9
  clear hb
  go_wp2_with fail
  clear q0 q1 q2 q3 q4 q5 q6 q7 q8 q9
  refine (kc.out _ hB.out).mono ?_
  rintro e w3 ⟨rfl, hb⟩
  have hB := Lib.hid (belT hB.out hb)
  have hX := Lib.hid (hX.out.below hb)
  have hz := hX.out.lt
  obtain ⟨q0, q1, q2, q3, q4, q5, q6, q7, q8, q9⟩ := hX.out.cells
  dsimp only at q0 q1 q2 q3 q4 q5 q6 q7 q8 q9
  clear hb
  go_wp2_with fail
  go_ret2
  exact ⟨hF.out _ _ (by simp) (by first | rfl | omega), hB.out⟩
set_option maxRecDepth 100000 in
set_option maxHeartbeats 4000000 in
theorem rt_hn {bk off cp : Nat} {ts : List Nd} (hl : ts.length ≤ 512) {nm x y z : ByteArray} {a b c : PT} (hT : (PT.hn nm x y z a b c).ok) (ka : RTx bk off cp ts a) (kb : RTx bk off cp ts b) (kc : RTx bk off cp ts c) : RTx bk off cp ts (PT.hn nm x y z a b c) := by
  intro i w hA hi h hbk
  have hsz := hA.sz
  obtain ⟨j, k, m, p, rfl, hq1, hq2, hg, ha, hb, hc⟩ := hA
  have hN := h.out (m + 1) hi
  rw [hg] at hN
  unfold NdAt at hN
  obtain ⟨e0, e1, e2, e3, e4, e5, e6, e7, e8, e9⟩ := hN
  dsimp only at e0 e1 e2 e3 e4 e5 e6 e7 e8 e9
  have hii : ((m + 1 : Nat) : Int) < (ts.length : Int) := by omega
  have hi0 : (0 : Int) ≤ ((m + 1 : Nat) : Int) := by omega
  push_cast at e0 e1 e2 e3 e4 e5 e6 e7 e8 e9 hii hi0
  have k2 := Lib.hid fun (W : World) (hW : Below w.heap.size w W) => rt2_hn hl hT ka kb kc j k m p W ha hb hc (by omega) (by omega) (Lib.hid (h.out.below hW hbk)) (by have := hW.size; omega) (by omega) (by omega)
  generalize (PT.hn nm x y z a b c).tx = tx at k2 ⊢
  generalize (PT.hn nm x y z a b c).ins = ins at k2 ⊢
  clear hsz hg hq1 hq2 hT ka kb kc ha hb hc
  go_enter Tryz.func29, Tryz.ntmps29
  go_wp2_with fail
  refine (k2.out _ (by (repeat' (first | with_reducible exact Below.refl _ _ | with_reducible assumption | with_reducible apply Below.setCell | with_reducible apply Below.alloc | with_reducible apply Below.drew | with_reducible apply below_drewN | with_reducible exact Nat.le_refl _ | (simp; done) | (simp; omega) | omega | exact Nat.le_refl _)))).mono ?_
  rintro e w1 ⟨rfl, hb1⟩
  have hB := Lib.hid (belT (show Below w.heap.size w _ from by (repeat' (first | with_reducible exact Below.refl _ _ | with_reducible assumption | with_reducible apply Below.setCell | with_reducible apply Below.alloc | with_reducible apply Below.drew | with_reducible apply below_drewN | with_reducible exact Nat.le_refl _ | (simp; done) | (simp; omega) | omega | exact Nat.le_refl _))) hb1)
  clear hb1
  go_wp2_with fail
  go_ret2
  exact ⟨rfl, hB.out⟩
set_option maxRecDepth 100000 in
set_option maxHeartbeats 2000000 in
theorem rt_var {bk off cp : Nat} {ts : List Nd} (hl : ts.length ≤ 512) {nm : ByteArray} (hT : (PT.var nm).ok) : RTx bk off cp ts (PT.var nm) := by
  intro i w hA hi h hbk
  obtain ⟨p, hg⟩ := hA
  have hN := h.out i hi
  rw [hg] at hN
  unfold NdAt at hN
  obtain ⟨e0, e1, e2, e3, e4, e5, e6, e7, e8, e9⟩ := hN
  dsimp only at e0 e1 e2 e3 e4 e5 e6 e7 e8 e9
  have hii : (i : Int) < (ts.length : Int) := by omega
  have hi0 : (0 : Int) ≤ (i : Int) := by omega
  have z := sz_nm hT
  go_enter Tryz.func29, Tryz.ntmps29
  go_wp2_with fail
  go_ret2
  exact ⟨rfl, by (repeat' (first | with_reducible exact Below.refl _ _ | with_reducible assumption | with_reducible apply Below.setCell | with_reducible apply Below.alloc | with_reducible apply Below.drew | with_reducible apply below_drewN | with_reducible exact Nat.le_refl _ | (simp; done) | (simp; omega) | omega | exact Nat.le_refl _))⟩
set_option maxRecDepth 100000 in
set_option maxHeartbeats 2000000 in
theorem rt_int {bk off cp : Nat} {ts : List Nd} (hl : ts.length ≤ 512) {n : Int} (hT : (PT.int n).ok) : RTx bk off cp ts (PT.int n) := by
  intro i w hA hi h hbk
  obtain ⟨p, hg⟩ := hA
  have hN := h.out i hi
  rw [hg] at hN
  unfold NdAt at hN
  obtain ⟨e0, e1, e2, e3, e4, e5, e6, e7, e8, e9⟩ := hN
  dsimp only at e0 e1 e2 e3 e4 e5 e6 e7 e8 e9
  have hii : (i : Int) < (ts.length : Int) := by omega
  have hi0 : (0 : Int) ≤ (i : Int) := by omega
  have kD := Lib.hid fun (W : World) => dec_any n W (by have := hT.1; omega) (by have := hT.2; omega)
  go_enter Tryz.func29, Tryz.ntmps29
  go_wp2_with fail
  refine (kD.out _).mono ?_
  rintro e w1 ⟨rfl, hb1⟩
  have hB := Lib.hid (belT (show Below w.heap.size w _ from by (repeat' (first | with_reducible exact Below.refl _ _ | with_reducible assumption | with_reducible apply Below.setCell | with_reducible apply Below.alloc | with_reducible apply Below.drew | with_reducible apply below_drewN | with_reducible exact Nat.le_refl _ | (simp; done) | (simp; omega) | omega | exact Nat.le_refl _))) hb1)
  clear hb1
  go_wp2_with fail
  go_ret2
  exact ⟨rfl, hB.out⟩
set_option maxRecDepth 100000 in
set_option maxHeartbeats 2000000 in
theorem rt_bol {bk off cp : Nat} {ts : List Nd} (hl : ts.length ≤ 512) {n : Int} (hT : (PT.bol n).ok) : RTx bk off cp ts (PT.bol n) := by
  intro i w hA hi h hbk
  obtain ⟨p, hg⟩ := hA
  have hN := h.out i hi
  rw [hg] at hN
  unfold NdAt at hN
  obtain ⟨e0, e1, e2, e3, e4, e5, e6, e7, e8, e9⟩ := hN
  dsimp only at e0 e1 e2 e3 e4 e5 e6 e7 e8 e9
  have hii : (i : Int) < (ts.length : Int) := by omega
  have hi0 : (0 : Int) ≤ (i : Int) := by omega
  rcases hT with rfl | rfl
  all_goals
    go_enter Tryz.func29, Tryz.ntmps29
    go_wp2_with fail
    go_ret2
    exact ⟨rfl, by (repeat' (first | with_reducible exact Below.refl _ _ | with_reducible assumption | with_reducible apply Below.setCell | with_reducible apply Below.alloc | with_reducible apply Below.drew | with_reducible apply below_drewN | with_reducible exact Nat.le_refl _ | (simp; done) | (simp; omega) | omega | exact Nat.le_refl _))⟩
theorem rtext_any {bk off cp : Nat} {ts : List Nd} (hl : ts.length ≤ 512) : ∀ (T : PT), T.ok → RTx bk off cp ts T
  | .var nm, h => rt_var hl h
  | .int n, h => rt_int hl h
  | .bol n, h => rt_bol hl h
  | .fn x a, h => rt_fn hl h (rtext_any hl a h.2)
  | .app a b, h => rt_app hl h (rside_of hl h.1 (rtext_any hl a h.1)) (rside_of hl h.2 (rtext_any hl b h.2))
  | .lt x a b, h => rt_lt hl h (rtext_any hl a h.2.1) (rtext_any hl b h.2.2)
  | .rc x y a b, h => rt_rc hl h (rtext_any hl a h.2.1) (rtext_any hl b h.2.2)
  | .cd a b c, h => rt_cd hl h (rtext_any hl a h.1) (rtext_any hl b h.2.1) (rtext_any hl c h.2.2)
  | .pr n a b, h => rt_pr hl h (rside_of hl h.2.1 (rtext_any hl a h.2.1)) (rside_of hl h.2.2 (rtext_any hl b h.2.2))
  | .ac nm a, h => rt_ac hl h (rside_of hl h.2 (rtext_any hl a h.2))
  | .hn nm x y z a b c, h => rt_hn hl h (rtext_any hl a h.2.1) (rtext_any hl b h.2.2.1) (rtext_any hl c h.2.2.2)
end Go.Proofs.YtidlljookjicpaaGreatDoor
