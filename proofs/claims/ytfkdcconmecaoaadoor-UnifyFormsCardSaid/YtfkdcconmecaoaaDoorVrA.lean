/- Numbers among others: slices.Contains, has, without, less, SameInts; slices.Clone. -/
import Derived.Test.YtfkdcconmecaoaaDoorMtP
import Derived.Test.YtfkdcconmecaoaaDoorInO
/- Numbers among others: slices.Contains, has, without, less, SameInts; slices.Clone. -/
namespace Go.Proofs.YtfkdcconmecaoaaDoor
open Go.RowKit
set_option linter.unusedVariables false
set_option linter.unusedSimpArgs false

theorem isArg_at {w : World} {a : Option Addr} {l : List Int} {j : Nat} (h : l = [] ∨ ∃ b off, a = some ⟨b, off, none⟩ ∧ IsSl w b off l ∧ b < w.heap.size) (hj : j < l.length) : ∃ b off, a = some ⟨b, off, none⟩ ∧ IsSl w b off l ∧ b < w.heap.size := by
  rcases h with h | h
  · rw [h] at hj; simp at hj
  · exact h
set_option maxHeartbeats 1000000 in
theorem index_any (a : Option Addr) (n c : Nat) (l : List Int) (v : Int) (w : World) (h : Hid (IsArg w a n l)) (hl : n ≤ 140737488351232) :
    Calls Tryd.prog 108 #[.slice a n c, .int .i64 v] w fun e w' => (∃ i : Int, e = .returned (.int .i64 i) ∧ hasI l v = decide (0 ≤ i)) ∧ w' = w := by
  obtain ⟨rfl, hA⟩ := h.out
  go_enter Tryd.func108, Tryd.ntmps108
  go_wp2_with fail
  go_loopw [8] (fun i wr => ∃ j : Nat, j ≤ l.length ∧ i = .int .i64 j ∧ wr = w ∧ Hid (hasI (l.take j) v = false)) (fun i _ => l.length - (intOf i).toNat)
  case atStart => exact ⟨0, by omega, rfl, rfl, Lib.hid rfl⟩
  case round =>
    obtain ⟨j, hj, rfl, rfl, hno⟩ := hrel
    by_cases hlt : j < l.length
    · obtain ⟨b, off, rfl, hs, hb⟩ := isArg_at hA hlt
      have hc := hs j hlt
      have htk := Lib.hid (hasI_take hlt v)
      have hfin := Lib.hid (show l.getD j 0 = v → hasI l v = true from fun e => (hasI_iff l v).2 (by rw [← e, List.getD_eq_getElem?_getD, List.getElem?_eq_getElem hlt]; exact List.getElem_mem hlt))
      generalize l.getD j 0 = x at hc htk hfin
      have hlt' : (j : Int) < (l.length : Int) := by omega
      have hj0 : (0 : Int) ≤ (j : Int) := by omega
      clear hs hA
      cases hq : (v == x)
      · have hq2 : Hid ((x == v) = false) := Lib.hid (by rw [beq_eq_false_iff_ne] at hq ⊢; exact fun e => hq e.symm)
        go_wp2_with fail
        go_roundw
        case rel => exact ⟨j + 1, by omega, by go_num, by first | rfl | trivial, Lib.hid (by rw [htk.out, hno.out, hq2.out]; rfl)⟩
        case measure => simp [intOf]; omega
      · have hx := Lib.hid (hfin.out (beq_iff_eq.1 hq).symm)
        go_wp2_with fail
        go_ret
        exact ⟨⟨(j : Int), rfl, by rw [hx.out, decide_eq_true hj0]⟩, rfl⟩
    · have hx : Hid (hasI l v = false) := Lib.hid (by have := hno.out; rwa [List.take_of_length_le (by omega)] at this)
      go_wp2_with fail
      go_ret
      exact ⟨⟨-1, rfl, by rw [hx.out]; rfl⟩, rfl⟩
set_option maxHeartbeats 1000000 in
theorem contains_any (a : Option Addr) (n c : Nat) (l : List Int) (v : Int) (w : World) (h : Hid (IsArg w a n l)) (hl : n ≤ 140737488351232) :
    Calls Tryd.prog 95 #[.slice a n c, .int .i64 v] w fun e w' => e = .returned (.bool (hasI l v)) ∧ w' = w := by
  obtain ⟨H, hH⟩ : ∃ x, hasI l v = x := ⟨_, rfl⟩
  have kI := Lib.hid (index_any a n c l v w h hl)
  rw [hH] at kI ⊢
  clear hH
  go_enter Tryd.func95, Tryd.ntmps95
  go_wp2_with fail
  refine kI.out.mono ?_
  rintro e w1 ⟨⟨i, rfl, hi⟩, rfl⟩
  have hi := Lib.hid hi
  go_wp2_with fail
  go_ret
  exact ⟨ret_bb hi.out.symm, rfl⟩
end Go.Proofs.YtfkdcconmecaoaaDoor

/- Two rows of numbers that grow, each told by a cell; what else stays. -/
namespace Go.Proofs.YtfkdcconmecaoaaDoor
open Go.RowKit
set_option linter.unusedVariables false
set_option linter.unusedSimpArgs false

theorem TnAt.bar {S : Nat → Prop} {w w' : World} {g : Nat} {t : Ty} (h : TnAt w g t) (hb : Bar S w w') (hn : ¬ S g) : TnAt w' g t := by
  obtain ⟨h0, h1, h2, h3, h4, h5, h6, h7, h8, h9⟩ := h
  exact ⟨by have := hb.size; omega, hb.cell h1 hn, hb.cell h2 hn, hb.cell h3 hn, hb.cell h4 hn, hb.cell h5 hn, hb.cell h6 hn, hb.cell h7 hn, hb.cell h8 hn, hb.cell h9 hn⟩
def SV (b1 b2 : Nat) (v1 v2 : Value) (k : Nat) : Prop := k = b1 ∨ k = b2 ∨ v1.ownBlock = some k ∨ v2.ownBlock = some k
/-- two rows of numbers of the call's own, in two cells. -/
structure TwoI (B b1 o1 b2 o2 : Nat) (w : World) (v1 v2 : Value) (l1 l2 : List Int) : Prop where
  c1 : w.cell? ⟨b1, o1, none⟩ = some v1
  c2 : w.cell? ⟨b2, o2, none⟩ = some v2
  f1 : ∀ o, w.frozen? ⟨b1, o, none⟩ = false
  f2 : ∀ o, w.frozen? ⟨b2, o, none⟩ = false
  i1 : OwnI B w v1 l1
  i2 : OwnI B w v2 l2
  ne : ∀ k, v1.ownBlock = some k → ¬ v2.ownBlock = some k
  B1 : b1 < B
  B2 : b2 < B
  hB : B ≤ w.heap.size
  hne : b1 ≠ b2 ∨ o1 ≠ o2
/-- a step of such a call. -/
structure GoV (b1 b2 : Nat) (w w' : World) (v1 v2 v1' v2' : Value) : Prop where
  bar : Bar (SV b1 b2 v1 v2) w w'
  m1 : Moved w v1 v1'
  m2 : Moved w v2 v2'
theorem Moved.refl (w : World) (v : Value) : Moved w v v := .inl rfl
theorem Moved.trans {w w1 : World} {v v' v'' : Value} (h : Moved w v v') (h' : Moved w1 v' v'') (hs : w.heap.size ≤ w1.heap.size) : Moved w v v'' := by
  rcases h' with h' | ⟨k, h', hk⟩
  · rcases h with h | ⟨k, h, hk⟩
    · exact .inl (h'.trans h)
    · exact .inr ⟨k, h'.trans h, hk⟩
  · exact .inr ⟨k, h', by omega⟩
theorem Moved.of {w : World} {v v' : Value} (h : Moved w v v') {k : Nat} (hk : k < w.heap.size) (hv : v'.ownBlock = some k) : v.ownBlock = some k := by
  rcases h with h | ⟨k', h, h'⟩
  · rw [← h]; exact hv
  · rw [h] at hv; injection hv with hv; omega
theorem GoV.away {b1 b2 : Nat} {w w' : World} {v1 v2 v1' v2' : Value} (h : GoV b1 b2 w w' v1 v2 v1' v2') {k : Nat} (hk : k < w.heap.size) (hs : SV b1 b2 v1' v2' k) : SV b1 b2 v1 v2 k := by
  rcases hs with hs | hs | hs | hs
  · exact .inl hs
  · exact .inr (.inl hs)
  · exact .inr (.inr (.inl (h.m1.of hk hs)))
  · exact .inr (.inr (.inr (h.m2.of hk hs)))
theorem GoV.refl (b1 b2 : Nat) (w : World) (v1 v2 : Value) : GoV b1 b2 w w v1 v2 v1 v2 := ⟨Bar.refl _ _, Moved.refl _ _, Moved.refl _ _⟩
theorem GoV.of_below {b1 b2 : Nat} {w w' : World} {v1 v2 : Value} (h : Below w.heap.size w w') : GoV b1 b2 w w' v1 v2 v1 v2 := ⟨Bar.of_below h, Moved.refl _ _, Moved.refl _ _⟩
theorem GoV.trans {b1 b2 : Nat} {w w1 w2 : World} {v1 v2 v1' v2' v1'' v2'' : Value} (h : GoV b1 b2 w w1 v1 v2 v1' v2') (h' : GoV b1 b2 w1 w2 v1' v2' v1'' v2'') : GoV b1 b2 w w2 v1 v2 v1'' v2'' :=
  ⟨h.bar.trans h'.bar fun k hk hs => h.away hk hs, h.m1.trans h'.m1 h.bar.size, h.m2.trans h'.m2 h.bar.size⟩
theorem TwoI.below {B b1 o1 b2 o2 : Nat} {w w' : World} {v1 v2 : Value} {l1 l2 : List Int} (h : TwoI B b1 o1 b2 o2 w v1 v2 l1 l2) (hb : Below w.heap.size w w') : TwoI B b1 o1 b2 o2 w' v1 v2 l1 l2 := by
  have h1 := h.B1; have h2 := h.B2; have h3 := h.hB
  exact ⟨carry hb (by omega) h.c1, carry hb (by omega) h.c2, fun o => by rw [hb.frozen (p := ⟨b1, o, none⟩) (show b1 < w.heap.size by omega)]; exact h.f1 o, fun o => by rw [hb.frozen (p := ⟨b2, o, none⟩) (show b2 < w.heap.size by omega)]; exact h.f2 o, h.i1.below hb, h.i2.below hb, h.ne, h.B1, h.B2, by have := hb.size; omega, h.hne⟩
theorem TwoI.fresh {B b1 o1 b2 o2 : Nat} {w : World} {v1 v2 : Value} {l1 l2 : List Int} (h : TwoI B b1 o1 b2 o2 w v1 v2 l1 l2) {k : Nat} (hk : w.heap.size ≤ k) : ¬ SV b1 b2 v1 v2 k := by
  have h1 := h.B1; have h2 := h.B2; have h3 := h.hB
  rintro (hs | hs | hs | hs)
  · omega
  · omega
  · have := (own_lt h.i1 k hs).2; omega
  · have := (own_lt h.i2 k hs).2; omega
theorem TwoI.low {B b1 o1 b2 o2 : Nat} {w : World} {v1 v2 : Value} {l1 l2 : List Int} (h : TwoI B b1 o1 b2 o2 w v1 v2 l1 l2) {k : Nat} (hk : k < B) (h1 : k ≠ b1) (h2 : k ≠ b2) : ¬ SV b1 b2 v1 v2 k := by
  rintro (hs | hs | hs | hs)
  · exact h1 hs
  · exact h2 hs
  · have := (own_lt h.i1 k hs).1; omega
  · have := (own_lt h.i2 k hs).1; omega
theorem TwoI.belowB {B b1 o1 b2 o2 : Nat} {w w' : World} {v1 v2 v1' v2' : Value} {l1 l2 : List Int} (h : TwoI B b1 o1 b2 o2 w v1 v2 l1 l2) (hg : GoV b1 b2 w w' v1 v2 v1' v2') {A : Nat} (h1 : A ≤ b1) (h2 : A ≤ b2) : Below A w w' := by
  have k1 := h.B1; have k3 := h.hB
  refine hg.bar.below (by omega) fun k hk => ?_
  rcases hk with hs | hs | hs | hs
  · omega
  · omega
  · have := (own_lt h.i1 k hs).1; omega
  · have := (own_lt h.i2 k hs).1; omega
theorem ownI_put {B k o : Nat} {w : World} {v x : Value} {l : List Int} (h : OwnI B w v l) (hk : k < B) : OwnI B (w.setCell ⟨k, o, none⟩ x) v l := ownsRow_setCell_below h hk x
theorem TwoI.app1 {B b1 o1 b2 o2 : Nat} {w w' : World} {v1 v2 v1' : Value} {l1 l2 l1' : List Int} (h : TwoI B b1 o1 b2 o2 w v1 v2 l1 l2) (hO : OwnI B w' v1' l1') (hb : Bar (fun k => v1.ownBlock = some k) w w') (hm : Moved w v1 v1') :
    TwoI B b1 o1 b2 o2 (w'.setCell ⟨b1, o1, none⟩ v1') v1' v2 l1' l2 ∧ GoV b1 b2 w (w'.setCell ⟨b1, o1, none⟩ v1') v1 v2 v1' v2 := by
  have h1 := h.B1; have h2 := h.B2; have h3 := h.hB
  have n1 : ¬ v1.ownBlock = some b1 := fun e => by have := (own_lt h.i1 _ e).1; omega
  have n2 : ¬ v1.ownBlock = some b2 := fun e => by have := (own_lt h.i1 _ e).1; omega
  refine ⟨⟨setS (hb.cell h.c1 n1), setO (hb.cell h.c2 n2) ?_, fun o => ?_, fun o => ?_, ownI_put hO h1, ownI_put (hb.own h.i2 fun k hk hk' => h.ne k hk' hk) h1, fun k hk hk' => ?_, h1, h2, by have := hb.size; simpa using Nat.le_trans h3 this, h.hne⟩, ⟨?_, hm, Moved.refl _ _⟩⟩
  · intro e; injection e with e1 e2; rcases h.hne with hn | hn
    · exact hn e1
    · exact hn e2
  · rw [World.frozen?_setCell, hb.frozen (show b1 < w.heap.size by omega) n1]; exact h.f1 o
  · rw [World.frozen?_setCell, hb.frozen (show b2 < w.heap.size by omega) n2]; exact h.f2 o
  · have hl := (own_lt h.i2 k hk').2
    exact h.ne k (hm.of hl hk) hk'
  · exact (Bar.trans (S := SV b1 b2 v1 v2) ⟨hb.os, hb.tape, hb.output, hb.size, fun k hk hn => hb.block k hk (fun e => hn (.inr (.inr (.inl e))))⟩ (Bar.set (S := fun k => k = b1) _ _ rfl) fun k _ hs => .inl hs)
theorem TwoI.app2 {B b1 o1 b2 o2 : Nat} {w w' : World} {v1 v2 v2' : Value} {l1 l2 l2' : List Int} (h : TwoI B b1 o1 b2 o2 w v1 v2 l1 l2) (hO : OwnI B w' v2' l2') (hb : Bar (fun k => v2.ownBlock = some k) w w') (hm : Moved w v2 v2') :
    TwoI B b1 o1 b2 o2 (w'.setCell ⟨b2, o2, none⟩ v2') v1 v2' l1 l2' ∧ GoV b1 b2 w (w'.setCell ⟨b2, o2, none⟩ v2') v1 v2 v1 v2' := by
  have h1 := h.B1; have h2 := h.B2; have h3 := h.hB
  have n1 : ¬ v2.ownBlock = some b1 := fun e => by have := (own_lt h.i2 _ e).1; omega
  have n2 : ¬ v2.ownBlock = some b2 := fun e => by have := (own_lt h.i2 _ e).1; omega
  refine ⟨⟨setO (hb.cell h.c1 n1) ?_, setS (hb.cell h.c2 n2), fun o => ?_, fun o => ?_, ownI_put (hb.own h.i1 fun k hk hk' => h.ne k hk hk') h2, ownI_put hO h2, fun k hk hk' => ?_, h1, h2, by have := hb.size; simpa using Nat.le_trans h3 this, h.hne⟩, ⟨?_, Moved.refl _ _, hm⟩⟩
  · intro e; injection e with e1 e2; rcases h.hne with hn | hn
    · exact hn e1.symm
    · exact hn e2.symm
  · rw [World.frozen?_setCell, hb.frozen (show b1 < w.heap.size by omega) n1]; exact h.f1 o
  · rw [World.frozen?_setCell, hb.frozen (show b2 < w.heap.size by omega) n2]; exact h.f2 o
  · have hl := (own_lt h.i1 k hk).2
    exact h.ne k hk (hm.of hl hk')
  · exact (Bar.trans (S := SV b1 b2 v1 v2) ⟨hb.os, hb.tape, hb.output, hb.size, fun k hk hn => hb.block k hk (fun e => hn (.inr (.inr (.inr e))))⟩ (Bar.set (S := fun k => k = b2) _ _ rfl) fun k _ hs => .inr (.inl hs))
def VPost (B b1 o1 b2 o2 : Nat) (w : World) (v1 v2 : Value) (l1 l2 : List Int) (e : Ending) (w' : World) : Prop :=
  e = .returned (.tuple #[]) ∧ ∃ v1' v2', TwoI B b1 o1 b2 o2 w' v1' v2' l1 l2 ∧ GoV b1 b2 w w' v1 v2 v1' v2'
def vs1 (t : Ty) (l : List Int) : List Int := if t.k = 2 then addI l t.v else l
def vs2 (t : Ty) (l : List Int) : List Int := if t.k = 3 then addT l t.t else l
set_option maxRecDepth 100000 in
set_option maxHeartbeats 4000000 in
theorem vars1_any (p1 p2 B : Nat) (t : Ty) (w : World) (v1 v2 : Value) (l1 l2 : List Int) (h : Hid (TwoI B p1 0 p2 0 w v1 v2 l1 l2)) (hl1 : l1.length ≤ 100000) (hl2 : l2.length ≤ 100000) :
    Calls Tryd.prog 94 #[.agg #[.int .i64 t.k, .int .i64 t.v, .int .i64 t.a, .int .i64 t.b, .int .i64 t.c0, .int .i64 t.c1, .int .i64 t.c2, .int .i64 t.c3, .int .i64 t.t], .pointer (some ⟨p1, 0, none⟩), .pointer (some ⟨p2, 0, none⟩)] w (VPost B p1 0 p2 0 w v1 v2 (vs1 t l1) (vs2 t l2)) := by
  obtain ⟨a1, n1, d1, hv1⟩ := ownI_sl h.out.i1
  obtain ⟨a2, n2, d2, hv2⟩ := ownI_sl h.out.i2
  subst hv1 hv2
  have hn1 : n1 = l1.length := h.out.i1.arg.1
  have hn2 : n2 = l2.length := h.out.i2.arg.1
  subst hn1 hn2
  have c1 := h.out.c1
  have c2 := h.out.c2
  have f1 := h.out.f1 0
  have f2 := h.out.f2 0
  have hB1 := h.out.B1; have hB2 := h.out.B2; have hBw := h.out.hB
  have hp1 : p1 < w.heap.size := by omega
  have hp2 : p2 < w.heap.size := by omega
  have kC1 := Lib.hid fun (v : Int) (W : World) (hb : Below w.heap.size w W) => contains_any a1 l1.length d1 l1 v W (Lib.hid (h.out.i1.arg.below hb)) (by omega)
  have kC2 := Lib.hid fun (v : Int) (W : World) (hb : Below w.heap.size w W) => contains_any a2 l2.length d2 l2 v W (Lib.hid (h.out.i2.arg.below hb)) (by omega)
  have hstay := Lib.hid fun (W : World) (hb : Below w.heap.size w W) (e1 : vs1 t l1 = l1) (e2 : vs2 t l2 = l2) => (show VPost B p1 0 p2 0 w (.slice a1 l1.length d1) (.slice a2 l2.length d2) (vs1 t l1) (vs2 t l2) (.returned (.tuple #[])) W from ⟨rfl, _, _, by rw [e1, e2]; exact h.out.below hb, GoV.of_below hb⟩)
  have hfin1 := Lib.hid fun (w' : World) (v' : Value) (hO : OwnI B w' v' (l1 ++ [t.v])) (hb : Bar (fun k => Value.ownBlock (.slice a1 l1.length d1) = some k) w w') (hm : Moved w (.slice a1 l1.length d1) v') (e1 : vs1 t l1 = l1 ++ [t.v]) (e2 : vs2 t l2 = l2) => (show VPost B p1 0 p2 0 w (.slice a1 l1.length d1) (.slice a2 l2.length d2) (vs1 t l1) (vs2 t l2) (.returned (.tuple #[])) (w'.setCell ⟨p1, 0, none⟩ v') from ⟨rfl, _, _, by rw [e1, e2]; exact (h.out.app1 hO hb hm).1, (h.out.app1 hO hb hm).2⟩)
  have hfin2 := Lib.hid fun (w' : World) (v' : Value) (hO : OwnI B w' v' (l2 ++ [t.t])) (hb : Bar (fun k => Value.ownBlock (.slice a2 l2.length d2) = some k) w w') (hm : Moved w (.slice a2 l2.length d2) v') (e1 : vs1 t l1 = l1) (e2 : vs2 t l2 = l2 ++ [t.t]) => (show VPost B p1 0 p2 0 w (.slice a1 l1.length d1) (.slice a2 l2.length d2) (vs1 t l1) (vs2 t l2) (.returned (.tuple #[])) (w'.setCell ⟨p2, 0, none⟩ v') from ⟨rfl, _, _, by rw [e1, e2]; exact (h.out.app2 hO hb hm).1, (h.out.app2 hO hb hm).2⟩)
  have hkeep := Lib.hid fun (w' : World) (g : Nat) (hb : Bar (fun k => Value.ownBlock (.slice a1 l1.length d1) = some k) w w') => (show w'.cell? ⟨p1, 0, none⟩ = some (.slice a1 l1.length d1) ∧ w'.frozen? ⟨p1, 0, none⟩ = false from ⟨hb.cell h.out.c1 (fun e => by have : B ≤ p1 := (own_lt h.out.i1 _ e).1; omega), by rw [hb.frozen hp1 (fun e => by have : B ≤ p1 := (own_lt h.out.i1 _ e).1; omega)]; exact h.out.f1 0⟩)
  have hkeep2 := Lib.hid fun (w' : World) (g : Nat) (hb : Bar (fun k => Value.ownBlock (.slice a2 l2.length d2) = some k) w w') => (show w'.cell? ⟨p2, 0, none⟩ = some (.slice a2 l2.length d2) ∧ w'.frozen? ⟨p2, 0, none⟩ = false from ⟨hb.cell h.out.c2 (fun e => by have : B ≤ p2 := (own_lt h.out.i2 _ e).1; omega), by rw [hb.frozen hp2 (fun e => by have : B ≤ p2 := (own_lt h.out.i2 _ e).1; omega)]; exact h.out.f2 0⟩)
  by_cases hk2 : t.k = 2
  · have e2 : vs2 t l2 = l2 := by unfold vs2; rw [if_neg (by omega)]
    have kc := Lib.hid (fun W hb => kC1.out t.v W hb)
    obtain ⟨q, hq⟩ : ∃ q, hasI l1 t.v = q := ⟨_, rfl⟩
    rw [hq] at kc
    rw [hk2]
    cases q
    · have hf := Lib.hid fun w' v' hO hb hm => hfin1.out w' v' hO hb hm (by unfold vs1 addI; rw [if_pos hk2, hq]; rfl) e2
      clear hq e2 hk2
      go_enter Tryd.func94, Tryd.ntmps94
      go_wp2_with fail
      refine (kc.out _ (below_alc w _)).mono ?_
      rintro e w1 ⟨rfl, rfl⟩
      go_wp2_with (at_builtin; refine op_inh rfl (.tmp 15) (.tmp 18) _ w B hBw (by (repeat' (first | with_reducible exact Below.refl _ _ | with_reducible assumption | with_reducible apply Below.setCell | with_reducible apply Below.alloc | with_reducible apply Below.drew | with_reducible apply below_drewN | with_reducible exact Nat.le_refl _ | (simp; done) | (simp; omega) | omega | exact Nat.le_refl _))) _ l1 _ rfl rfl _ (by first | (simp; done) | (simp; omega)) rfl h.out.i1 (by omega) ?_)
      intro g3 c3 w3 hO3 hBar3 hM3
      obtain ⟨x1, x2⟩ := hkeep.out w3 0 hBar3
      have hf3 := Lib.hid (hf.out w3 _ hO3 hBar3 hM3)
      clear hO3 hBar3 hM3
      go_wp2_with fail
      go_end0
      exact hf3.out
    · have hf := Lib.hid fun W hb => hstay.out W hb (by unfold vs1 addI; rw [if_pos hk2, hq]; rfl) e2
      clear hq e2 hk2
      go_enter Tryd.func94, Tryd.ntmps94
      go_wp2_with fail
      refine (kc.out _ (below_alc w _)).mono ?_
      rintro e w1 ⟨rfl, rfl⟩
      go_wp2_with fail
      go_end0
      exact hf.out _ (below_alc w _)
  · have e1 : vs1 t l1 = l1 := by unfold vs1; rw [if_neg hk2]
    have g2 : (t.k == 2) = false := beq_eq_false_iff_ne.2 hk2
    by_cases hk3 : t.k = 3
    · rw [hk3]
      by_cases ht : t.t < 0
      · have hf := Lib.hid fun W hb => hstay.out W hb e1 (by unfold vs2 addT; rw [if_pos hk3, if_pos ht])
        clear e1 hk2 hk3 g2
        go_enter Tryd.func94, Tryd.ntmps94
        go_wp2_with fail
        go_end0
        exact hf.out _ (below_alc w _)
      · have kc := Lib.hid (fun W hb => kC2.out t.t W hb)
        obtain ⟨q, hq⟩ : ∃ q, hasI l2 t.t = q := ⟨_, rfl⟩
        rw [hq] at kc
        cases q
        · have hf := Lib.hid fun w' v' hO hb hm => hfin2.out w' v' hO hb hm e1 (by unfold vs2 addT addI; rw [if_pos hk3, if_neg ht, hq]; rfl)
          clear hq e1 hk2 hk3 g2
          go_enter Tryd.func94, Tryd.ntmps94
          go_wp2_with fail
          refine (kc.out _ (below_alc w _)).mono ?_
          rintro e w1 ⟨rfl, rfl⟩
          go_wp2_with (at_builtin; refine op_inh rfl (.tmp 38) (.tmp 42) _ w B hBw (by (repeat' (first | with_reducible exact Below.refl _ _ | with_reducible assumption | with_reducible apply Below.setCell | with_reducible apply Below.alloc | with_reducible apply Below.drew | with_reducible apply below_drewN | with_reducible exact Nat.le_refl _ | (simp; done) | (simp; omega) | omega | exact Nat.le_refl _))) _ l2 _ rfl rfl _ (by first | (simp; done) | (simp; omega)) rfl h.out.i2 (by omega) ?_)
          intro g3 c3 w3 hO3 hBar3 hM3
          obtain ⟨x1, x2⟩ := hkeep2.out w3 0 hBar3
          have hf3 := Lib.hid (hf.out w3 _ hO3 hBar3 hM3)
          clear hO3 hBar3 hM3
          go_wp2_with fail
          go_end0
          exact hf3.out
        · have hf := Lib.hid fun W hb => hstay.out W hb e1 (by unfold vs2 addT addI; rw [if_pos hk3, if_neg ht, hq]; rfl)
          clear hq e1 hk2 hk3 g2
          go_enter Tryd.func94, Tryd.ntmps94
          go_wp2_with fail
          refine (kc.out _ (below_alc w _)).mono ?_
          rintro e w1 ⟨rfl, rfl⟩
          go_wp2_with fail
          go_end0
          exact hf.out _ (below_alc w _)
    · have g3 : (t.k == 3) = false := beq_eq_false_iff_ne.2 hk3
      have hf := Lib.hid fun W hb => hstay.out W hb e1 (by unfold vs2; rw [if_neg hk3])
      clear e1 hk2 hk3
      go_enter Tryd.func94, Tryd.ntmps94
      go_wp2_with fail
      go_end0
      exact hf.out _ (below_alc w _)
end Go.Proofs.YtfkdcconmecaoaaDoor
