/- A set of binds: New, Made. -/
import Derived.Test.YtfkdcconmecaoaaDoorSfb
import Derived.Test.YtfkdcconmecaoaaDoorSbO
import Derived.Deep.RegionHeld3
import Derived.Test.YtfkdcconmecaoaaDoorVrC
import Derived.LaidEql
import Derived.LaidEqlPtr
import Derived.Stop.Asserts
import Derived.RowKitTokens
/- A set of binds: New, Made. -/
namespace Go.Proofs.YtfkdcconmecaoaaDoor
open Go.RowKit Go.Maps
set_option linter.unusedVariables false
set_option linter.unusedSimpArgs false

theorem new_any (f : Int) (w : World) (hf : 0 ≤ f ∧ f < 4096) : Calls Tryd.prog 45 #[.int .i64 f] w fun e w' => ∃ s m1 m2, e = .returned (ptrS s) ∧ SetAt w.heap.size w' s (.slice none 0 0) m1 m2 [] ⟨[], f⟩ ∧ Below w.heap.size w w' := by
  have hmm := @run_makeMap Tryd.prog
  go_enter Tryd.func45, Tryd.ntmps45
  go_wp2_with fail
  go_ret
  have h1 : FsLe (((w.alloc (.map #[] 0)).alloc (.map #[] 0)).alloc (sObj (.slice none 0 0) w.heap.size (w.heap.size + 1) f)) w.heap.size 0 (tyI [] 0) :=
    ⟨0, Nat.le_refl _, _, ((World.ownsMap_made w _ _ _).alloc _).alloc _, mapIs_none⟩
  have h2 : FsLe (((w.alloc (.map #[] 0)).alloc (.map #[] 0)).alloc (sObj (.slice none 0 0) w.heap.size (w.heap.size + 1) f)) (w.heap.size + 1) 0 (rwI [] 0) :=
    ⟨0, Nat.le_refl _, _, (by have := (World.ownsMap_made (H := Unit) (w.alloc (.map #[] 0)) Tryd.prog 3 (plainElem Tryd.prog 3)).alloc (sObj (.slice none 0 0) w.heap.size (w.heap.size + 1) f); simpa using this), mapIs_none⟩
  have hs := alloc_last ((w.alloc (.map #[] 0)).alloc (.map #[] 0)) (sObj (.slice none 0 0) w.heap.size (w.heap.size + 1) f)
  refine ⟨w.heap.size + 1 + 1, w.heap.size, w.heap.size + 1, rfl, ⟨(by unfold sObj at hs ⊢; simpa using hs), ⟨rfl, .inl ⟨rfl, rfl⟩⟩, rfl, fun i v T hi => by simp at hi, h1, h2, by omega, by omega, by omega, by omega⟩, by (repeat' (first | with_reducible exact Below.refl _ _ | with_reducible assumption | with_reducible apply Below.setCell | with_reducible apply Below.alloc | with_reducible apply Below.drew | with_reducible apply below_drewN | with_reducible exact Nat.le_refl _ | (simp; done) | (simp; omega) | omega | exact Nat.le_refl _))⟩
/-- what a bind is told as. -/
def bnRel (x : Bn) : Bo → Prop
  | .ty v T => x.v = v ∧ x.ir = false ∧ x.ns = fl 0 T ∧ x.n = T.sz ∧ x.r = rw0
  | .rw v r => x.v = v ∧ x.ir = true ∧ x.ns = [] ∧ x.n = 0 ∧ x.r = r
def BnL : List Bn → List Bo → Prop
  | [], [] => True
  | x :: xs, b :: m => bnRel x b ∧ BnL xs m
  | _, _ => False
theorem BnL.len : ∀ {xs : List Bn} {m : List Bo}, BnL xs m → xs.length = m.length
  | [], [], _ => rfl
  | x :: xs, b :: m, h => by simp only [List.length_cons]; rw [BnL.len h.2]
theorem BnL.snoc {x : Bn} {b : Bo} (h' : bnRel x b) (xs : List Bn) : ∀ {m : List Bo}, BnL xs m → BnL (xs ++ [x]) (m ++ [b]) := by
  induction xs with
  | nil =>
    intro m h
    cases m with
    | nil => exact ⟨h', trivial⟩
    | cons c m => exact False.elim h
  | cons y xs ih =>
    intro m h
    cases m with
    | nil => exact False.elim h
    | cons c m => exact ⟨h.1, ih h.2⟩
/-- binds that a call makes, their types with them. -/
structure MadeIs (B : Nat) (w : World) (v : Value) (xs : List Bn) : Prop where
  own : OwnB B w v xs
  ty : ∀ x ∈ xs, TyArg w x.ad x.n x.ns ∧ x.n ≤ 256 ∧ ∀ b off, x.ad = some ⟨b, off, none⟩ → b < w.heap.size ∧ ¬ v.ownBlock = some b
theorem MadeIs.below {B : Nat} {w w' : World} {v : Value} {xs : List Bn} (h : MadeIs B w v xs) (hb : Below w.heap.size w w') : MadeIs B w' v xs :=
  ⟨h.own.below hb, fun x hx => ⟨(h.ty x hx).1.below hb, (h.ty x hx).2.1, fun b off e => ⟨by have := ((h.ty x hx).2.2 b off e).1; have := hb.size; omega, ((h.ty x hx).2.2 b off e).2⟩⟩⟩
theorem MadeIs.app {B : Nat} {w w' : World} {v v' : Value} {xs : List Bn} {x : Bn} (h : MadeIs B w v xs) (ho : OwnB B w' v' (xs ++ [x])) (hb : Bar (fun k => v.ownBlock = some k) w w') (hv : ∀ k, k < w.heap.size → v'.ownBlock = some k → v.ownBlock = some k)
    (hx : TyArg w x.ad x.n x.ns ∧ x.n ≤ 256 ∧ ∀ b off, x.ad = some ⟨b, off, none⟩ → b < w.heap.size ∧ ¬ v.ownBlock = some b) : MadeIs B w' v' (xs ++ [x]) := by
  refine ⟨ho, fun y hy => ?_⟩
  have key : ∀ y : Bn, (TyArg w y.ad y.n y.ns ∧ y.n ≤ 256 ∧ ∀ b off, y.ad = some ⟨b, off, none⟩ → b < w.heap.size ∧ ¬ v.ownBlock = some b) → TyArg w' y.ad y.n y.ns ∧ y.n ≤ 256 ∧ ∀ b off, y.ad = some ⟨b, off, none⟩ → b < w'.heap.size ∧ ¬ v'.ownBlock = some b := by
    rintro y ⟨h1, h2, h3⟩
    exact ⟨h1.bar hb fun b off e => (h3 b off e).2, h2, fun b off e => ⟨by have := (h3 b off e).1; have := hb.size; omega, fun e' => (h3 b off e).2 (hv b (h3 b off e).1 e')⟩⟩
  rcases List.mem_append.1 hy with hy | hy
  · exact key y (h.ty y hy)
  · simp at hy; subst hy; exact key _ hx
theorem step_bnb {ops : Array Oper} {o : Oper} {a : Act} {K : Act → World → Prop} {Q : Exit → Act → World → Prop} {E : Prop} (hgd : o.guard = none) (s x : Operand) (W : World) (B : Nat) (hB : B ≤ W.heap.size) (ov : Value) (l : List Bn) (y : Bn) (arr : Array Value)
    (ho : o.op = .call { callee := .builtin .append, args := #[s, x], argTypes := #[26, 26] })
    (hs : a.eval s = ov) (g0 : Nat) (hg0 : g0 = W.heap.size) (hx : a.eval x = .slice (some ⟨g0, 0, none⟩) 1 1) (harr : arr.toList = bnL1 y) (hown : OwnB B W ov l) (hlen : l.length ≤ 1000000)
    (h : ∀ v' w', OwnB B w' v' (l ++ [y]) → Bar (fun k => ov.ownBlock = some k) W w' → (∀ k, k < W.heap.size → v'.ownBlock = some k → ov.ownBlock = some k) → K (a.put o.dst v') w') :
    if Region.wanted o (yielded ops a.tmps) = true then Oper.wp Tryd.prog o a (W.alloc (.cells arr 40)) K Q else E := by
  subst hg0
  have hw : Region.wanted o (yielded ops a.tmps) = true := by simp [Region.wanted, hgd]
  rw [if_pos hw]
  obtain ⟨i0, hi, hz0, hz1, hz2⟩ := info_parts infoB
  have hy1 : bnL [y] = bnL1 y := by simp [bnL]
  obtain ⟨v', w', hrun, r1, hgr, _, hmv⟩ := run_append_moved (P := Tryd.prog) (W.alloc (.cells arr 40)) B 26 o.type 40 i0 _ 8 80 Tryd.underlying26 hi hz0 hz1 hz2 rfl (by decide) ov l.length (bnL l) (World.ownsRow.alloc hown _) ⟨W.heap.size, 0, none⟩ 1 1 (bnL [y]) (bnL_len [y]) (by
    intro j u hj
    have e : (⟨W.heap.size, 0, none⟩ : Addr).add j = ⟨W.heap.size, j, none⟩ := by simp [Addr.add]; try omega
    rw [e, World.cell?_alloc_at _ _ _ _ rfl, ← hj, hy1, ← harr, Array.getElem?_toList]) (bnL_one [y]) (by unfold maxLen; omega) (by omega) (by simp; omega)
  unfold Oper.wp
  simp [execOp, ho, resolve, invoke, builtin, hs, hx, hrun, Result.andThen]
  refine h v' w' (by unfold OwnB; rw [bnL_app, List.length_append]; exact r1) ((Bar.of_below (S := fun k => ov.ownBlock = some k) (below_alc W _)).trans (Bar.of_grown hgr) fun _ _ hs => hs) fun k hk hv => ?_
  rcases hmv with h1 | ⟨k', h1, h2⟩
  · exact h1 ▸ hv
  · have e := Option.some.inj (hv.symm.trans h1)
    have h3 : (W.alloc (.cells arr 40)).heap.size = W.heap.size + 1 := by simp
    rw [h3] at h2
    exact absurd hk (by omega)
theorem op_bnb {ops : Array Oper} {rest : List Oper} {o : Oper} {a : Act} {Q : Exit → Act → World → Prop} (hgd : o.guard = none) (s x : Operand) (W : World) (B : Nat) (hB : B ≤ W.heap.size) (ov : Value) (l : List Bn) (y : Bn) (arr : Array Value)
    (ho : o.op = .call { callee := .builtin .append, args := #[s, x], argTypes := #[26, 26] })
    (hs : a.eval s = ov) (g0 : Nat) (hg0 : g0 = W.heap.size) (hx : a.eval x = .slice (some ⟨g0, 0, none⟩) 1 1) (harr : arr.toList = bnL1 y) (hown : OwnB B W ov l) (hlen : l.length ≤ 1000000)
    (h : ∀ v' w', OwnB B w' v' (l ++ [y]) → Bar (fun k => ov.ownBlock = some k) W w' → (∀ k, k < W.heap.size → v'.ownBlock = some k → ov.ownBlock = some k) → wpList Tryd.prog ops Q rest (a.put o.dst v') w') :
    wpList Tryd.prog ops Q (o :: rest) a (W.alloc (.cells arr 40)) := by
  subst hg0
  obtain ⟨i0, hi, hz0, hz1, hz2⟩ := info_parts infoB
  have hy1 : bnL [y] = bnL1 y := by simp [bnL]
  refine wpList_append_moved _ hgd s x 26 ho B 40 i0 _ 8 80 Tryd.underlying26 hi hz0 hz1 hz2 rfl (by decide) ov l.length (bnL l) hs (World.ownsRow.alloc hown _) ⟨W.heap.size, 0, none⟩ 1 1 (bnL [y]) hx (bnL_len [y]) ?_ (bnL_one [y]) (by unfold maxLen; omega) (by omega) (by simp; omega) ?_
  · intro j u hj
    have e : (⟨W.heap.size, 0, none⟩ : Addr).add j = ⟨W.heap.size, j, none⟩ := by simp [Addr.add]; try omega
    rw [e, World.cell?_alloc_at _ _ _ _ rfl, ← hj, hy1, ← harr, Array.getElem?_toList]
  · intro v' w' r1 hgr _ hmv
    refine h v' w' (by unfold OwnB; rw [bnL_app, List.length_append]; exact r1) ((Bar.of_below (S := fun k => ov.ownBlock = some k) (below_alc W _)).trans (Bar.of_grown hgr) fun _ _ hs => hs) fun k hk hv => ?_
    rcases hmv with h1 | ⟨k', h1, h2⟩
    · exact h1 ▸ hv
    · have e := Option.some.inj (hv.symm.trans h1)
      have h3 : (W.alloc (.cells arr 40)).heap.size = W.heap.size + 1 := by simp
      rw [h3] at h2
      exact absurd hk (by omega)
def MadePost (w : World) (made : List Bo) (e : Ending) (w' : World) : Prop := ∃ v xs, e = .returned v ∧ MadeIs w.heap.size w' v xs ∧ BnL xs made ∧ Below w.heap.size w w'
/-- what holds in each round of Made. -/
structure MInv (B : Nat) (w : World) (s : Nat) (mv : Value) (m1 m2 : Nat) (gs : List Nat) (st : US) (j : Nat) (v : Value) (wr : World) : Prop where
  ex : ∃ xs, MadeIs w.heap.size wr v xs ∧ BnL xs (st.made.take j)
  bel : Below w.heap.size w wr
end Go.Proofs.YtfkdcconmecaoaaDoor

/- A set of binds: Made, walked. -/
namespace Go.Proofs.YtfkdcconmecaoaaDoor
open Go.RowKit Go.Maps
set_option linter.unusedVariables false
set_option linter.unusedSimpArgs false

def KeepM (wp : World) (p : Nat) (W : World) : Prop := Below wp.heap.size wp W ∧ p < wp.heap.size
theorem m_go {wp W W' : World} {p : Nat} {x0 x2 : Value} (h : W.cell? ⟨p, 0, none⟩ = some x0 ∧ W.cell? ⟨p, 2, none⟩ = some x2 ∧ KeepM wp p W) (hb : Below W.heap.size W W') : W'.cell? ⟨p, 0, none⟩ = some x0 ∧ W'.cell? ⟨p, 2, none⟩ = some x2 ∧ KeepM wp p W' := by
  obtain ⟨h0, h2, k1, k2⟩ := h
  have := k1.size
  exact ⟨carry hb (by omega) h0, carry hb (by omega) h2, belT k1 hb, k2⟩
theorem m_two {W W' : World} {p : Nat} {x0 x2 : Value} (h : W.cell? ⟨p, 0, none⟩ = some x0 ∧ W.cell? ⟨p, 2, none⟩ = some x2) (hb : Below W.heap.size W W') (hp : p < W.heap.size) : W'.cell? ⟨p, 0, none⟩ = some x0 ∧ W'.cell? ⟨p, 2, none⟩ = some x2 := ⟨carry hb hp h.1, carry hb hp h.2⟩
theorem m_bel {wp W : World} {p : Nat} {x0 x2 : Value} (h : W.cell? ⟨p, 0, none⟩ = some x0 ∧ W.cell? ⟨p, 2, none⟩ = some x2 ∧ KeepM wp p W) : Below wp.heap.size wp W := h.2.2.1
theorem MInv.zero (B : Nat) (w : World) (s : Nat) (mv : Value) (m1 m2 : Nat) (gs : List Nat) (st : US) : MInv B w s mv m1 m2 gs st 0 (.slice none 0 0) w :=
  ⟨⟨[], ⟨OwnB.nil _ _, fun x hx => by cases hx⟩, by rw [List.take_zero]; trivial⟩, Below.refl _ _⟩
theorem take_snoc {m : List Bo} {j : Nat} {b : Bo} (h : m[j]? = some b) : m.take (j + 1) = m.take j ++ [b] := by
  obtain ⟨hl, he⟩ := List.getElem?_eq_some_iff.1 h
  rw [List.take_succ_eq_append_getElem hl, he]
set_option maxRecDepth 100000 in
set_option maxHeartbeats 8000000 in
theorem made_any (B : Nat) (w : World) (s : Nat) (mv : Value) (m1 m2 : Nat) (gs : List Nat) (st : US) (h : Hid (SetAt B w s mv m1 m2 gs st)) (hi : Hid (UInv st)) :
    Calls Tryd.prog 47 #[ptrS s] w (MadePost w st.made) := by
  obtain ⟨c0, _, _, _, _⟩ := h.out.cs
  have hsl := h.out.s_lt
  have hml := Lib.hid (made_bd hi.out)
  have hok := Lib.hid hi.out.ok
  have hmv : ∃ a c, mv = .slice a st.made.length c := by
    rcases h.out.own.2 with ⟨rfl, h0⟩ | ⟨g, cap, cur, rfl, _⟩
    · exact ⟨none, 0, by rw [h0]⟩
    · exact ⟨_, _, rfl⟩
  obtain ⟨a, c, rfl⟩ := hmv
  obtain ⟨n, hn⟩ : ∃ n, st.made.length = n := ⟨_, rfl⟩
  have hn' := Lib.hid hn
  rw [hn] at c0 hml
  have h0 := Lib.hid (MInv.zero B w s (.slice a n c) m1 m2 gs st)
  have hfin := Lib.hid fun (v : Value) (wr : World) (hI : MInv B w s (.slice a n c) m1 m2 gs st n v wr) => (show MadePost w st.made (.returned v) wr from by
    obtain ⟨⟨xs, h1, h2⟩, h3⟩ := hI
    rw [List.take_of_length_le (by rw [hn]; exact Nat.le_refl _)] at h2
    exact ⟨v, xs, rfl, h1, h2, h3⟩)
  obtain ⟨md, hmd⟩ : ∃ md, st.made = md := ⟨_, rfl⟩
  have hmd' := Lib.hid hmd
  rw [hmd] at hfin
  rw [hmd]
  clear hn hmd hi
  unfold ptrS at *
  go_enter Tryd.func47, Tryd.ntmps47
  go_wp2_with fail
  go_loopw [11, 3] (fun i v wr => ∃ j : Nat, j ≤ n ∧ i = .int .i64 j ∧ Hid (MInv B w s (.slice a n c) m1 m2 gs st j v wr)) (fun i _ _ => n - (intOf i).toNat)
  case atStart => exact ⟨0, by omega, rfl, h0⟩
  case round =>
    obtain ⟨j, hj, rfl, hI⟩ := hrel
    have hn8 := hml.out
    by_cases hlt : j < n
    · obtain ⟨⟨xs, hM, hL⟩, hbw⟩ := hI.out
      have hA := h.out.keep hbw
      have hjm : j < st.made.length := by rw [hn'.out]; exact hlt
      obtain ⟨b, hb⟩ : ∃ b, st.made[j]? = some b := ⟨_, List.getElem?_eq_getElem hjm⟩
      have hbo := hok.out b (List.mem_of_getElem? hb)
      have hl8 : xs.length ≤ 8192 := by have := hL.len; rw [List.length_take] at this; omega
      obtain ⟨G, c', hsl', hc, _⟩ := hA.bind hb
      obtain ⟨rfl, rfl⟩ : a = some ⟨G, 0, none⟩ ∧ c = c' := by
        simp only [Value.slice.injEq] at hsl'; exact ⟨hsl'.1, hsl'.2.2⟩
      have hGr : G < wr.heap.size := (hA.low G (.inr (.inr (.inr rfl)))).2
      have hlt' : (j : Int) < (n : Int) := by omega
      have hj0 : (0 : Int) ≤ (j : Int) := by omega
      have hbw' := Lib.hid hbw
      have hM' := Lib.hid hM
      have hLs := Lib.hid fun (x : Bn) (hx : bnRel x b) => (show BnL (xs ++ [x]) (st.made.take (j + 1)) from by rw [take_snoc hb]; exact BnL.snoc hx xs hL)
      obtain ⟨va, vn, vc, hv⟩ : ∃ va vn vc, u3 = .slice va vn vc := by
        rcases hM.own.cases with ⟨e, _⟩ | ⟨g, c, e, _⟩
        · exact ⟨_, _, _, e⟩
        · exact ⟨_, _, _, e⟩
      subst hv
      cases b with
      | rw v r =>
        have e0 := hc 0 (.int .i64 v) (by omega) rfl
        have e1 := hc 1 (.bool true) (by omega) rfl
        have e2 := hc 2 (.pointer none) (by omega) rfl
        have e3 := hc 3 (.int .i64 r.a) (by omega) rfl
        have e4 := hc 4 (.int .i64 r.b) (by omega) rfl
        have e5 := hc 5 (.int .i64 r.c) (by omega) rfl
        have e6 := hc 6 (.int .i64 r.d) (by omega) rfl
        have e7 := hc 7 (.int .i64 r.t) (by omega) rfl
        simp only [Nat.add_zero] at e0
        have hbx := Lib.hid (below_alc wr (.cells #[.int .i64 v, .bool true, .pointer none, .int .i64 r.a, .int .i64 r.b, .int .i64 r.c, .int .i64 r.d, .int .i64 r.t] 150))
        have hMx := Lib.hid (hM.below hbx.out)
        have hbwx := Lib.hid (hbw.trans (hbx.out.mono hbw.size))
        have hfin2 := Lib.hid fun (v' : Value) (w' : World) (hO : OwnB w.heap.size w' v' (xs ++ [⟨v, true, none, 0, 0, [], r⟩])) (hB : Bar (fun k => (Value.slice va vn vc).ownBlock = some k) (wr.alloc (.cells #[.int .i64 v, .bool true, .pointer none, .int .i64 r.a, .int .i64 r.b, .int .i64 r.c, .int .i64 r.d, .int .i64 r.t] 150)) w') (hv : ∀ k, k < (wr.alloc (.cells #[.int .i64 v, .bool true, .pointer none, .int .i64 r.a, .int .i64 r.b, .int .i64 r.c, .int .i64 r.d, .int .i64 r.t] 150)).heap.size → v'.ownBlock = some k → (Value.slice va vn vc).ownBlock = some k) =>
          (show MInv B w s (.slice (some ⟨G, 0, none⟩) n c) m1 m2 gs st (j + 1) v' w' from
            ⟨⟨_, hMx.out.app hO hB hv ⟨tyArg_nil _ _, by show 0 ≤ 256; omega, fun b off e => by cases e⟩, hLs.out _ ⟨rfl, rfl, rfl, rfl, rfl⟩⟩, hbwx.out.trans (hB.below hbwx.out.size fun k hk => (own_lt hMx.out.own k hk).1)⟩)
        clear hA hM hbo hc hsl' hbw hL hI hLs hb
        go_wp2_with (at_builtin; refine op_bnb rfl (.tmp 17) (.tmp 23) _ w.heap.size hbwx.out.size (.slice va vn vc) xs ⟨v, true, none, 0, 0, [], r⟩ _ rfl rfl _ (by simp) rfl rfl hMx.out.own (by omega) ?_; intro v' w' hO9 hB9 hv9)
        go_roundw
        case rel => exact ⟨j + 1, by omega, by go_num, Lib.hid (hfin2.out v' w' hO9 hB9 hv9)⟩
        case measure => simp [intOf]; omega
      | ty v T =>
        have e0 := hc 0 (.int .i64 v) (by omega) rfl
        have e1 := hc 1 (.bool false) (by omega) rfl
        have e2 := hc 2 (ptrS (gs.getD j 0)) (by omega) rfl
        have e3 := hc 3 (.int .i64 0) (by omega) rfl
        have e4 := hc 4 (.int .i64 0) (by omega) rfl
        have e5 := hc 5 (.int .i64 0) (by omega) rfl
        have e6 := hc 6 (.int .i64 0) (by omega) rfl
        have e7 := hc 7 (.int .i64 0) (by omega) rfl
        simp only [Nat.add_zero] at e0
        have hSh := hA.shp j v T hb
        generalize gs.getD j 0 = g at e2 hSh
        unfold ptrS at e2
        have hTz : T.sz ≤ 256 := by simp only [Bo.ok, Bool.and_eq_true, decide_eq_true_eq] at hbo; exact hbo.2
        have hbx := Lib.hid (below_alc wr (.cells #[.int .i64 v, .bool false, .pointer (some ⟨g, 0, none⟩), .int .i64 0, .int .i64 0, .int .i64 0, .int .i64 0, .int .i64 0] 150))
        have hMx := Lib.hid (hM.below hbx.out)
        have hbwx := Lib.hid (hbw.trans (hbx.out.mono hbw.size))
        have kTy := Lib.hid fun (W : World) (hW : Below (wr.alloc (.cells #[.int .i64 v, .bool false, .pointer (some ⟨g, 0, none⟩), .int .i64 0, .int .i64 0, .int .i64 0, .int .i64 0, .int .i64 0] 150)).heap.size (wr.alloc (.cells #[.int .i64 v, .bool false, .pointer (some ⟨g, 0, none⟩), .int .i64 0, .int .i64 0, .int .i64 0, .int .i64 0, .int .i64 0] 150)) W) => shType_any T g W (Lib.hid ((hSh.keep hbx.out).keep hW)) hTz
        have hst0 := Lib.hid (show (wr.alloc (.cells #[.int .i64 v, .bool false, .pointer (some ⟨g, 0, none⟩), .int .i64 0, .int .i64 0, .int .i64 0, .int .i64 0, .int .i64 0] 150)).drew.cell? ⟨wr.heap.size, 0, none⟩ = some (.int .i64 v) ∧ (wr.alloc (.cells #[.int .i64 v, .bool false, .pointer (some ⟨g, 0, none⟩), .int .i64 0, .int .i64 0, .int .i64 0, .int .i64 0, .int .i64 0] 150)).drew.cell? ⟨wr.heap.size, 2, none⟩ = some (.pointer (some ⟨g, 0, none⟩)) from ⟨by simp, by simp⟩)
        have hpn : Hid (¬ (Value.slice va vn vc).ownBlock = some wr.heap.size) := Lib.hid fun e => by have := (own_lt hM.own _ e).2; omega
        have hfin2 := Lib.hid fun (W2 : World) (v' : Value) (w' : World) (G2 c2 : Nat) (hW2 : Below (wr.alloc (.cells #[.int .i64 v, .bool false, .pointer (some ⟨g, 0, none⟩), .int .i64 0, .int .i64 0, .int .i64 0, .int .i64 0, .int .i64 0] 150)).heap.size (wr.alloc (.cells #[.int .i64 v, .bool false, .pointer (some ⟨g, 0, none⟩), .int .i64 0, .int .i64 0, .int .i64 0, .int .i64 0, .int .i64 0] 150)) W2) (hT2 : TyArg W2 (some ⟨G2, 0, none⟩) (fl 0 T).length (fl 0 T)) (hG2 : G2 < W2.heap.size) (hn2 : ¬ (Value.slice va vn vc).ownBlock = some G2) (hO : OwnB w.heap.size w' v' (xs ++ [⟨v, false, some ⟨G2, 0, none⟩, (fl 0 T).length, c2, fl 0 T, rw0⟩])) (hB : Bar (fun k => (Value.slice va vn vc).ownBlock = some k) W2 w') (hv : ∀ k, k < W2.heap.size → v'.ownBlock = some k → (Value.slice va vn vc).ownBlock = some k) =>
          (show MInv B w s (.slice (some ⟨G, 0, none⟩) n c) m1 m2 gs st (j + 1) v' w' from
            ⟨⟨_, (hMx.out.below hW2).app hO hB hv ⟨hT2, by show (fl 0 T).length ≤ 256; rw [fl_len]; exact hTz, fun b off e => by injection e with e; injection e with e; subst e; exact ⟨hG2, hn2⟩⟩, hLs.out _ ⟨rfl, rfl, rfl, fl_len T 0, rfl⟩⟩, (hbwx.out.trans (hW2.mono hbwx.out.size)).trans (hB.below (Nat.le_trans hbwx.out.size hW2.size) fun k hk => (own_lt (hMx.out.below hW2).own k hk).1)⟩)
        have hOk := Lib.hid fun (W2 : World) (hW2 : Below (wr.alloc (.cells #[.int .i64 v, .bool false, .pointer (some ⟨g, 0, none⟩), .int .i64 0, .int .i64 0, .int .i64 0, .int .i64 0, .int .i64 0] 150)).heap.size (wr.alloc (.cells #[.int .i64 v, .bool false, .pointer (some ⟨g, 0, none⟩), .int .i64 0, .int .i64 0, .int .i64 0, .int .i64 0, .int .i64 0] 150)) W2) => (hMx.out.below hW2).own
        have hBk := Lib.hid fun (W2 : World) (hW2 : Below (wr.alloc (.cells #[.int .i64 v, .bool false, .pointer (some ⟨g, 0, none⟩), .int .i64 0, .int .i64 0, .int .i64 0, .int .i64 0, .int .i64 0] 150)).heap.size (wr.alloc (.cells #[.int .i64 v, .bool false, .pointer (some ⟨g, 0, none⟩), .int .i64 0, .int .i64 0, .int .i64 0, .int .i64 0, .int .i64 0] 150)) W2) => Nat.le_trans hbwx.out.size hW2.size
        have hfl := T.sz_pos
        have hl8' := Lib.hid (show xs.length ≤ 1000000 by omega)
        clear hA hM hbo hc hsl' hbw hL hI hLs hb hSh
        go_wp2_with fail
        go_region_held3 (fun W => W.cell? ⟨wr.heap.size, 0, none⟩ = some (.int .i64 v) ∧ W.cell? ⟨wr.heap.size, 2, none⟩ = some (.pointer (some ⟨g, 0, none⟩)))
          (first | with_reducible exact hS9.out | with_reducible exact m_two hS2.out (below_alc w2 _) (by omega) | with_reducible exact hS2.out | with_reducible exact hst0.out)
          (first | (go_at_call 33; refine (kTy.out _ ((Below.refl _ _).drew)).mono ?_; rintro e w2 ⟨v2, rfl, hO2, hb2⟩; have hS2 := Lib.hid (m_two hst0.out hb2 (by simp)); have hb2' := Lib.hid ((Below.refl (wr.alloc (.cells #[.int .i64 v, .bool false, .pointer (some ⟨g, 0, none⟩), .int .i64 0, .int .i64 0, .int .i64 0, .int .i64 0, .int .i64 0] 150)).heap.size (wr.alloc (.cells #[.int .i64 v, .bool false, .pointer (some ⟨g, 0, none⟩), .int .i64 0, .int .i64 0, .int .i64 0, .int .i64 0, .int .i64 0] 150))).drew.trans hb2); have hz2 := hb2.size; simp at hz2; have hO2' := Lib.hid hO2; obtain ⟨G2, c2, rfl, hG2a, hG2b, _, _⟩ := ownT_some hO2 (by rw [fl_len]; exact hfl))
                 | (refine step_bnb rfl (.tmp 25) (.tmp 32) w2 w.heap.size (hBk.out w2 hb2'.out) (.slice va vn vc) xs ⟨v, false, some ⟨G2, 0, none⟩, (fl 0 T).length, c2, fl 0 T, rw0⟩ _ rfl rfl _ rfl rfl rfl (hOk.out w2 hb2'.out) hl8'.out ?_; intro v9 w9 hO9 hB9 hv9; have hS9 := Lib.hid (And.intro (hB9.cell hS2.out.1 hpn.out) (hB9.cell hS2.out.2 hpn.out))))
        all_goals
          go_wp2_with fail
          go_roundw
          case rel =>
            refine ⟨j + 1, by omega, by go_num, Lib.hid (hfin2.out w2 v9 w9 G2 c2 hb2'.out hO2'.out.arg hG2b ?_ hO9 hB9 hv9)⟩
            intro e
            have := (own_lt hM'.out.own _ e).2
            have hg := hG2a
            simp at hg
            omega
          case measure => simp [intOf]; omega
    · obtain rfl : j = n := by omega
      have hf := Lib.hid (hfin.out u3 wr hI.out)
      clear hI hfin
      go_wp2_with fail
      go_ret
      exact hf.out
end Go.Proofs.YtfkdcconmecaoaaDoor

/- errors.Is at errors of packages binds and unify; unify.isBelow. -/
namespace Go.Proofs.YtfkdcconmecaoaaDoor
open Go.RowKit Go.Extern.Stop Go.Stop Go.Extern
set_option linter.unusedVariables false
set_option linter.unusedSimpArgs false

theorem uTO (v : Value) (w : World) : (Extern.ReflectliteType.typeOf #[.iface 27 v]).run Tryd.prog w = .ok (.iface 152 (.agg #[.pointer (some ⟨7, 27, none⟩)])) w := by kernel_rfl
theorem uTS (v : Value) (w : World) : (Extern.ReflectliteType.typeOf #[.iface 211 v]).run Tryd.prog w = .ok (.iface 152 (.agg #[.pointer (some ⟨7, 211, none⟩)])) w := by kernel_rfl
theorem uCo (w : World) : ((Extern.ReflectliteType.method fun t => do Extern.Rtype.noPackHeld "Comparable" t; (fun a => Value.bool a.comparable) <$> typeInfo t) #[.agg #[.pointer (some ⟨7, 27, none⟩)]]).run Tryd.prog w = .ok (.bool true) w := by kernel_rfl
theorem uCs (w : World) : ((Extern.ReflectliteType.method fun t => do Extern.Rtype.noPackHeld "Comparable" t; (fun a => Value.bool a.comparable) <$> typeInfo t) #[.agg #[.pointer (some ⟨7, 211, none⟩)]]).run Tryd.prog w = .ok (.bool true) w := by kernel_rfl
theorem uMC (v : Value) (w : World) : (Go.method 345 152 v "Comparable").run Tryd.prog w = .ok (155, v) w := by kernel_rfl
theorem u_errno (a b : Int) (W : World) : (binOp .eql 59 (.iface 27 (.int .i64 a)) (.iface 27 (.int .i64 b))).run Tryd.prog W = .ok (.bool (a == b)) W := by kernel_rfl
/-- a type of errors that answers neither Is nor Unwrap. -/
structure EndT (T : TypeId) : Prop where
  i : ∀ (v : Value) (xT : TypeId) (w : World), (Instr.typeAssert (.iface T v) xT 154 true).run Tryd.prog w = .ok (.tuple #[.nilIface, .bool false]) w
  u : ∀ (v : Value) (xT : TypeId) (w : World), (Instr.typeAssert (.iface T v) xT 157 true).run Tryd.prog w = .ok (.tuple #[.nilIface, .bool false]) w
  us : ∀ (v : Value) (xT : TypeId) (w : World), (Instr.typeAssert (.iface T v) xT 159 true).run Tryd.prog w = .ok (.tuple #[.nilIface, .bool false]) w
theorem endE : EndT 27 := ⟨fun v xT w => run_typeAssert_lacksB Tryd.underlying154 (by kernel_rfl) (by kernel_rfl) v xT w, fun v xT w => run_typeAssert_lacksB Tryd.underlying157 (by kernel_rfl) (by kernel_rfl) v xT w, fun v xT w => run_typeAssert_lacksB Tryd.underlying159 (by kernel_rfl) (by kernel_rfl) v xT w⟩
theorem endS : EndT 211 := ⟨fun v xT w => run_typeAssert_lacksB Tryd.underlying154 (by kernel_rfl) (by kernel_rfl) v xT w, fun v xT w => run_typeAssert_lacksB Tryd.underlying157 (by kernel_rfl) (by kernel_rfl) v xT w, fun v xT w => run_typeAssert_lacksB Tryd.underlying159 (by kernel_rfl) (by kernel_rfl) v xT w⟩
/-- a type of errors that wraps one: its Unwrap has number F. -/
structure WrapT (T : TypeId) (F : Nat) : Prop where
  i : ∀ (v : Value) (xT : TypeId) (w : World), (Instr.typeAssert (.iface T v) xT 154 true).run Tryd.prog w = .ok (.tuple #[.nilIface, .bool false]) w
  u : ∀ (v : Value) (xT : TypeId) (w : World), (Instr.typeAssert (.iface T v) xT 157 true).run Tryd.prog w = .ok (.tuple #[.iface T v, .bool true]) w
  m : ∀ (v : Value) (w : World), (Go.method 345 T v "Unwrap").run Tryd.prog w = .ok (F, v) w
theorem wrapP : WrapT 177 165 := ⟨fun v xT w => run_typeAssert_lacksB Tryd.underlying154 (by kernel_rfl) (by kernel_rfl) v xT w, fun v xT w => run_typeAssert_hasB Tryd.underlying157 (by kernel_rfl) v xT w, fun v w => by kernel_rfl⟩
theorem wrapR : WrapT 92 150 := ⟨fun v xT w => run_typeAssert_lacksB Tryd.underlying154 (by kernel_rfl) (by kernel_rfl) v xT w, fun v xT w => run_typeAssert_hasB Tryd.underlying157 (by kernel_rfl) v xT w, fun v w => by kernel_rfl⟩
theorem unwrapP (g : Nat) (x : ByteArray) (u : Value) (w : World) (h : Hid (w.heap[g]? = some (.cells #[.string x, u] 179 (0, 0)))) : Calls Tryd.prog 165 #[.pointer (some ⟨g, 0, none⟩)] w fun e w' => e = .returned u ∧ w' = w := by
  have c1 := (Lib.cell_of_heap h.out 1).trans rfl
  have hl := (Array.getElem?_eq_some_iff.1 h.out).1
  go_enter Tryd.func165, Tryd.ntmps165
  go_wp2_with fail
  go_ret
  exact ⟨rfl, rfl⟩
theorem unwrapR (g : Nat) (u : Value) (w : World) (h : Hid (w.heap[g]? = some (.cells #[u] 94 (0, 0)))) : Calls Tryd.prog 150 #[.pointer (some ⟨g, 0, none⟩)] w fun e w' => e = .returned u ∧ w' = w := by
  have c1 := (Lib.cell_of_heap h.out 0).trans rfl
  have hl := (Array.getElem?_eq_some_iff.1 h.out).1
  go_enter Tryd.func150, Tryd.ntmps150
  go_wp2_with fail
  go_ret
  exact ⟨rfl, rfl⟩
/-- a chain of errors down to the last one. -/
def ECh (w : World) (last : Value) : Nat → Value → Prop
  | 0, v => v = last
  | d + 1, v => ∃ T F g u, v = .iface T (.pointer (some ⟨g, 0, none⟩)) ∧ WrapT T F ∧ T ≠ 27 ∧ T ≠ 211 ∧ ((F = 165 ∧ ∃ x, w.heap[g]? = some (.cells #[.string x, u] 179 (0, 0))) ∨ (F = 150 ∧ w.heap[g]? = some (.cells #[u] 94 (0, 0)))) ∧ (∃ t x, u = .iface t x) ∧ ECh w last d u
theorem ECh.of {a0 a1 a2 : Addr} {w : World} {k : Nat} : ∀ {d : Nat} {v : Value}, ErrD a0 a1 a2 w k d v → ECh w (errN a0 a1 a2 k) d v
  | 0, v, h => h
  | d + 1, v, ⟨g, x, u, h1, h2, h3⟩ => ⟨_, _, g, u, h1, wrapP, by decide, by decide, .inl ⟨rfl, x, h2⟩, h3.iface, ECh.of h3⟩
theorem ifc_eql (t : TypeId) (u : Value) (W : World) : (binOp .eql 59 (.iface t u) .nilIface).run Tryd.prog W = .ok (.bool false) W := by kernel_rfl
theorem nil_eql (W : World) : (binOp .eql 59 .nilIface .nilIface).run Tryd.prog W = .ok (.bool true) W := by kernel_rfl
theorem least_ex {P : Nat → Prop} : ∀ n, P n → ∃ d, P d ∧ ∀ k, P k → d ≤ k := by
  intro n
  induction n using Nat.strongRecOn with
  | _ n ih =>
    intro h
    by_cases hx : ∃ k, k < n ∧ P k
    · obtain ⟨k, hk, hp⟩ := hx; exact ih k hk hp
    · exact ⟨n, h, fun k hp => by
        by_cases hk : k < n
        · exact absurd ⟨k, hk, hp⟩ hx
        · omega⟩
open Classical in
/-- how long a chain is. -/
noncomputable def echD (w : World) (last v : Value) : Nat := if h : ∃ d, ECh w last d v ∧ ∀ k, ECh w last k v → d ≤ k then Classical.choose h else 0
theorem echD_spec {w : World} {last v : Value} {d : Nat} (h : ECh w last d v) : ECh w last (echD w last v) v ∧ ∀ k, ECh w last k v → echD w last v ≤ k := by
  have hx := least_ex (P := fun d => ECh w last d v) d h
  unfold echD
  rw [dif_pos hx]
  exact Classical.choose_spec hx
set_option maxRecDepth 100000 in
set_option maxHeartbeats 4000000 in
theorem is_chain (tt lt : TypeId) (tv lv : Value) (q : Bool) (w : World) (hE : Hid (EndT lt)) (htt : tt = 27 ∨ tt = 211) (heq : Hid (∀ W : World, W = w → (binOp .eql 59 (.iface lt lv) (.iface tt tv)).run Tryd.prog W = .ok (.bool q) W)) :
    ∀ (d : Nat) (v : Value), Hid (ECh w (.iface lt lv) d v) → Calls Tryd.prog 49 #[v, .iface tt tv, .bool true] w fun e w' => e = .returned (.bool q) ∧ w' = w := by
  intro d v hC
  have hnn := ifc_eql
  go_enter Tryd.func49, Tryd.ntmps49
  go_wp2_with fail
  go_loopw [0] (fun v wr => ∃ d, wr = w ∧ Hid (ECh w (.iface lt lv) d v)) (fun v _ => echD w (.iface lt lv) v)
  case atStart => exact ⟨d, rfl, hC⟩
  case round =>
    obtain ⟨d', rfl, hC'⟩ := hrel
    obtain ⟨hs, hm⟩ := echD_spec hC'.out
    generalize hD : echD wr (.iface lt lv) u0 = D at hs hm ⊢
    have hD' := Lib.hid hD
    clear hD
    cases D with
    | zero =>
      obtain rfl : u0 = .iface lt lv := hs
      have heq' := heq.out wr rfl
      have n4 := hE.out.i
      have n5 := hE.out.u
      have n6 := hE.out.us
      clear hm
      cases q
      · go_wp2_with fail
        go_ret
        exact ⟨rfl, rfl⟩
      · go_wp2_with fail
        go_ret
        exact ⟨rfl, rfl⟩
    | succ D =>
      obtain ⟨T, F, g, u, rfl, hW, hne1, hne2, hF, ⟨t5, x5, rfl⟩, hCu⟩ := hs
      have e2 := run_eql_iface_types (P := Tryd.prog) T tt (.pointer (some ⟨g, 0, none⟩)) tv Tryd.underlying59 (by rcases htt with rfl | rfl <;> assumption) wr
      have hlt : Hid (echD wr (.iface lt lv) (.iface t5 x5) ≤ D) := Lib.hid ((echD_spec hCu).2 D hCu)
      have hCu' := Lib.hid hCu
      have n1 := hW.i
      have n2 := hW.u
      have n3 := hW.m
      clear hCu hm hW hne1 hne2
      rcases hF with ⟨rfl, x, hx⟩ | ⟨rfl, hx⟩
      · have kU := Lib.hid (unwrapP g x (.iface t5 x5) wr (Lib.hid hx))
        clear hx
        go_wp2_with fail
        refine kU.out.mono ?_
        rintro e w' ⟨rfl, rfl⟩
        go_wp2_with fail
        go_roundw
        case rel => exact ⟨D, by first | rfl | trivial, hCu'⟩
        case measure => have := hlt.out; have := hD'.out; omega
      · have kU := Lib.hid (unwrapR g (.iface t5 x5) wr (Lib.hid hx))
        clear hx
        go_wp2_with fail
        refine kU.out.mono ?_
        rintro e w' ⟨rfl, rfl⟩
        go_wp2_with fail
        go_roundw
        case rel => exact ⟨D, by first | rfl | trivial, hCu'⟩
        case measure => have := hlt.out; have := hD'.out; omega
theorem ECh.ifc {w : World} {lt : TypeId} {lv : Value} {d : Nat} {v : Value} (h : ECh w (.iface lt lv) d v) : ∃ t x, v = .iface t x := by
  cases d with
  | zero => exact ⟨_, _, h⟩
  | succ d => obtain ⟨T, F, g, u, h1, _⟩ := h; exact ⟨_, _, h1⟩
set_option maxRecDepth 100000 in
set_option maxHeartbeats 4000000 in
theorem uIs_any (tt lt : TypeId) (tv lv : Value) (q : Bool) (w : World) (hE : Hid (EndT lt)) (htt : tt = 27 ∨ tt = 211) (heq : Hid (∀ W : World, W = w → (binOp .eql 59 (.iface lt lv) (.iface tt tv)).run Tryd.prog W = .ok (.bool q) W))
    (d : Nat) (v : Value) (hC : Hid (ECh w (.iface lt lv) d v)) : Calls Tryd.prog 25 #[v, .iface tt tv] w fun e w' => e = .returned (.bool q) ∧ w' = w := by
  have h8 := @run_callFunc_extern Tryd.prog 48 _ Extern.ReflectliteType.typeOf Tryd.func48 (by kernel_rfl) (by kernel_rfl) (by kernel_rfl) (by kernel_rfl)
  have h32 := @run_callFunc_extern Tryd.prog 155 _ (Extern.ReflectliteType.method fun t => do Extern.Rtype.noPackHeld "Comparable" t; pure (.bool (← typeInfo t).comparable)) Tryd.func155 (by kernel_rfl) (by kernel_rfl) (by kernel_rfl) (by kernel_rfl)
  have mR := uMC
  have hnn := ifc_eql
  have kI := Lib.hid (is_chain tt lt tv lv q w hE htt heq d v hC)
  obtain ⟨t5, x5, rfl⟩ := hC.out.ifc
  rcases htt with rfl | rfl
  · have tT := uTO
    have cT := uCo
    go_enter Tryd.func25, Tryd.ntmps25
    go_wp2_with fail
    refine kI.out.mono ?_
    rintro e w' ⟨rfl, rfl⟩
    go_wp2_with fail
    go_ret
    exact ⟨rfl, rfl⟩
  · have tT := uTS
    have cT := uCs
    go_enter Tryd.func25, Tryd.ntmps25
    go_wp2_with fail
    refine kI.out.mono ?_
    rintro e w' ⟨rfl, rfl⟩
    go_wp2_with fail
    go_ret
    exact ⟨rfl, rfl⟩
set_option maxRecDepth 20000 in
/-- which of the errors it is. -/
theorem eq_sen {a b : Addr} {w : World} (ha : ∃ cs t, w.heap[a.block]? = some (.cells cs t (0, 0))) (hb : ∃ cs t, w.heap[b.block]? = some (.cells cs t (0, 0))) :
    (binOp .eql 59 (errV a) (errV b)).run Tryd.prog w = .ok (.bool (decide (a = b))) w := by
  obtain ⟨ca, ka, ha⟩ := ha
  obtain ⟨cb, kb, hb⟩ := hb
  obtain ⟨i, hi, hc⟩ : ∃ i, Tryd.prog.info? 211 = some i ∧ i.comparable = true := by
    have h := (show (Tryd.prog.info? 211).map (fun i => i.comparable) = some true by kernel_rfl)
    cases hq : Tryd.prog.info? 211 with
    | none => rw [hq] at h; cases h
    | some i => rw [hq] at h; exact ⟨i, rfl, by simpa using h⟩
  obtain ⟨j, hj, hz⟩ : ∃ j, Tryd.prog.info? 234 = some j ∧ j.size ≠ 0 := by
    have h := (show (Tryd.prog.info? 234).map (fun i => i.size) = some 1 by kernel_rfl)
    cases hq : Tryd.prog.info? 234 with
    | none => rw [hq] at h; cases h
    | some i => rw [hq] at h; exact ⟨i, rfl, by simp at h; omega⟩
  unfold errV
  by_cases h : a = b
  · subst h
    rw [run_eql_iface_ptr_same w _ Tryd.underlying59 Tryd.underlying211 hi hc hj]; simp
  · rw [run_eql_iface_ptr_other w Tryd.underlying59 Tryd.underlying211 hi hc hj hz h ha hb]; simp [h]
/-- the code of a refusal: 0 says that it may not be. -/
def lastV (a0 a1 a2 : Addr) (k : Nat) : Value := if k = 0 then .iface 27 (.int .i64 1000) else errN a0 a1 a2 k
theorem is_form {a0 a1 a2 : Addr} {w : World} {k d : Nat} {v : Value} (hC : Hid (ECh w (lastV a0 a1 a2 k) d v)) : Calls Tryd.prog 25 #[v, .iface 27 (.int .i64 1000)] w fun e w' => e = .returned (.bool (decide (k = 0))) ∧ w' = w := by
  by_cases h : k = 0
  · subst h
    refine uIs_any _ 27 _ (.int .i64 1000) _ w (Lib.hid endE) (.inl rfl) (Lib.hid fun W _ => ?_) d v (Lib.hid (by have := hC.out; unfold lastV at this; rw [if_pos rfl] at this; exact this))
    rw [u_errno]; rfl
  · refine uIs_any _ 211 _ (.pointer (some (if k = 1 then a1 else if k = 2 then a0 else a2))) _ w (Lib.hid endS) (.inl rfl) (Lib.hid fun W _ => ?_) d v (Lib.hid (by have := hC.out; unfold lastV errN errV at this; rw [if_neg h] at this; exact this))
    rw [run_eql_iface_types (P := Tryd.prog) _ _ _ _ Tryd.underlying59 (by decide) W, decide_eq_false h]
theorem is_sen {a0 a1 a2 : Addr} {w : World} {k d : Nat} {v : Value} (hC : Hid (ECh w (lastV a0 a1 a2 k) d v)) (hS : Hid (SenW a0 a1 a2 w)) (hk : k ≤ 3) (j : Nat) (hj : 1 ≤ j ∧ j ≤ 3) :
    Calls Tryd.prog 25 #[v, errN a0 a1 a2 j] w fun e w' => e = .returned (.bool (decide (k = j))) ∧ w' = w := by
  obtain ⟨_, _, _, hb0, hb1, hb2, n01, n02, n12⟩ := hS.out
  by_cases h : k = 0
  · subst h
    refine uIs_any _ 27 _ (.int .i64 1000) _ w (Lib.hid endE) (.inr rfl) (Lib.hid fun W _ => ?_) d v (Lib.hid (by have := hC.out; unfold lastV at this; rw [if_pos rfl] at this; exact this))
    rw [run_eql_iface_types (P := Tryd.prog) _ _ _ _ Tryd.underlying59 (by decide) W, decide_eq_false (by omega)]
  · refine uIs_any _ 211 _ (.pointer (some (if k = 1 then a1 else if k = 2 then a0 else a2))) _ w (Lib.hid endS) (.inr rfl) (Lib.hid fun W hW => ?_) d v (Lib.hid (by have := hC.out; unfold lastV errN errV at this; rw [if_neg h] at this; exact this))
    subst hW
    have hk3 : k = 1 ∨ k = 2 ∨ k = 3 := by omega
    have hj3 : j = 1 ∨ j = 2 ∨ j = 3 := by omega
    have n10 := Ne.symm n01
    have n20 := Ne.symm n02
    have n21 := Ne.symm n12
    rcases hk3 with rfl | rfl | rfl <;> rcases hj3 with rfl | rfl | rfl
    · exact (eq_sen hb1 hb1).trans (by simp)
    · exact (eq_sen hb1 hb0).trans (by simp [n10])
    · exact (eq_sen hb1 hb2).trans (by simp [n12])
    · exact (eq_sen hb0 hb1).trans (by simp [n01])
    · exact (eq_sen hb0 hb0).trans (by simp)
    · exact (eq_sen hb0 hb2).trans (by simp [n02])
    · exact (eq_sen hb2 hb1).trans (by simp [n21])
    · exact (eq_sen hb2 hb0).trans (by simp [n20])
    · exact (eq_sen hb2 hb2).trans (by simp)
theorem is_nilU (tt : TypeId) (tv : Value) (w : World) : Calls Tryd.prog 25 #[.nilIface, .iface tt tv] w fun e w' => e = .returned (.bool false) ∧ w' = w := by
  have hn : ∀ W : World, (binOp .eql 59 .nilIface (.iface tt tv)).run Tryd.prog W = .ok (.bool false) W := fun W => by kernel_rfl
  have hn2 := nil_eql
  go_enter Tryd.func25, Tryd.ntmps25
  go_wp2_with fail
  go_ret
  exact ⟨rfl, rfl⟩
/-- may a type be, and are its row variables below f? -/
def belU (ts : List Ty) (f : Int) : Bool := tyV ts && (treeOf ts).tl f
set_option maxRecDepth 100000 in
set_option maxHeartbeats 4000000 in
theorem isBelow_any (a : Option Addr) (n c : Nat) (ts : List Ty) (f : Int) (hf : 0 ≤ f) (w : World) (h : Hid (TyArg w a n ts)) (hl : n ≤ 140737488351232) :
    Calls Tryd.prog 44 #[.agg #[.slice a n c], .int .i64 f] w fun e w' => e = .returned (.bool (belU ts f)) ∧ Below w.heap.size w w' := by
  have kV := Lib.hid fun (W : World) (hW : Below w.heap.size w W) => vars_any a n c ts W (Lib.hid (h.out.below hW)) hl
  unfold belU
  cases htv : tyV ts
  · unfold VarsPost at kV
    rw [htv] at kV
    simp only [Bool.false_eq_true, if_false] at kV
    rw [Bool.false_and]
    go_enter Tryd.func44, Tryd.ntmps44
    go_wp2_with fail
    refine (kV.out _ (below_alc w _)).mono ?_
    rintro e w1 ⟨rfl, hb1⟩
    have hB := Lib.hid (belT (below_alc w _) hb1)
    clear hb1
    go_wp2_with fail
    go_ret
    exact ⟨rfl, hB.out⟩
  · unfold VarsPost at kV
    rw [htv] at kV
    simp only [if_true] at kV
    rw [Bool.true_and]
    have hlen := (rvs_len (treeOf ts) []).2
    have hz := (tyV_of htv).2.2.2.1
    have hall : Hid ((treeOf ts).tl f = (rvs (treeOf ts) []).all fun x => decide (x < f)) := Lib.hid (by
      rw [Bool.eq_iff_iff, tl_iff _ _ hf, List.all_eq_true]
      constructor
      · intro hx x hm; rcases (rvs_mem (treeOf ts) [] x).1 hm with h | h
        · cases h
        · exact decide_eq_true (hx x h)
      · intro hx x hm; exact of_decide_eq_true (hx x ((rvs_mem (treeOf ts) [] x).2 (.inr hm))))
    rw [hall.out]
    simp only [List.length_nil, Nat.zero_add] at hlen
    generalize tvs (treeOf ts) [] = L1 at kV
    generalize rvs (treeOf ts) [] = L at kV hlen ⊢
    clear hall htv
    go_enter Tryd.func44, Tryd.ntmps44
    go_wp2_with fail
    refine (kV.out _ (below_alc w _)).mono ?_
    rintro e w1 ⟨v1, v2, rfl, hO1, hO2, _, hb1⟩
    have hB := Lib.hid (belT (below_alc w _) hb1)
    obtain ⟨ad, cp, rfl, hcell⟩ : ∃ ad cp, v2 = .slice ad L.length cp ∧ ∀ i, i < L.length → ∃ g, ad = some ⟨g, 0, none⟩ ∧ g < w1.heap.size ∧ w1.cell? ⟨g, i, none⟩ = some (.int .i64 (L.getD i 0)) := by
      rcases hO2.cases with ⟨rfl, rfl⟩ | ⟨g, c, rfl, _, h3, _, h5, _⟩
      · exact ⟨none, 0, rfl, fun i hi => by simp at hi⟩
      · exact ⟨_, c, rfl, fun i hi => ⟨g, rfl, h3, by have := h5 i hi; simpa using this⟩⟩
    have hcell' := Lib.hid hcell
    have hgoal := Lib.hid fun (W : World) (q : Bool) (e : (L.all fun x => decide (x < f)) = q) => (show (L.all fun x => decide (x < f)) = q from e)
    clear hb1 hO1 hO2 kV hcell
    go_wp2_with fail
    go_loopw [20] (fun i wr => ∃ j : Nat, j ≤ L.length ∧ i = .int .i64 j ∧ wr = w1 ∧ ∀ x ∈ L.take j, x < f) (fun i _ => L.length - (intOf i).toNat)
    case atStart => exact ⟨0, by omega, rfl, rfl, by simp⟩
    case round =>
      obtain ⟨j, hj, rfl, rfl, hx⟩ := hrel
      have hx' := Lib.hid hx
      clear hx
      by_cases hlt : j < L.length
      · obtain ⟨g, rfl, hg, hc⟩ := hcell'.out j hlt
        have hmem : Hid (L.getD j 0 ∈ L) := Lib.hid (by rw [List.getD_eq_getElem?_getD, List.getElem?_eq_getElem hlt]; exact List.getElem_mem hlt)
        have htk : Hid (L.take (j + 1) = L.take j ++ [L.getD j 0]) := Lib.hid (by rw [List.take_succ_eq_append_getElem hlt, List.getD_eq_getElem?_getD, List.getElem?_eq_getElem hlt]; rfl)
        generalize L.getD j 0 = x at hc hmem htk
        have hlt' : (j : Int) < (L.length : Int) := by omega
        have hj0 : (0 : Int) ≤ (j : Int) := by omega
        by_cases hxf : f ≤ x
        · have hno : (L.all fun x => decide (x < f)) = false := by
            rw [List.all_eq_false]; exact ⟨x, hmem.out, by simp; omega⟩
          have hno' := Lib.hid hno
          clear hno
          go_wp2_with fail
          go_ret
          exact ⟨ret_b hno'.out.symm, hB.out⟩
        · go_wp2_with fail
          go_roundw
          case rel =>
            refine ⟨j + 1, by omega, by go_num, by first | rfl | trivial, fun y hy => ?_⟩
            rw [htk.out] at hy
            rcases List.mem_append.1 hy with hy | hy
            · exact hx'.out y hy
            · simp at hy; omega
          case measure => simp [intOf]; omega
      · obtain rfl : j = L.length := by omega
        have hye := Lib.hid (show (L.all fun x => decide (x < f)) = true from by
          rw [List.all_eq_true]; intro y hy; exact decide_eq_true (hx'.out y (by rw [List.take_length]; exact hy)))
        go_wp2_with fail
        go_ret
        exact ⟨ret_b hye.out.symm, hB.out⟩
end Go.Proofs.YtfkdcconmecaoaaDoor

/- unify.unify, Unify. -/
namespace Go.Proofs.YtfkdcconmecaoaaDoor
open Go.RowKit
set_option linter.unusedVariables false
set_option linter.unusedSimpArgs false

theorem bindU_err {s : US} {v : Int} {T : TT} {k : Nat} (h : bindU s v T = .error k) : k = 2 ∨ k = 3 := by
  unfold bindU at h
  split at h
  · injection h with h; exact .inl h.symm
  · split at h
    · injection h with h; exact .inr h.symm
    · split at h
      · injection h with h; exact .inr h.symm
      · cases h
theorem bindRs_err : ∀ {l : List Bd} {s : US} {k : Nat}, bindRs s l = .error k → k = 3
  | [], s, k, h => by cases h
  | x :: l, s, k, h => by
    rw [bindRs_cons] at h
    cases hb : bindR s x.v ⟨x.a, x.b, x.c, x.d, x.t⟩ with
    | error e =>
      rw [hb] at h
      have : e = 3 := by
        unfold bindR at hb
        split at hb
        · injection hb with hb; exact hb.symm
        · cases hb
      injection h with h; omega
    | ok s' => rw [hb] at h; exact bindRs_err (show bindRs s' l = .error k from h)
theorem rowU_err {s : US} {a b : Rw} {k : Nat} (h : rowU s a b = .error k) : k = 1 ∨ k = 3 := by
  unfold rowU at h
  split at h
  · injection h with h; exact .inl h.symm
  · split at h
    · injection h with h; exact .inr h.symm
    · exact .inr (bindRs_err h)
theorem oneU_err : ∀ (n : Nat) {s : US} {a b : TT} {k : Nat}, oneU n s a b = some (.error k) → 1 ≤ k ∧ k ≤ 3 := by
  intro n
  induction n with
  | zero => intro s a b k h; cases h
  | succ n ih =>
    intro s a b k h
    rw [oneU_succ] at h
    generalize underU s a = A at h
    generalize underU s b = C at h
    have hb : ∀ {v : Int} {T : TT}, some (bindU s v T) = some (.error k) → 1 ≤ k ∧ k ≤ 3 := fun hx => by
      injection hx with hx; rcases bindU_err hx with h | h <;> omega
    cases A with
    | var v =>
      cases C with
      | var u =>
        simp only [stepU] at h
        by_cases e : v = u
        · rw [if_pos e] at h; cases h
        · rw [if_neg e] at h; exact hb h
      | base k' => exact hb h
      | fn a2 r2 b2 => exact hb h
    | base k' =>
      cases C with
      | var u => exact hb h
      | base k2 =>
        simp only [stepU] at h
        by_cases e : k' = k2
        · rw [if_pos e] at h; cases h
        · rw [if_neg e] at h; injection h with h; injection h with h; omega
      | fn a2 r2 b2 => simp only [stepU] at h; injection h with h; injection h with h; omega
    | fn a1 r1 b1 =>
      cases C with
      | var u => exact hb h
      | base k2 => simp only [stepU] at h; injection h with h; injection h with h; omega
      | fn a2 r2 b2 =>
        simp only [stepU] at h
        split at h
        · injection h with h; injection h with h; omega
        · cases h1 : oneU n s a1 a2 with
          | none => rw [h1] at h; cases h
          | some q =>
            rw [h1] at h
            cases q with
            | error e => simp only at h; injection h with h; injection h with h; subst h; exact ih h1
            | ok s1 =>
              simp only at h
              cases h2 : rowU s1 r1 r2 with
              | error e => rw [h2] at h; simp only at h; injection h with h; injection h with h; subst h; rcases rowU_err h2 with h | h <;> omega
              | ok s2 => rw [h2] at h; exact ih h
def unOk (f : Int) (ta tb : List Ty) : Bool := decide (0 ≤ f ∧ f < 4096) && (belU ta f && belU tb f)
/-- what comes of two types; error 0 says that they may not be. -/
def UnRes (f : Int) (ta tb : List Ty) (r : Except Nat US) : Prop := if unOk f ta tb then ∃ n, oneU n ⟨[], f⟩ (treeOf ta) (treeOf tb) = some r else r = .error 0
theorem empty_inv {f : Int} (h : 0 ≤ f ∧ f < 4096) : UInv ⟨[], f⟩ :=
  ⟨fun b hb => (by cases hb), fun b hb => (by cases hb), fun b hb => (by cases hb), List.nodup_nil, List.nodup_nil, h.1, by show f ≤ 4096; omega⟩
theorem unOk_of {f : Int} {ta tb : List Ty} (h : unOk f ta tb = true) : (0 ≤ f ∧ f < 4096) ∧ tyV ta = true ∧ tyV tb = true ∧ TIn ⟨[], f⟩ (treeOf ta) ∧ TIn ⟨[], f⟩ (treeOf tb) := by
  unfold unOk belU at h
  simp only [Bool.and_eq_true, decide_eq_true_eq] at h
  exact ⟨h.1, h.2.1.1, h.2.2.1, ⟨(tyV_of h.2.1.1).1, h.2.1.2⟩, ⟨(tyV_of h.2.2.1).1, h.2.2.2⟩⟩
theorem unRes_ex (f : Int) (ta tb : List Ty) : ∃ r, UnRes f ta tb r := by
  by_cases h : unOk f ta tb = true
  · obtain ⟨hf, _, _, h1, h2⟩ := unOk_of h
    obtain ⟨n, r, hr⟩ := oneU_total _ _ ⟨[], f⟩ (treeOf ta) (treeOf tb) (Nat.le_refl _) (Nat.le_refl _) (empty_inv hf) h1 h2
    exact ⟨r, by unfold UnRes; rw [if_pos h]; exact ⟨n, hr⟩⟩
  · exact ⟨.error 0, by unfold UnRes; rw [if_neg h]⟩
theorem unRes_err {f : Int} {ta tb : List Ty} {k : Nat} (h : UnRes f ta tb (.error k)) : k ≤ 3 := by
  unfold UnRes at h
  split at h
  · obtain ⟨n, h⟩ := h; exact (oneU_err n h).2
  · injection h with h; omega
theorem MadeIs.le {B B' : Nat} {w : World} {v : Value} {xs : List Bn} (h : MadeIs B' w v xs) (hB : B ≤ B') : MadeIs B w v xs := by
  refine ⟨⟨h.own.1, ?_⟩, h.ty⟩
  rcases h.own.2 with h | ⟨g, cap, cur, e1, e2, e3⟩
  · exact .inl h
  · exact .inr ⟨g, cap, cur, e1, by omega, e3⟩
def UnifyP (a0 a1 a2 : Addr) (w : World) (r : Except Nat US) (e : Ending) (w' : World) : Prop :=
  (match r with
    | .error k => ∃ g d v, e = .returned (.tuple #[.slice none 0 0, .iface 92 (.pointer (some ⟨g, 0, none⟩))]) ∧ w'.heap[g]? = some (.cells #[v] 94 (0, 0)) ∧ ECh w' (lastV a0 a1 a2 k) d v ∧ k ≤ 3
    | .ok st => ∃ v xs, e = .returned (.tuple #[v, .nilIface]) ∧ MadeIs w.heap.size w' v xs ∧ BnL xs st.made) ∧ Below w.heap.size w w'
theorem unifyP_form {a0 a1 a2 : Addr} {w W : World} {r : Except Nat US} (hr : r = .error 0) (hb : Below w.heap.size w W) (g : Nat) (hg : g = W.heap.size) : UnifyP a0 a1 a2 w r (.returned (.tuple #[.slice none 0 0, .iface 92 (.pointer (some ⟨g, 0, none⟩))])) (W.alloc (.cells #[.iface 27 (.int .i64 1000)] 94)) := by
  subst hr hg
  exact ⟨⟨_, 0, _, rfl, alloc_last _ _, rfl, by omega⟩, hb.alloc hb.size _⟩
theorem unifyP_err {a0 a1 a2 : Addr} {w W : World} {v : Value} {k d : Nat} (hk : k ≤ 3) (h0 : k ≠ 0) (hD : ErrD a0 a1 a2 W k d v) (hb : Below w.heap.size w W) : UnifyP a0 a1 a2 w (.error k) (.returned (.tuple #[.slice none 0 0, .iface 92 (.pointer (some ⟨W.heap.size, 0, none⟩))])) (W.alloc (.cells #[v] 94)) :=
  ⟨⟨_, d, v, rfl, alloc_last _ _, by unfold lastV; rw [if_neg h0]; exact ECh.of (hD.below (below_alc _ _)), hk⟩, hb.alloc hb.size _⟩
set_option maxRecDepth 100000 in
set_option maxHeartbeats 8000000 in
theorem un_any (a0 a1 a2 : Addr) (a b : Option Addr) (n c n' c' : Nat) (ta tb : List Ty) (f : Int) (hfb : -9223372036854775808 ≤ f ∧ f ≤ 9223372036854775807) (w : World) (ha : Hid (TyArg w a n ta)) (hb : Hid (TyArg w b n' tb)) (hl : n ≤ 140737488351232) (hl' : n' ≤ 140737488351232) (hE : Hid (SenB w.heap.size a0 a1 a2 w)) (r : Except Nat US) (hr : Hid (UnRes f ta tb r)) :
    Calls Tryd.prog 24 #[.agg #[.slice a n c], .agg #[.slice b n' c'], .int .i64 f] w (UnifyP a0 a1 a2 w r) := by
  have hform := Lib.hid fun (W : World) (hW : Below w.heap.size w W) (h : unOk f ta tb = false) => unifyP_form (a0 := a0) (a1 := a1) (a2 := a2) (r := r) (by have := hr.out; unfold UnRes at this; rw [h] at this; simpa using this) hW
  have hno := Lib.hid fun (h : ¬ (0 ≤ f ∧ f < 4096)) => (show unOk f ta tb = false from by unfold unOk; rw [decide_eq_false h]; rfl)
  have hna := Lib.hid fun (h : belU ta f = false) => (show unOk f ta tb = false from by unfold unOk; rw [h]; simp)
  have hnb := Lib.hid fun (h : belU tb f = false) => (show unOk f ta tb = false from by unfold unOk; rw [h]; simp)
  have hyes := Lib.hid fun (h0 : 0 ≤ f ∧ f < 4096) (h1 : belU ta f = true) (h2 : belU tb f = true) => (show unOk f ta tb = true from by unfold unOk; rw [decide_eq_true h0, h1, h2]; rfl)
  have hb2 := Lib.hid (below_alc2 w (.cells #[.slice a n c] 24) (.cells #[.slice b n' c'] 24))
  by_cases hf0 : f < 0
  · have hgo := Lib.hid (hform.out _ hb2.out (hno.out (by omega)))
    go_enter Tryd.func24, Tryd.ntmps24
    go_wp2_with fail
    go_ret2
    exact hgo.out _ (by simp)
  by_cases hf1 : 4096 ≤ f
  · have hgo := Lib.hid (hform.out _ hb2.out (hno.out (by omega)))
    go_enter Tryd.func24, Tryd.ntmps24
    go_wp2_with fail
    go_ret2
    exact hgo.out _ (by simp)
  have kA := Lib.hid fun (W : World) (hW : Below w.heap.size w W) => isBelow_any a n c ta f (by omega) W (Lib.hid (ha.out.below hW)) hl
  have kB := Lib.hid fun (W : World) (hW : Below w.heap.size w W) => isBelow_any b n' c' tb f (by omega) W (Lib.hid (hb.out.below hW)) hl'
  have x4 := Lib.hid (show BoxAt ((w.alloc (.cells #[.slice a n c] 24)).alloc (.cells #[.slice b n' c'] 24)) w.heap.size (.slice a n c) from .alloc _ (box_lit w _ _ _ rfl))
  have x5 := Lib.hid (show BoxAt ((w.alloc (.cells #[.slice a n c] 24)).alloc (.cells #[.slice b n' c'] 24)) (w.heap.size + 1) (.slice b n' c') from box_lit (w.alloc _) _ _ _ (by simp))
  cases hba : belU ta f
  · have hgo := Lib.hid fun W hW => hform.out W hW (hna.out hba)
    rw [hba] at kA
    clear hba
    go_enter Tryd.func24, Tryd.ntmps24
    go_wp2_with fail
    refine (kA.out _ hb2.out).mono ?_
    rintro e w1 ⟨rfl, hb1⟩
    have hW1 := Lib.hid (hb2.out.trans (hb1.mono hb2.out.size))
    clear hb1
    go_wp2_with fail
    go_ret2
    exact hgo.out _ hW1.out _ (by simp)
  cases hbb : belU tb f
  · have hgo := Lib.hid fun W hW => hform.out W hW (hnb.out hbb)
    rw [hba] at kA
    rw [hbb] at kB
    clear hba hbb
    go_enter Tryd.func24, Tryd.ntmps24
    go_wp2_with fail
    refine (kA.out _ hb2.out).mono ?_
    rintro e w1 ⟨rfl, hb1⟩
    have hW1 := Lib.hid (hb2.out.trans (hb1.mono hb2.out.size))
    obtain ⟨l5, y5⟩ := x5.out.below hb1
    clear hb1
    go_wp2_with fail
    refine (kB.out _ hW1.out).mono ?_
    rintro e w2 ⟨rfl, hb3⟩
    have hW2 := Lib.hid (hW1.out.trans (hb3.mono hW1.out.size))
    clear hb3 y5
    go_wp2_with fail
    go_ret2
    exact hgo.out _ hW2.out _ (by simp)
  have hok := hyes.out (by omega) hba hbb
  obtain ⟨hf, hva, hvb, hta, htb⟩ := unOk_of hok
  obtain ⟨m, hm⟩ : ∃ m, oneU m ⟨[], f⟩ (treeOf ta) (treeOf tb) = some r := by have := hr.out; unfold UnRes at this; rw [if_pos hok] at this; exact this
  have htoa := tyV_of hva
  have htob := tyV_of hvb
  obtain ⟨rfl, hA2⟩ := ha.out
  obtain ⟨ba, oa, rfl, hA4, hA5⟩ : ∃ b off, a = some ⟨b, off, none⟩ ∧ TySl w b off ta ∧ b < w.heap.size := by
    rcases hA2 with h0 | h0
    · rw [h0] at htoa; have := htoa.2.2.1; have := (treeOf ([] : List Ty)).sz_pos; simp at *; omega
    · exact h0
  obtain ⟨rfl, hB2⟩ := hb.out
  obtain ⟨bb, ob, rfl, hB4, hB5⟩ : ∃ k off, b = some ⟨k, off, none⟩ ∧ TySl w k off tb ∧ k < w.heap.size := by
    rcases hB2 with h0 | h0
    · rw [h0] at htob; have := htob.2.2.1; have := (treeOf ([] : List Ty)).sz_pos; simp at *; omega
    · exact h0
  have kOa := Lib.hid fun (W : World) (hW : Below w.heap.size w W) => shOf_tree ba oa c ta (treeOf ta) W (Lib.hid (hA4.below hW hA5)) (by have := hW.size; omega) hva htoa.1 htoa.2.2.2.2
  have kOb := Lib.hid fun (W : World) (hW : Below w.heap.size w W) => shOf_tree bb ob c' tb (treeOf tb) W (Lib.hid (hB4.below hW hB5)) (by have := hW.size; omega) hvb htob.1 htob.2.2.2.2
  have hza := htoa.2.2.2.1
  have hzb := htob.2.2.2.1
  generalize treeOf ta = TA at *
  generalize treeOf tb = TB at *
  rw [hba] at kA
  rw [hbb] at kB
  have hres := Lib.hid fun (st : US) (e : r = .ok st) => oneU_res m (empty_inv hf) hta htb (by rw [hm, e])
  have herr := Lib.hid fun (k : Nat) (e : r = .error k) => oneU_err m (by rw [hm, e])
  have kOn := Lib.hid fun (B : Nat) (s m1 m2 : Nat) (W : World) (gA gB : Nat) (hS : SetAt B W s (.slice none 0 0) m1 m2 [] ⟨[], f⟩) (hEE : SenB B a0 a1 a2 W) (h1 : Shp W TA gA) (h2 : Shp W TB gB) => one_any a0 a1 a2 B s m1 m2 m W (.slice none 0 0) [] ⟨[], f⟩ TA TB gA gB r hS (empty_inv hf) hEE hta htb hza hzb h1 h2 hm
  clear hba hbb hm htoa htob hA2 hB2 hA4 hB4 hform hno hna hnb hyes hva hvb hok hta htb hr
  unfold ptrS at *
  go_enter Tryd.func24, Tryd.ntmps24
  go_wp2_with fail
  refine (kA.out _ hb2.out).mono ?_
  rintro e w1 ⟨rfl, hb1⟩
  have hW1 := Lib.hid (hb2.out.trans (hb1.mono hb2.out.size))
  have x4' := Lib.hid (x4.out.below hb1)
  have x5' := Lib.hid (x5.out.below hb1)
  obtain ⟨l5, y5⟩ := x5'.out
  clear hb1 kA x4 x5
  go_wp2_with fail
  refine (kB.out _ hW1.out).mono ?_
  rintro e w2 ⟨rfl, hb3⟩
  have hW2 := Lib.hid (hW1.out.trans (hb3.mono hW1.out.size))
  have z4 := Lib.hid (x4'.out.below hb3)
  have z5 := Lib.hid (x5'.out.below hb3)
  clear hb3 y5 l5 kB x4' x5'
  go_wp2_with fail
  refine (new_any f w2 hf).mono ?_
  rintro e w3 ⟨s, m1, m2, rfl, hS3, hb4⟩
  have hW3 := Lib.hid (hW2.out.trans (hb4.mono hW2.out.size))
  obtain ⟨l4, y4⟩ := z4.out.below hb4
  obtain ⟨l5, y5⟩ := z5.out.below hb4
  have hl4 := Lib.hid z4.out.1
  have hl5 := Lib.hid z5.out.1
  have hE3 := Lib.hid (show SenB w2.heap.size a0 a1 a2 w3 from by
    obtain ⟨e1, e2, e3, e4, e5, e6, e7⟩ := hE.out.bel hW3.out
    have := hW2.out.size
    exact ⟨e1, by omega, by omega, by omega, by omega, by omega, by omega⟩)
  have hS3' := Lib.hid hS3
  have hst0 := Lib.hid (show w3.drew.cell? ⟨w.heap.size, 0, none⟩ = some (.slice (some ⟨ba, oa, none⟩) ta.length c) ∧ w3.drew.cell? ⟨w.heap.size + 1, 0, none⟩ = some (.slice (some ⟨bb, ob, none⟩) tb.length c') from ⟨y4, y5⟩)
  have kOa' := Lib.hid fun (W : World) (hW : Below w3.heap.size w3 W) => kOa.out W (hW3.out.trans (hW.mono hW3.out.size))
  have kOb' := Lib.hid fun (W : World) (hW : Below w3.heap.size w3 W) => kOb.out W (hW3.out.trans (hW.mono hW3.out.size))
  have kOne := Lib.hid fun (W : World) (gA gB : Nat) (hW : Below w3.heap.size w3 W) (h1 : Shp W TA gA) (h2 : Shp W TB gB) => kOn.out w2.heap.size s m1 m2 W gA gB (hS3'.out.keep hW) (hE3.out.bel (hW.mono (by have := hS3'.out.bs; have := hS3'.out.s_lt; omega))) h1 h2
  have hz0 := Lib.hid ((Below.refl w3.heap.size w3).drew)
  have hkeep := Lib.hid fun (W W' : World) (hW : Below w3.heap.size w3 W) (h : W.cell? ⟨w.heap.size, 0, none⟩ = some (.slice (some ⟨ba, oa, none⟩) ta.length c) ∧ W.cell? ⟨w.heap.size + 1, 0, none⟩ = some (.slice (some ⟨bb, ob, none⟩) tb.length c')) (hb : Bar (SetB s m1 m2 (.slice none 0 0)) W W') =>
    (show W'.cell? ⟨w.heap.size, 0, none⟩ = some (.slice (some ⟨ba, oa, none⟩) ta.length c) ∧ W'.cell? ⟨w.heap.size + 1, 0, none⟩ = some (.slice (some ⟨bb, ob, none⟩) tb.length c') from
      ⟨hb.cell h.1 (fun hk => by have h1 : w2.heap.size ≤ w.heap.size := (hS3'.out.low _ hk).1; have := hl4.out; omega), hb.cell h.2 (fun hk => by have h1 : w2.heap.size ≤ w.heap.size + 1 := (hS3'.out.low _ hk).1; have := hl5.out; omega)⟩)
  have hkeep2 := Lib.hid fun (W W' : World) (hz : w3.heap.size ≤ W.heap.size) (h : W.cell? ⟨w.heap.size, 0, none⟩ = some (.slice (some ⟨ba, oa, none⟩) ta.length c) ∧ W.cell? ⟨w.heap.size + 1, 0, none⟩ = some (.slice (some ⟨bb, ob, none⟩) tb.length c')) (hb : Below W.heap.size W W') =>
    (show W'.cell? ⟨w.heap.size, 0, none⟩ = some (.slice (some ⟨ba, oa, none⟩) ta.length c) ∧ W'.cell? ⟨w.heap.size + 1, 0, none⟩ = some (.slice (some ⟨bb, ob, none⟩) tb.length c') from
      ⟨carry hb (by omega) h.1, carry hb (by omega) h.2⟩)
  have nn := nil_neq
  clear hS3 hb4 kOa kOb kOn z4 z5
  go_upto_region 4 with fail
  go_cut [9, 34, 35, 36, 37, 38, 39] (fun s9 s34 s35 s36 s37 s38 s39 wx => SetPost a0 a1 a2 w2.heap.size w3 s m1 m2 (.slice none 0 0) r (.returned s9) wx)
  case first =>
    clear y4 y5
    go_region_held3 (fun W => W.cell? ⟨w.heap.size, 0, none⟩ = some (.slice (some ⟨ba, oa, none⟩) ta.length c) ∧ W.cell? ⟨w.heap.size + 1, 0, none⟩ = some (.slice (some ⟨bb, ob, none⟩) tb.length c'))
      (first | with_reducible exact hS1.out | with_reducible exact hSB.out | with_reducible exact hSA.out | with_reducible exact hst0.out)
      (first
        | (go_at_call 28; first
            | ((with_reducible refine (kOa'.out _ hz0.out).mono ?_); rintro e w4 ⟨gA, rfl, hsA, hbA⟩; have hBA := Lib.hid (hz0.out.trans (hbA.mono hz0.out.size)); have hSA := Lib.hid (hkeep2.out _ w4 hz0.out.size hst0.out hbA))
            | ((with_reducible refine (kOa'.out _ hBB.out).mono ?_); rintro e w4 ⟨gA, rfl, hsA, hbA⟩; have hBA := Lib.hid (hBB.out.trans (hbA.mono hBB.out.size)); have hSA := Lib.hid (hkeep2.out _ w4 hBB.out.size hSB.out hbA))
            | ((with_reducible refine (kOb'.out _ hz0.out).mono ?_); rintro e w5 ⟨gB, rfl, hsB, hbB⟩; have hBB := Lib.hid (hz0.out.trans (hbB.mono hz0.out.size)); have hSB := Lib.hid (hkeep2.out _ w5 hz0.out.size hst0.out hbB))
            | ((with_reducible refine (kOb'.out _ hBA.out).mono ?_); rintro e w5 ⟨gB, rfl, hsB, hbB⟩; have hBB := Lib.hid (hBA.out.trans (hbB.mono hBA.out.size)); have hSB := Lib.hid (hkeep2.out _ w5 hBA.out.size hSA.out hbB)))
        | (go_at_call 46; first
            | ((with_reducible refine (kOne.out w5 gA gB hBB.out (hsA.keep hbB) hsB).mono ?_); rintro e w6 hp; obtain ⟨v9, rfl⟩ := hp.ret; have hS1 := Lib.hid (hkeep.out w5 w6 hBB.out hSB.out hp.2); have hbase := Lib.hid hBB.out)
            | ((with_reducible refine (kOne.out w4 gA gB hBA.out hsA (hsB.keep hbA)).mono ?_); rintro e w6 hp; obtain ⟨v9, rfl⟩ := hp.ret; have hS1 := Lib.hid (hkeep.out w4 w6 hBA.out hSA.out hp.2); have hbase := Lib.hid hBA.out)))
    all_goals (go_wp2_with fail; go_meet)
    all_goals exact hp.trans (Bar.of_below hbase.out) fun _ _ e => e
  case rest =>
    rename World => W4
    have hbW := Lib.hid (hW3.out.trans ((hS3'.out.bel hcut.2).mono hW2.out.size))
    cases r with
    | error k =>
      obtain ⟨⟨v9, d9, e9, hD⟩, _⟩ := hcut
      injection e9 with e9
      subst e9
      obtain ⟨t9, x9, rfl⟩ := hD.iface
      have hk := herr.out k rfl
      have hfin := Lib.hid (unifyP_err (w := w) (by omega) (by omega) hD hbW.out)
      have hne := ifc_neq t9 x9
      clear hD y4 y5
      go_wp2_with fail
      go_ret2
      exact hfin.out
    | ok st =>
      have hinv := Lib.hid (hres.out st rfl).inv
      obtain ⟨rfl, mv1, gs1, hw1⟩ := Went.of (st := st) hcut
      have kM := Lib.hid (made_any w2.heap.size W4 s mv1 m1 m2 gs1 st (Lib.hid hw1.at_) hinv)
      clear hcut hw1 y4 y5
      unfold ptrS at kM
      go_wp2_with fail
      refine kM.out.mono ?_
      rintro e w7 ⟨v7, xs, rfl, hM, hL, hb7⟩
      have hM' := Lib.hid (hM.le hbW.out.size)
      have hL' := Lib.hid hL
      have hB7 := Lib.hid (hbW.out.trans (hb7.mono hbW.out.size))
      clear hM hL hb7
      go_wp2_with fail
      go_ret2
      exact ⟨⟨v7, xs, rfl, hM'.out, hL'.out⟩, hB7.out⟩
end Go.Proofs.YtfkdcconmecaoaaDoor

/- unify.Unify. -/
namespace Go.Proofs.YtfkdcconmecaoaaDoor
open Go.RowKit
set_option linter.unusedVariables false
set_option linter.unusedSimpArgs false

theorem ech_ref {a0 a1 a2 : Addr} {k d g : Nat} {v : Value} {w : World} (hg : w.heap[g]? = some (.cells #[v] 94 (0, 0))) (h : ECh w (lastV a0 a1 a2 k) d v) : ECh w (lastV a0 a1 a2 k) (d + 1) (.iface 92 (.pointer (some ⟨g, 0, none⟩))) := by
  have hv : ∃ t x, v = .iface t x := by
    unfold lastV at h
    by_cases hk : k = 0
    · rw [if_pos hk] at h; exact h.ifc
    · rw [if_neg hk] at h; exact h.ifc
  exact ⟨_, _, g, v, rfl, wrapR, by decide, by decide, .inr ⟨rfl, hg⟩, hv, h⟩
def UniO (w : World) (r : Except Nat US) (e : Ending) (w' : World) : Prop :=
  (match r with
    | .error k => e = .returned (.tuple #[.slice none 0 0, .int .i64 (1000 + k : Nat)]) ∧ k ≤ 3
    | .ok st => ∃ v xs, e = .returned (.tuple #[v, .int .i64 0]) ∧ MadeIs w.heap.size w' v xs ∧ BnL xs st.made) ∧ Below w.heap.size w w'
set_option maxRecDepth 100000 in
set_option maxHeartbeats 8000000 in
theorem unify_go (a0 a1 a2 : Addr) (a b : Option Addr) (n c n' c' : Nat) (ta tb : List Ty) (f : Int) (hfb : -9223372036854775808 ≤ f ∧ f ≤ 9223372036854775807) (w : World) (ha : Hid (TyArg w a n ta)) (hb : Hid (TyArg w b n' tb)) (hl : n ≤ 140737488351232) (hl' : n' ≤ 140737488351232) (hE : Hid (SenB w.heap.size a0 a1 a2 w)) (r : Except Nat US) (hr : Hid (UnRes f ta tb r)) :
    Calls Tryd.prog 10 #[.agg #[.slice a n c], .agg #[.slice b n' c'], .int .i64 f] w (UniO w r) := by
  have hb2 := Lib.hid (below_alc2 w (.cells #[.slice a n c] 24) (.cells #[.slice b n' c'] 24))
  have hE2 := Lib.hid (show SenB ((w.alloc (.cells #[.slice a n c] 24)).alloc (.cells #[.slice b n' c'] 24)).heap.size a0 a1 a2 ((w.alloc (.cells #[.slice a n c] 24)).alloc (.cells #[.slice b n' c'] 24)) from by
    obtain ⟨e1, e2, e3, e4, e5, e6, e7⟩ := hE.out.bel hb2.out
    have := hb2.out.size
    exact ⟨e1, by omega, by omega, by omega, by omega, by omega, by omega⟩)
  have kU := Lib.hid (un_any a0 a1 a2 a b n c n' c' ta tb f hfb _ (Lib.hid (ha.out.below hb2.out)) (Lib.hid (hb.out.below hb2.out)) hl hl' hE2 r hr)
  have hSen := Lib.hid fun (W : World) (hW : Below w.heap.size w W) => (hE.out.bel hW).sen
  clear hE2 hr
  go_enter Tryd.func10, Tryd.ntmps10
  go_wp2_with fail
  refine kU.out.mono ?_
  rintro e w1 ⟨hp, hb1⟩
  have hB := Lib.hid (hb2.out.trans (hb1.mono hb2.out.size))
  have hs := hSen.out w1 hB.out
  have c0 := hs.c0; have c1 := hs.c1; have c2 := hs.c2
  have hs' := Lib.hid hs
  clear hs kU hb1
  cases r with
  | error k =>
    obtain ⟨g, d, v, rfl, hg, hC, hk⟩ := hp
    have hch := Lib.hid (ech_ref hg hC)
    clear hg hC
    have k0 := Lib.hid (is_form hch)
    have k1 := Lib.hid (is_sen hch hs' hk 1 (by omega))
    have k2 := Lib.hid (is_sen hch hs' hk 2 (by omega))
    have k3 := Lib.hid (is_sen hch hs' hk 3 (by omega))
    rw [errN1] at k1
    rw [errN2] at k2
    rw [errN3] at k3
    have hk4 : k = 0 ∨ k = 1 ∨ k = 2 ∨ k = 3 := by omega
    rcases hk4 with rfl | rfl | rfl | rfl
    · go_wp2_with fail
      refine k0.out.mono ?_
      rintro e w2 ⟨rfl, rfl⟩
      go_wp2_with fail
      go_ret2
      exact ⟨⟨rfl, by omega⟩, hB.out⟩
    · go_wp2_with fail
      refine k0.out.mono ?_
      rintro e w2 ⟨rfl, rfl⟩
      go_wp2_with fail
      refine k2.out.mono ?_
      rintro e w2 ⟨rfl, rfl⟩
      go_wp2_with fail
      refine k1.out.mono ?_
      rintro e w2 ⟨rfl, rfl⟩
      go_wp2_with fail
      go_ret2
      exact ⟨⟨rfl, by omega⟩, hB.out⟩
    · go_wp2_with fail
      refine k0.out.mono ?_
      rintro e w2 ⟨rfl, rfl⟩
      go_wp2_with fail
      refine k2.out.mono ?_
      rintro e w2 ⟨rfl, rfl⟩
      go_wp2_with fail
      go_ret2
      exact ⟨⟨rfl, by omega⟩, hB.out⟩
    · go_wp2_with fail
      refine k0.out.mono ?_
      rintro e w2 ⟨rfl, rfl⟩
      go_wp2_with fail
      refine k2.out.mono ?_
      rintro e w2 ⟨rfl, rfl⟩
      go_wp2_with fail
      refine k1.out.mono ?_
      rintro e w2 ⟨rfl, rfl⟩
      go_wp2_with fail
      refine k3.out.mono ?_
      rintro e w2 ⟨rfl, rfl⟩
      go_wp2_with fail
      go_ret2
      exact ⟨⟨rfl, by omega⟩, hB.out⟩
  | ok st =>
    obtain ⟨v, xs, rfl, hM, hL⟩ := hp
    have hM' := Lib.hid (hM.le (B := w.heap.size) hb2.out.size)
    have hL' := Lib.hid hL
    have kN := Lib.hid fun (tt : TypeId) (tv : Value) => is_nilU tt tv w1
    have kN2 := Lib.hid fun (x : Addr) => is_nilU 211 (.pointer (some x)) w1
    clear hM hL
    unfold errV at *
    go_wp2_with fail
    refine (kN.out _ _).mono ?_
    rintro e w2 ⟨rfl, rfl⟩
    go_wp2_with fail
    refine (kN2.out _).mono ?_
    rintro e w2 ⟨rfl, rfl⟩
    go_wp2_with fail
    refine (kN2.out _).mono ?_
    rintro e w2 ⟨rfl, rfl⟩
    go_wp2_with fail
    refine (kN2.out _).mono ?_
    rintro e w2 ⟨rfl, rfl⟩
    go_wp2_with fail
    go_ret2
    exact ⟨⟨v, xs, rfl, hM'.out, hL'.out⟩, hB.out⟩
end Go.Proofs.YtfkdcconmecaoaaDoor
