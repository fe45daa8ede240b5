/- A node written over another; where a name is added to those that are bound. -/
import Derived.Test.YtfajbkpeioejoaaGreatDoorScD
import Derived.Test.YtfajbkpeioejoaaGreatDoorRgT
/- A node written over another; where a name is added to those that are bound. -/
namespace Go.Proofs.YtfajbkpeioejoaaGreatDoor
open Go.RowKit
set_option linter.unusedVariables false
set_option linter.unusedSimpArgs false

def st10 (W : World) (g o : Nat) (t : Nd) : World := ((((((((((W.setCell ⟨g, o, none⟩ (.int .i64 t.k)).setCell ⟨g, o + 1, none⟩ (.int .i64 t.a)).setCell ⟨g, o + 2, none⟩ (.int .i64 t.b)).setCell ⟨g, o + 3, none⟩ (.int .i64 t.c)).setCell ⟨g, o + 4, none⟩ (.int .i64 t.n)).setCell ⟨g, o + 5, none⟩ (.string t.nm)).setCell ⟨g, o + 6, none⟩ (.string t.x)).setCell ⟨g, o + 7, none⟩ (.string t.y)).setCell ⟨g, o + 8, none⟩ (.string t.z)).setCell ⟨g, o + 9, none⟩ (.int .i64 t.p))
theorem st10_at {W : World} {g o : Nat} {t u : Nd} (h : W.cell? ⟨g, o, none⟩ = some (.int .i64 u.k) ∧ W.cell? ⟨g, o + 1, none⟩ = some (.int .i64 u.a) ∧ W.cell? ⟨g, o + 2, none⟩ = some (.int .i64 u.b) ∧ W.cell? ⟨g, o + 3, none⟩ = some (.int .i64 u.c) ∧ W.cell? ⟨g, o + 4, none⟩ = some (.int .i64 u.n) ∧ W.cell? ⟨g, o + 5, none⟩ = some (.string u.nm) ∧ W.cell? ⟨g, o + 6, none⟩ = some (.string u.x) ∧ W.cell? ⟨g, o + 7, none⟩ = some (.string u.y) ∧ W.cell? ⟨g, o + 8, none⟩ = some (.string u.z) ∧ W.cell? ⟨g, o + 9, none⟩ = some (.int .i64 u.p)) : (st10 W g o t).cell? ⟨g, o, none⟩ = some (.int .i64 t.k) ∧ (st10 W g o t).cell? ⟨g, o + 1, none⟩ = some (.int .i64 t.a) ∧ (st10 W g o t).cell? ⟨g, o + 2, none⟩ = some (.int .i64 t.b) ∧ (st10 W g o t).cell? ⟨g, o + 3, none⟩ = some (.int .i64 t.c) ∧ (st10 W g o t).cell? ⟨g, o + 4, none⟩ = some (.int .i64 t.n) ∧ (st10 W g o t).cell? ⟨g, o + 5, none⟩ = some (.string t.nm) ∧ (st10 W g o t).cell? ⟨g, o + 6, none⟩ = some (.string t.x) ∧ (st10 W g o t).cell? ⟨g, o + 7, none⟩ = some (.string t.y) ∧ (st10 W g o t).cell? ⟨g, o + 8, none⟩ = some (.string t.z) ∧ (st10 W g o t).cell? ⟨g, o + 9, none⟩ = some (.int .i64 t.p) := by
  obtain ⟨h0, h1, h2, h3, h4, h5, h6, h7, h8, h9⟩ := h
  unfold st10
  have ne : ∀ a b : Nat, a ≠ b → (⟨g, a, none⟩ : Addr) ≠ ⟨g, b, none⟩ := fun a b hab e => by injection e with _ e2 _; exact hab e2
  refine ⟨?_, ?_, ?_, ?_, ?_, ?_, ?_, ?_, ?_, ?_⟩
  · exact (setO (setO (setO (setO (setO (setO (setO (setO (setO (setS h0) (ne _ _ (by omega))) (ne _ _ (by omega))) (ne _ _ (by omega))) (ne _ _ (by omega))) (ne _ _ (by omega))) (ne _ _ (by omega))) (ne _ _ (by omega))) (ne _ _ (by omega))) (ne _ _ (by omega)))
  · exact (setO (setO (setO (setO (setO (setO (setO (setO (setS (setO h1 (ne _ _ (by omega)))) (ne _ _ (by omega))) (ne _ _ (by omega))) (ne _ _ (by omega))) (ne _ _ (by omega))) (ne _ _ (by omega))) (ne _ _ (by omega))) (ne _ _ (by omega))) (ne _ _ (by omega)))
  · exact (setO (setO (setO (setO (setO (setO (setO (setS (setO (setO h2 (ne _ _ (by omega))) (ne _ _ (by omega)))) (ne _ _ (by omega))) (ne _ _ (by omega))) (ne _ _ (by omega))) (ne _ _ (by omega))) (ne _ _ (by omega))) (ne _ _ (by omega))) (ne _ _ (by omega)))
  · exact (setO (setO (setO (setO (setO (setO (setS (setO (setO (setO h3 (ne _ _ (by omega))) (ne _ _ (by omega))) (ne _ _ (by omega)))) (ne _ _ (by omega))) (ne _ _ (by omega))) (ne _ _ (by omega))) (ne _ _ (by omega))) (ne _ _ (by omega))) (ne _ _ (by omega)))
  · exact (setO (setO (setO (setO (setO (setS (setO (setO (setO (setO h4 (ne _ _ (by omega))) (ne _ _ (by omega))) (ne _ _ (by omega))) (ne _ _ (by omega)))) (ne _ _ (by omega))) (ne _ _ (by omega))) (ne _ _ (by omega))) (ne _ _ (by omega))) (ne _ _ (by omega)))
  · exact (setO (setO (setO (setO (setS (setO (setO (setO (setO (setO h5 (ne _ _ (by omega))) (ne _ _ (by omega))) (ne _ _ (by omega))) (ne _ _ (by omega))) (ne _ _ (by omega)))) (ne _ _ (by omega))) (ne _ _ (by omega))) (ne _ _ (by omega))) (ne _ _ (by omega)))
  · exact (setO (setO (setO (setS (setO (setO (setO (setO (setO (setO h6 (ne _ _ (by omega))) (ne _ _ (by omega))) (ne _ _ (by omega))) (ne _ _ (by omega))) (ne _ _ (by omega))) (ne _ _ (by omega)))) (ne _ _ (by omega))) (ne _ _ (by omega))) (ne _ _ (by omega)))
  · exact (setO (setO (setS (setO (setO (setO (setO (setO (setO (setO h7 (ne _ _ (by omega))) (ne _ _ (by omega))) (ne _ _ (by omega))) (ne _ _ (by omega))) (ne _ _ (by omega))) (ne _ _ (by omega))) (ne _ _ (by omega)))) (ne _ _ (by omega))) (ne _ _ (by omega)))
  · exact (setO (setS (setO (setO (setO (setO (setO (setO (setO (setO h8 (ne _ _ (by omega))) (ne _ _ (by omega))) (ne _ _ (by omega))) (ne _ _ (by omega))) (ne _ _ (by omega))) (ne _ _ (by omega))) (ne _ _ (by omega))) (ne _ _ (by omega)))) (ne _ _ (by omega)))
  · exact (setS (setO (setO (setO (setO (setO (setO (setO (setO (setO h9 (ne _ _ (by omega))) (ne _ _ (by omega))) (ne _ _ (by omega))) (ne _ _ (by omega))) (ne _ _ (by omega))) (ne _ _ (by omega))) (ne _ _ (by omega))) (ne _ _ (by omega))) (ne _ _ (by omega))))
theorem st10_else {W : World} {g o : Nat} {t : Nd} {q : Addr} {v : Value} (h : W.cell? q = some v) (hq : ∀ k, k < 10 → q ≠ ⟨g, o + k, none⟩) : (st10 W g o t).cell? q = some v := by
  unfold st10
  exact (setO (setO (setO (setO (setO (setO (setO (setO (setO (setO h (Ne.symm (hq 0 (by omega)))) (Ne.symm (hq 1 (by omega)))) (Ne.symm (hq 2 (by omega)))) (Ne.symm (hq 3 (by omega)))) (Ne.symm (hq 4 (by omega)))) (Ne.symm (hq 5 (by omega)))) (Ne.symm (hq 6 (by omega)))) (Ne.symm (hq 7 (by omega)))) (Ne.symm (hq 8 (by omega)))) (Ne.symm (hq 9 (by omega))))
theorem st10_sl {W : World} {g i : Nat} {t : Nd} {l : List Nd} (h : NdSl W g 0 l) (hi : i < l.length) : NdSl (st10 W g (i * 10) t) g 0 (l.set i t) := by
  intro m hm
  rw [List.length_set] at hm
  have hx := h m hm
  unfold NdAt at hx ⊢
  simp only [Nat.zero_add] at hx ⊢
  by_cases hmi : m = i
  · subst hmi
    rw [List.getD_eq_getElem?_getD, List.getElem?_set_self hm]
    exact st10_at hx
  · rw [List.getD_eq_getElem?_getD, List.getElem?_set_ne (Ne.symm hmi), ← List.getD_eq_getElem?_getD]
    have ne : ∀ f, f < 10 → ∀ k, k < 10 → (⟨g, m * 10 + f, none⟩ : Addr) ≠ ⟨g, i * 10 + k, none⟩ := fun f hf k hk e => by injection e with _ e2 _; omega
    obtain ⟨h0, h1, h2, h3, h4, h5, h6, h7, h8, h9⟩ := hx
    exact ⟨st10_else h0 (ne 0 (by omega)), st10_else h1 (ne 1 (by omega)), st10_else h2 (ne 2 (by omega)), st10_else h3 (ne 3 (by omega)), st10_else h4 (ne 4 (by omega)), st10_else h5 (ne 5 (by omega)), st10_else h6 (ne 6 (by omega)), st10_else h7 (ne 7 (by omega)), st10_else h8 (ne 8 (by omega)), st10_else h9 (ne 9 (by omega))⟩
theorem st10_rest (W : World) (g o : Nat) (t : Nd) : (∀ q, (st10 W g o t).frozen? q = W.frozen? q) ∧ (st10 W g o t).heap.size = W.heap.size ∧ Bar (fun k => k = g) W (st10 W g o t) := by
  unfold st10
  refine ⟨fun q => by simp only [World.frozen?_setCell], by simp, ?_⟩
  have s : ∀ (V : World) (p : Nat) (u : Value), Bar (fun k => k = g) V (V.setCell ⟨g, p, none⟩ u) := fun V p u => Bar.set ⟨g, p, none⟩ u rfl
  exact ((((((((((s W o _).trans (s _ _ _) fun _ _ h => h).trans (s _ _ _) fun _ _ h => h).trans (s _ _ _) fun _ _ h => h).trans (s _ _ _) fun _ _ h => h).trans (s _ _ _) fun _ _ h => h).trans (s _ _ _) fun _ _ h => h).trans (s _ _ _) fun _ _ h => h).trans (s _ _ _) fun _ _ h => h).trans (s _ _ _) fun _ _ h => h)
theorem wp_st {o : Oper} {a : Act} {K : Act → World → Prop} {Q : Exit → Act → World → Prop} (s x : Operand) (W : World) (B : Nat) (hB : B ≤ W.heap.size) (v : Value) (l : List ByteArray)
    (ho : o.op = .call { callee := .builtin .append, args := #[s, x], argTypes := #[74, 74] })
    (hs : a.eval s = v) (ad : Option Addr) (m c : Nat) (ys : List ByteArray) (hx : a.eval x = .slice ad m c) (hxs : StArg W ad m ys) (hn : ad = none → c = 0) (hown : OwnS B W v l) (hlen : l.length + ys.length ≤ 1000000)
    (h : ∀ v' w', OwnS B w' v' (l ++ ys) → OwnS B w' v l → Bar (fun k => v.ownBlock = some k) W w' → Goes v l.length v' → (∀ g, v'.ownBlock = some g → v.ownBlock = some g ∨ W.heap.size ≤ g) → K (a.put o.dst v') w') :
    o.wp Tryz.prog a W K Q := by
  obtain ⟨v', w', hr, h1, h2, h3, h4, h5⟩ := run_appS B hB o.type v l hown ad m c ys hxs hn hlen
  unfold Oper.wp execOp
  simp only [ho, resolve, invoke, builtin, Sem.run_bind, Sem.run_pure, Result.andThen_ok, List.map_toArray, List.map_cons, List.map_nil, hs, hx, hr]
  exact h v' w' h1 h2 h3 h4 h5
end Go.Proofs.YtfajbkpeioejoaaGreatDoor

/- The program's walk over a tree: (*resolver).resolve. -/
namespace Go.Proofs.YtfajbkpeioejoaaGreatDoor
open Go.RowKit
set_option linter.unusedVariables false
set_option linter.unusedSimpArgs false

theorem kidsRun_app (rec : List Nd → Nat → List ByteArray → Except (Int × Int) (List Nd)) (bd : List ByteArray) (l' : List (Int × List ByteArray)) : ∀ (l : List (Int × List ByteArray)) (st : List Nd), kidsRun rec st (l ++ l') bd = match kidsRun rec st l bd with
    | .error e => .error e
    | .ok st' => kidsRun rec st' l' bd
  | [], st => rfl
  | (c, bs) :: l, st => by
    show (match rec st c.toNat (bd ++ bs) with | .error e => Except.error e | .ok st' => kidsRun rec st' (l ++ l') bd) = _
    cases h : rec st c.toNat (bd ++ bs) with
    | error e => simp only [kidsRun, h]
    | ok s => simp only [kidsRun, h]; exact kidsRun_app rec bd l' l s
theorem kidsRun_step (rec : List Nd → Nat → List ByteArray → Except (Int × Int) (List Nd)) (bd : List ByteArray) (l : List (Int × List ByteArray)) (st st1 : List Nd) {i : Nat} (hi : i < l.length) (h : kidsRun rec st (l.take i) bd = .ok st1) :
    kidsRun rec st (l.take (i + 1)) bd = rec st1 (l.getD i (0, [])).1.toNat (bd ++ (l.getD i (0, [])).2) := by
  have e : l.getD i (0, []) = l[i] := by rw [List.getD_eq_getElem?_getD, List.getElem?_eq_getElem hi]; rfl
  rw [List.take_succ_eq_append_getElem hi, kidsRun_app, h, e]
  show (match rec st1 l[i].1.toNat (bd ++ l[i].2) with | .error e => Except.error e | .ok st' => .ok st') = _
  cases rec st1 l[i].1.toNat (bd ++ l[i].2) <;> rfl
theorem kidsRun_err (rec : List Nd → Nat → List ByteArray → Except (Int × Int) (List Nd)) (bd : List ByteArray) (l : List (Int × List ByteArray)) (st : List Nd) {i : Nat} {e : Int × Int} (h : kidsRun rec st (l.take i) bd = .error e) : kidsRun rec st l bd = .error e := by
  have := kidsRun_app rec bd (l.drop i) (l.take i) st
  rw [List.take_append_drop, h] at this
  exact this
theorem resS_err {ops bd : List ByteArray} {f at_ : Nat} {st : List Nd} {c : Int} (h : meanV ops bd (st.getD at_ nd0) = .error c) : resS ops (f + 1) st at_ bd = .error (c, (st.getD at_ nd0).p) := by
  simp only [resS, h]
theorem resS_kid {ops bd : List ByteArray} {f at_ : Nat} {st : List Nd} {m : Int} {e : Int × Int} (h : meanV ops bd (st.getD at_ nd0) = .ok m) (hk : kidsRun (resS ops f) st (kidsS (st.getD at_ nd0)) bd = .error e) : resS ops (f + 1) st at_ bd = .error e := by
  simp only [resS, h, hk]
theorem resS_ok {ops bd : List ByteArray} {f at_ : Nat} {st st' : List Nd} {m : Int} (h : meanV ops bd (st.getD at_ nd0) = .ok m) (hk : kidsRun (resS ops f) st (kidsS (st.getD at_ nd0)) bd = .ok st') : resS ops (f + 1) st at_ bd = .ok (st'.set at_ (bare (st.getD at_ nd0) m)) := by
  simp only [resS, h, hk]
theorem Same.set {st st' : List Nd} (h : Same st st') {at_ : Nat} (m : Int) : Same st (st'.set at_ (bare (st.getD at_ nd0) m)) := by
  refine ⟨by rw [List.length_set]; exact h.len, fun i => ?_⟩
  by_cases e : i = at_
  · subst e
    by_cases hl : i < st'.length
    · rw [List.getD_eq_getElem?_getD, List.getElem?_set_self hl, Option.getD_some, kidsS_bare]
    · rw [List.set_eq_of_length_le (by omega)]; exact h.shape i
  · rw [List.getD_eq_getElem?_getD, List.getElem?_set_ne (Ne.symm e), ← List.getD_eq_getElem?_getD]; exact h.shape i
/-- the resolver in memory, its nodes and its operations' places. -/
structure RsW (B N M R cp : Nat) (ops : List ByteArray) (w : World) (st : List Nd) : Prop where
  rN : w.cell? ⟨R, 0, none⟩ = some (.slice (some ⟨N, 0, none⟩) st.length cp)
  rM : w.cell? ⟨R, 1, none⟩ = some (.map (some M))
  rl : R < w.heap.size
  nd : NdSl w N 0 st
  nl : N < w.heap.size
  fz : ∀ o, w.frozen? ⟨N, o, none⟩ = false
  mp : OpMap w M ops
  sz : ∀ i, i < st.length → (st.getD i nd0).nm.size ≤ 1125899906842624
  bB : B ≤ w.heap.size
theorem NdSl.bar {S : Nat → Prop} {w w' : World} {b off : Nat} {ts : List Nd} (h : NdSl w b off ts) (hb : Bar S w w') (hn : ¬ S b) : NdSl w' b off ts := by
  intro i hi
  obtain ⟨h0, h1, h2, h3, h4, h5, h6, h7, h8, h9⟩ := h i hi
  exact ⟨hb.cell h0 hn, hb.cell h1 hn, hb.cell h2 hn, hb.cell h3 hn, hb.cell h4 hn, hb.cell h5 hn, hb.cell h6 hn, hb.cell h7 hn, hb.cell h8 hn, hb.cell h9 hn⟩
theorem RsW.bar {S : Nat → Prop} {B N M R cp : Nat} {ops : List ByteArray} {w w' : World} {st : List Nd} (h : RsW B N M R cp ops w st) (hb : Bar S w w') (hn : ¬ S N ∧ ¬ S M ∧ ¬ S R) : RsW B N M R cp ops w' st :=
  ⟨hb.cell h.rN hn.2.2, hb.cell h.rM hn.2.2, by have := hb.size; have := h.rl; omega, h.nd.bar hb hn.1, by have := hb.size; have := h.nl; omega, fun o => by rw [hb.frozen (a := ⟨N, o, none⟩) h.nl hn.1]; exact h.fz o, h.mp.bar hb hn.2.1, h.sz, by have := hb.size; have := h.bB; omega⟩
theorem RsW.below {B N M R cp : Nat} {ops : List ByteArray} {w w' : World} {st : List Nd} (h : RsW B N M R cp ops w st) (hb : Below w.heap.size w w') : RsW B N M R cp ops w' st := h.bar (Bar.of_below (S := fun _ => False) hb) ⟨id, id, id⟩
theorem OwnS.bar {S : Nat → Prop} {B : Nat} {w w' : World} {v : Value} {l : List ByteArray} (h : OwnS B w v l) (hb : Bar S w w') (hn : ∀ k, v.ownBlock = some k → ¬ S k) : OwnS B w' v l := Bar.own hb h hn
theorem OwnS.below {B : Nat} {w w' : World} {v : Value} {l : List ByteArray} (h : OwnS B w v l) (hb : Below w.heap.size w w') : OwnS B w' v l := h.bar (Bar.of_below (S := fun _ => False) hb) fun _ _ => id
/-- a node in a block of its own. -/
def Nd10 (W : World) (g : Nat) (t : Nd) : Prop := g < W.heap.size ∧ W.cell? ⟨g, 0, none⟩ = some (.int .i64 t.k) ∧ W.cell? ⟨g, 1, none⟩ = some (.int .i64 t.a) ∧ W.cell? ⟨g, 2, none⟩ = some (.int .i64 t.b) ∧ W.cell? ⟨g, 3, none⟩ = some (.int .i64 t.c) ∧ W.cell? ⟨g, 4, none⟩ = some (.int .i64 t.n) ∧ W.cell? ⟨g, 5, none⟩ = some (.string t.nm) ∧ W.cell? ⟨g, 6, none⟩ = some (.string t.x) ∧ W.cell? ⟨g, 7, none⟩ = some (.string t.y) ∧ W.cell? ⟨g, 8, none⟩ = some (.string t.z) ∧ W.cell? ⟨g, 9, none⟩ = some (.int .i64 t.p) ∧ ∀ o, W.frozen? ⟨g, o, none⟩ = false
theorem nd10_lit (W : World) (arr : Array Value) (T : TypeId) (g : Nat) (t : Nd) (hg : g = W.heap.size) (h : arr.toList = ndL1 t) : Nd10 (W.alloc (.cells arr T)) g t := by
  subst hg
  refine ⟨by simp, ?_, ?_, ?_, ?_, ?_, ?_, ?_, ?_, ?_, ?_, fun o => by simp [go_sem]⟩ <;> (rw [World.cell?_alloc_at _ _ _ _ rfl, ← Array.getElem?_toList, h]; rfl)
theorem Nd10.bar {S : Nat → Prop} {W W' : World} {g : Nat} {t : Nd} (h : Nd10 W g t) (hb : Bar S W W') (hn : ¬ S g) : Nd10 W' g t := by
  obtain ⟨hl, h0, h1, h2, h3, h4, h5, h6, h7, h8, h9, hf⟩ := h
  exact ⟨by have := hb.size; omega, hb.cell h0 hn, hb.cell h1 hn, hb.cell h2 hn, hb.cell h3 hn, hb.cell h4 hn, hb.cell h5 hn, hb.cell h6 hn, hb.cell h7 hn, hb.cell h8 hn, hb.cell h9 hn, fun o => by rw [hb.frozen (a := ⟨g, o, none⟩) hl hn]; exact hf o⟩
theorem Nd10.below {W W' : World} {g : Nat} {t : Nd} (h : Nd10 W g t) (hb : Below W.heap.size W W') : Nd10 W' g t := h.bar (Bar.of_below (S := fun _ => False) hb) id
/-- what a walk over a part leaves. -/
def RsPost (B N M R cp : Nat) (ops : List ByteArray) (v : Value) (bd : List ByteArray) (r : Except (Int × Int) (List Nd)) (st : List Nd) (w : World) (e : Ending) (w' : World) : Prop :=
  ∃ st' rv, e = .returned rv ∧ RsW B N M R cp ops w' st' ∧ Same st st' ∧ OwnS B w' v bd ∧ Bar (fun k => k = N ∨ v.ownBlock = some k) w w' ∧
    match r with
    | .ok s => st' = s ∧ rv = .nilIface
    | .error e => ∃ g nm, rv = .iface 48 (.pointer (some ⟨g, 0, none⟩)) ∧ w'.heap[g]? = some (.cells #[.string nm, .int .i64 e.2, .iface 27 (.int .i64 e.1)] 53 (0, 0))
/-- between two children. -/
structure RsL (B N M R cp : Nat) (ops : List ByteArray) (w : World) (v : Value) (bd : List ByteArray) (gb B1 : Nat) (t : Nd) (kv : Value) (kids : List (Int × List ByteArray)) (st st' : List Nd) (wr : World) : Prop where
  rs : RsW B N M R cp ops wr st'
  sm : Same st st'
  own : OwnS B wr v bd
  bar : Bar (fun k => k = N ∨ v.ownBlock = some k) w wr
  bx : Nd10 wr gb t
  kd : KidsAt B1 wr kv kids
theorem RsL.next {B N M R cp : Nat} {ops : List ByteArray} {w : World} {v : Value} {bd : List ByteArray} {gb B1 : Nat} {t : Nd} {kv : Value} {kids : List (Int × List ByteArray)} {st st1 st2 : List Nd} {wr w2 : World} (h : RsL B N M R cp ops w v bd gb B1 t kv kids st st1 wr)
    (hN : N < w.heap.size) (hv : ∀ k, v.ownBlock = some k → k < w.heap.size) (hg : w.heap.size ≤ gb) (hB1 : w.heap.size ≤ B1) (h1 : RsW B N M R cp ops w2 st2) (h2 : Same st1 st2) (h3 : OwnS B w2 v bd) (h4 : Bar (fun k => k = N ∨ v.ownBlock = some k) wr w2) :
    RsL B N M R cp ops w v bd gb B1 t kv kids st st2 w2 :=
  ⟨h1, h.sm.trans h2, h3, h.bar.trans h4 fun _ _ h => h, h.bx.bar h4 (fun hs => by
    rcases hs with e | e
    · omega
    · have := hv _ e; omega), h.kd.bar h4 (fun k hk _ hs => by
    rcases hs with e | e
    · omega
    · have := hv _ e; omega)⟩
theorem RsL.below {B N M R cp : Nat} {ops : List ByteArray} {w : World} {v : Value} {bd : List ByteArray} {gb B1 : Nat} {t : Nd} {kv : Value} {kids : List (Int × List ByteArray)} {st st1 : List Nd} {wr w2 : World} (h : RsL B N M R cp ops w v bd gb B1 t kv kids st st1 wr) (hb : Below wr.heap.size wr w2) :
    RsL B N M R cp ops w v bd gb B1 t kv kids st st1 w2 :=
  ⟨h.rs.below hb, h.sm, h.own.below hb, h.bar.next hb, h.bx.below hb, h.kd.bar (Bar.of_below (S := fun _ => False) hb) (fun _ _ _ => id)⟩
theorem kidsS_two (t : Nd) : ∀ c ∈ kidsS t, c.2.length ≤ 2 := by
  intro c hc
  unfold kidsS at hc
  (repeat' split at hc) <;> simp only [List.mem_cons, List.not_mem_nil, or_false] at hc <;> first | (exact absurd hc id) | (rcases hc with rfl | rfl | rfl <;> simp) | (rcases hc with rfl | rfl <;> simp) | (subst hc; simp)
theorem Bar.mono {S S' : Nat → Prop} {w w' : World} (h : Bar S w w') (hs : ∀ k, S k → S' k) : Bar S' w w' := ⟨h.os, h.tape, h.output, h.size, fun k hk hn => h.block k hk (fun hc => hn (hs k hc))⟩
theorem alloc_last (w : World) (o : Obj) : (w.alloc o).heap[w.heap.size]? = some o := by
  show (w.heap.push o)[w.heap.size]? = _
  simp
theorem nd10_bare {W : World} {g : Nat} {t : Nd} (h : Nd10 W g t) (m : Int) : Nd10 (((((W.setCell ⟨g, 4, none⟩ (.int .i64 m)).setCell ⟨g, 5, none⟩ (.string ⟨#[]⟩)).setCell ⟨g, 6, none⟩ (.string ⟨#[]⟩)).setCell ⟨g, 7, none⟩ (.string ⟨#[]⟩)).setCell ⟨g, 8, none⟩ (.string ⟨#[]⟩)) g (bare t m) ∧ Bar (fun k => k = g) W (((((W.setCell ⟨g, 4, none⟩ (.int .i64 m)).setCell ⟨g, 5, none⟩ (.string ⟨#[]⟩)).setCell ⟨g, 6, none⟩ (.string ⟨#[]⟩)).setCell ⟨g, 7, none⟩ (.string ⟨#[]⟩)).setCell ⟨g, 8, none⟩ (.string ⟨#[]⟩)) := by
  obtain ⟨hl, h0, h1, h2, h3, h4, h5, h6, h7, h8, h9, hf⟩ := h
  have ne : ∀ a b : Nat, a ≠ b → (⟨g, a, none⟩ : Addr) ≠ ⟨g, b, none⟩ := fun a b hab e => by injection e with _ e2 _; exact hab e2
  have s : ∀ (V : World) (p : Nat) (u : Value), Bar (fun k => k = g) V (V.setCell ⟨g, p, none⟩ u) := fun V p u => Bar.set ⟨g, p, none⟩ u rfl
  have k : ∀ (V : World) (p q : Nat) (u v : Value), V.cell? ⟨g, q, none⟩ = some v → p ≠ q → (V.setCell ⟨g, p, none⟩ u).cell? ⟨g, q, none⟩ = some v := fun V p q u v h hne => setO h (ne _ _ hne)
  refine ⟨⟨by simpa using hl, ?_, ?_, ?_, ?_, ?_, ?_, ?_, ?_, ?_, ?_, fun o => by simp only [World.frozen?_setCell]; exact hf o⟩, ((((s _ _ _).trans (s _ _ _) fun _ _ h => h).trans (s _ _ _) fun _ _ h => h).trans (s _ _ _) fun _ _ h => h).trans (s _ _ _) fun _ _ h => h⟩
  · exact k _ _ _ _ _ (k _ _ _ _ _ (k _ _ _ _ _ (k _ _ _ _ _ (k _ _ _ _ _ h0 (by decide)) (by decide)) (by decide)) (by decide)) (by decide)
  · exact k _ _ _ _ _ (k _ _ _ _ _ (k _ _ _ _ _ (k _ _ _ _ _ (k _ _ _ _ _ h1 (by decide)) (by decide)) (by decide)) (by decide)) (by decide)
  · exact k _ _ _ _ _ (k _ _ _ _ _ (k _ _ _ _ _ (k _ _ _ _ _ (k _ _ _ _ _ h2 (by decide)) (by decide)) (by decide)) (by decide)) (by decide)
  · exact k _ _ _ _ _ (k _ _ _ _ _ (k _ _ _ _ _ (k _ _ _ _ _ (k _ _ _ _ _ h3 (by decide)) (by decide)) (by decide)) (by decide)) (by decide)
  · exact k _ _ _ _ _ (k _ _ _ _ _ (k _ _ _ _ _ (k _ _ _ _ _ (setS h4) (by decide)) (by decide)) (by decide)) (by decide)
  · exact k _ _ _ _ _ (k _ _ _ _ _ (k _ _ _ _ _ (setS (k _ _ _ _ _ h5 (by decide))) (by decide)) (by decide)) (by decide)
  · exact k _ _ _ _ _ (k _ _ _ _ _ (setS (k _ _ _ _ _ (k _ _ _ _ _ h6 (by decide)) (by decide))) (by decide)) (by decide)
  · exact k _ _ _ _ _ (setS (k _ _ _ _ _ (k _ _ _ _ _ (k _ _ _ _ _ h7 (by decide)) (by decide)) (by decide))) (by decide)
  · exact setS (k _ _ _ _ _ (k _ _ _ _ _ (k _ _ _ _ _ (k _ _ _ _ _ h8 (by decide)) (by decide)) (by decide)) (by decide))
  · exact k _ _ _ _ _ (k _ _ _ _ _ (k _ _ _ _ _ (k _ _ _ _ _ (k _ _ _ _ _ h9 (by decide)) (by decide)) (by decide)) (by decide)) (by decide)
/-- a node written over. -/
theorem RsW.put {B N M R cp : Nat} {ops : List ByteArray} {w : World} {st : List Nd} (h : RsW B N M R cp ops w st) (hNR : N ≠ R) (hNM : N ≠ M) {i : Nat} (hi : i < st.length) (t : Nd) (m : Int) : RsW B N M R cp ops (st10 w N (i * 10) (bare t m)) (st.set i (bare t m)) := by
  obtain ⟨r1, r2, r3⟩ := st10_rest w N (i * 10) (bare t m)
  refine ⟨by rw [List.length_set]; exact r3.cell h.rN (fun e => hNR e.symm), r3.cell h.rM (fun e => hNR e.symm), by rw [r2]; exact h.rl, st10_sl h.nd hi, by rw [r2]; exact h.nl, fun o => by rw [r1]; exact h.fz o, h.mp.bar r3 (fun e => hNM e.symm), fun j hj => ?_, by rw [r2]; exact h.bB⟩
  rw [List.length_set] at hj
  by_cases e : j = i
  · subst e
    rw [List.getD_eq_getElem?_getD, List.getElem?_set_self hj]
    show (⟨#[]⟩ : ByteArray).size ≤ _
    decide
  · rw [List.getD_eq_getElem?_getD, List.getElem?_set_ne (Ne.symm e), ← List.getD_eq_getElem?_getD]; exact h.sz j hj
theorem err_neq (t : TypeId) (u : Value) (W : World) : (binOp .neq 46 (.iface t u) .nilIface).run Tryz.prog W = .ok (.bool true) W := by kernel_rfl
theorem nil_neq (W : World) : (binOp .neq 46 .nilIface .nilIface).run Tryz.prog W = .ok (.bool false) W := by kernel_rfl
end Go.Proofs.YtfajbkpeioejoaaGreatDoor

/- The program's walk over a tree, told. -/
namespace Go.Proofs.YtfajbkpeioejoaaGreatDoor
open Go.RowKit
set_option linter.unusedVariables false
set_option linter.unusedSimpArgs false

/-- a child in a block of its own. -/
def Ch2 (W : World) (g : Nat) (q : Nat) (a : Option Addr) (n c : Nat) : Prop := W.cell? ⟨g, 0, none⟩ = some (.int .i64 q) ∧ W.cell? ⟨g, 1, none⟩ = some (.slice a n c)
theorem ch2_lit (W : World) (T : TypeId) (q : Nat) (a : Option Addr) (n c : Nat) : Ch2 (W.alloc (.cells #[.int .i64 q, .slice a n c] T)) W.heap.size q a n c := by
  refine ⟨?_, ?_⟩ <;> (rw [World.cell?_alloc_at _ _ _ _ rfl]; rfl)
theorem Ch2.bar {S : Nat → Prop} {W W' : World} {g q : Nat} {a : Option Addr} {n c : Nat} (h : Ch2 W g q a n c) (hb : Bar S W W') (hn : ¬ S g) : Ch2 W' g q a n c := ⟨hb.cell h.1 hn, hb.cell h.2 hn⟩
set_option maxRecDepth 100000 in
set_option maxHeartbeats 8000000 in
theorem resolve_any (B N M R cp : Nat) (ops : List ByteArray) (hnd : ops.Nodup) (hNR : N ≠ R) (hNM : N ≠ M) : ∀ (f at_ : Nat) (bd : List ByteArray) (v : Value) (st : List Nd) (w : World), at_ < f → at_ < st.length → st.length ≤ 100000 → Downs st → bd.length + 2 * at_ ≤ 1000000 → Hid (RsW B N M R cp ops w st) → Hid (OwnS B w v bd) → Hid (∀ k, v.ownBlock = some k → k ≠ N ∧ k ≠ R ∧ k ≠ M) →
    Calls Tryz.prog 19 #[.pointer (some ⟨R, 0, none⟩), .int .i64 at_, v] w (RsPost B N M R cp ops v bd (resS ops f st at_ bd) st w) := by
  intro f
  induction f with
  | zero => intro at_ bd v st w h; omega
  | succ f ih =>
    intro at_ bd v st w hf hat hsl hD hlen hW hown hvb
    obtain ⟨t, ht⟩ : ∃ t, st.getD at_ nd0 = t := ⟨_, rfl⟩
    have hN := hW.out.nd at_ hat
    rw [ht] at hN
    unfold NdAt at hN
    simp only [Nat.zero_add] at hN
    have hnm : t.nm.size ≤ 1125899906842624 := by rw [← ht]; exact hW.out.sz at_ hat
    have hkid := Lib.hid (fun c (hc : c ∈ kidsS t) => hD at_ hat c (by rw [ht]; exact hc))
    have hkid2 := Lib.hid (kidsS_two t)
    have hvl := Lib.hid (fun k (hk : v.ownBlock = some k) => (own_lt hown.out k hk).2)
    have hNl := hW.out.nl
    have hBw := hW.out.bB
    have hMl := hW.out.mp.lt
    have hRl := hW.out.rl
    have hSN : ¬ (fun k => v.ownBlock = some k) N ∧ ¬ (fun k => v.ownBlock = some k) M ∧ ¬ (fun k => v.ownBlock = some k) R := ⟨fun h => (hvb.out _ h).1 rfl, fun h => (hvb.out _ h).2.2 rfl, fun h => (hvb.out _ h).2.1 rfl⟩
    have hSN := Lib.hid hSN
    obtain ⟨a, c, hv⟩ := hown.out.sl
    obtain ⟨w0, hw0⟩ : ∃ W, w.alloc (.cells #[.int .i64 t.k, .int .i64 t.a, .int .i64 t.b, .int .i64 t.c, .int .i64 t.n, .string t.nm, .string t.x, .string t.y, .string t.z, .int .i64 t.p] 42) = W := ⟨_, rfl⟩
    have hb0 : Below w.heap.size w w0 := by rw [← hw0]; exact below_alc _ _
    have hX0 : Hid (Nd10 w0 w.heap.size t) := Lib.hid (by rw [← hw0]; exact nd10_lit _ _ _ _ _ rfl rfl)
    have hW0 := Lib.hid (hW.out.below hb0)
    have hown0 := Lib.hid (hown.out.below hb0)
    have hrE := Lib.hid fun (ec : Int) (h : meanV ops bd t = .error ec) => (show resS ops (f + 1) st at_ bd = .error (ec, t.p) from by rw [← ht] at h ⊢; exact resS_err h)
    have hrK := Lib.hid fun (m : Int) (e : Int × Int) (h : meanV ops bd t = .ok m) (hk : kidsRun (resS ops f) st (kidsS t) bd = .error e) => (show resS ops (f + 1) st at_ bd = .error e from by rw [← ht] at h hk; exact resS_kid h hk)
    have hrO := Lib.hid fun (m : Int) (st' : List Nd) (h : meanV ops bd t = .ok m) (hk : kidsRun (resS ops f) st (kidsS t) bd = .ok st') => (show resS ops (f + 1) st at_ bd = .ok (st'.set at_ (bare t m)) from by rw [← ht] at h hk ⊢; exact resS_ok h hk)
    have hsS := Lib.hid fun (st' : List Nd) (h : Same st st') (m : Int) => (show Same st (st'.set at_ (bare t m)) from by rw [← ht]; exact h.set m)
    have hpe := Lib.hid (show ∀ r, resS ops (f + 1) st at_ bd = r → ∀ e w', RsPost B N M R cp ops v bd r st w e w' → RsPost B N M R cp ops v bd (resS ops (f + 1) st at_ bd) st w e w' from fun r h e w' hp => by rw [h]; exact hp)
    have hati : (at_ : Int) < (st.length : Int) := by omega
    have hat0 : (0 : Int) ≤ (at_ : Int) := by omega
    have hD := Lib.hid hD
    clear ht
    have kM := Lib.hid (meaning_any R M ops bd a bd.length c t w0 (Lib.hid ⟨hW0.out.rl, hW0.out.rM⟩) (Lib.hid hW0.out.mp) hnd (Lib.hid (OwnS.arg (by rw [← hv]; exact hown0.out))) (by omega) hnm)
    rw [hv] at hpe ⊢
    go_enter Tryz.func19, Tryz.ntmps19
    obtain ⟨e0, e1, e2, e3, e4, e5, e6, e7, e8, e9⟩ := hN
    have r0 := hW.out.rN
    have r1 := hW.out.rl
    go_upto_region 2 with fail
    clear e0 e1 e2 e3 e4 e5 e6 e7 e8 e9 r0 r1
    clear hw0
    obtain ⟨xl, x0, x1, x2, x3, x4, x5, x6, x7, x8, x9, _⟩ := hX0.out
    go_wp2_with fail
    clear xl x0 x1 x2 x3 x4 x5 x6 x7 x8 x9
    refine kM.out.mono ?_
    rintro e w1 ⟨rfl, hb1⟩
    have hW1 := Lib.hid (hW0.out.below hb1)
    have hX1 := Lib.hid (hX0.out.below hb1)
    have hown1 := Lib.hid (hown0.out.below hb1)
    have hB1 := Lib.hid (belT hb0 hb1)
    have hw1 : w.heap.size ≤ w1.heap.size := hB1.out.size
    clear hb1 hb0 hW0 hX0 hown0 kM
    have hbS : Bar (fun k => k = N ∨ v.ownBlock = some k) w w1 := Bar.of_below hB1.out
    have hbS := Lib.hid hbS
    have heq := fun (u : Value) (W : World) => err_neq 27 u W
    have hequ := fun (u : Value) (W : World) => err_neq 48 u W
    have hnil := nil_neq
    cases hm : meanV ops bd t with
    | error ec =>
      have e1 : meanN ops bd t = 0 := by unfold meanN; rw [hm]
      have e2 : meanE ops bd t = .iface 27 (.int .i64 ec) := by unfold meanE; rw [hm]
      rw [e1, e2]
      have hr := Lib.hid (hrE.out ec hm)
      clear e1 e2 ih hm hrK hrO hrE
      obtain ⟨xl, x0, x1, x2, x3, x4, x5, x6, x7, x8, x9, _⟩ := hX1.out
      go_wp2_with fail
      go_ret
      refine hpe.out _ hr.out _ _ ⟨st, _, rfl, hW1.out.below (below_alc _ _), Same.refl _, by rw [← hv]; exact hown1.out.below (below_alc _ _), by rw [← hv]; exact hbS.out.next (below_alc _ _), _, t.nm, rfl, alloc_last _ _⟩
    | ok m =>
      have e1 : meanN ops bd t = m := by unfold meanN; rw [hm]
      have e2 : meanE ops bd t = .nilIface := by unfold meanE; rw [hm]
      rw [e1, e2]
      have hrK := Lib.hid fun e hk => hrK.out m e hm hk
      have hrO := Lib.hid fun st1 hk => hrO.out m st1 hm hk
      clear e1 e2 hm hrE
      obtain ⟨xl, x0, x1, x2, x3, x4, x5, x6, x7, x8, x9, _⟩ := hX1.out
      go_wp2_with fail
      clear xl x0 x1 x2 x3 x4 x5 x6 x7 x8 x9
      refine (children_any t w1).mono ?_
      rintro e w2 ⟨kv, rfl, hkv, hb2⟩
      obtain ⟨kids, hkids⟩ : ∃ l, kidsS t = l := ⟨_, rfl⟩
      rw [hkids] at hkv hkid hkid2 hrK hrO
      have hL := Lib.hid (show RsL B N M R cp ops w v bd w.heap.size w1.heap.size t kv kids st st w2 from ⟨hW1.out.below hb2, Same.refl _, hown1.out.below hb2, hbS.out.next hb2, hX1.out.below hb2, hkv⟩)
      have hkl : kids.length ≤ 3 := by rw [← hkids]; unfold kidsS; (repeat' split) <;> simp
      have hklen : kv = .slice none 0 0 ∧ kids = [] ∨ ∃ g, kv = .slice (some ⟨g, 0, none⟩) kids.length kids.length := by rcases hkv with h | ⟨g, h, _⟩; exact .inl h; exact .inr ⟨g, h⟩
      have hks : ∃ ka, kv = .slice ka kids.length kids.length := by rcases hklen with ⟨h, h2⟩ | ⟨g, h⟩; exact ⟨none, by rw [h, h2]; rfl⟩; exact ⟨_, h⟩
      obtain ⟨ka, rfl⟩ := hks
      clear hkv hb2 hW1 hX1 hown1 hbS hkids hklen hB1
      go_wp2_with fail
      go_loopw [40] (fun i wr => ∃ j st1, j ≤ kids.length ∧ i = .int .i64 (j : Nat) ∧ Hid (kidsRun (resS ops f) st (kids.take j) bd = .ok st1) ∧ Hid (RsL B N M R cp ops w v bd w.heap.size w1.heap.size t (.slice ka kids.length kids.length) kids st st1 wr)) (fun i _ => kids.length - (intOf i).toNat)
      case atStart => exact ⟨0, st, by omega, rfl, Lib.hid rfl, hL⟩
      case round =>
        obtain ⟨j, st1, hj, rfl, hrun, hL⟩ := hrel
        have hww := hL.out.bar.size
        by_cases hlt : j < kids.length
        · rcases hL.out.kd with ⟨h1, h2⟩ | ⟨g, hka, hBg, hgl, hcs⟩
          · rw [h2] at hlt; simp at hlt
          obtain ⟨k1, ad, n2, c2, k2, hys, hnn, hbb⟩ := hcs j hlt
          injection hka with hka _ _
          subst hka
          have hkm : kids.getD j (0, []) ∈ kids := by rw [List.getD_eq_getElem?_getD, List.getElem?_eq_getElem hlt]; exact List.getElem_mem hlt
          have hq := hkid.out _ hkm
          have hstep := Lib.hid (kidsRun_step (resS ops f) bd kids st st1 hlt hrun.out)
          obtain ⟨q, hqe⟩ : ∃ q : Nat, (kids.getD j (0, [])).1 = (q : Int) := ⟨(kids.getD j (0, [])).1.toNat, by omega⟩
          rw [hqe] at k1 hq hstep
          have hy2 : (kids.getD j (0, [])).2.length ≤ 2 := by have hz := hkid2.out _ hkm; exact hz
          obtain ⟨ys, hye⟩ : ∃ ys, (kids.getD j (0, [])).2 = ys := ⟨_, rfl⟩
          rw [hye] at hys hstep hy2
          have hqn : ((q : Int)).toNat = q := by omega
          rw [hqn] at hstep
          have hqa : q < at_ := by omega
          clear hcs hkm hq hqe hye hqn
          have hji : (j : Int) < (kids.length : Int) := by omega
          have hj0 : (0 : Int) ≤ (j : Int) := by omega
          obtain ⟨wB, hwB⟩ : ∃ W, wr.alloc (.cells #[.int .i64 (q : Int), .slice ad n2 c2] 80) = W := ⟨_, rfl⟩
          have hch : Ch2 wB wr.heap.size q ad n2 c2 := by rw [← hwB]; exact ch2_lit _ _ _ _ _ _
          have hBB : Below wr.heap.size wr wB := by rw [← hwB]; exact below_alc _ _
          have hglB : wr.heap.size < wB.heap.size := by rw [← hwB]; simp
          go_upto_region 8 with fail
          (try rw [hwB])
          clear hwB k1 k2
          have hL := Lib.hid (hL.out.below hBB)
          have hys := hys.below hBB
          refine wp_region_held_drew (S := fun W => W.cell? ⟨wr.heap.size, 0, none⟩ = some (.int .i64 q) ∧ W.cell? ⟨wr.heap.size, 1, none⟩ = some (.slice ad n2 c2)) (by kernel_rfl) (by have h := hch.bar (Bar.of_below (S := fun _ => False) (Below.refl _ _).drew) id; exact h) (fun hHeld => ?_)
          have hdw : Below wB.heap.size wB wB.drew := (Below.refl _ _).drew
          have hL := Lib.hid (hL.out.below hdw)
          have hys := Lib.hid (hys.below hdw)
          have hgd : wr.heap.size < wB.drew.heap.size := by have := hdw.size; omega
          generalize wB.drew = wd at hL hys hgd hHeld ⊢
          clear hch hBB hglB hdw
          refine rg_take 0 (some 44) (v := ?v1) rfl rfl (by kernel_rfl) (by kernel_rfl) (by kernel_rfl) (fun _ _ _ h => h) (by rfl) ?hy1 (by assumption) ?_
          case hy1 => intro W hSW; (try dsimp only at hSW); go_simp; (try with_reducible rfl)
          try simp only [Act.put, List.setIfInBounds_toArray, List.set_cons_zero, List.set_cons_succ]
          refine rg_take 1 (some 45) (v := ?v2) rfl rfl (by kernel_rfl) (by kernel_rfl) (by kernel_rfl) (fun _ _ _ h => h) (by rfl) ?hy2 (by assumption) ?_
          case hy2 => intro W hSW; (try dsimp only at hSW); go_simp; (try with_reducible rfl)
          try simp only [Act.put, List.setIfInBounds_toArray, List.set_cons_zero, List.set_cons_succ]
          refine rg_take 2 (some 46) (v := ?v3) rfl rfl (by kernel_rfl) (by kernel_rfl) (by kernel_rfl) (fun _ _ _ h => h) (by rfl) ?hy3 (by assumption) ?_
          case hy3 => intro W hSW; (try dsimp only at hSW); go_simp; (try with_reducible rfl)
          try simp only [Act.put, List.setIfInBounds_toArray, List.set_cons_zero, List.set_cons_succ]
          refine rg_take 3 (some 47) (v := ?v4) rfl rfl (by kernel_rfl) (by kernel_rfl) (by kernel_rfl) (fun _ _ _ h => h) (by rfl) ?hy4 (by assumption) ?_
          case hy4 => intro W hSW; (try dsimp only at hSW); go_simp; (try with_reducible rfl)
          try simp only [Act.put, List.setIfInBounds_toArray, List.set_cons_zero, List.set_cons_succ]
          refine rg_take 4 (some 48) (v := ?v5) rfl rfl (by kernel_rfl) (by kernel_rfl) (by kernel_rfl) (fun _ _ _ h => h) (by rfl) ?hy5 (by assumption) ?_
          case hy5 => intro W hSW; (try dsimp only at hSW); go_simp; (try with_reducible rfl)
          try simp only [Act.put, List.setIfInBounds_toArray, List.set_cons_zero, List.set_cons_succ]
          refine rg_take 5 (some 49) (v := ?v6) rfl rfl (by kernel_rfl) (by kernel_rfl) (by kernel_rfl) (fun _ _ _ h => h) (by rfl) ?hy6 (by assumption) ?_
          case hy6 => intro W hSW; (try dsimp only at hSW); go_simp; (try with_reducible rfl)
          try simp only [Act.put, List.setIfInBounds_toArray, List.set_cons_zero, List.set_cons_succ]
          refine rg_one 6 rfl (by kernel_rfl) (by rfl) (fun K hK => ?_)
          refine wp_st (.tmp 47) (.tmp 49) wd B hL.out.rs.bB v bd rfl (by rw [hv]; rfl) ad n2 c2 ys rfl hys.out hnn hL.out.own (by omega) ?_
          intro v2 wA hv2 hvA hbA hgo hob
          have hgA : wr.heap.size < wA.heap.size := by have := hbA.size; omega
          have hRA := hL.out.rs.bar hbA hSN.out
          have hgv : ¬ v.ownBlock = some wr.heap.size := fun h => by have := hvl.out _ h; omega
          have hcA : wA.cell? ⟨wr.heap.size, 0, none⟩ = some (.int .i64 q) ∧ wA.cell? ⟨wr.heap.size, 1, none⟩ = some (.slice ad n2 c2) := ⟨hbA.cell hHeld.1 hgv, hbA.cell hHeld.2 hgv⟩
          refine hK.out _ _ hcA (fun hHeld6 => ?_)
          clear hK K hHeld6
          try simp only [Act.put, List.setIfInBounds_toArray, List.set_cons_zero, List.set_cons_succ]
          obtain ⟨a2, c3, hv2e⟩ := hv2.sl
          rw [List.length_append] at hv2e
          have hvb2 := Lib.hid (show ∀ k, v2.ownBlock = some k → k ≠ N ∧ k ≠ R ∧ k ≠ M from fun k hk => by
            rcases hob k hk with h | h
            · exact hvb.out k h
            · have := hL.out.rs.nl; have := hL.out.rs.rl; have := hL.out.rs.mp.lt; exact ⟨by omega, by omega, by omega⟩)
          have kR := Lib.hid (ih q (bd ++ ys) v2 st1 wA (by omega) (by rw [hL.out.sm.len]; omega) (by rw [hL.out.sm.len]; exact hsl) (hL.out.sm.downs hD.out) (by rw [List.length_append]; omega) (Lib.hid hRA) (Lib.hid hv2) hvb2)
          rw [hv2e] at kR ⊢
          refine rg_one 7 rfl (by kernel_rfl) (by rfl) (fun K hK => ?_)
          go_simp
          (go_at_call 19; refine kR.out.mono ?_; rintro e w3 hpost)
          obtain ⟨st2, rv, rfl, hR3, hS3, hO3, hB3, hres⟩ := hpost
          rw [← hv2e] at hO3 hB3
          have hnv : ∀ k, k < wd.heap.size → v2.ownBlock = some k → v.ownBlock = some k := fun k hk h => by rcases hob k h with h | h; exact h; omega
          have hO := OwnS.back hgo hvA hO3 (fun g hg hne => hB3.block g (by have := hvl.out g hg; have := hL.out.bar.size; have := hbA.size; omega) (fun hs => by rcases hs with e | e; exact (hvb.out g hg).1 e; exact hne e))
          have hbar3 : Bar (fun k => k = N ∨ v.ownBlock = some k) wd w3 := (hbA.mono (fun k h => .inr h)).trans hB3 (fun k hk hs => by rcases hs with e | e; exact .inl e; exact .inr (hnv k hk e))
          have hL3 := Lib.hid (hL.out.next hNl hvl.out (Nat.le_refl _) hw1 hR3 hS3 hO hbar3)
          have hg3 : ¬ (wr.heap.size = N ∨ v2.ownBlock = some wr.heap.size) := fun h => by rcases h with e | e; omega; exact hgv (hnv _ hgd e)
          have hc3 : w3.cell? ⟨wr.heap.size, 0, none⟩ = some (.int .i64 q) ∧ w3.cell? ⟨wr.heap.size, 1, none⟩ = some (.slice ad n2 c2) := ⟨hB3.cell hcA.1 hg3, hB3.cell hcA.2 hg3⟩
          refine hK.out _ _ hc3 (fun hHeld7 => ?_)
          clear hK K hcA hHeld hB3 hO3 hRA hbA hvA hv2 hgo hob hnv hvb2 kR
          try simp only [Act.put, List.setIfInBounds_toArray, List.set_cons_zero, List.set_cons_succ]
          refine rg_take 8 (some 12) (v := ?v7) rfl rfl (by kernel_rfl) (by kernel_rfl) (by kernel_rfl) (fun _ _ _ h => h) (by rfl) ?hy7 (by assumption) ?_
          case hy7 => intro W hSW; (try dsimp only at hSW); go_simp; (try with_reducible rfl)
          try simp only [Act.put, List.setIfInBounds_toArray, List.set_cons_zero, List.set_cons_succ]
          refine wpAnyH_done (by kernel_rfl) ?_ _
          cases hqr : resS ops f st1 q (bd ++ ys) with
          | ok s =>
            rw [hqr] at hres hstep
            obtain ⟨rfl, rfl⟩ := hres
            go_wp2_with fail
            go_roundw
            case rel => exact ⟨j + 1, _, by omega, by go_num, Lib.hid hstep.out, hL3⟩
            case measure => simp [intOf]; omega
          | error er =>
            rw [hqr] at hres hstep
            obtain ⟨g', nm', rfl, hcell⟩ := hres
            have hr := Lib.hid (hrK.out er (kidsRun_err _ _ _ _ hstep.out))
            go_wp2_with fail
            go_ret
            exact hpe.out _ hr.out _ _ ⟨st2, _, rfl, hR3, hL3.out.sm, by rw [← hv]; exact hO, by rw [← hv]; exact hL3.out.bar, _, _, rfl, hcell⟩
        · have hj2 : j = kids.length := by omega
          have hrun := hrun.out
          rw [hj2, List.take_length] at hrun
          have hr := Lib.hid (hrO.out st1 hrun)
          clear hrun hrK hrO ih
          have hbx := nd10_bare hL.out.bx m
          obtain ⟨xl, x0, x1, x2, x3, x4, x5, x6, x7, x8, x9, xf⟩ := hL.out.bx
          subst hj2
          obtain ⟨wS, hwS⟩ : ∃ W, (((((wr.setCell ⟨w.heap.size, 4, none⟩ (.int .i64 m)).setCell ⟨w.heap.size, 5, none⟩ (.string ⟨#[]⟩)).setCell ⟨w.heap.size, 6, none⟩ (.string ⟨#[]⟩)).setCell ⟨w.heap.size, 7, none⟩ (.string ⟨#[]⟩)).setCell ⟨w.heap.size, 8, none⟩ (.string ⟨#[]⟩)) = W := ⟨_, rfl⟩
          rw [hwS] at hbx
          obtain ⟨hXS, hbS⟩ := hbx
          have hXS := Lib.hid hXS
          have hRS := Lib.hid (hL.out.rs.bar hbS ⟨fun e => by omega, fun e => by omega, fun e => by omega⟩)
          have hOS := Lib.hid (hL.out.own.bar hbS (fun k hk e => by have := hvl.out k hk; omega))
          have hBS : Hid (Bar (fun k => k = N ∨ v.ownBlock = some k) w wS) := Lib.hid (hL.out.bar.trans hbS (fun k hk e => by have e : k = w.heap.size := e; omega))
          have hsm := Lib.hid (hsS.out st1 hL.out.sm m)
          have hln := hL.out.sm.len
          clear hbS hL
          go_upto_region 13 with fail
          clear hwS xl x0 x1 x2 x3 x4 x5 x6 x7 x8 x9 xf
          have hdw : Below wS.heap.size wS wS.drew := (Below.refl _ _).drew
          have hXS := Lib.hid (hXS.out.below hdw)
          have hRS := Lib.hid (hRS.out.below hdw)
          have hOS := Lib.hid (hOS.out.below hdw)
          have hBS := Lib.hid (hBS.out.next hdw)
          obtain ⟨_, y0, y1, y2, y3, y4, y5, y6, y7, y8, y9, _⟩ := hXS.out
          refine wp_region_held_drew (S := (fun W => W.cell? ⟨R, 0, none⟩ = some (.slice (some ⟨N, 0, none⟩) st1.length cp) ∧ W.cell? ⟨w.heap.size, 0, none⟩ = some (.int .i64 t.k) ∧ W.cell? ⟨w.heap.size, 1, none⟩ = some (.int .i64 t.a) ∧ W.cell? ⟨w.heap.size, 2, none⟩ = some (.int .i64 t.b) ∧ W.cell? ⟨w.heap.size, 3, none⟩ = some (.int .i64 t.c) ∧ W.cell? ⟨w.heap.size, 4, none⟩ = some (.int .i64 m) ∧ W.cell? ⟨w.heap.size, 5, none⟩ = some (.string ⟨#[]⟩) ∧ W.cell? ⟨w.heap.size, 6, none⟩ = some (.string ⟨#[]⟩) ∧ W.cell? ⟨w.heap.size, 7, none⟩ = some (.string ⟨#[]⟩) ∧ W.cell? ⟨w.heap.size, 8, none⟩ = some (.string ⟨#[]⟩) ∧ W.cell? ⟨w.heap.size, 9, none⟩ = some (.int .i64 t.p))) (by kernel_rfl) ⟨hRS.out.rN, y0, y1, y2, y3, y4, y5, y6, y7, y8, y9⟩ (fun hHeld => ?_)
          generalize wS.drew = wd at hXS hRS hOS hBS hHeld ⊢
          clear hdw y0 y1 y2 y3 y4 y5 y6 y7 y8 y9
          have hat1 : at_ < st1.length := by omega
          have hati1 : (at_ : Int) < (st1.length : Int) := by omega
          refine rg_take 0 (some 62) (v := ?v8) rfl rfl (by kernel_rfl) (by kernel_rfl) (by kernel_rfl) (fun _ _ _ h => h) (by rfl) ?hy8 (by assumption) ?_
          case hy8 => intro W hSW; (try dsimp only at hSW); go_simp; (try with_reducible rfl)
          try simp only [Act.put, List.setIfInBounds_toArray, List.set_cons_zero, List.set_cons_succ]
          refine rg_take 1 (some 63) (v := ?v9) rfl rfl (by kernel_rfl) (by kernel_rfl) (by kernel_rfl) (fun _ _ _ h => h) (by rfl) ?hy9 (by assumption) ?_
          case hy9 => intro W hSW; (try dsimp only at hSW); go_simp; (try with_reducible rfl)
          try simp only [Act.put, List.setIfInBounds_toArray, List.set_cons_zero, List.set_cons_succ]
          refine rg_take 2 (some 64) (v := ?v10) rfl rfl (by kernel_rfl) (by kernel_rfl) (by kernel_rfl) (fun _ _ _ h => h) (by rfl) ?hy10 (by assumption) ?_
          case hy10 => intro W hSW; (try dsimp only at hSW); go_simp; (try with_reducible rfl)
          try simp only [Act.put, List.setIfInBounds_toArray, List.set_cons_zero, List.set_cons_succ]
          refine rg_take 3 (some 65) (v := ?v11) rfl rfl (by kernel_rfl) (by kernel_rfl) (by kernel_rfl) (fun _ _ _ h => h) (by rfl) ?hy11 (by assumption) ?_
          case hy11 => intro W hSW; (try dsimp only at hSW); go_simp; (try with_reducible rfl)
          try simp only [Act.put, List.setIfInBounds_toArray, List.set_cons_zero, List.set_cons_succ]
          refine rg_take 4 (some 66) (v := ?v12) rfl rfl (by kernel_rfl) (by kernel_rfl) (by kernel_rfl) (fun _ _ _ h => h) (by rfl) ?hy12 (by assumption) ?_
          case hy12 => intro W hSW; (try dsimp only at hSW); go_simp; (try with_reducible rfl)
          try simp only [Act.put, List.setIfInBounds_toArray, List.set_cons_zero, List.set_cons_succ]
          refine rg_take 5 (some 67) (v := ?v13) rfl rfl (by kernel_rfl) (by kernel_rfl) (by kernel_rfl) (fun _ _ _ h => h) (by rfl) ?hy13 (by assumption) ?_
          case hy13 => intro W hSW; (try dsimp only at hSW); go_simp; (try with_reducible rfl)
          try simp only [Act.put, List.setIfInBounds_toArray, List.set_cons_zero, List.set_cons_succ]
          refine rg_take 6 (some 68) (v := ?v14) rfl rfl (by kernel_rfl) (by kernel_rfl) (by kernel_rfl) (fun _ _ _ h => h) (by rfl) ?hy14 (by assumption) ?_
          case hy14 => intro W hSW; (try dsimp only at hSW); go_simp; (try with_reducible rfl)
          try simp only [Act.put, List.setIfInBounds_toArray, List.set_cons_zero, List.set_cons_succ]
          refine rg_one 7 rfl (by kernel_rfl) (by rfl) (fun K hK => ?_)
          have hNd := hRS.out.nd at_ hat1
          generalize st1.getD at_ nd0 = u at hNd
          unfold NdAt at hNd
          simp only [Nat.zero_add] at hNd
          obtain ⟨f0, f1, f2, f3, f4, f5, f6, f7, f8, f9⟩ := hNd
          have hfz := hRS.out.fz
          obtain ⟨wF, hwF⟩ : ∃ W, st10 wd N (at_ * 10) (bare t m) = W := ⟨_, rfl⟩
          have hRF := Lib.hid (hRS.out.put hNR hNM hat1 t m)
          have hbF := (st10_rest wd N (at_ * 10) (bare t m)).2.2
          rw [hwF] at hRF hbF
          unfold st10 bare at hwF
          simp only at hwF
          go_simp
          (try rw [hwF])
          clear hwF f0 f1 f2 f3 f4 f5 f6 f7 f8 f9 hfz
          obtain ⟨z0, z1, z2, z3, z4, z5, z6, z7, z8, z9, z10⟩ := hHeld
          have hgN : ¬ w.heap.size = N := by omega
          refine hK.out _ _ ⟨hbF.cell z0 (fun e => hNR e.symm), hbF.cell z1 hgN, hbF.cell z2 hgN, hbF.cell z3 hgN, hbF.cell z4 hgN, hbF.cell z5 hgN, hbF.cell z6 hgN, hbF.cell z7 hgN, hbF.cell z8 hgN, hbF.cell z9 hgN, hbF.cell z10 hgN⟩ (fun hHeld7 => ?_)
          clear hK K z0 z1 z2 z3 z4 z5 z6 z7 z8 z9 z10 hHeld7
          try simp only [Act.put, List.setIfInBounds_toArray, List.set_cons_zero, List.set_cons_succ]
          refine wpAnyH_done (by kernel_rfl) ?_ _
          go_wp2_with fail
          go_ret
          exact hpe.out _ hr.out _ _ ⟨_, .nilIface, rfl, hRF.out, hsm.out, by rw [← hv]; exact hOS.out.bar hbF (fun k hk e => (hvb.out k hk).1 e), by rw [← hv]; exact hBS.out.trans hbF (fun k hk e => .inl e), rfl, rfl⟩
end Go.Proofs.YtfajbkpeioejoaaGreatDoor
