/- Maps of numbers that the call makes, whatever their elements are. -/
import Derived.Test.YtdganhamafhfdaaDoorSbC
import Derived.Test.YtdganhamafhfdaaDoorInO
import Derived.Test.YtdganhamafhfdaaDoorMtP
namespace Go.Proofs.YtdganhamafhfdaaDoor
open Go.RowKit Go.Maps
set_option linter.unusedVariables false
set_option linter.unusedSimpArgs false

def heldR (v : Value) : Option (DataW Value × List MemPlace) := some (.held v, [])
/-- block b is a map of at most n numbers that says f. -/
def MapOf (w : World) (b n : Nat) (f : Int → Option Value) : Prop :=
  ∃ D : DataW Value, w.ownsMap Tryd.prog 3 heldR b n D ∧ IsMap D ∧ ∀ v : Int, Maps.has D (.int .i64 v) = (f v).isSome ∧ ∀ x, f v = some x → ∀ z, D.atKey (.int .i64 v) z = .held x
theorem MapOf.lt {w : World} {b n : Nat} {f : Int → Option Value} (h : MapOf w b n f) : b < w.heap.size := by
  obtain ⟨D, h1, _⟩ := h; exact h1.lt
theorem MapOf.blk {w : World} {b n : Nat} {f : Int → Option Value} (h : MapOf w b n f) : ∃ es clock, w.heap[b]? = some (.map es clock) := by
  obtain ⟨D, ⟨es, clock, h1, _⟩, _⟩ := h; exact ⟨es, clock, h1⟩
theorem MapOf.mono {w : World} {b n n' : Nat} {f : Int → Option Value} (h : MapOf w b n f) (hn : n ≤ n') : MapOf w b n' f := by
  obtain ⟨D, h1, h2⟩ := h; exact ⟨D, h1.mono hn, h2⟩
theorem MapOf.bar {S : Nat → Prop} {w w' : World} {b n : Nat} {f : Int → Option Value} (h : MapOf w b n f) (hb : Bar S w w') (hn : ¬ S b) : MapOf w' b n f := by
  have hl := h.lt
  obtain ⟨D, ⟨es, clock, h1, h3⟩, h2⟩ := h
  exact ⟨D, ⟨es, clock, (hb.block b hl hn).trans h1, h3⟩, h2⟩
theorem MapOf.below {w w' : World} {b n : Nat} {f : Int → Option Value} (h : MapOf w b n f) (hb : Below w.heap.size w w') : MapOf w' b n f :=
  h.bar (Bar.of_below (S := fun _ => False) hb) id
theorem MapOf.alloc {w : World} {b n : Nat} {f : Int → Option Value} (o : Obj) (h : MapOf w b n f) : MapOf (w.alloc o) b n f := h.below (below_alc _ _)
theorem mapOf_made (w : World) : MapOf (w.alloc (.map #[] 0)) w.heap.size 0 (fun _ => none) :=
  ⟨.map [], World.ownsMap_made w _ _ _, isMap_empty, fun v => ⟨rfl, fun x h => by cases h⟩⟩
theorem MapOf.ne {w : World} {b n g o : Nat} {f : Int → Option Value} {v : Value} (h : MapOf w b n f) (hc : w.cell? ⟨g, o, none⟩ = some v) : g ≠ b := by
  rintro rfl
  obtain ⟨es, clock, h1⟩ := h.blk
  unfold World.cell? at hc
  simp [h1] at hc
theorem Bar.mono {S S' : Nat → Prop} {w w' : World} (h : Bar S w w') (hs : ∀ k, S k → S' k) : Bar S' w w' := ⟨h.os, h.tape, h.output, h.size, fun k hk hn => h.block k hk (fun hc => hn (hs k hc))⟩
theorem wfI {v : Int} (h : -9223372036854775808 ≤ v ∧ v ≤ 9223372036854775807) : keyOf Tryd.prog 3 (.int .i64 v) = some (.int .i64 v) :=
  keyOf_int_mk Tryd.underlying3 (by simp [Lit.wf, IntKind.min, IntKind.max, IntKind.signed, IntKind.bits]; omega)
/-- a look-up, whatever comes of it. -/
theorem look_run {w : World} {b n : Nat} {f : Int → Option Value} (h : MapOf w b n f) (t e : TypeId) (z : Value) (ht : Tryd.prog.underlying t = some (.map 3 e)) (hz : (zeroValue e).run Tryd.prog w = .ok z w)
    (v : Int) (hwf : -9223372036854775808 ≤ v ∧ v ≤ 9223372036854775807) : (Instr.lookup t (.map (some b)) (.int .i64 v) true).run Tryd.prog w = .ok (.tuple #[(f v).getD z, .bool (f v).isSome]) w := by
  obtain ⟨D, h1, h2, h3⟩ := h
  obtain ⟨h4, h6⟩ := h3 v
  obtain ⟨u, ps, hr, hu⟩ := h1.look_ok lawI ht hz (zd := .held z) (zp := []) rfl (wfI hwf)
  rw [hr, h4]
  have e2 : heldR u = some (.held u, []) := rfl
  rw [e2] at hu
  cases hf : f v with
  | none =>
    rw [hf] at h4
    rw [atKey_of_not_has (show Maps.has D (.int .i64 v) = false from h4)] at hu
    have hu := DataW.held.inj (Prod.mk.inj (Option.some.inj hu)).1
    rw [hu]; rfl
  | some x =>
    rw [h6 x hf] at hu
    have hu := DataW.held.inj (Prod.mk.inj (Option.some.inj hu)).1
    rw [hu]; rfl
theorem mput_run {w : World} {b n : Nat} {f : Int → Option Value} (h : MapOf w b n f) (t e : TypeId) (ht : Tryd.prog.underlying t = some (.map 3 e)) (hn : n < 1099511627776)
    (v : Int) (hwf : -9223372036854775808 ≤ v ∧ v ≤ 9223372036854775807) (u : Value) : ∃ w', (Instr.mapUpdate t (.map (some b)) (.int .i64 v) u).run Tryd.prog w = .ok () w' ∧ MapOf w' b (n + 1) (upd f v u) ∧ Bar (fun k => k = b) w w' := by
  obtain ⟨D, h1, h2, h3⟩ := h
  obtain ⟨w', hr, h4, h5⟩ := h1.update (val := u) lawI ht (by unfold maxLen; omega) (wfI hwf) (d := .held u) (ps := []) rfl
  refine ⟨w', hr, ⟨_, h4, h2.put _ _, fun v' => ?_⟩, ((Bar.of_grown h5).mono fun k hk => ?_)⟩
  · unfold upd
    by_cases hv : v' = v
    · subst hv
      rw [if_pos rfl]
      refine ⟨has_put_same h2 (by trivial) _, fun q hq z => ?_⟩
      have hq := Option.some.inj hq; subst hq
      exact atKey_put_same h2 (by trivial) _ _
    · have hne : (Lit.int .i64 v') ≠ (Lit.int .i64 v) := fun e => hv (by injection e)
      rw [if_neg hv]
      obtain ⟨h6, h7⟩ := h3 v'
      refine ⟨(has_put_other hne _).trans h6, fun q hq z => ?_⟩
      rw [atKey_put_other hne]
      exact h7 q hq z
  · have : some b = some k := hk
    exact (Option.some.inj this).symm
/-- 'v, ok := m[k]': what is not there. -/
theorem op_look0 {ops : Array Oper} {rest : List Oper} {o : Oper} {a : Act} {Q : Exit → Act → World → Prop} (hgd : o.guard = none) (m x : Operand) (t e : TypeId) (z : Value) (w : World)
    (hop : o.op = Op.lookup t m x true) (ht : Tryd.prog.underlying t = some (.map 3 e)) (hz : (zeroValue e).run Tryd.prog w = .ok z w) (b n : Nat) (f : Int → Option Value) (hm : a.eval m = .map (some b)) (h : MapOf w b n f)
    (v : Int) (hwf : -9223372036854775808 ≤ v ∧ v ≤ 9223372036854775807) (hx : a.eval x = .int .i64 v) (hf : f v = none)
    (hK : wpList Tryd.prog ops Q rest (a.put o.dst (.tuple #[z, .bool false])) w) : wpList Tryd.prog ops Q (o :: rest) a w := by
  obtain ⟨D, h1, h2, h3⟩ := h
  obtain ⟨h4, _⟩ := h3 v
  rw [hf] at h4
  have h4 : Maps.has D (.int .i64 v) = false := h4
  refine wpList_lookup_own_ok w hgd m x t hop _ e lawI ht heldR hz (.held z) [] rfl b n D hm h1 _ _ hx (wfI hwf) ?_
  intro u ps hu
  rw [h4]
  have h5 : u = z := by
    have e2 : heldR u = some (.held u, []) := rfl
    rw [e2] at hu
    rw [(atKey_of_not_has h4 _)] at hu
    exact DataW.held.inj (Prod.mk.inj (Option.some.inj hu)).1
  rw [h5]; exact hK
/-- .. what is. -/
theorem op_look1 {ops : Array Oper} {rest : List Oper} {o : Oper} {a : Act} {Q : Exit → Act → World → Prop} (hgd : o.guard = none) (m x : Operand) (t e : TypeId) (z : Value) (w : World)
    (hop : o.op = Op.lookup t m x true) (ht : Tryd.prog.underlying t = some (.map 3 e)) (hz : (zeroValue e).run Tryd.prog w = .ok z w) (b n : Nat) (f : Int → Option Value) (hm : a.eval m = .map (some b)) (h : MapOf w b n f)
    (v : Int) (hwf : -9223372036854775808 ≤ v ∧ v ≤ 9223372036854775807) (hx : a.eval x = .int .i64 v) (y : Value) (hf : f v = some y)
    (hK : wpList Tryd.prog ops Q rest (a.put o.dst (.tuple #[y, .bool true])) w) : wpList Tryd.prog ops Q (o :: rest) a w := by
  obtain ⟨D, h1, h2, h3⟩ := h
  obtain ⟨h4, h6⟩ := h3 v
  have h6 := h6 y hf
  rw [hf] at h4
  have h4 : Maps.has D (.int .i64 v) = true := h4
  refine wpList_lookup_own_ok w hgd m x t hop _ e lawI ht heldR hz (.held z) [] rfl b n D hm h1 _ _ hx (wfI hwf) ?_
  intro u ps hu
  rw [h4]
  have h5 : u = y := by
    have e2 : heldR u = some (.held u, []) := rfl
    rw [e2, h6] at hu
    exact DataW.held.inj (Prod.mk.inj (Option.some.inj hu)).1
  rw [h5]; exact hK
/-- 'm[k] = v'. -/
theorem op_mput {ops : Array Oper} {rest : List Oper} {o : Oper} {a : Act} {Q : Exit → Act → World → Prop} (hgd : o.guard = none) (m x y : Operand) (t e : TypeId) (w : World)
    (hop : o.op = Op.mapUpdate t m x y) (ht : Tryd.prog.underlying t = some (.map 3 e)) (b n : Nat) (f : Int → Option Value) (hm : a.eval m = .map (some b)) (h : MapOf w b n f) (hn : n < 1099511627776)
    (v : Int) (hwf : -9223372036854775808 ≤ v ∧ v ≤ 9223372036854775807) (hx : a.eval x = .int .i64 v) (u : Value) (hy : a.eval y = u)
    (hK : ∀ w', MapOf w' b (n + 1) (upd f v u) → Bar (fun k => k = b) w w' → wpList Tryd.prog ops Q rest (a.put o.dst undef) w') : wpList Tryd.prog ops Q (o :: rest) a w := by
  obtain ⟨D, h1, h2, h3⟩ := h
  refine wpList_mapUpdate_own w hgd m x y t hop _ e lawI ht heldR b n D hm h1 (by unfold maxLen; omega) _ _ _ hx hy (wfI hwf) (.held u) [] rfl ?_
  intro w' h4 h5
  refine hK w' ⟨_, h4, h2.put _ _, fun v' => ?_⟩ ((Bar.of_grown h5).mono fun k hk => ?_)
  · unfold upd
    by_cases hv : v' = v
    · subst hv
      rw [if_pos rfl]
      refine ⟨has_put_same h2 (by trivial) _, fun q hq z => ?_⟩
      have hq := Option.some.inj hq; subst hq
      exact atKey_put_same h2 (by trivial) _ _
    · have hne : (Lit.int .i64 v') ≠ (Lit.int .i64 v) := fun e => hv (by injection e)
      rw [if_neg hv]
      obtain ⟨h6, h7⟩ := h3 v'
      refine ⟨(has_put_other hne _).trans h6, fun q hq z => ?_⟩
      rw [atKey_put_other hne]
      exact h7 q hq z
  · have : some b = some k := hk
    exact (Option.some.inj this).symm
end Go.Proofs.YtdganhamafhfdaaDoor
