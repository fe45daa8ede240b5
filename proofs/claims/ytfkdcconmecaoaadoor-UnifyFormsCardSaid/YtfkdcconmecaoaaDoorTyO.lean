/- Rows of a type's nodes that a call makes: appended to, copied. -/
import Derived.Test.YtfkdcconmecaoaaDoorTyH
import Derived.Laws.AppendOwn
namespace Go.Proofs.YtfkdcconmecaoaaDoor
open Go.RowKit
set_option linter.unusedVariables false
set_option linter.unusedSimpArgs false

theorem infoTy : (Tryd.prog.info? 38).map (fun i => (i.zero, i.size, i.bytes)) = some (some (.agg #[.int .i64 0, .int .i64 0, .int .i64 0, .int .i64 0, .int .i64 0, .int .i64 0, .int .i64 0, .int .i64 0, .int .i64 0]), 9, 72) := by kernel_rfl
def tyL1 (t : Ty) : List Value := [.int .i64 t.k, .int .i64 t.v, .int .i64 t.a, .int .i64 t.b, .int .i64 t.c0, .int .i64 t.c1, .int .i64 t.c2, .int .i64 t.c3, .int .i64 t.t]
def tyL (l : List Ty) : List Value := l.flatMap tyL1
theorem tyL_len (l : List Ty) : (tyL l).length = l.length * 9 := by
  induction l with
  | nil => rfl
  | cons t l ih => simp only [tyL, List.flatMap_cons, List.length_append, List.length_cons] at *; rw [ih]; simp [tyL1]; omega
theorem tyL_app (l m : List Ty) : tyL (l ++ m) = tyL l ++ tyL m := by simp [tyL]
theorem tyL_get : ∀ (l : List Ty) (i k : Nat), k < 9 → (tyL l)[i * 9 + k]? = (l[i]?).bind fun t => (tyL1 t)[k]?
  | [], i, k, _ => by simp [tyL]
  | t :: l, 0, k, hk => by
    simp only [tyL, List.flatMap_cons, Nat.zero_mul, Nat.zero_add]
    rw [List.getElem?_append_left (by simp [tyL1]; omega)]; rfl
  | t :: l, i + 1, k, hk => by
    have h := tyL_get l i k hk
    simp only [tyL, List.flatMap_cons] at *
    rw [List.getElem?_append_right (by simp [tyL1]; omega), show (i + 1) * 9 + k - (tyL1 t).length = i * 9 + k by simp [tyL1]; omega, h]
    simp
theorem tyL_one (l : List Ty) : ∀ u ∈ tyL l, u.oneCell' = true := by
  intro u hu
  unfold tyL at hu
  rw [List.mem_flatMap] at hu
  obtain ⟨t, _, ht⟩ := hu
  unfold tyL1 at ht
  simp only [List.mem_cons, List.not_mem_nil, or_false] at ht
  rcases ht with rfl | rfl | rfl | rfl | rfl | rfl | rfl | rfl | rfl <;> rfl
theorem tySl_of {w : World} {g off : Nat} {l : List Ty} (h : ∀ j u, (tyL l)[j]? = some u → w.cell? ⟨g, off + j, none⟩ = some u) : TySl w g off l := by
  intro i hi
  have hg : l[i]? = some (l.getD i ty0) := by rw [List.getD_eq_getElem?_getD, List.getElem?_eq_getElem hi]; rfl
  have k0 := h (i * 9 + 0) (.int .i64 (l.getD i ty0).k) (by rw [tyL_get l i 0 (by omega), hg]; rfl)
  have k1 := h (i * 9 + 1) (.int .i64 (l.getD i ty0).v) (by rw [tyL_get l i 1 (by omega), hg]; rfl)
  have k2 := h (i * 9 + 2) (.int .i64 (l.getD i ty0).a) (by rw [tyL_get l i 2 (by omega), hg]; rfl)
  have k3 := h (i * 9 + 3) (.int .i64 (l.getD i ty0).b) (by rw [tyL_get l i 3 (by omega), hg]; rfl)
  have k4 := h (i * 9 + 4) (.int .i64 (l.getD i ty0).c0) (by rw [tyL_get l i 4 (by omega), hg]; rfl)
  have k5 := h (i * 9 + 5) (.int .i64 (l.getD i ty0).c1) (by rw [tyL_get l i 5 (by omega), hg]; rfl)
  have k6 := h (i * 9 + 6) (.int .i64 (l.getD i ty0).c2) (by rw [tyL_get l i 6 (by omega), hg]; rfl)
  have k7 := h (i * 9 + 7) (.int .i64 (l.getD i ty0).c3) (by rw [tyL_get l i 7 (by omega), hg]; rfl)
  have k8 := h (i * 9 + 8) (.int .i64 (l.getD i ty0).t) (by rw [tyL_get l i 8 (by omega), hg]; rfl)
  exact ⟨k0, k1, k2, k3, k4, k5, k6, k7, k8⟩
theorem tySl_get {w : World} {g off : Nat} {l : List Ty} (h : TySl w g off l) : ∀ j u, (tyL l)[j]? = some u → w.cell? ⟨g, off + j, none⟩ = some u := by
  intro j u hj
  have hjj : j = j / 9 * 9 + j % 9 := by omega
  have hm : j % 9 < 9 := by omega
  generalize j / 9 = i at hjj
  generalize j % 9 = k at hjj hm
  subst hjj
  rw [tyL_get l i k hm] at hj
  cases hg : l[i]? with
  | none => rw [hg] at hj; cases hj
  | some t =>
    rw [hg] at hj
    have hi : i < l.length := (List.getElem?_eq_some_iff.1 hg).1
    have hT := h i hi
    have ht : l.getD i ty0 = t := by rw [List.getD_eq_getElem?_getD, hg]; rfl
    rw [ht] at hT
    obtain ⟨e0, e1, e2, e3, e4, e5, e6, e7, e8⟩ := hT
    rw [show off + (i * 9 + k) = off + i * 9 + k by omega]
    match k, hm with
    | 0, _ => simp [tyL1] at hj; subst hj; exact e0
    | 1, _ => simp [tyL1] at hj; subst hj; exact e1
    | 2, _ => simp [tyL1] at hj; subst hj; exact e2
    | 3, _ => simp [tyL1] at hj; subst hj; exact e3
    | 4, _ => simp [tyL1] at hj; subst hj; exact e4
    | 5, _ => simp [tyL1] at hj; subst hj; exact e5
    | 6, _ => simp [tyL1] at hj; subst hj; exact e6
    | 7, _ => simp [tyL1] at hj; subst hj; exact e7
    | 8, _ => simp [tyL1] at hj; subst hj; exact e8
def OwnT (B : Nat) (w : World) (v : Value) (l : List Ty) : Prop := w.ownsRow B 38 9 v l.length (tyL l)
theorem OwnT.nil (B : Nat) (w : World) : OwnT B w (.slice none 0 0) [] := ⟨rfl, .inl ⟨rfl, rfl⟩⟩
theorem OwnT.below {B : Nat} {w w1 : World} {v : Value} {l : List Ty} (h : OwnT B w v l) (hb : Below w.heap.size w w1) : OwnT B w1 v l := owns_below h hb
theorem OwnT.fresh (w : World) : OwnT w.heap.size (w.alloc (.cells #[] 38)) (.slice (some ⟨w.heap.size, 0, none⟩) 0 0) [] :=
  ⟨rfl, .inr ⟨w.heap.size, 0, #[], rfl, Nat.le_refl _, by show (w.heap.push _)[w.heap.size]? = _; simp, Nat.le_refl _, by decide, rfl, rfl⟩⟩
theorem OwnT.cases {B : Nat} {w : World} {v : Value} {l : List Ty} (h : OwnT B w v l) : (v = .slice none 0 0 ∧ l = []) ∨ ∃ g c, v = .slice (some ⟨g, 0, none⟩) l.length c ∧ B ≤ g ∧ g < w.heap.size ∧ l.length ≤ c ∧ TySl w g 0 l ∧ ∀ o, w.frozen? ⟨g, o, none⟩ = false := by
  have hh := h
  rcases h.2 with ⟨rfl, h0⟩ | ⟨g, cap, cur, rfl, hb, hg, hc, hm, hsz, htk⟩
  · exact .inl ⟨rfl, List.eq_nil_of_length_eq_zero h0⟩
  · refine .inr ⟨g, cap, rfl, hb, (Array.getElem?_eq_some_iff.1 hg).1, hc, tySl_of fun j u hj => ?_, fun o => World.ownsRow.frozenAt hh o⟩
    have := World.ownsRow.cells (show w.ownsRow B 38 9 (.slice (some ⟨g, 0, none⟩) l.length cap) l.length (tyL l) from hh) rfl j u hj
    by_cases hj0 : j = 0
    · subst hj0; simpa [Addr.add] using this
    · simpa [Addr.add, hj0] using this
theorem OwnT.arg {B : Nat} {w : World} {a : Option Addr} {n c : Nat} {l : List Ty} (h : OwnT B w (.slice a n c) l) : TyArg w a n l := by
  rcases h.cases with ⟨h1, rfl⟩ | ⟨g, c, h1, _, h3, _, h5, _⟩
  · injection h1 with _ h1 _; subst h1; exact ⟨rfl, .inl rfl⟩
  · injection h1 with h0 h1 _; subst h0; subst h1; exact ⟨rfl, .inr ⟨g, 0, rfl, h5, h3⟩⟩
/-- some more behind those that there are: they lie in the block that was made last. -/
theorem op_ty {ops : Array Oper} {rest : List Oper} {o : Oper} {a : Act} {Q : Exit → Act → World → Prop} (hgd : o.guard = none) (s x : Operand) (W : World) (B : Nat) (hB : B ≤ W.heap.size) (ov : Value) (l ys : List Ty) (arr : Array Value)
    (ho : o.op = .call { callee := .builtin .append, args := #[s, x], argTypes := #[22, 22] })
    (hs : a.eval s = ov) (m : Nat) (hm : m = ys.length) (hx : a.eval x = .slice (some ⟨W.heap.size, 0, none⟩) m m) (harr : arr.toList = tyL ys) (hown : OwnT B W ov l) (hlen : (l.length + ys.length) * 72 ≤ 140737488355328)
    (h : ∀ v' w', OwnT B w' v' (l ++ ys) → Below B W w' → (v' = .slice none 0 0 → ys = []) → wpList Tryd.prog ops Q rest (a.put o.dst v') w') :
    wpList Tryd.prog ops Q (o :: rest) a (W.alloc (.cells arr 38)) := by
  subst hm
  obtain ⟨i0, hi, hz0, hz1, hz2⟩ := info_parts infoTy
  refine wpList_append_own _ hgd s x 22 ho B 38 i0 (.agg #[.int .i64 0, .int .i64 0, .int .i64 0, .int .i64 0, .int .i64 0, .int .i64 0, .int .i64 0, .int .i64 0, .int .i64 0]) 9 72 Tryd.underlying22 hi hz0 hz1 hz2 rfl (by decide) ov l.length (tyL l) hs (World.ownsRow.alloc hown _) ⟨W.heap.size, 0, none⟩ ys.length ys.length (tyL ys) hx (tyL_len ys) ?_ (tyL_one ys) (by unfold maxLen; omega) (by omega) (by simp; omega) ?_
  · intro j u hj
    have e : (⟨W.heap.size, 0, none⟩ : Addr).add j = ⟨W.heap.size, j, none⟩ := by simp [Addr.add]; try omega
    rw [e, World.cell?_alloc_at _ _ _ _ rfl, ← hj, ← harr, Array.getElem?_toList]
  · intro v' w' hown' hgr hnil
    refine h v' w' (by unfold OwnT; rw [tyL_app, List.length_append]; exact hown') ?_ (fun e => List.eq_nil_of_length_eq_zero (hnil.1 e).2)
    have hsz := hgr.size
    simp at hsz
    refine ⟨hgr.os, hgr.tape, hgr.output, by omega, fun k hk => ?_⟩
    rw [hgr.block k (by simp; omega) ?_]
    · exact Below.heap_alloc W _ k (by omega)
    · intro e
      rcases hown.2 with ⟨rfl, _⟩ | ⟨g, cap, cur, rfl, hg, _⟩
      · simp [Value.ownBlock] at e
      · simp [Value.ownBlock] at e; omega

set_option maxHeartbeats 400000 in
theorem CopyTyNodes_nil (a : Option Addr) (c : Nat) (w : World) :
    Calls Tryd.prog 41 #[.slice a 0 c] w fun e w' => ∃ v, e = .returned v ∧ OwnT w.heap.size w' v [] ∧ Below w.heap.size w w' := by
  obtain ⟨i0, hi, hz0, hz1, hz2⟩ := info_parts infoTy
  have hown0 := Lib.hid (OwnT.fresh w)
  cases a with
  | some ad =>
    go_enter Tryd.func41, Tryd.ntmps41
    go_wp2_with (at_builtin; refine wpList_append_own _ rfl (.tmp 3) (.tmp 4) 22 rfl w.heap.size 38 i0 (.agg #[.int .i64 0, .int .i64 0, .int .i64 0, .int .i64 0, .int .i64 0, .int .i64 0, .int .i64 0, .int .i64 0, .int .i64 0]) 9 72 Tryd.underlying22 hi hz0 hz1 hz2 rfl (by decide) _ 0 [] rfl hown0.out ad 0 c [] rfl rfl (by intro j u hj; simp at hj) (by intro u hu; simp at hu) (by unfold maxLen; omega) (by omega) (by simp) ?_)
    intro v' w1 hown1 hgr _
    have hbel : Below w.heap.size w w1 := ((Below.refl _ _).alloc (Nat.le_refl _) _).grown hgr (by simp) (by intro k hk; simp [Value.ownBlock] at hk; omega)
    have hown1' := Lib.hid hown1; clear hown1 hgr
    go_wp2_with fail
    go_ret
    exact ⟨v', rfl, hown1'.out, hbel⟩
  | none =>
  go_enter Tryd.func41, Tryd.ntmps41
  go_wp2_with fail
  go_ret
  exact ⟨_, rfl, hown0.out, by (repeat' (first | with_reducible exact Below.refl _ _ | with_reducible assumption | with_reducible apply Below.setCell | with_reducible apply Below.alloc | with_reducible apply Below.drew | with_reducible apply below_drewN | with_reducible exact Nat.le_refl _ | (simp; done) | (simp; omega) | omega | exact Nat.le_refl _))⟩
set_option maxHeartbeats 400000 in
theorem CopyTyNodes_sl (g off cp : Nat) (l : List Ty) (w : World) (h : Hid (TySl w g off l)) (hg : g < w.heap.size) (hl : l.length * 72 ≤ 140737488351232) :
    Calls Tryd.prog 41 #[.slice (some ⟨g, off, none⟩) l.length cp] w fun e w' => ∃ v, e = .returned v ∧ OwnT w.heap.size w' v l ∧ Below w.heap.size w w' := by
  obtain ⟨i0, hi, hz0, hz1, hz2⟩ := info_parts infoTy
  have hown0' := Lib.hid (OwnT.fresh w)
  have hnews : Hid (∀ j u, (tyL l)[j]? = some u → (w.alloc (.cells #[] 38)).cell? ((⟨g, off, none⟩ : Addr).add j) = some u) := Lib.hid (by
    intro j u hj
    have e : (⟨g, off, none⟩ : Addr).add j = ⟨g, off + j, none⟩ := by simp [Addr.add]; try omega
    rw [e, World.cell?_alloc_past _ _ _ hg]
    exact tySl_get h.out j u hj)
  go_enter Tryd.func41, Tryd.ntmps41
  go_wp2_with (at_builtin; refine wpList_append_own _ rfl (.tmp 3) (.tmp 4) 22 rfl w.heap.size 38 i0 (.agg #[.int .i64 0, .int .i64 0, .int .i64 0, .int .i64 0, .int .i64 0, .int .i64 0, .int .i64 0, .int .i64 0, .int .i64 0]) 9 72 Tryd.underlying22 hi hz0 hz1 hz2 rfl (by decide) _ 0 [] rfl hown0'.out ⟨g, off, none⟩ l.length cp (tyL l) rfl (tyL_len l) hnews.out (tyL_one l) (by unfold maxLen; omega) (by omega) (by simp) ?_)
  intro v' w1 hown1 hgr _
  have hbel : Below w.heap.size w w1 := ((Below.refl _ _).alloc (Nat.le_refl _) _).grown hgr (by simp) (by intro k hk; simp [Value.ownBlock] at hk; omega)
  (try rw [Nat.zero_add, List.nil_append] at hown1)
  have hown1' := Lib.hid hown1; clear hown1 hgr
  go_wp2_with fail
  go_ret
  exact ⟨v', rfl, hown1'.out, hbel⟩
theorem CopyTyNodes_any (a : Option Addr) (n c : Nat) (l : List Ty) (w : World) (h : Hid (TyArg w a n l)) (hl : n * 72 ≤ 140737488351232) :
    Calls Tryd.prog 41 #[.slice a n c] w fun e w' => ∃ v, e = .returned v ∧ OwnT w.heap.size w' v l ∧ Below w.heap.size w w' := by
  obtain ⟨rfl, rfl | ⟨b, off, rfl, h1, h2⟩⟩ := h.out
  · exact CopyTyNodes_nil a c w
  · exact CopyTyNodes_sl b off c l w (Lib.hid h1) h2 hl
end Go.Proofs.YtfkdcconmecaoaaDoor
