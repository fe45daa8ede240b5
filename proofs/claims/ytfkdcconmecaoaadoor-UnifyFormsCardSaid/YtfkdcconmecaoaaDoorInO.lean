/- Rows of numbers: those that may be read, those of the call's own; what appending leaves alone. -/
import Derived.Test.YtfkdcconmecaoaaDoorTyO
import Derived.Laws.Append
import Derived.Test.YtfkdcconmecaoaaDoorSbH
/- Rows of numbers: those that may be read, those of the call's own; what appending leaves alone. -/
namespace Go.Proofs.YtfkdcconmecaoaaDoor
open Go.RowKit
set_option linter.unusedVariables false
set_option linter.unusedSimpArgs false

/-- a slice of numbers, in memory. -/
def IsSl (w : World) (b off : Nat) (l : List Int) : Prop := ∀ i, i < l.length → w.cell? ⟨b, off + i, none⟩ = some (.int .i64 (l.getD i 0))
theorem IsSl.below {B : Nat} {w w' : World} {b off : Nat} {l : List Int} (h : IsSl w b off l) (hb : Below B w w') (hB : b < B) : IsSl w' b off l :=
  fun i hi => (hb.cell (p := ⟨b, off + i, none⟩) hB).trans (h i hi)
def IsArg (w : World) (a : Option Addr) (n : Nat) (l : List Int) : Prop := n = l.length ∧ (l = [] ∨ ∃ b off, a = some ⟨b, off, none⟩ ∧ IsSl w b off l ∧ b < w.heap.size)
theorem IsArg.below {w w' : World} {a : Option Addr} {n : Nat} {l : List Int} (h : IsArg w a n l) (hb : Below w.heap.size w w') : IsArg w' a n l := by
  obtain ⟨h1, h | ⟨b, off, h2, h3, h4⟩⟩ := h
  · exact ⟨h1, .inl h⟩
  · exact ⟨h1, .inr ⟨b, off, h2, h3.below hb h4, by have := hb.size; omega⟩⟩
theorem isArg_nil (w : World) (a : Option Addr) : IsArg w a 0 [] := ⟨rfl, .inl rfl⟩
theorem infoI : (Tryd.prog.info? 3).map (fun i => (i.zero, i.size, i.bytes)) = some (some (.int .i64 0), 1, 8) := by kernel_rfl
def inL (l : List Int) : List Value := l.map (Value.int .i64)
theorem inL_app (l m : List Int) : inL (l ++ m) = inL l ++ inL m := by simp [inL]
theorem inL_get (l : List Int) (i : Nat) : (inL l)[i]? = (l[i]?).map (Value.int .i64) := by simp [inL]
theorem inL_one (l : List Int) : ∀ u ∈ inL l, u.oneCell' = true := by
  intro u hu
  obtain ⟨x, _, rfl⟩ := List.mem_map.1 hu
  rfl
def OwnI (B : Nat) (w : World) (v : Value) (l : List Int) : Prop := w.ownsRow B 3 1 v l.length (inL l)
theorem OwnI.nil (B : Nat) (w : World) : OwnI B w (.slice none 0 0) [] := ⟨rfl, .inl ⟨rfl, rfl⟩⟩
theorem OwnI.below {B : Nat} {w w1 : World} {v : Value} {l : List Int} (h : OwnI B w v l) (hb : Below w.heap.size w w1) : OwnI B w1 v l := owns_below h hb
theorem OwnI.le {B B' : Nat} {w : World} {v : Value} {l : List Int} (h : OwnI B' w v l) (hB : B ≤ B') : OwnI B w v l := by
  refine ⟨h.1, ?_⟩
  rcases h.2 with h | ⟨g, cap, cur, h1, h2, h3⟩
  · exact .inl h
  · exact .inr ⟨g, cap, cur, h1, by omega, h3⟩
theorem OwnI.cases {B : Nat} {w : World} {v : Value} {l : List Int} (h : OwnI B w v l) : (v = .slice none 0 0 ∧ l = []) ∨ ∃ g c, v = .slice (some ⟨g, 0, none⟩) l.length c ∧ B ≤ g ∧ g < w.heap.size ∧ l.length ≤ c ∧ IsSl w g 0 l ∧ ∀ o, w.frozen? ⟨g, o, none⟩ = false := by
  have hh := h
  rcases h.2 with ⟨rfl, h0⟩ | ⟨g, cap, cur, rfl, hb, hg, hc, hm, hsz, htk⟩
  · exact .inl ⟨rfl, List.eq_nil_of_length_eq_zero h0⟩
  · refine .inr ⟨g, cap, rfl, hb, (Array.getElem?_eq_some_iff.1 hg).1, hc, fun i hi => ?_, fun o => World.ownsRow.frozenAt hh o⟩
    have := World.ownsRow.cells (show w.ownsRow B 3 1 (.slice (some ⟨g, 0, none⟩) l.length cap) l.length (inL l) from hh) rfl i (.int .i64 (l.getD i 0)) (by rw [inL_get, List.getD_eq_getElem?_getD, List.getElem?_eq_getElem hi]; rfl)
    rw [Nat.zero_add]
    by_cases hj0 : i = 0
    · subst hj0; simpa [Addr.add] using this
    · simpa [Addr.add, hj0] using this
theorem OwnI.arg {B : Nat} {w : World} {a : Option Addr} {n c : Nat} {l : List Int} (h : OwnI B w (.slice a n c) l) : IsArg w a n l := by
  rcases h.cases with ⟨h1, rfl⟩ | ⟨g, c, h1, _, h3, _, h5, _⟩
  · injection h1 with _ h1 _; subst h1; exact ⟨rfl, .inl rfl⟩
  · injection h1 with h0 h1 _; subst h0; subst h1; exact ⟨rfl, .inr ⟨g, 0, rfl, h5, h3⟩⟩
theorem ownI_sl {B : Nat} {w : World} {v : Value} {l : List Int} (h : OwnI B w v l) : ∃ a n c, v = .slice a n c := by
  rcases h.cases with ⟨rfl, _⟩ | ⟨g, c, rfl, _⟩ <;> exact ⟨_, _, _, rfl⟩

/-- where the row lies that append hands out: where it lay, or behind all that there was. -/
def Moved (w : World) (v v' : Value) : Prop := v'.ownBlock = v.ownBlock ∨ ∃ k, v'.ownBlock = some k ∧ w.heap.size ≤ k
theorem run_append_moved {P : Program} (w : World) (base : Nat) (t ty e : TypeId) (i : TypeInfo) (z : Value) (size bytes : Nat) (ht : P.underlying t = some (.slice e)) (hi : P.info? e = some i) (hz : i.zero = some z)
    (hsize : i.size = size) (hby : i.bytes = bytes) (hzs : z.cells.size = size) (hsz : 0 < size)
    (v : Value) (n : Nat) (xs : List Value) (hown : w.ownsRow base e size v n xs)
    (a : Addr) (m c : Nat) (news : List Value) (hl : news.length = m * size) (hnews : ∀ j u, news[j]? = some u → w.cell? (a.add j) = some u) (h1 : ∀ u ∈ news, u.oneCell' = true)
    (h63 : n + m ≤ maxLen) (hbytes : (n + m) * bytes ≤ 140737488355328) (hbase : base ≤ w.heap.size) :
    ∃ v' w', (Builtin.append_ #[t, t] ty #[v, .slice (some a) m c]).run P w = .ok v' w' ∧ w'.ownsRow base e size v' (n + m) (xs ++ news) ∧ w.grownBy w' v.ownBlock ∧
      (v' = .slice none 0 0 ↔ v = .slice none 0 0 ∧ m = 0) ∧ Moved w v v' := by
  obtain ⟨v', w', hr, h2, h3, h4⟩ := run_append_own (P := P) w base t ty e i z size bytes ht hi hz hsize hby hzs hsz v n xs hown a m c news hl hnews h1 h63 hbytes hbase
  refine ⟨v', w', hr, h2, h3, h4, ?_⟩
  rcases hown.2 with ⟨hv, hn⟩ | ⟨g, cap, cur, hv, hbg, hg, hnc, hcm, hcs, htake⟩
  · subst hv
    subst hn
    have hx : xs = [] := List.eq_nil_of_length_eq_zero (by simpa using hown.1)
    obtain ⟨v2, w2, hr2, k2, _, _⟩ := run_append_own (P := P) w w.heap.size t ty e i z size bytes ht hi hz hsize hby hzs hsz (.slice none 0 0) 0 [] (World.ownsRow_nil _ _ _ _) a m c news hl hnews h1 h63 hbytes (Nat.le_refl _)
    rw [hr] at hr2
    injection hr2 with e1 e2
    subst e1
    cases ho : v'.ownBlock with
    | none => exact .inl (by rw [ho]; rfl)
    | some k => exact .inr ⟨k, ho, (k2.lt k ho).1⟩
  · subst hv
    by_cases hroom : n + m ≤ cap
    · have hr2 := run_append_room (P := P) w t ty e i ht hi g n cap cur hg a m c news (by rw [hl, hsize]) hnews h1 hroom (by rw [hl, hcs, hsize, ← Nat.add_mul]; exact Nat.mul_le_mul_right _ hroom)
      rw [hr] at hr2
      injection hr2 with e1 e2
      subst e1
      exact .inl rfl
    · have holds : ∀ j u, xs[j]? = some u → w.cell? ((⟨g, 0, none⟩ : Addr).add j) = some u := hown.cells (g := g) rfl
      have hr2 := run_append_grow (P := P) w t ty e i z ht hi hz ⟨g, 0, none⟩ n cap xs (by rw [hsize]; exact hown.1) holds a m c news (by rw [hsize]; exact hl) hnews (by omega) (by unfold maxLen at h63; omega) (growslice_fits (by omega) (by rw [hby]; exact hbytes))
      rw [hr] at hr2
      injection hr2 with e1 e2
      subst e1
      exact .inr ⟨w.heap.size, rfl, Nat.le_refl _⟩
theorem wpList_append_moved {P : Program} (w : World) {ops : Array Oper} {rest : List Oper} {o : Oper} {a : Act} {Q : Exit → Act → World → Prop} (hgd : o.guard = none) (s x : Operand) (t : TypeId)
    (ho : o.op = .call { callee := .builtin .append, args := #[s, x], argTypes := #[t, t] })
    (base : Nat) (e : TypeId) (i : TypeInfo) (z : Value) (size bytes : Nat) (ht : P.underlying t = some (.slice e)) (hi : P.info? e = some i) (hz : i.zero = some z)
    (hsize : i.size = size) (hby : i.bytes = bytes) (hzs : z.cells.size = size) (hsz : 0 < size)
    (v : Value) (n : Nat) (xs : List Value) (hs : a.eval s = v) (hown : w.ownsRow base e size v n xs)
    (ad : Addr) (m c : Nat) (news : List Value) (hx : a.eval x = .slice (some ad) m c) (hl : news.length = m * size) (hnews : ∀ j u, news[j]? = some u → w.cell? (ad.add j) = some u) (h1 : ∀ u ∈ news, u.oneCell' = true)
    (h63 : n + m ≤ maxLen) (hbytes : (n + m) * bytes ≤ 140737488355328) (hbase : base ≤ w.heap.size)
    (h : ∀ v' w', w'.ownsRow base e size v' (n + m) (xs ++ news) → w.grownBy w' v.ownBlock → (v' = .slice none 0 0 → m = 0) → Moved w v v' → wpList P ops Q rest (a.put o.dst v') w') : wpList P ops Q (o :: rest) a w :=
  wpList_plain hgd fun _ hK => by
    obtain ⟨v', w', hr, h2, h3, h4, h5⟩ := run_append_moved (P := P) w base t o.type e i z size bytes ht hi hz hsize hby hzs hsz v n xs hown ad m c news hl hnews h1 h63 hbytes hbase
    unfold Oper.wp execOp
    simp only [ho, resolve, invoke, builtin, Sem.run_bind, Sem.run_pure, Result.andThen_ok, List.map_toArray, List.map_cons, List.map_nil, hs, hx, hr]
    exact hK _ _ (h v' w' h2 h3 (fun e => (h4.1 e).2) h5)
/-- one number more: it lies in the block that was made last. -/
theorem op_in {ops : Array Oper} {rest : List Oper} {o : Oper} {a : Act} {Q : Exit → Act → World → Prop} (hgd : o.guard = none) (s x : Operand) (W : World) (B : Nat) (hB : B ≤ W.heap.size) (ov : Value) (l : List Int) (y : Int)
    (ho : o.op = .call { callee := .builtin .append, args := #[s, x], argTypes := #[52, 52] })
    (hs : a.eval s = ov) (hx : a.eval x = .slice (some ⟨W.heap.size, 0, none⟩) 1 1) (hown : OwnI B W ov l) (hlen : l.length ≤ 1099511627776)
    (h : ∀ g c w', OwnI B w' (.slice (some ⟨g, 0, none⟩) (l.length + 1) c) (l ++ [y]) → W.grownBy w' ov.ownBlock → Moved W ov (.slice (some ⟨g, 0, none⟩) (l.length + 1) c) → wpList Tryd.prog ops Q rest (a.put o.dst (.slice (some ⟨g, 0, none⟩) (l.length + 1) c)) w') :
    wpList Tryd.prog ops Q (o :: rest) a (W.alloc (.cells #[.int .i64 y] 3)) := by
  obtain ⟨i0, hi, hz0, hz1, hz2⟩ := info_parts infoI
  refine wpList_append_moved _ hgd s x 52 ho B 3 i0 (.int .i64 0) 1 8 Tryd.underlying52 hi hz0 hz1 hz2 rfl (by decide) ov l.length (inL l) hs (World.ownsRow.alloc hown _) ⟨W.heap.size, 0, none⟩ 1 1 [.int .i64 y] hx rfl ?_ (by intro u hu; simp at hu; subst hu; rfl) (by unfold maxLen; omega) (by omega) (by simp; omega) ?_
  · intro j u hj
    match j, hj with
    | 0, hj => simp at hj; subst hj; show (W.alloc _).cell? ⟨W.heap.size, 0, none⟩ = _; simp
    | j + 1, hj => simp at hj
  · intro v' w' hown' hgr hnil hmv
    have hown2 : OwnI B w' v' (l ++ [y]) := by unfold OwnI; rw [inL_app, List.length_append]; exact hown'
    rcases hown2.cases with ⟨_, h0⟩ | ⟨g, c, rfl, _⟩
    · simp at h0
    · rw [List.length_append, List.length_singleton] at hown2 hmv ⊢
      refine h g c w' hown2 ⟨hgr.os, hgr.tape, hgr.output, by have := hgr.size; simp at this; omega, fun k hk hne => ?_⟩ ?_
      · rw [hgr.block k (by simp; omega) hne]; exact Below.heap_alloc W _ k hk
      · rcases hmv with h | ⟨k, h, h'⟩
        · exact .inl h
        · exact .inr ⟨k, h, by simp at h'; omega⟩
end Go.Proofs.YtfkdcconmecaoaaDoor

/- What a call leaves alone: all blocks but some. -/
namespace Go.Proofs.YtfkdcconmecaoaaDoor
open Go.RowKit
set_option linter.unusedVariables false
set_option linter.unusedSimpArgs false

/-- a node of a type in a block of its own. -/
def TnAt (w : World) (g : Nat) (t : Ty) : Prop := g < w.heap.size ∧ w.cell? ⟨g, 0, none⟩ = some (.int .i64 t.k) ∧ w.cell? ⟨g, 1, none⟩ = some (.int .i64 t.v) ∧ w.cell? ⟨g, 2, none⟩ = some (.int .i64 t.a) ∧ w.cell? ⟨g, 3, none⟩ = some (.int .i64 t.b) ∧ w.cell? ⟨g, 4, none⟩ = some (.int .i64 t.c0) ∧ w.cell? ⟨g, 5, none⟩ = some (.int .i64 t.c1) ∧ w.cell? ⟨g, 6, none⟩ = some (.int .i64 t.c2) ∧ w.cell? ⟨g, 7, none⟩ = some (.int .i64 t.c3) ∧ w.cell? ⟨g, 8, none⟩ = some (.int .i64 t.t)
theorem TnAt.below {w w' : World} {g : Nat} {t : Ty} (h : TnAt w g t) (hb : Below w.heap.size w w') : TnAt w' g t := by
  obtain ⟨h0, h1, h2, h3, h4, h5, h6, h7, h8, h9⟩ := h
  exact ⟨by have := hb.size; omega, carry hb h0 h1, carry hb h0 h2, carry hb h0 h3, carry hb h0 h4, carry hb h0 h5, carry hb h0 h6, carry hb h0 h7, carry hb h0 h8, carry hb h0 h9⟩
/-- all blocks but those of S are as they were. -/
structure Bar (S : Nat → Prop) (w w' : World) : Prop where
  os : w'.os = w.os
  tape : w'.tape = w.tape
  output : w'.output = w.output
  size : w.heap.size ≤ w'.heap.size
  block : ∀ k, k < w.heap.size → ¬ S k → w'.heap[k]? = w.heap[k]?
theorem Bar.refl (S : Nat → Prop) (w : World) : Bar S w w := ⟨rfl, rfl, rfl, Nat.le_refl _, fun _ _ _ => rfl⟩
theorem Bar.trans {S S' : Nat → Prop} {w w1 w2 : World} (h : Bar S w w1) (h' : Bar S' w1 w2) (hs : ∀ k, k < w.heap.size → S' k → S k) : Bar S w w2 :=
  ⟨h'.os.trans h.os, h'.tape.trans h.tape, h'.output.trans h.output, Nat.le_trans h.size h'.size, fun k hk hn => (h'.block k (Nat.lt_of_lt_of_le hk h.size) (fun hc => hn (hs k hk hc))).trans (h.block k hk hn)⟩
theorem Bar.of_below {S : Nat → Prop} {w w' : World} (h : Below w.heap.size w w') : Bar S w w' := ⟨h.os, h.tape, h.output, h.size, fun k hk _ => h.block k hk⟩
theorem Bar.next {S : Nat → Prop} {w w1 w2 : World} (h : Bar S w w1) (h' : Below w1.heap.size w1 w2) : Bar S w w2 := h.trans (Bar.of_below (S := S) h') fun _ _ hs => hs
theorem Bar.below {S : Nat → Prop} {B : Nat} {w w' : World} (h : Bar S w w') (hB : B ≤ w.heap.size) (hS : ∀ k, S k → B ≤ k) : Below B w w' :=
  ⟨h.os, h.tape, h.output, h.size, fun k hk => h.block k (by omega) (fun hs => by have := hS k hs; omega)⟩
theorem Bar.of_grown {w w' : World} {row : Option Nat} (h : w.grownBy w' row) : Bar (fun k => row = some k) w w' :=
  ⟨h.os, h.tape, h.output, h.size, fun k hk hn => h.block k hk (fun e => hn e.symm)⟩
theorem Bar.set {S : Nat → Prop} {w : World} (p : Addr) (v : Value) (hp : S p.block) : Bar S w (w.setCell p v) :=
  ⟨rfl, rfl, rfl, by simp [World.setCell], fun k _ hn => Below.heap_setCell w p v k (fun e => hn (e ▸ hp))⟩
theorem Bar.cell {S : Nat → Prop} {w w' : World} {a : Addr} {v : Value} (h : Bar S w w') (hc : w.cell? a = some v) (hn : ¬ S a.block) : w'.cell? a = some v :=
  (World.cell?_of_block (h.block a.block (World.block_lt_of_cell? w a hc) hn)).trans hc
theorem Bar.frozen {S : Nat → Prop} {w w' : World} {a : Addr} (h : Bar S w w') (hl : a.block < w.heap.size) (hn : ¬ S a.block) : w'.frozen? a = w.frozen? a :=
  World.frozen?_of_block (h.block a.block hl hn)
theorem Bar.own {S : Nat → Prop} {w w' : World} {base : Nat} {e : TypeId} {size : Nat} {v : Value} {n : Nat} {xs : List Value} (h : Bar S w w') (ho : w.ownsRow base e size v n xs) (hn : ∀ k, v.ownBlock = some k → ¬ S k) : w'.ownsRow base e size v n xs := by
  refine ⟨ho.1, ?_⟩
  rcases ho.2 with h0 | ⟨g, cap, cur, rfl, hb, hgg, rest⟩
  · exact .inl h0
  · exact .inr ⟨g, cap, cur, rfl, hb, (h.block g (Array.getElem?_eq_some_iff.1 hgg).1 (hn g rfl)).trans hgg, rest⟩
theorem BoxAt.bar {S : Nat → Prop} {w w' : World} {g : Nat} {v : Value} (h : BoxAt w g v) (hb : Bar S w w') (hn : ¬ S g) : BoxAt w' g v :=
  ⟨by have := hb.size; have := h.1; omega, hb.cell h.2 hn⟩
theorem TySl.bar {S : Nat → Prop} {w w' : World} {b off : Nat} {ts : List Ty} (h : TySl w b off ts) (hb : Bar S w w') (hn : ¬ S b) : TySl w' b off ts := by
  intro i hi
  obtain ⟨h0, h1, h2, h3, h4, h5, h6, h7, h8⟩ := h i hi
  exact ⟨hb.cell h0 hn, hb.cell h1 hn, hb.cell h2 hn, hb.cell h3 hn, hb.cell h4 hn, hb.cell h5 hn, hb.cell h6 hn, hb.cell h7 hn, hb.cell h8 hn⟩
theorem TyArg.bar {S : Nat → Prop} {w w' : World} {a : Option Addr} {n : Nat} {ts : List Ty} (h : TyArg w a n ts) (hb : Bar S w w') (hn : ∀ b off, a = some ⟨b, off, none⟩ → ¬ S b) : TyArg w' a n ts := by
  obtain ⟨h1, h | ⟨b, off, h2, h3, h4⟩⟩ := h
  · exact ⟨h1, .inl h⟩
  · exact ⟨h1, .inr ⟨b, off, h2, h3.bar hb (hn b off h2), by have := hb.size; omega⟩⟩
theorem IsArg.bar {S : Nat → Prop} {w w' : World} {a : Option Addr} {n : Nat} {l : List Int} (h : IsArg w a n l) (hb : Bar S w w') (hn : ∀ b off, a = some ⟨b, off, none⟩ → ¬ S b) : IsArg w' a n l := by
  obtain ⟨h1, h | ⟨b, off, h2, h3, h4⟩⟩ := h
  · exact ⟨h1, .inl h⟩
  · exact ⟨h1, .inr ⟨b, off, h2, fun i hi => hb.cell (h3 i hi) (hn b off h2), by have := hb.size; omega⟩⟩
/-- rows of unlike things lie in unlike blocks. -/
theorem own_ne {w : World} {B B' : Nat} {e e' : TypeId} {s s' : Nat} {v v' : Value} {n n' : Nat} {xs xs' : List Value} (h : w.ownsRow B e s v n xs) (h' : w.ownsRow B' e' s' v' n' xs') (he : e ≠ e') : ∀ k, v.ownBlock = some k → ¬ v'.ownBlock = some k := by
  intro k hk hk'
  rcases h.2 with ⟨rfl, _⟩ | ⟨g, cap, cur, rfl, _, hg, _⟩
  · simp [Value.ownBlock] at hk
  rcases h'.2 with ⟨rfl, _⟩ | ⟨g', cap', cur', rfl, _, hg', _⟩
  · simp [Value.ownBlock] at hk'
  simp [Value.ownBlock] at hk hk'
  subst hk hk'
  rw [hg] at hg'
  injection hg' with h1
  injection h1 with _ h2 _
  exact he h2
theorem own_lt {w : World} {B : Nat} {e : TypeId} {s : Nat} {v : Value} {n : Nat} {xs : List Value} (h : w.ownsRow B e s v n xs) : ∀ k, v.ownBlock = some k → B ≤ k ∧ k < w.heap.size := h.lt
/-- a type's node more, behind those that there are: it lies in the block that was made last. -/
theorem op_tyg {ops : Array Oper} {rest : List Oper} {o : Oper} {a : Act} {Q : Exit → Act → World → Prop} (hgd : o.guard = none) (s x : Operand) (W : World) (B : Nat) (hB : B ≤ W.heap.size) (ov : Value) (l : List Ty) (y : Ty) (arr : Array Value)
    (ho : o.op = .call { callee := .builtin .append, args := #[s, x], argTypes := #[22, 22] })
    (hs : a.eval s = ov) (hx : a.eval x = .slice (some ⟨W.heap.size, 0, none⟩) 1 1) (harr : arr.toList = tyL1 y) (hown : OwnT B W ov l) (hlen : l.length ≤ 1099511627776)
    (h : ∀ g c w', OwnT B w' (.slice (some ⟨g, 0, none⟩) (l.length + 1) c) (l ++ [y]) → Bar (fun k => ov.ownBlock = some k) W w' → Moved W ov (.slice (some ⟨g, 0, none⟩) (l.length + 1) c) → wpList Tryd.prog ops Q rest (a.put o.dst (.slice (some ⟨g, 0, none⟩) (l.length + 1) c)) w') :
    wpList Tryd.prog ops Q (o :: rest) a (W.alloc (.cells arr 38)) := by
  obtain ⟨i0, hi, hz0, hz1, hz2⟩ := info_parts infoTy
  have hy : tyL [y] = tyL1 y := by simp [tyL]
  refine wpList_append_moved _ hgd s x 22 ho B 38 i0 (.agg #[.int .i64 0, .int .i64 0, .int .i64 0, .int .i64 0, .int .i64 0, .int .i64 0, .int .i64 0, .int .i64 0, .int .i64 0]) 9 72 Tryd.underlying22 hi hz0 hz1 hz2 rfl (by decide) ov l.length (tyL l) hs (World.ownsRow.alloc hown _) ⟨W.heap.size, 0, none⟩ 1 1 (tyL [y]) hx (tyL_len [y]) ?_ (tyL_one [y]) (by unfold maxLen; omega) (by omega) (by simp; omega) ?_
  · intro j u hj
    have e : (⟨W.heap.size, 0, none⟩ : Addr).add j = ⟨W.heap.size, j, none⟩ := by simp [Addr.add]; try omega
    rw [e, World.cell?_alloc_at _ _ _ _ rfl, ← hj, hy, ← harr, Array.getElem?_toList]
  · intro v' w' hown' hgr hnil hmv
    have hown2 : OwnT B w' v' (l ++ [y]) := by unfold OwnT; rw [tyL_app, List.length_append]; exact hown'
    rcases hown2.cases with ⟨_, h0⟩ | ⟨g, c, rfl, _⟩
    · simp at h0
    · rw [List.length_append, List.length_singleton] at hown2 hmv ⊢
      refine h g c w' hown2 ?_ ?_
      · exact (Bar.of_below (below_alc W _)).trans (Bar.of_grown hgr) fun _ _ hs => hs
      · rcases hmv with h | ⟨k, h, h'⟩
        · exact .inl h
        · exact .inr ⟨k, h, by simp at h'; omega⟩
/-- .. a number. -/
theorem op_ing {ops : Array Oper} {rest : List Oper} {o : Oper} {a : Act} {Q : Exit → Act → World → Prop} (hgd : o.guard = none) (s x : Operand) (W : World) (B : Nat) (hB : B ≤ W.heap.size) (ov : Value) (l : List Int) (y : Int)
    (ho : o.op = .call { callee := .builtin .append, args := #[s, x], argTypes := #[52, 52] })
    (hs : a.eval s = ov) (hx : a.eval x = .slice (some ⟨W.heap.size, 0, none⟩) 1 1) (hown : OwnI B W ov l) (hlen : l.length ≤ 1099511627776)
    (h : ∀ g c w', OwnI B w' (.slice (some ⟨g, 0, none⟩) (l.length + 1) c) (l ++ [y]) → Bar (fun k => ov.ownBlock = some k) W w' → Moved W ov (.slice (some ⟨g, 0, none⟩) (l.length + 1) c) → wpList Tryd.prog ops Q rest (a.put o.dst (.slice (some ⟨g, 0, none⟩) (l.length + 1) c)) w') :
    wpList Tryd.prog ops Q (o :: rest) a (W.alloc (.cells #[.int .i64 y] 3)) :=
  op_in hgd s x W B hB ov l y ho hs hx hown hlen fun g c w' h1 h2 h3 => h g c w' h1 (Bar.of_grown h2) h3
/-- the same behind new blocks: told of the world ahead of them. -/
theorem op_tyh {ops : Array Oper} {rest : List Oper} {o : Oper} {a : Act} {Q : Exit → Act → World → Prop} (hgd : o.guard = none) (s x : Operand) (W Z : World) (B : Nat) (hB : B ≤ Z.heap.size) (hZ : Below Z.heap.size Z W) (ov : Value) (l : List Ty) (y : Ty) (arr : Array Value)
    (ho : o.op = .call { callee := .builtin .append, args := #[s, x], argTypes := #[22, 22] })
    (hs : a.eval s = ov) (g0 : Nat) (hg0 : g0 = W.heap.size) (hx : a.eval x = .slice (some ⟨g0, 0, none⟩) 1 1) (harr : arr.toList = tyL1 y) (hown : OwnT B Z ov l) (hlen : l.length ≤ 1099511627776)
    (h : ∀ g c w', OwnT B w' (.slice (some ⟨g, 0, none⟩) (l.length + 1) c) (l ++ [y]) → Bar (fun k => ov.ownBlock = some k) Z w' → Moved Z ov (.slice (some ⟨g, 0, none⟩) (l.length + 1) c) → wpList Tryd.prog ops Q rest (a.put o.dst (.slice (some ⟨g, 0, none⟩) (l.length + 1) c)) w') :
    wpList Tryd.prog ops Q (o :: rest) a (W.alloc (.cells arr 38)) :=
  op_tyg hgd s x W B (by have := hZ.size; omega) ov l y arr ho hs (by rw [hx, hg0]) harr (hown.below hZ) hlen fun g c w' h1 h2 h3 =>
    h g c w' h1 ((Bar.of_below (S := fun k => ov.ownBlock = some k) hZ).trans h2 fun _ _ hk => hk) (by
      rcases h3 with h | ⟨k, h, h'⟩
      · exact .inl h
      · exact .inr ⟨k, h, by have := hZ.size; omega⟩)
theorem op_inh {ops : Array Oper} {rest : List Oper} {o : Oper} {a : Act} {Q : Exit → Act → World → Prop} (hgd : o.guard = none) (s x : Operand) (W Z : World) (B : Nat) (hB : B ≤ Z.heap.size) (hZ : Below Z.heap.size Z W) (ov : Value) (l : List Int) (y : Int)
    (ho : o.op = .call { callee := .builtin .append, args := #[s, x], argTypes := #[52, 52] })
    (hs : a.eval s = ov) (g0 : Nat) (hg0 : g0 = W.heap.size) (hx : a.eval x = .slice (some ⟨g0, 0, none⟩) 1 1) (hown : OwnI B Z ov l) (hlen : l.length ≤ 1099511627776)
    (h : ∀ g c w', OwnI B w' (.slice (some ⟨g, 0, none⟩) (l.length + 1) c) (l ++ [y]) → Bar (fun k => ov.ownBlock = some k) Z w' → Moved Z ov (.slice (some ⟨g, 0, none⟩) (l.length + 1) c) → wpList Tryd.prog ops Q rest (a.put o.dst (.slice (some ⟨g, 0, none⟩) (l.length + 1) c)) w') :
    wpList Tryd.prog ops Q (o :: rest) a (W.alloc (.cells #[.int .i64 y] 3)) :=
  op_ing hgd s x W B (by have := hZ.size; omega) ov l y ho hs (by rw [hx, hg0]) (hown.below hZ) hlen fun g c w' h1 h2 h3 =>
    h g c w' h1 ((Bar.of_below (S := fun k => ov.ownBlock = some k) hZ).trans h2 fun _ _ hk => hk) (by
      rcases h3 with h | ⟨k, h, h'⟩
      · exact .inl h
      · exact .inr ⟨k, h, by have := hZ.size; omega⟩)
theorem own_int_ty : (38 : TypeId) ≠ 3 := by decide
theorem bar_belO {B : Nat} {w w' : World} {v : Value} {l : List Ty} (h : Bar (fun k => v.ownBlock = some k) w w') (ho : OwnT B w v l) (hB : B ≤ w.heap.size) : Below B w w' := h.below hB fun k hk => (own_lt ho k hk).1
theorem bar_belI {B : Nat} {w w' : World} {v : Value} {l : List Int} (h : Bar (fun k => v.ownBlock = some k) w w') (ho : OwnI B w v l) (hB : B ≤ w.heap.size) : Below B w w' := h.below hB fun k hk => (own_lt ho k hk).1
theorem ownI_barT {B B' : Nat} {w w' : World} {v u : Value} {l : List Ty} {m : List Int} (h : Bar (fun k => v.ownBlock = some k) w w') (ho : OwnT B w v l) (hi : OwnI B' w u m) : OwnI B' w' u m := h.own hi fun k hk hk' => own_ne ho hi own_int_ty k hk' hk
theorem ownT_barI {B B' : Nat} {w w' : World} {v u : Value} {l : List Int} {m : List Ty} (h : Bar (fun k => v.ownBlock = some k) w w') (ho : OwnI B w v l) (hi : OwnT B' w u m) : OwnT B' w' u m := h.own hi fun k hk hk' => own_ne hi ho own_int_ty k hk hk'
theorem TnAt.alc {W : World} {g : Nat} {arr : Array Value} {T : TypeId} {t : Ty} (hg : g = W.heap.size) (h : arr.toList = tyL1 t) : TnAt (W.alloc (.cells arr T)) g t := by
  subst hg
  have e : ∀ j u, (tyL1 t)[j]? = some u → (W.alloc (.cells arr T)).cell? ⟨W.heap.size, j, none⟩ = some u := fun j u hj => by
    rw [World.cell?_alloc_at _ _ _ _ rfl, ← hj, ← h, Array.getElem?_toList]
  exact ⟨by simp, e 0 _ rfl, e 1 _ rfl, e 2 _ rfl, e 3 _ rfl, e 4 _ rfl, e 5 _ rfl, e 6 _ rfl, e 7 _ rfl, e 8 _ rfl⟩
end Go.Proofs.YtfkdcconmecaoaaDoor
