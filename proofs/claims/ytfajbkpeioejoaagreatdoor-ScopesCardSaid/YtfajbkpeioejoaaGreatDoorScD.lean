/- What the names of a program mean, by numbers: plain. -/
import Derived.Test.YtfajbkpeioejoaaGreatDoorNaC
import Derived.Test.YtfajbkpeioejoaaGreatDoorScS
import Derived.Test.YtfajbkpeioejoaaGreatDoorNdO
import Derived.BigQuiet
/- What the names of a program mean, by numbers: plain. -/
namespace Go.Proofs.YtfajbkpeioejoaaGreatDoor
set_option linter.unusedVariables false
set_option linter.unusedSimpArgs false

/-- the name that is bound furthest in, counted from there. -/
def nearI (bd : List ByteArray) (s : ByteArray) : Option Nat := bd.reverse.findIdx? fun u => eqS u s
def placeI (ops : List ByteArray) (s : ByteArray) : Option Nat := ops.findIdx? fun u => eqS u s
/-- what a node's number becomes. -/
def meanV (ops bd : List ByteArray) (t : Nd) : Except Int Int :=
  if t.k = 0 then match nearI bd t.nm with
    | some i => .ok i
    | none => .error 601
  else if t.k = 9 ∨ t.k = 10 then match placeI ops t.nm with
    | some i => .ok i
    | none => .error 602
  else .ok t.n
/-- a node's children, and what it binds there. -/
def kidsS (t : Nd) : List (Int × List ByteArray) :=
  if t.k = 3 then [(t.a, [t.x])]
  else if t.k = 4 ∨ t.k = 8 then [(t.a, []), (t.b, [])]
  else if t.k = 5 then [(t.a, []), (t.b, [t.x])]
  else if t.k = 6 then [(t.a, [t.x, t.y]), (t.b, [t.x])]
  else if t.k = 7 then [(t.a, []), (t.b, []), (t.c, [])]
  else if t.k = 9 then [(t.a, [])]
  else if t.k = 10 then [(t.a, []), (t.b, [t.x, t.y]), (t.c, [t.z])]
  else []
/-- a node without its names. -/
def bare (t : Nd) (m : Int) : Nd := { t with n := m, nm := ⟨#[]⟩, x := ⟨#[]⟩, y := ⟨#[]⟩, z := ⟨#[]⟩ }
def kidsRun (rec : List Nd → Nat → List ByteArray → Except (Int × Int) (List Nd)) : List Nd → List (Int × List ByteArray) → List ByteArray → Except (Int × Int) (List Nd)
  | st, [], _ => .ok st
  | st, (c, bs) :: l, bd => match rec st c.toNat (bd ++ bs) with
    | .error e => .error e
    | .ok st' => kidsRun rec st' l bd
/-- a node's part; an error tells its code and the node's place in the text. -/
def resS (ops : List ByteArray) : Nat → List Nd → Nat → List ByteArray → Except (Int × Int) (List Nd)
  | 0, _, _, _ => .error (0, 0)
  | f + 1, st, at_, bd => match meanV ops bd (st.getD at_ nd0) with
    | .error c => .error (c, (st.getD at_ nd0).p)
    | .ok m => match kidsRun (resS ops f) st (kidsS (st.getD at_ nd0)) bd with
      | .error e => .error e
      | .ok st' => .ok (st'.set at_ (bare (st.getD at_ nd0) m))
/-- every child stands ahead of its parent. -/
def Downs (st : List Nd) : Prop := ∀ i, i < st.length → ∀ c ∈ kidsS (st.getD i nd0), 0 ≤ c.1 ∧ c.1 < i
theorem kidsS_bare (t : Nd) (m : Int) : (kidsS (bare t m)).map (·.1) = (kidsS t).map (·.1) := by
  unfold kidsS bare
  simp only
  (repeat' split) <;> simp_all
theorem Downs.set {st : List Nd} (h : Downs st) {at_ : Nat} (m : Int) {u : Nd} (hu : u = bare (st.getD at_ nd0) m) : Downs (st.set at_ u) := by
  intro i hi c hc
  rw [List.length_set] at hi
  by_cases e : i = at_
  · subst e
    rw [List.getD_eq_getElem?_getD, List.getElem?_set_self hi, Option.getD_some, hu] at hc
    have hm : c.1 ∈ (kidsS (bare (st.getD i nd0) m)).map (·.1) := List.mem_map.2 ⟨c, hc, rfl⟩
    rw [kidsS_bare] at hm
    obtain ⟨d, hd, e⟩ := List.mem_map.1 hm
    rw [← e]; exact h i hi d hd
  · rw [List.getD_eq_getElem?_getD, List.getElem?_set_ne (Ne.symm e), ← List.getD_eq_getElem?_getD] at hc
    exact h i hi c hc
/-- what a walk leaves: as many nodes, of the same shape; those ahead of the part and behind it as they were. -/
structure Same (st st' : List Nd) : Prop where
  len : st'.length = st.length
  shape : ∀ i, (kidsS (st'.getD i nd0)).map (·.1) = (kidsS (st.getD i nd0)).map (·.1)
theorem Same.refl (st : List Nd) : Same st st := ⟨rfl, fun _ => rfl⟩
theorem Same.trans {a b c : List Nd} (h : Same a b) (h' : Same b c) : Same a c := ⟨h'.len.trans h.len, fun i => (h'.shape i).trans (h.shape i)⟩
theorem Same.downs {a b : List Nd} (h : Same a b) (hd : Downs a) : Downs b := by
  intro i hi c hc
  have hm : c.1 ∈ (kidsS (b.getD i nd0)).map (·.1) := List.mem_map.2 ⟨c, hc, rfl⟩
  rw [h.shape] at hm
  obtain ⟨d, hd', e⟩ := List.mem_map.1 hm
  rw [← e]; exact hd i (by rw [← h.len]; exact hi) d hd'
end Go.Proofs.YtfajbkpeioejoaaGreatDoor

/- A node's children, and what it binds there. -/
namespace Go.Proofs.YtfajbkpeioejoaaGreatDoor
open Go.RowKit
set_option linter.unusedVariables false
set_option linter.unusedSimpArgs false

structure Kd where
  (at_ : Int) (ad : Option Addr) (n c : Nat)
def kd0 : Kd := ⟨0, none, 0, 0⟩
def kdL (vs : List Kd) : List Value := vs.flatMap fun x => [.int .i64 x.at_, .slice x.ad x.n x.c]
theorem kdL_get : ∀ (vs : List Kd) (i : Nat), i < vs.length → (kdL vs)[i * 2]? = some (.int .i64 (vs.getD i kd0).at_) ∧ (kdL vs)[i * 2 + 1]? = some (.slice (vs.getD i kd0).ad (vs.getD i kd0).n (vs.getD i kd0).c)
  | [], i, h => by simp at h
  | x :: vs, 0, _ => by simp [kdL]
  | x :: vs, i + 1, h => by
    have ih := kdL_get vs i (by simpa using h)
    have e1 : (i + 1) * 2 = i * 2 + 1 + 1 := by omega
    have e2 : (i + 1) * 2 + 1 = i * 2 + 1 + 1 + 1 := by omega
    have e : kdL (x :: vs) = .int .i64 x.at_ :: .slice x.ad x.n x.c :: kdL vs := rfl
    rw [e, e2, e1]
    simp only [List.getElem?_cons_succ, List.getD_cons_succ]
    exact ih
/-- children in memory that is not older than B. -/
def KidsAt (B : Nat) (W : World) (v : Value) (l : List (Int × List ByteArray)) : Prop :=
  (v = .slice none 0 0 ∧ l = []) ∨ ∃ g, v = .slice (some ⟨g, 0, none⟩) l.length l.length ∧ B ≤ g ∧ g < W.heap.size ∧ ∀ i, i < l.length → W.cell? ⟨g, i * 2, none⟩ = some (.int .i64 (l.getD i (0, [])).1) ∧
    ∃ a n c, W.cell? ⟨g, i * 2 + 1, none⟩ = some (.slice a n c) ∧ StArg W a n (l.getD i (0, [])).2 ∧ (a = none → c = 0) ∧ ∀ b off, a = some ⟨b, off, none⟩ → B ≤ b ∧ b < W.heap.size
theorem kids_lit (B : Nat) (W : World) (T : TypeId) (g n : Nat) (hg : g = W.heap.size) (hB : B ≤ W.heap.size) (arr : Array Value) (vs : List Kd) (l : List (Int × List ByteArray)) (h : arr.toList = kdL vs) (hn : n = l.length) (hl : vs.length = l.length)
    (hv : ∀ i, i < l.length → (vs.getD i kd0).at_ = (l.getD i (0, [])).1 ∧ StArg W (vs.getD i kd0).ad (vs.getD i kd0).n (l.getD i (0, [])).2 ∧ ((vs.getD i kd0).ad = none → (vs.getD i kd0).c = 0) ∧ ∀ b off, (vs.getD i kd0).ad = some ⟨b, off, none⟩ → B ≤ b ∧ b < W.heap.size) :
    KidsAt B (W.alloc (.cells arr T)) (.slice (some ⟨g, 0, none⟩) n n) l := by
  subst hg hn
  refine .inr ⟨_, rfl, hB, by simp, fun i hi => ?_⟩
  obtain ⟨h1, h2, h3, h4⟩ := hv i hi
  obtain ⟨g1, g2⟩ := kdL_get vs i (by omega)
  refine ⟨?_, _, _, _, ?_, h2.below (below_alc _ _), h3, fun b off e => ⟨(h4 b off e).1, by have := (h4 b off e).2; simp; omega⟩⟩
  · rw [World.cell?_alloc_at _ _ _ _ rfl, ← Array.getElem?_toList, h, g1, h1]
  · rw [World.cell?_alloc_at _ _ _ _ rfl, ← Array.getElem?_toList, h, g2]
theorem StArg.bar {S : Nat → Prop} {w w' : World} {a : Option Addr} {n : Nat} {l : List ByteArray} (h : StArg w a n l) (hb : Bar S w w') (hn : ∀ b off, a = some ⟨b, off, none⟩ → ¬ S b) : StArg w' a n l := by
  obtain ⟨h1, h2 | ⟨b, off, h2, h3, h4⟩⟩ := h
  · exact ⟨h1, .inl h2⟩
  · exact ⟨h1, .inr ⟨b, off, h2, fun i hi => hb.cell (h3 i hi) (hn b off h2), by have := hb.size; omega⟩⟩
theorem KidsAt.bar {S : Nat → Prop} {B : Nat} {w w' : World} {v : Value} {l : List (Int × List ByteArray)} (h : KidsAt B w v l) (hb : Bar S w w') (hn : ∀ k, B ≤ k → k < w.heap.size → ¬ S k) : KidsAt B w' v l := by
  rcases h with h | ⟨g, h1, h2, h3, h4⟩
  · exact .inl h
  · refine .inr ⟨g, h1, h2, by have := hb.size; omega, fun i hi => ?_⟩
    obtain ⟨g1, a, n, c, g2, g3, g4, g5⟩ := h4 i hi
    exact ⟨hb.cell g1 (hn g h2 h3), a, n, c, hb.cell g2 (hn g h2 h3), g3.bar hb (fun b off e => hn b (g5 b off e).1 (g5 b off e).2), g4, fun b off e => ⟨(g5 b off e).1, by have := (g5 b off e).2; have := hb.size; omega⟩⟩
set_option maxRecDepth 100000 in
set_option maxHeartbeats 4000000 in
theorem children_any (t : Nd) (w : World) : Calls Tryz.prog 43 #[.agg #[.int .i64 t.k, .int .i64 t.a, .int .i64 t.b, .int .i64 t.c, .int .i64 t.n, .string t.nm, .string t.x, .string t.y, .string t.z, .int .i64 t.p]] w fun e w' => ∃ v, e = .returned v ∧ KidsAt w.heap.size w' v (kidsS t) ∧ Below w.heap.size w w' := by
  obtain ⟨k, a, b, c, n, nm, x, y, z, p⟩ := t
  have hc : k = 3 ∨ k = 4 ∨ k = 8 ∨ k = 5 ∨ k = 6 ∨ k = 7 ∨ k = 9 ∨ k = 10 ∨ (k ≠ 3 ∧ k ≠ 4 ∧ k ≠ 8 ∧ k ≠ 5 ∧ k ≠ 6 ∧ k ≠ 7 ∧ k ≠ 9 ∧ k ≠ 10) := by omega
  rcases hc with rfl | rfl | rfl | rfl | rfl | rfl | rfl | rfl | ⟨h1, h2, h3, h4, h5, h6, h7, h8⟩
  · go_enter Tryz.func43, Tryz.ntmps43
    go_wp2_with fail
    go_ret
    refine ⟨_, rfl, kids_lit _ _ _ _ _ (by simp) (by first | (simp; done) | (simp; omega)) _ [⟨a, (some ⟨w.heap.size + 1, 0, none⟩), 1, 1⟩] _ rfl rfl rfl (fun i hi => ?_), by (repeat' (first | with_reducible exact Below.refl _ _ | with_reducible assumption | with_reducible apply Below.setCell | with_reducible apply Below.alloc | with_reducible apply Below.drew | with_reducible apply below_drewN | with_reducible exact Nat.le_refl _ | (simp; done) | (simp; omega) | omega | exact Nat.le_refl _))⟩
    have hi : i < 1 := hi
    have hc : i = 0 := by omega
    rcases hc with rfl
    · exact ⟨rfl, (by first | exact stArg_lit _ _ _ _ _ _ (by simp) rfl rfl | exact StArg.below (by exact stArg_lit _ _ _ _ _ _ (by simp) rfl rfl) (below_alc _ _)), (fun h => by cases h), fun b off e => by injection e with e; injection e with e _ _; first | (simp; done) | (simp; omega)⟩
  · go_enter Tryz.func43, Tryz.ntmps43
    go_wp2_with fail
    go_ret
    refine ⟨_, rfl, kids_lit _ _ _ _ _ (by simp) (by first | (simp; done) | (simp; omega)) _ [⟨a, none, 0, 0⟩, ⟨b, none, 0, 0⟩] _ rfl rfl rfl (fun i hi => ?_), by (repeat' (first | with_reducible exact Below.refl _ _ | with_reducible assumption | with_reducible apply Below.setCell | with_reducible apply Below.alloc | with_reducible apply Below.drew | with_reducible apply below_drewN | with_reducible exact Nat.le_refl _ | (simp; done) | (simp; omega) | omega | exact Nat.le_refl _))⟩
    have hi : i < 2 := hi
    have hc : i = 0 ∨ i = 1 := by omega
    rcases hc with rfl | rfl
    · exact ⟨rfl, ⟨rfl, .inl rfl⟩, fun _ => rfl, fun b off e => by cases e⟩
    · exact ⟨rfl, ⟨rfl, .inl rfl⟩, fun _ => rfl, fun b off e => by cases e⟩
  · go_enter Tryz.func43, Tryz.ntmps43
    go_wp2_with fail
    go_ret
    refine ⟨_, rfl, kids_lit _ _ _ _ _ (by simp) (by first | (simp; done) | (simp; omega)) _ [⟨a, none, 0, 0⟩, ⟨b, none, 0, 0⟩] _ rfl rfl rfl (fun i hi => ?_), by (repeat' (first | with_reducible exact Below.refl _ _ | with_reducible assumption | with_reducible apply Below.setCell | with_reducible apply Below.alloc | with_reducible apply Below.drew | with_reducible apply below_drewN | with_reducible exact Nat.le_refl _ | (simp; done) | (simp; omega) | omega | exact Nat.le_refl _))⟩
    have hi : i < 2 := hi
    have hc : i = 0 ∨ i = 1 := by omega
    rcases hc with rfl | rfl
    · exact ⟨rfl, ⟨rfl, .inl rfl⟩, fun _ => rfl, fun b off e => by cases e⟩
    · exact ⟨rfl, ⟨rfl, .inl rfl⟩, fun _ => rfl, fun b off e => by cases e⟩
  · go_enter Tryz.func43, Tryz.ntmps43
    go_wp2_with fail
    go_ret
    refine ⟨_, rfl, kids_lit _ _ _ _ _ (by simp) (by first | (simp; done) | (simp; omega)) _ [⟨a, none, 0, 0⟩, ⟨b, (some ⟨w.heap.size + 1, 0, none⟩), 1, 1⟩] _ rfl rfl rfl (fun i hi => ?_), by (repeat' (first | with_reducible exact Below.refl _ _ | with_reducible assumption | with_reducible apply Below.setCell | with_reducible apply Below.alloc | with_reducible apply Below.drew | with_reducible apply below_drewN | with_reducible exact Nat.le_refl _ | (simp; done) | (simp; omega) | omega | exact Nat.le_refl _))⟩
    have hi : i < 2 := hi
    have hc : i = 0 ∨ i = 1 := by omega
    rcases hc with rfl | rfl
    · exact ⟨rfl, ⟨rfl, .inl rfl⟩, fun _ => rfl, fun b off e => by cases e⟩
    · exact ⟨rfl, (by first | exact stArg_lit _ _ _ _ _ _ (by simp) rfl rfl | exact StArg.below (by exact stArg_lit _ _ _ _ _ _ (by simp) rfl rfl) (below_alc _ _)), (fun h => by cases h), fun b off e => by injection e with e; injection e with e _ _; first | (simp; done) | (simp; omega)⟩
  · go_enter Tryz.func43, Tryz.ntmps43
    go_wp2_with fail
    go_ret
    refine ⟨_, rfl, kids_lit _ _ _ _ _ (by simp) (by first | (simp; done) | (simp; omega)) _ [⟨a, (some ⟨w.heap.size + 1, 0, none⟩), 2, 2⟩, ⟨b, (some ⟨w.heap.size + 1 + 1, 0, none⟩), 1, 1⟩] _ rfl rfl rfl (fun i hi => ?_), by (repeat' (first | with_reducible exact Below.refl _ _ | with_reducible assumption | with_reducible apply Below.setCell | with_reducible apply Below.alloc | with_reducible apply Below.drew | with_reducible apply below_drewN | with_reducible exact Nat.le_refl _ | (simp; done) | (simp; omega) | omega | exact Nat.le_refl _))⟩
    have hi : i < 2 := hi
    have hc : i = 0 ∨ i = 1 := by omega
    rcases hc with rfl | rfl
    · exact ⟨rfl, (by first | exact stArg_lit _ _ _ _ _ _ (by simp) rfl rfl | exact StArg.below (by exact stArg_lit _ _ _ _ _ _ (by simp) rfl rfl) (below_alc _ _)), (fun h => by cases h), fun b off e => by injection e with e; injection e with e _ _; first | (simp; done) | (simp; omega)⟩
    · exact ⟨rfl, (by first | exact stArg_lit _ _ _ _ _ _ (by simp) rfl rfl | exact StArg.below (by exact stArg_lit _ _ _ _ _ _ (by simp) rfl rfl) (below_alc _ _)), (fun h => by cases h), fun b off e => by injection e with e; injection e with e _ _; first | (simp; done) | (simp; omega)⟩
  · go_enter Tryz.func43, Tryz.ntmps43
    go_wp2_with fail
    go_ret
    refine ⟨_, rfl, kids_lit _ _ _ _ _ (by simp) (by first | (simp; done) | (simp; omega)) _ [⟨a, none, 0, 0⟩, ⟨b, none, 0, 0⟩, ⟨c, none, 0, 0⟩] _ rfl rfl rfl (fun i hi => ?_), by (repeat' (first | with_reducible exact Below.refl _ _ | with_reducible assumption | with_reducible apply Below.setCell | with_reducible apply Below.alloc | with_reducible apply Below.drew | with_reducible apply below_drewN | with_reducible exact Nat.le_refl _ | (simp; done) | (simp; omega) | omega | exact Nat.le_refl _))⟩
    have hi : i < 3 := hi
    have hc : i = 0 ∨ i = 1 ∨ i = 2 := by omega
    rcases hc with rfl | rfl | rfl
    · exact ⟨rfl, ⟨rfl, .inl rfl⟩, fun _ => rfl, fun b off e => by cases e⟩
    · exact ⟨rfl, ⟨rfl, .inl rfl⟩, fun _ => rfl, fun b off e => by cases e⟩
    · exact ⟨rfl, ⟨rfl, .inl rfl⟩, fun _ => rfl, fun b off e => by cases e⟩
  · go_enter Tryz.func43, Tryz.ntmps43
    go_wp2_with fail
    go_ret
    refine ⟨_, rfl, kids_lit _ _ _ _ _ (by simp) (by first | (simp; done) | (simp; omega)) _ [⟨a, none, 0, 0⟩] _ rfl rfl rfl (fun i hi => ?_), by (repeat' (first | with_reducible exact Below.refl _ _ | with_reducible assumption | with_reducible apply Below.setCell | with_reducible apply Below.alloc | with_reducible apply Below.drew | with_reducible apply below_drewN | with_reducible exact Nat.le_refl _ | (simp; done) | (simp; omega) | omega | exact Nat.le_refl _))⟩
    have hi : i < 1 := hi
    have hc : i = 0 := by omega
    rcases hc with rfl
    · exact ⟨rfl, ⟨rfl, .inl rfl⟩, fun _ => rfl, fun b off e => by cases e⟩
  · go_enter Tryz.func43, Tryz.ntmps43
    go_wp2_with fail
    go_ret
    refine ⟨_, rfl, kids_lit _ _ _ _ _ (by simp) (by first | (simp; done) | (simp; omega)) _ [⟨a, none, 0, 0⟩, ⟨b, (some ⟨w.heap.size + 1, 0, none⟩), 2, 2⟩, ⟨c, (some ⟨w.heap.size + 1 + 1, 0, none⟩), 1, 1⟩] _ rfl rfl rfl (fun i hi => ?_), by (repeat' (first | with_reducible exact Below.refl _ _ | with_reducible assumption | with_reducible apply Below.setCell | with_reducible apply Below.alloc | with_reducible apply Below.drew | with_reducible apply below_drewN | with_reducible exact Nat.le_refl _ | (simp; done) | (simp; omega) | omega | exact Nat.le_refl _))⟩
    have hi : i < 3 := hi
    have hc : i = 0 ∨ i = 1 ∨ i = 2 := by omega
    rcases hc with rfl | rfl | rfl
    · exact ⟨rfl, ⟨rfl, .inl rfl⟩, fun _ => rfl, fun b off e => by cases e⟩
    · exact ⟨rfl, (by first | exact stArg_lit _ _ _ _ _ _ (by simp) rfl rfl | exact StArg.below (by exact stArg_lit _ _ _ _ _ _ (by simp) rfl rfl) (below_alc _ _)), (fun h => by cases h), fun b off e => by injection e with e; injection e with e _ _; first | (simp; done) | (simp; omega)⟩
    · exact ⟨rfl, (by first | exact stArg_lit _ _ _ _ _ _ (by simp) rfl rfl | exact StArg.below (by exact stArg_lit _ _ _ _ _ _ (by simp) rfl rfl) (below_alc _ _)), (fun h => by cases h), fun b off e => by injection e with e; injection e with e _ _; first | (simp; done) | (simp; omega)⟩
  · have e3 : (k == 3) = false := beq_eq_false_iff_ne.2 h1
    have e4 : (k == 4) = false := beq_eq_false_iff_ne.2 h2
    have e8 : (k == 8) = false := beq_eq_false_iff_ne.2 h3
    have e5 : (k == 5) = false := beq_eq_false_iff_ne.2 h4
    have e6 : (k == 6) = false := beq_eq_false_iff_ne.2 h5
    have e7 : (k == 7) = false := beq_eq_false_iff_ne.2 h6
    have e9 : (k == 9) = false := beq_eq_false_iff_ne.2 h7
    have e10 : (k == 10) = false := beq_eq_false_iff_ne.2 h8
    have hk : kidsS ⟨k, a, b, c, n, nm, x, y, z, p⟩ = [] := by unfold kidsS; simp [h1, h2, h3, h4, h5, h6, h7, h8]
    rw [hk]
    clear hk
    go_enter Tryz.func43, Tryz.ntmps43
    go_wp2_with fail
    go_ret
    exact ⟨_, rfl, .inl ⟨rfl, rfl⟩, by (repeat' (first | with_reducible exact Below.refl _ _ | with_reducible assumption | with_reducible apply Below.setCell | with_reducible apply Below.alloc | with_reducible apply Below.drew | with_reducible apply below_drewN | with_reducible exact Nat.le_refl _ | (simp; done) | (simp; omega) | omega | exact Nat.le_refl _))⟩
end Go.Proofs.YtfajbkpeioejoaaGreatDoor

/- What a node's number becomes. -/
namespace Go.Proofs.YtfajbkpeioejoaaGreatDoor
open Go.RowKit
set_option linter.unusedVariables false
set_option linter.unusedSimpArgs false

def meanN (ops bd : List ByteArray) (t : Nd) : Int := match meanV ops bd t with | .ok m => m | .error _ => 0
def meanE (ops bd : List ByteArray) (t : Nd) : Value := match meanV ops bd t with | .ok _ => .nilIface | .error c => .iface 27 (.int .i64 c)
/-- none of the first m from the back is s. -/
def NoNear (bd : List ByteArray) (s : ByteArray) (m : Nat) : Prop := ∀ j, j < m → eqS (bd.getD (bd.length - 1 - j) ⟨#[]⟩) s = false
theorem near_rev (bd : List ByteArray) {j : Nat} (h : j < bd.length) : bd.reverse[j]? = some (bd.getD (bd.length - 1 - j) ⟨#[]⟩) := by
  rw [List.getElem?_reverse h, List.getD_eq_getElem?_getD, List.getElem?_eq_getElem (by omega)]; rfl
theorem near_hit {bd : List ByteArray} {s : ByteArray} {m : Nat} (hm : m < bd.length) (hn : NoNear bd s m) (h : eqS (bd.getD (bd.length - 1 - m) ⟨#[]⟩) s = true) : nearI bd s = some m := by
  unfold nearI
  rw [List.findIdx?_eq_some_iff_getElem]
  refine ⟨by rw [List.length_reverse]; exact hm, ?_, fun j hj => ?_⟩
  · have e := near_rev bd hm
    rw [List.getElem?_eq_getElem (by rw [List.length_reverse]; exact hm)] at e
    injection e with e; rw [e]; exact h
  · have e := near_rev bd (show j < bd.length by omega)
    rw [List.getElem?_eq_getElem (by rw [List.length_reverse]; omega)] at e
    injection e with e; rw [e, hn j hj]; simp
theorem near_none {bd : List ByteArray} {s : ByteArray} (hn : NoNear bd s bd.length) : nearI bd s = none := by
  unfold nearI
  rw [List.findIdx?_eq_none_iff]
  intro u hu
  obtain ⟨j, hj, e⟩ := List.mem_iff_getElem.1 hu
  rw [List.length_reverse] at hj
  have e2 := near_rev bd hj
  rw [List.getElem?_eq_getElem (by rw [List.length_reverse]; exact hj)] at e2
  injection e2 with e2
  rw [← e, e2]; exact hn j hj
theorem place_of {ops : List ByteArray} {s : ByteArray} {i : Nat} (hn : ops.Nodup) (h : ops[i]? = some s) : placeI ops s = some i := by
  unfold placeI
  rw [List.findIdx?_eq_some_iff_getElem]
  obtain ⟨hi, he⟩ := List.getElem?_eq_some_iff.1 h
  refine ⟨hi, eqS_iff.2 he, fun j hj => ?_⟩
  intro e
  have e := eqS_iff.1 e
  exact List.pairwise_iff_getElem.1 hn j i (by omega) hi hj (by rw [e, he])
theorem place_no {ops : List ByteArray} {s : ByteArray} (h : s ∉ ops) : placeI ops s = none := by
  unfold placeI
  rw [List.findIdx?_eq_none_iff]
  intro u hu
  cases e : eqS u s with
  | false => rfl
  | true => exact absurd (eqS_iff.1 e ▸ hu) h
theorem op_look2 {w : World} {bm : Nat} {l : List ByteArray} (h : OpMap w bm l) (hnd : l.Nodup) (s : ByteArray) (hs : s.size ≤ 1125899906842624) :
    (Instr.lookup 39 (.map (some bm)) (.string s) true).run Tryz.prog w = .ok (.tuple #[.int .i64 (((placeI l s).getD 0 : Nat) : Int), .bool (placeI l s).isSome]) w := by
  obtain ⟨i, hl, hin, hout⟩ := op_look h s hs
  cases hq : inS l s
  · have hi : s ∉ l := inS_no.1 hq
    rw [hl, hout hi, place_no hi, hq]; rfl
  · have hi : s ∈ l := inS_iff.1 hq
    obtain ⟨pl, e, hki⟩ := hin hi
    rw [hl, e, place_of hnd hki, hq]; rfl
theorem nd_cells (w : World) (t : Nd) (arr : Array Value) (T : TypeId) (h : arr.toList = ndL1 t) : (w.alloc (.cells arr T)).cell? ⟨w.heap.size, 0, none⟩ = some (.int .i64 t.k) ∧ (w.alloc (.cells arr T)).cell? ⟨w.heap.size, 4, none⟩ = some (.int .i64 t.n) ∧ (w.alloc (.cells arr T)).cell? ⟨w.heap.size, 5, none⟩ = some (.string t.nm) := by
  refine ⟨?_, ?_, ?_⟩ <;> (rw [World.cell?_alloc_at _ _ _ _ rfl, ← Array.getElem?_toList, h]; rfl)
set_option maxRecDepth 100000 in
set_option maxHeartbeats 4000000 in
theorem meaning_any (R M : Nat) (ops bd : List ByteArray) (a : Option Addr) (n c : Nat) (t : Nd) (w : World) (hR : Hid (R < w.heap.size ∧ w.cell? ⟨R, 1, none⟩ = some (.map (some M)))) (hM : Hid (OpMap w M ops)) (hnd : ops.Nodup) (hB : Hid (StArg w a n bd)) (hn : bd.length ≤ 1000000) (hnm : t.nm.size ≤ 1125899906842624) :
    Calls Tryz.prog 42 #[.pointer (some ⟨R, 0, none⟩), .agg #[.int .i64 t.k, .int .i64 t.a, .int .i64 t.b, .int .i64 t.c, .int .i64 t.n, .string t.nm, .string t.x, .string t.y, .string t.z, .int .i64 t.p], .slice a n c] w fun e w' => e = .returned (.tuple #[.int .i64 (meanN ops bd t), meanE ops bd t]) ∧ Below w.heap.size w w' := by
  obtain ⟨k, ta, tb, tc, tn, nm, tx, ty, tz, tp⟩ := t
  have hnm : nm.size ≤ 1125899906842624 := hnm
  have hb0 := below_alc w (.cells #[.int .i64 k, .int .i64 ta, .int .i64 tb, .int .i64 tc, .int .i64 tn, .string nm, .string tx, .string ty, .string tz, .int .i64 tp] 42)
  have hN := Lib.hid (nd_cells w ⟨k, ta, tb, tc, tn, nm, tx, ty, tz, tp⟩ #[.int .i64 k, .int .i64 ta, .int .i64 tb, .int .i64 tc, .int .i64 tn, .string nm, .string tx, .string ty, .string tz, .int .i64 tp] 42 rfl)
  have hN0 : Hid (w.heap.size < (w.alloc (.cells #[.int .i64 k, .int .i64 ta, .int .i64 tb, .int .i64 tc, .int .i64 tn, .string nm, .string tx, .string ty, .string tz, .int .i64 tp] 42)).heap.size) := Lib.hid (by simp)
  have hB0 := Lib.hid (hB.out.below hb0)
  have hM0 := Lib.hid ((hM.out.below hb0))
  have hR0 := Lib.hid (show R < (w.alloc (.cells #[.int .i64 k, .int .i64 ta, .int .i64 tb, .int .i64 tc, .int .i64 tn, .string nm, .string tx, .string ty, .string tz, .int .i64 tp] 42)).heap.size ∧ (w.alloc (.cells #[.int .i64 k, .int .i64 ta, .int .i64 tb, .int .i64 tc, .int .i64 tn, .string nm, .string tx, .string ty, .string tz, .int .i64 tp] 42)).cell? ⟨R, 1, none⟩ = some (.map (some M)) from ⟨by have := hR.out.1; simp; omega, carry hb0 hR.out.1 hR.out.2⟩)
  have hb0 := Lib.hid hb0
  have hc : k = 0 ∨ (k = 9 ∨ k = 10) ∨ (k ≠ 0 ∧ k ≠ 9 ∧ k ≠ 10) := by omega
  rcases hc with hk | hk | ⟨h1, h2, h3⟩
  · subst hk
    go_enter Tryz.func42, Tryz.ntmps42
    obtain ⟨n0, n4, n5⟩ := hN.out
    go_wp2_with fail
    generalize w.alloc (.cells #[.int .i64 0, .int .i64 ta, .int .i64 tb, .int .i64 tc, .int .i64 tn, .string nm, .string tx, .string ty, .string tz, .int .i64 tp] 42) = w0 at *
    obtain rfl : n = bd.length := hB0.out.1
    go_loopw [17] (fun i wr => ∃ m : Nat, m ≤ bd.length ∧ i = .int .i64 m ∧ Below w0.heap.size w0 wr ∧ Hid (NoNear bd nm m)) (fun i _ => bd.length - (intOf i).toNat)
    case atStart => exact ⟨0, by omega, rfl, Below.refl _ _, Lib.hid fun j hj => absurd hj (by omega)⟩
    case round =>
      obtain ⟨m, hm, rfl, hbw, hno⟩ := hrel
      by_cases hlt : m < bd.length
      · rcases hB0.out.2 with h | ⟨b, off, rfl, hsl, hbs⟩
        · rw [h] at hlt; simp at hlt
        obtain ⟨q, hq⟩ : ∃ q, bd.length - 1 - m = q := ⟨_, rfl⟩
        have hql : q < bd.length := by omega
        have hcell := carry hbw hbs (hsl q hql)
        have hstep := Lib.hid fun (h : eqS (bd.getD q ⟨#[]⟩) nm = false) => (show NoNear bd nm (m + 1) from fun j hj => by
          by_cases e : j = m
          · subst e; rw [hq]; exact h
          · exact hno.out j (by omega))
        have hhit := Lib.hid fun (h : eqS (bd.getD q ⟨#[]⟩) nm = true) => near_hit hlt hno.out (by rw [hq]; exact h)
        have hn5 := carry hbw hN0.out n5
        have e1 : IntKind.i64.wrap ((bd.length : Int) - 1) = (bd.length : Int) - 1 := IntWalk.i64_in _ (by omega)
        have e2 : IntKind.i64.wrap ((bd.length : Int) - 1 - (m : Int)) = (q : Int) := by rw [IntWalk.i64_in _ (by omega)]; omega
        have hq1 : (q : Int) < (bd.length : Int) := by omega
        have hq0 : (0 : Int) ≤ (q : Int) := by omega
        generalize bd.getD q ⟨#[]⟩ = s at hcell hstep hhit
        clear hsl
        cases he : eqS s nm
        · have he' : (s.toList == nm.toList) = false := he
          go_wp2_with fail
          go_quiet (fail)
          go_wp2_with fail
          go_roundw
          case rel => exact ⟨m + 1, by omega, by go_num, (by first | exact hbw | exact below_drewN hbw _), Lib.hid (hstep.out he)⟩
          case measure => simp [intOf]; omega
        · have he' : (s.toList == nm.toList) = true := he
          have hh := hhit.out he
          have hv : meanV ops bd ⟨0, ta, tb, tc, tn, nm, tx, ty, tz, tp⟩ = .ok (m : Int) := by unfold meanV; rw [if_pos rfl, hh]
          have hv := Lib.hid (show meanN ops bd ⟨0, ta, tb, tc, tn, nm, tx, ty, tz, tp⟩ = m ∧ meanE ops bd ⟨0, ta, tb, tc, tn, nm, tx, ty, tz, tp⟩ = .nilIface from ⟨by unfold meanN; rw [hv], by unfold meanE; rw [hv]⟩)
          clear hh
          go_wp2_with fail
          go_quiet (fail)
          go_wp2_with fail
          go_ret2
          exact ⟨by rw [hv.out.1, hv.out.2]; rfl, belT hb0.out (by first | exact hbw | exact below_drewN hbw _)⟩
      · obtain rfl : m = bd.length := by omega
        have hv : meanV ops bd ⟨0, ta, tb, tc, tn, nm, tx, ty, tz, tp⟩ = .error 601 := by unfold meanV; rw [if_pos rfl, near_none hno.out]
        have hv := Lib.hid (show meanN ops bd ⟨0, ta, tb, tc, tn, nm, tx, ty, tz, tp⟩ = 0 ∧ meanE ops bd ⟨0, ta, tb, tc, tn, nm, tx, ty, tz, tp⟩ = .iface 27 (.int .i64 601) from ⟨by unfold meanN; rw [hv], by unfold meanE; rw [hv]⟩)
        go_wp2_with fail
        go_ret2
        exact ⟨by rw [hv.out.1, hv.out.2]; rfl, belT hb0.out hbw⟩
  · have hne : k ≠ 0 := by omega
    cases hp : placeI ops nm with
    | none =>
      have hv : meanV ops bd ⟨k, ta, tb, tc, tn, nm, tx, ty, tz, tp⟩ = .error 602 := by unfold meanV; rw [if_neg hne, if_pos hk]; simp only [hp]
      have hv := Lib.hid (show meanN ops bd ⟨k, ta, tb, tc, tn, nm, tx, ty, tz, tp⟩ = 0 ∧ meanE ops bd ⟨k, ta, tb, tc, tn, nm, tx, ty, tz, tp⟩ = .iface 27 (.int .i64 602) from ⟨by unfold meanN; rw [hv], by unfold meanE; rw [hv]⟩)
      obtain ⟨n0, n4, n5⟩ := hN.out
      obtain ⟨r0, r1⟩ := hR0.out
      rcases hk with hk | hk
      · subst hk
        have hl := fun (d : Nat) => op_look2 (hM0.out.below (below_drewN (Below.refl _ _) d)) hnd nm hnm
        rw [hp] at hl
        simp only [Option.getD_none, Option.getD_some, Option.isSome_none, Option.isSome_some] at hl
        clear hp hne
        go_enter Tryz.func42, Tryz.ntmps42
        go_wp2_with fail
        go_quiet (fail)
        go_wp2_with fail
        go_ret2
        exact ⟨by rw [hv.out.1, hv.out.2]; rfl, below_drewN hb0.out _⟩
      · subst hk
        have hl := fun (d : Nat) => op_look2 (hM0.out.below (below_drewN (Below.refl _ _) d)) hnd nm hnm
        rw [hp] at hl
        simp only [Option.getD_none, Option.getD_some, Option.isSome_none, Option.isSome_some] at hl
        clear hp hne
        go_enter Tryz.func42, Tryz.ntmps42
        go_wp2_with fail
        go_quiet (fail)
        go_wp2_with fail
        go_ret2
        exact ⟨by rw [hv.out.1, hv.out.2]; rfl, below_drewN hb0.out _⟩
    | some pl =>
      have hv : meanV ops bd ⟨k, ta, tb, tc, tn, nm, tx, ty, tz, tp⟩ = .ok (pl : Int) := by unfold meanV; rw [if_neg hne, if_pos hk]; simp only [hp]
      have hv := Lib.hid (show meanN ops bd ⟨k, ta, tb, tc, tn, nm, tx, ty, tz, tp⟩ = pl ∧ meanE ops bd ⟨k, ta, tb, tc, tn, nm, tx, ty, tz, tp⟩ = .nilIface from ⟨by unfold meanN; rw [hv], by unfold meanE; rw [hv]⟩)
      obtain ⟨n0, n4, n5⟩ := hN.out
      obtain ⟨r0, r1⟩ := hR0.out
      rcases hk with hk | hk
      · subst hk
        have hl := fun (d : Nat) => op_look2 (hM0.out.below (below_drewN (Below.refl _ _) d)) hnd nm hnm
        rw [hp] at hl
        simp only [Option.getD_none, Option.getD_some, Option.isSome_none, Option.isSome_some] at hl
        clear hp hne
        go_enter Tryz.func42, Tryz.ntmps42
        go_wp2_with fail
        go_quiet (fail)
        go_wp2_with fail
        go_ret2
        exact ⟨by rw [hv.out.1, hv.out.2]; rfl, below_drewN hb0.out _⟩
      · subst hk
        have hl := fun (d : Nat) => op_look2 (hM0.out.below (below_drewN (Below.refl _ _) d)) hnd nm hnm
        rw [hp] at hl
        simp only [Option.getD_none, Option.getD_some, Option.isSome_none, Option.isSome_some] at hl
        clear hp hne
        go_enter Tryz.func42, Tryz.ntmps42
        go_wp2_with fail
        go_quiet (fail)
        go_wp2_with fail
        go_ret2
        exact ⟨by rw [hv.out.1, hv.out.2]; rfl, below_drewN hb0.out _⟩
  · have hk0 : (k == 0) = false := beq_eq_false_iff_ne.2 h1
    have hk9 : (k == 9) = false := beq_eq_false_iff_ne.2 h2
    have hk10 : (k == 10) = false := beq_eq_false_iff_ne.2 h3
    have hv : meanV ops bd ⟨k, ta, tb, tc, tn, nm, tx, ty, tz, tp⟩ = .ok tn := by unfold meanV; rw [if_neg h1, if_neg (fun h => h.elim h2 h3)]
    have hv := Lib.hid (show meanN ops bd ⟨k, ta, tb, tc, tn, nm, tx, ty, tz, tp⟩ = tn ∧ meanE ops bd ⟨k, ta, tb, tc, tn, nm, tx, ty, tz, tp⟩ = .nilIface from ⟨by unfold meanN; rw [hv], by unfold meanE; rw [hv]⟩)
    obtain ⟨n0, n4, n5⟩ := hN.out
    go_enter Tryz.func42, Tryz.ntmps42
    go_wp2_with fail
    go_ret2
    exact ⟨by rw [hv.out.1, hv.out.2]; rfl, hb0.out⟩
end Go.Proofs.YtfajbkpeioejoaaGreatDoor
