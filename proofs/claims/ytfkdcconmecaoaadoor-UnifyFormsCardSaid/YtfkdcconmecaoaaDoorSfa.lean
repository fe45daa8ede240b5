/- A set of binds in memory: what is known of it. -/
import Derived.Test.YtfkdcconmecaoaaDoorUnA
import Derived.Test.YtfkdcconmecaoaaDoorPuB
import Derived.Test.YtfkdcconmecaoaaDoorInO
import Derived.Test.YtfkdcconmecaoaaDoorSbA
import Derived.Laws.OwnMore
import Derived.Test.YtfkdcconmecaoaaDoorShD
import Derived.Deep.DeepCutAuto
import Derived.BigQuiet
import Derived.Deep.RegionLaw
import Derived.BigRegion
/- A set of binds in memory: what is known of it. -/
namespace Go.Proofs.YtfkdcconmecaoaaDoor
open Go.RowKit Go.Maps
set_option linter.unusedVariables false
set_option linter.unusedSimpArgs false

def bdL1 (g : Nat) : Bo → List Value
  | .ty v _ => [.int .i64 v, .bool false, ptrS g, .int .i64 0, .int .i64 0, .int .i64 0, .int .i64 0, .int .i64 0]
  | .rw v r => [.int .i64 v, .bool true, .pointer none, .int .i64 r.a, .int .i64 r.b, .int .i64 r.c, .int .i64 r.d, .int .i64 r.t]
def bdL : List Nat → List Bo → List Value
  | g :: gs, b :: m => bdL1 g b ++ bdL gs m
  | _, _ => []
theorem bdL1_len (g : Nat) (b : Bo) : (bdL1 g b).length = 8 := by cases b <;> rfl
theorem bdL_len : ∀ (gs : List Nat) (m : List Bo), gs.length = m.length → (bdL gs m).length = m.length * 8
  | [], [], _ => rfl
  | g :: gs, b :: m, h => by
    simp only [bdL, List.length_append, bdL1_len, List.length_cons]
    rw [bdL_len gs m (by simpa using h)]; omega
theorem bdL_get : ∀ (gs : List Nat) (m : List Bo) (i k : Nat), gs.length = m.length → k < 8 → (bdL gs m)[i * 8 + k]? = (m[i]?).bind fun b => (bdL1 (gs.getD i 0) b)[k]?
  | [], [], i, k, _, _ => by simp [bdL]
  | g :: gs, b :: m, 0, k, h, hk => by
    simp only [bdL, Nat.zero_mul, Nat.zero_add]
    rw [List.getElem?_append_left (by rw [bdL1_len]; exact hk)]; rfl
  | g :: gs, b :: m, i + 1, k, h, hk => by
    have ih := bdL_get gs m i k (by simpa using h) hk
    simp only [bdL]
    rw [List.getElem?_append_right (by rw [bdL1_len]; omega), bdL1_len, show (i + 1) * 8 + k - 8 = i * 8 + k by omega, ih]
    simp
theorem bdL_app : ∀ (gs : List Nat) (m : List Bo) (g : Nat) (b : Bo), gs.length = m.length → bdL (gs ++ [g]) (m ++ [b]) = bdL gs m ++ bdL1 g b
  | [], [], g, b, _ => by simp [bdL]
  | x :: gs, y :: m, g, b, h => by
    simp only [List.cons_append, bdL, List.append_assoc]
    rw [bdL_app gs m g b (by simpa using h)]
theorem bdL_one (gs : List Nat) (m : List Bo) : ∀ u ∈ bdL gs m, u.oneCell' = true := by
  induction gs generalizing m with
  | nil => intro u hu; simp [bdL] at hu
  | cons g gs ih =>
    cases m with
    | nil => intro u hu; simp [bdL] at hu
    | cons b m =>
      intro u hu
      simp only [bdL, List.mem_append] at hu
      rcases hu with hu | hu
      · cases b <;> (simp only [bdL1, List.mem_cons, List.not_mem_nil, or_false] at hu; rcases hu with rfl | rfl | rfl | rfl | rfl | rfl | rfl | rfl <;> rfl)
      · exact ih m u hu
/-- one bind turned. -/
theorem bdL_set : ∀ (gs : List Nat) (m : List Bo) (i : Nat) (v : Int) (T T' : TT) (g : Nat), gs.length = m.length → m[i]? = some (.ty v T) → bdL (gs.set i g) (m.set i (.ty v T')) = (bdL gs m).set (i * 8 + 2) (ptrS g)
  | [], [], i, v, T, T', g, _, h => by simp at h
  | x :: gs, b :: m, 0, v, T, T', g, hl, h => by
    simp at h; subst h
    simp [bdL, bdL1]
  | x :: gs, b :: m, i + 1, v, T, T', g, hl, h => by
    simp at h
    have ih := bdL_set gs m i v T T' g (by simpa using hl) h
    simp only [List.set_cons_succ, bdL]
    rw [ih, List.set_append, if_neg (by rw [bdL1_len]; omega), bdL1_len, show (i + 1) * 8 + 2 - 8 = i * 8 + 2 by omega]
theorem set_app (l1 l : List Value) (n k : Nat) (h : n = l1.length + k) (x : Value) : (l1 ++ l).set n x = l1 ++ l.set k x := by
  subst h; rw [List.set_append_right _ _ (Nat.le_add_right _ _), Nat.add_sub_cancel_left]
theorem bdL_setR (v : Int) (r r' : Rw) (m : List Bo) : ∀ (gs : List Nat) (i : Nat), gs.length = m.length → m[i]? = some (.rw v r) → bdL gs (m.set i (.rw v r')) = (((((bdL gs m).set (i * 8 + 3) (.int .i64 r'.a)).set (i * 8 + 4) (.int .i64 r'.b)).set (i * 8 + 5) (.int .i64 r'.c)).set (i * 8 + 6) (.int .i64 r'.d)).set (i * 8 + 7) (.int .i64 r'.t) := by
  generalize hx3 : Value.int .i64 r'.a = x3
  generalize hx4 : Value.int .i64 r'.b = x4
  generalize hx5 : Value.int .i64 r'.c = x5
  generalize hx6 : Value.int .i64 r'.d = x6
  generalize hx7 : Value.int .i64 r'.t = x7
  induction m with
  | nil => intro gs i _ h; simp at h
  | cons b m ih =>
    intro gs i hl h
    cases gs with
    | nil => simp at hl
    | cons x gs =>
      cases i with
      | zero =>
        have hb : b = .rw v r := by simpa using h
        subst hb
        rw [List.set_cons_zero]
        unfold bdL
        generalize bdL gs m = l
        show [.int .i64 v, .bool true, .pointer none, .int .i64 r'.a, .int .i64 r'.b, .int .i64 r'.c, .int .i64 r'.d, .int .i64 r'.t] ++ l = _
        rw [hx3, hx4, hx5, hx6, hx7]
        show _ = (((((Value.int .i64 v :: .bool true :: .pointer none :: .int .i64 r.a :: .int .i64 r.b :: .int .i64 r.c :: .int .i64 r.d :: .int .i64 r.t :: l).set _ _).set _ _).set _ _).set _ _).set _ _
        rfl
      | succ i =>
        have hm : m[i]? = some (.rw v r) := by simpa using h
        have ih' := ih gs i (by simpa using hl) hm
        rw [List.set_cons_succ]
        unfold bdL
        rw [ih']
        have e := bdL1_len x b
        generalize bdL1 x b = l1 at e
        generalize bdL gs m = l
        rw [set_app l1 l ((i + 1) * 8 + 3) (i * 8 + 3) (by omega), set_app l1 _ ((i + 1) * 8 + 4) (i * 8 + 4) (by omega), set_app l1 _ ((i + 1) * 8 + 5) (i * 8 + 5) (by omega), set_app l1 _ ((i + 1) * 8 + 6) (i * 8 + 6) (by omega), set_app l1 _ ((i + 1) * 8 + 7) (i * 8 + 7) (by omega)]

theorem owns_blk {P : Program} {k : TypeId} {R : Value → Option (DataW Unit × List MemPlace)} {w : World} {b n : Nat} {D : DataW Unit} (h : w.ownsMap P k R b n D) : ∃ es c, w.heap[b]? = some (.map es c) := by
  obtain ⟨es, c, hb, _⟩ := h
  exact ⟨es, c, hb⟩
theorem FsMap.blk {w : World} {bm n : Nat} {f : Int → Option Nat} (h : FsMap w bm n f) : ∃ es c, w.heap[bm]? = some (.map es c) := by
  obtain ⟨D, h, _⟩ := h; exact owns_blk h
theorem FsMap.lt {w : World} {bm n : Nat} {f : Int → Option Nat} (h : FsMap w bm n f) : bm < w.heap.size := by
  obtain ⟨es, c, h⟩ := h.blk; exact (Array.getElem?_eq_some_iff.1 h).1
theorem FsMap.bar {S : Nat → Prop} {w w' : World} {bm n : Nat} {f : Int → Option Nat} (h : FsMap w bm n f) (hb : Bar S w w') (hn : ¬ S bm) : FsMap w' bm n f := by
  have hl := h.lt
  obtain ⟨D, ⟨es, c, h1, h2⟩, h3⟩ := h
  exact ⟨D, ⟨es, c, (hb.block bm hl hn).trans h1, h2⟩, h3⟩
/-- a map of places with at most n entries. -/
def FsLe (w : World) (bm n : Nat) (f : Int → Option Nat) : Prop := ∃ k, k ≤ n ∧ FsMap w bm k f
theorem FsLe.blk {w : World} {bm n : Nat} {f : Int → Option Nat} (h : FsLe w bm n f) : ∃ es c, w.heap[bm]? = some (.map es c) := by
  obtain ⟨k, _, h⟩ := h; exact h.blk
theorem FsLe.lt {w : World} {bm n : Nat} {f : Int → Option Nat} (h : FsLe w bm n f) : bm < w.heap.size := by
  obtain ⟨k, _, h⟩ := h; exact h.lt
theorem FsLe.below {w w' : World} {bm n B : Nat} {f : Int → Option Nat} (h : FsLe w bm n f) (hb : Below B w w') (hB : bm < B) : FsLe w' bm n f := by
  obtain ⟨k, hk, h⟩ := h; exact ⟨k, hk, h.below hb hB⟩
theorem FsLe.bar {S : Nat → Prop} {w w' : World} {bm n : Nat} {f : Int → Option Nat} (h : FsLe w bm n f) (hb : Bar S w w') (hn : ¬ S bm) : FsLe w' bm n f := by
  obtain ⟨k, hk, h⟩ := h; exact ⟨k, hk, h.bar hb hn⟩
theorem FsLe.mono {w : World} {bm n n' : Nat} {f : Int → Option Nat} (h : FsLe w bm n f) (hn : n ≤ n') : FsLe w bm n' f := by
  obtain ⟨k, hk, h⟩ := h; exact ⟨k, by omega, h⟩
theorem FsLe.congr {w : World} {bm n : Nat} {f f' : Int → Option Nat} (h : FsLe w bm n f) (e : ∀ v, f' v = f v) : FsLe w bm n f' := by
  obtain ⟨k, hk, D, h1, h2⟩ := h; exact ⟨k, hk, D, h1, mapIs_congr h2 e⟩
def sObj (mv : Value) (m1 m2 : Nat) (f : Int) : Obj := .cells #[mv, .map (some m1), .map (some m2), .int .i64 f] 146
/-- the blocks of a set. -/
def SetB (s m1 m2 : Nat) (mv : Value) (k : Nat) : Prop := k = s ∨ k = m1 ∨ k = m2 ∨ mv.ownBlock = some k
structure SetAt (B : Nat) (w : World) (s : Nat) (mv : Value) (m1 m2 : Nat) (gs : List Nat) (st : US) : Prop where
  blk : w.heap[s]? = some (sObj mv m1 m2 st.fresh)
  own : w.ownsRow B 150 8 mv st.made.length (bdL gs st.made)
  len : gs.length = st.made.length
  shp : ∀ i v T, st.made[i]? = some (.ty v T) → Shp w T (gs.getD i 0)
  mp1 : FsLe w m1 st.made.length (tyI st.made 0)
  mp2 : FsLe w m2 st.made.length (rwI st.made 0)
  ne : m1 ≠ m2
  bs : B ≤ s
  b1 : B ≤ m1
  b2 : B ≤ m2
namespace SetAt
variable {B : Nat} {w : World} {s m1 m2 : Nat} {mv : Value} {gs : List Nat} {st : US}
theorem s_lt (h : SetAt B w s mv m1 m2 gs st) : s < w.heap.size := (Array.getElem?_eq_some_iff.1 h.blk).1
theorem keep {w' : World} (h : SetAt B w s mv m1 m2 gs st) (hb : Below w.heap.size w w') : SetAt B w' s mv m1 m2 gs st :=
  ⟨(hb.block s h.s_lt).trans h.blk, owns_below h.own hb, h.len, fun i v T hi => (h.shp i v T hi).keep hb, h.mp1.below hb h.mp1.lt, h.mp2.below hb h.mp2.lt, h.ne, h.bs, h.b1, h.b2⟩
theorem low (h : SetAt B w s mv m1 m2 gs st) : ∀ k, SetB s m1 m2 mv k → B ≤ k ∧ k < w.heap.size := by
  rintro k (rfl | rfl | rfl | hk)
  · exact ⟨h.bs, h.s_lt⟩
  · exact ⟨h.b1, h.mp1.lt⟩
  · exact ⟨h.b2, h.mp2.lt⟩
  · exact own_lt h.own k hk
/-- a block of cells of another type is none of the set's. -/
theorem other (h : SetAt B w s mv m1 m2 gs st) {k : Nat} {cs : Array Value} {t : TypeId} {fr : Nat × Nat} (hk : w.heap[k]? = some (.cells cs t fr)) (h1 : t ≠ 146) (h2 : t ≠ 150) : ¬ SetB s m1 m2 mv k := by
  rintro (rfl | rfl | rfl | hk')
  · rw [h.blk] at hk; unfold sObj at hk; injection hk with hk; injection hk with _ hk _; exact h1 hk.symm
  · obtain ⟨es, c, hm⟩ := h.mp1.blk; rw [hm] at hk; cases hk
  · obtain ⟨es, c, hm⟩ := h.mp2.blk; rw [hm] at hk; cases hk
  · rcases h.own.2 with ⟨rfl, _⟩ | ⟨g, cap, cur, rfl, _, hg, _⟩
    · cases hk'
    · injection hk' with hk'; subst hk'
      rw [hg] at hk; injection hk with hk; injection hk with _ hk _; exact h2 hk.symm
theorem shp_not (h : SetAt B w s mv m1 m2 gs st) {T : TT} {g : Nat} (hS : Shp w T g) : ¬ SetB s m1 m2 mv g := by
  obtain ⟨pa, pb, hg⟩ := hS.blk
  unfold shB at hg
  exact h.other hg (by decide) (by decide)
/-- a shape stays while the set is turned. -/
theorem shape {w' : World} (h : SetAt B w s mv m1 m2 gs st) (hb : Bar (SetB s m1 m2 mv) w w') : ∀ {T : TT} {g : Nat}, Shp w T g → Shp w' T g := by
  intro T
  induction T with
  | base k => intro g hS; exact ⟨hS.1, (hb.block g (Shp.lt (T := .base k) hS) (h.shp_not (T := .base k) hS)).trans hS.2⟩
  | var v => intro g hS; exact (hb.block g (Shp.lt (T := .var v) hS) (h.shp_not (T := .var v) hS)).trans hS
  | fn a r b iha ihb =>
    intro g hS
    have hl := Shp.lt (T := .fn a r b) hS
    have hn := h.shp_not (T := .fn a r b) hS
    obtain ⟨ga, gb, h1, h2, h3⟩ := hS
    exact ⟨ga, gb, (hb.block g hl hn).trans h1, iha h2, ihb h3⟩
/-- the cells of the set. -/
theorem cs (h : SetAt B w s mv m1 m2 gs st) : w.cell? ⟨s, 0, none⟩ = some mv ∧ w.cell? ⟨s, 1, none⟩ = some (.map (some m1)) ∧ w.cell? ⟨s, 2, none⟩ = some (.map (some m2)) ∧ w.cell? ⟨s, 3, none⟩ = some (.int .i64 st.fresh) ∧ ∀ o, w.frozen? ⟨s, o, none⟩ = false := by
  have hk := (show w.heap[s]? = some (.cells #[mv, .map (some m1), .map (some m2), .int .i64 st.fresh] 146 (0, 0)) from h.blk)
  exact ⟨(Lib.cell_of_heap hk 0).trans rfl, (Lib.cell_of_heap hk 1).trans rfl, (Lib.cell_of_heap hk 2).trans rfl, (Lib.cell_of_heap hk 3).trans rfl, fun o => Lib.frozen_of_heap hk o⟩
/-- the cells of a bind. -/
theorem bind (h : SetAt B w s mv m1 m2 gs st) {i : Nat} {b : Bo} (hi : st.made[i]? = some b) : ∃ G c, mv = .slice (some ⟨G, 0, none⟩) st.made.length c ∧ (∀ k u, k < 8 → (bdL1 (gs.getD i 0) b)[k]? = some u → w.cell? ⟨G, i * 8 + k, none⟩ = some u) ∧ ∀ o, w.frozen? ⟨G, o, none⟩ = false := by
  have hil := (List.getElem?_eq_some_iff.1 hi).1
  have hh := h.own
  rcases h.own.2 with ⟨_, h0⟩ | ⟨G, c, cur, rfl, _, hg, _⟩
  · omega
  · refine ⟨G, c, rfl, fun k u hk hu => ?_, fun o => World.ownsRow.frozenAt hh o⟩
    rw [World.ownsRow.cellAt hh (i * 8 + k) (by omega), bdL_get gs st.made i k h.len hk, hi]; exact hu
end SetAt
theorem tyI_shift : ∀ (m : List Bo) (k : Nat) (v : Int), tyI m (k + 1) v = (tyI m k v).map (· + 1)
  | [], _, _ => rfl
  | b :: m, k, v => by
    simp only [tyI]; rw [tyI_shift m (k + 1) v]
    cases tyI m (k + 1) v with
    | some i => simp
    | none => cases (b.tyOf v) <;> simp
theorem rwI_shift : ∀ (m : List Bo) (k : Nat) (v : Int), rwI m (k + 1) v = (rwI m k v).map (· + 1)
  | [], _, _ => rfl
  | b :: m, k, v => by
    simp only [rwI]; rw [rwI_shift m (k + 1) v]
    cases rwI m (k + 1) v with
    | some i => simp
    | none => cases (b.rwOf v) <;> simp
theorem tyI_app (m : List Bo) (b : Bo) (v : Int) : ∀ k, tyI (m ++ [b]) k v = (if (b.tyOf v).isSome then some (k + m.length) else none).or (tyI m k v) := by
  induction m with
  | nil => intro k; simp [tyI]
  | cons c m ih =>
    intro k
    simp only [List.cons_append, tyI, List.length_cons]; rw [ih, Option.or_assoc, show k + 1 + m.length = k + (m.length + 1) by omega]
theorem rwI_app (m : List Bo) (b : Bo) (v : Int) : ∀ k, rwI (m ++ [b]) k v = (if (b.rwOf v).isSome then some (k + m.length) else none).or (rwI m k v) := by
  induction m with
  | nil => intro k; simp [rwI]
  | cons c m ih =>
    intro k
    simp only [List.cons_append, rwI, List.length_cons]; rw [ih, Option.or_assoc, show k + 1 + m.length = k + (m.length + 1) by omega]
theorem tyI_none : ∀ {m : List Bo} {k : Nat} {v : Int}, tyI m k v = none → sgU m v = none
  | [], _, _, _ => rfl
  | b :: m, k, v, h => by
    simp only [tyI, Option.or_eq_none_iff] at h
    simp only [sgU, Option.or_eq_none_iff]
    refine ⟨tyI_none h.1, ?_⟩
    cases hq : b.tyOf v with
    | none => rfl
    | some T => rw [hq] at h; simp at h
theorem rwI_none : ∀ {m : List Bo} {k : Nat} {v : Int}, rwI m k v = none → rhU m v = none
  | [], _, _, _ => rfl
  | b :: m, k, v, h => by
    simp only [rwI, Option.or_eq_none_iff] at h
    simp only [rhU, Option.or_eq_none_iff]
    refine ⟨rwI_none h.1, ?_⟩
    cases hq : b.rwOf v with
    | none => rfl
    | some T => rw [hq] at h; simp at h
theorem tyOf_some {b : Bo} {v : Int} {T : TT} (h : b.tyOf v = some T) : b = .ty v T := by
  cases b with
  | rw _ _ => cases h
  | ty u U =>
    simp only [Bo.tyOf] at h
    by_cases e : v = u
    · rw [if_pos e] at h; injection h with h; rw [h, e]
    · rw [if_neg e] at h; cases h
theorem rwOf_some {b : Bo} {v : Int} {r : Rw} (h : b.rwOf v = some r) : b = .rw v r := by
  cases b with
  | ty _ _ => cases h
  | rw u U =>
    simp only [Bo.rwOf] at h
    by_cases e : v = u
    · rw [if_pos e] at h; injection h with h; rw [h, e]
    · rw [if_neg e] at h; cases h
theorem tyI_some : ∀ {m : List Bo} {v : Int} {i : Nat}, tyI m 0 v = some i → ∃ T, m[i]? = some (.ty v T) ∧ sgU m v = some T
  | b :: m, v, i, h => by
    simp only [tyI] at h
    rw [tyI_shift] at h
    cases hq : tyI m 0 v with
    | some j =>
      rw [hq] at h; simp at h
      obtain ⟨T, h1, h2⟩ := tyI_some hq
      exact ⟨T, by rw [← h]; simpa using h1, by simp [sgU, h2]⟩
    | none =>
      rw [hq] at h; simp at h
      obtain ⟨h1, rfl⟩ := h
      obtain ⟨T, hT⟩ := Option.isSome_iff_exists.1 h1
      exact ⟨T, by rw [tyOf_some hT]; rfl, by simp only [sgU]; rw [tyI_none hq, hT]; rfl⟩
theorem rwI_some : ∀ {m : List Bo} {v : Int} {i : Nat}, rwI m 0 v = some i → ∃ T, m[i]? = some (.rw v T) ∧ rhU m v = some T
  | b :: m, v, i, h => by
    simp only [rwI] at h
    rw [rwI_shift] at h
    cases hq : rwI m 0 v with
    | some j =>
      rw [hq] at h; simp at h
      obtain ⟨T, h1, h2⟩ := rwI_some hq
      exact ⟨T, by rw [← h]; simpa using h1, by simp [rhU, h2]⟩
    | none =>
      rw [hq] at h; simp at h
      obtain ⟨h1, rfl⟩ := h
      obtain ⟨T, hT⟩ := Option.isSome_iff_exists.1 h1
      exact ⟨T, by rw [rwOf_some hT]; rfl, by simp only [rhU]; rw [rwI_none hq, hT]; rfl⟩
/-- a bind's kind and number. -/
def Bo.like : Bo → Bo → Prop
  | .ty v _, .ty u _ => v = u
  | .rw v _, .rw u _ => v = u
  | _, _ => False
theorem like_ty {b c : Bo} (h : b.like c) (v : Int) : (b.tyOf v).isSome = (c.tyOf v).isSome ∧ (b.rwOf v).isSome = (c.rwOf v).isSome := by
  cases b <;> cases c <;> simp only [Bo.like] at h
  · subst h; simp only [Bo.tyOf, Bo.rwOf]; exact ⟨by split <;> rfl, trivial⟩
  · subst h; simp only [Bo.tyOf, Bo.rwOf]; exact ⟨trivial, by split <;> rfl⟩
theorem tyI_set {b c : Bo} (hl : b.like c) (v : Int) : ∀ (m : List Bo) (i k : Nat), m[i]? = some b → tyI (m.set i c) k v = tyI m k v ∧ rwI (m.set i c) k v = rwI m k v
  | [], i, k, h => by simp at h
  | x :: m, 0, k, h => by
    simp at h; subst h
    simp only [List.set_cons_zero, tyI, rwI]
    rw [(like_ty hl v).1, (like_ty hl v).2]; exact ⟨rfl, rfl⟩
  | x :: m, i + 1, k, h => by
    simp at h
    obtain ⟨h1, h2⟩ := tyI_set hl v m i (k + 1) h
    simp only [List.set_cons_succ, tyI, rwI]
    rw [h1, h2]; exact ⟨rfl, rfl⟩
end Go.Proofs.YtfkdcconmecaoaaDoor

/- A set of binds: typeOf, rowOf, Under, UnderRow. -/
namespace Go.Proofs.YtfkdcconmecaoaaDoor
open Go.RowKit Go.Maps
set_option linter.unusedVariables false
set_option linter.unusedSimpArgs false

/-- what the walks ask of a set's binds. -/
theorem sgU_ok {st : US} (hi : UInv st) : ∀ v U, sgU st.made v = some U → U.ok = true ∧ U.sz ≤ 256 := fun v U h => by
  have := hi.ok _ (sgU_mem h); simp only [Bo.ok, Bool.and_eq_true, decide_eq_true_eq] at this; exact ⟨this.1.2, this.2⟩
theorem rhU_ok {st : US} (hi : UInv st) : ∀ v q, rhU st.made v = some q → q.may = true := fun v q h => by
  have := hi.ok _ (rhU_mem h); simp only [Bo.ok, Bool.and_eq_true] at this; exact this.2
set_option maxRecDepth 100000 in
set_option maxHeartbeats 4000000 in
theorem uTypeOf_any (B : Nat) (w : World) (s : Nat) (mv : Value) (m1 m2 : Nat) (gs : List Nat) (st : US) (h : Hid (SetAt B w s mv m1 m2 gs st)) (v : Int) (hr : 0 ≤ v ∧ v < 4096) :
    Calls Tryd.prog 96 #[ptrS s, .int .i64 v] w
    fun e w' => (match sgU st.made v with
      | none => ∃ x, e = .returned (.tuple #[.pointer x, .bool false])
      | some U => ∃ g, e = .returned (.tuple #[ptrS g, .bool true]) ∧ Shp w' U g) ∧ Below w.heap.size w w' := by
  obtain ⟨c0, c1, c2, c3, cf⟩ := h.out.cs
  obtain ⟨n1, _, D, hown, hmi⟩ := h.out.mp1
  have hsl := h.out.s_lt
  obtain ⟨hh, hi⟩ := hmi.2 v
  have hkey : keyOf Tryd.prog 3 (.int .i64 v) = some (.int .i64 v) := keyOf_int_mk Tryd.underlying3 (wf_var hr)
  unfold ptrS at *
  cases hf : tyI st.made 0 v with
  | none =>
    have hs : sgU st.made v = none := tyI_none hf
    have hhas : Maps.has D (.int .i64 v) = false := by rw [hh, hf]; rfl
    simp only [hs]
    clear hs hf hh hi hmi h
    go_enter Tryd.func96, Tryd.ntmps96
    go_wp2_with (at_lookup; refine wpList_lookup_own_ok_int _ rfl _ _ 119 rfl 3 3 .i64 lawI Tryd.underlying119 Tryd.underlying3 (zeroI _) m1 n1 D rfl hown _ _ rfl hkey ?_; intro c' hat hwc)
    go_ret2
    exact ⟨⟨none, rfl⟩, Below.refl _ _⟩
  | some i =>
    obtain ⟨T, hm, hs⟩ := tyI_some hf
    have hhas : Maps.has D (.int .i64 v) = true := by rw [hh, hf]; rfl
    have hati := hi i hf
    have hS := h.out.shp i v T hm
    obtain ⟨G, c, rfl, hc, hfz⟩ := h.out.bind hm
    have e2 := hc 2 (ptrS (gs.getD i 0)) (by omega) rfl
    have hil := (List.getElem?_eq_some_iff.1 hm).1
    simp only [hs]
    generalize gs.getD i 0 = g at hS e2
    have hS' := Lib.hid hS
    generalize st.made.length = n at *
    have hi0 : (0 : Int) ≤ (i : Int) := by omega
    have hil' : (i : Int) < (n : Int) := by omega
    unfold ptrS at e2
    clear hs hf hh hi hmi h hm hc hS hfz
    go_enter Tryd.func96, Tryd.ntmps96
    go_wp2_with (at_lookup; refine wpList_lookup_own_ok_int _ rfl _ _ 119 rfl 3 3 .i64 lawI Tryd.underlying119 Tryd.underlying3 (zeroI _) m1 n1 D rfl hown _ _ rfl hkey ?_; intro c' hat hwc; obtain rfl : c' = i := (by rw [hati] at hat; injection hat with hat; injection hat with _ hat; exact hat.symm))
    go_ret2
    exact ⟨⟨g, rfl, hS'.out⟩, Below.refl _ _⟩
set_option maxRecDepth 100000 in
set_option maxHeartbeats 4000000 in
theorem uRowOf_any (B : Nat) (w : World) (s : Nat) (mv : Value) (m1 m2 : Nat) (gs : List Nat) (st : US) (h : Hid (SetAt B w s mv m1 m2 gs st)) (v : Int) (hr : 0 ≤ v ∧ v < 4096) :
    Calls Tryd.prog 97 #[ptrS s, .int .i64 v] w
    fun e w' => (match rhU st.made v with
      | none => ∃ q, e = .returned (.tuple #[rwV q, .bool false])
      | some q => e = .returned (.tuple #[rwV q, .bool true])) ∧ Below w.heap.size w w' := by
  obtain ⟨c0, c1, c2, c3, cf⟩ := h.out.cs
  obtain ⟨n1, _, D, hown, hmi⟩ := h.out.mp2
  have hsl := h.out.s_lt
  obtain ⟨hh, hi⟩ := hmi.2 v
  have hkey : keyOf Tryd.prog 3 (.int .i64 v) = some (.int .i64 v) := keyOf_int_mk Tryd.underlying3 (wf_var hr)
  have hown' : (w.alloc (.cells #[.int .i64 0, .int .i64 0, .int .i64 0, .int .i64 0, .int .i64 0] 36)).ownsMap Tryd.prog 3 (plainElem Tryd.prog 3) m2 n1 D := hown.alloc _
  unfold ptrS rwV at *
  cases hf : rwI st.made 0 v with
  | none =>
    have hs : rhU st.made v = none := rwI_none hf
    have hhas : Maps.has D (.int .i64 v) = false := by rw [hh, hf]; rfl
    simp only [hs]
    clear hs hf hh hi hmi h
    go_enter Tryd.func97, Tryd.ntmps97
    go_wp2_with (at_lookup; refine wpList_lookup_own_ok_int _ rfl _ _ 119 rfl 3 3 .i64 lawI Tryd.underlying119 Tryd.underlying3 (zeroI _) m2 n1 D rfl hown' _ _ rfl hkey ?_; intro c' hat hwc)
    exact bodyPost_ret (v := .tuple #[.agg #[.int .i64 0, .int .i64 0, .int .i64 0, .int .i64 0, .int .i64 0], .bool false]) (by simp [results, Tryd.results97, go_sem, *]) rfl ⟨⟨⟨0, 0, 0, 0, 0⟩, rfl⟩, by (repeat' (first | with_reducible exact Below.refl _ _ | with_reducible assumption | with_reducible apply Below.setCell | with_reducible apply Below.alloc | with_reducible apply Below.drew | with_reducible apply below_drewN | with_reducible exact Nat.le_refl _ | (simp; done) | (simp; omega) | omega | exact Nat.le_refl _))⟩
  | some i =>
    obtain ⟨T, hm, hs⟩ := rwI_some hf
    have hhas : Maps.has D (.int .i64 v) = true := by rw [hh, hf]; rfl
    have hati := hi i hf
    obtain ⟨G, c, rfl, hc, hfz⟩ := h.out.bind hm
    have e3 := hc 3 (.int .i64 T.a) (by omega) rfl
    have e4 := hc 4 (.int .i64 T.b) (by omega) rfl
    have e5 := hc 5 (.int .i64 T.c) (by omega) rfl
    have e6 := hc 6 (.int .i64 T.d) (by omega) rfl
    have e7 := hc 7 (.int .i64 T.t) (by omega) rfl
    have hil := (List.getElem?_eq_some_iff.1 hm).1
    have hGl := World.block_lt_of_cell? _ _ e3
    simp only [] at hGl
    simp only [hs]
    generalize st.made.length = n at *
    have hi0 : (0 : Int) ≤ (i : Int) := by omega
    have hil' : (i : Int) < (n : Int) := by omega
    clear hs hf hh hi hmi h hm hc hfz
    go_enter Tryd.func97, Tryd.ntmps97
    go_wp2_with (at_lookup; refine wpList_lookup_own_ok_int _ rfl _ _ 119 rfl 3 3 .i64 lawI Tryd.underlying119 Tryd.underlying3 (zeroI _) m2 n1 D rfl hown' _ _ rfl hkey ?_; intro c' hat hwc; obtain rfl : c' = i := (by rw [hati] at hat; injection hat with hat; injection hat with _ hat; exact hat.symm))
    exact bodyPost_ret (v := .tuple #[.agg #[.int .i64 T.a, .int .i64 T.b, .int .i64 T.c, .int .i64 T.d, .int .i64 T.t], .bool true]) (by simp [results, Tryd.results97, go_sem, *]) rfl ⟨rfl, by (repeat' (first | with_reducible exact Below.refl _ _ | with_reducible assumption | with_reducible apply Below.setCell | with_reducible apply Below.alloc | with_reducible apply Below.drew | with_reducible apply below_drewN | with_reducible exact Nat.le_refl _ | (simp; done) | (simp; omega) | omega | exact Nat.le_refl _))⟩
theorem args_bound (a b : Value) : (#[a] ++ #[b] ++ #[] : Array Value) = #[a, b] := by simp
theorem typeOf_fn {B : Nat} {w : World} {s : Nat} {mv : Value} {m1 m2 : Nat} {gs : List Nat} {st : US} (h : SetAt B w s mv m1 m2 gs st) : FnTg 96 #[ptrS s] #[] (sgU st.made) w := fun v W hr hW => by
  rw [args_bound]; exact uTypeOf_any B W s mv m1 m2 gs st (Lib.hid (h.keep hW)) v hr
theorem rowOf_fn {B : Nat} {w : World} {s : Nat} {mv : Value} {m1 m2 : Nat} {gs : List Nat} {st : US} (h : SetAt B w s mv m1 m2 gs st) : FnRg 97 #[ptrS s] #[] (rhU st.made) w := fun v W hr hW => by
  rw [args_bound]; exact uRowOf_any B W s mv m1 m2 gs st (Lib.hid (h.keep hW)) v hr
theorem under_sz {st : US} (hi : UInv st) {T : TT} (hz : T.sz ≤ 256) : (underU st T).sz ≤ 65536 := by
  have := putT_sz (ρ := rhU st.made) (fun v U h => (sgU_ok hi v U h).2) T
  unfold underU; omega
set_option maxRecDepth 100000 in
set_option maxHeartbeats 4000000 in
theorem under_any (B : Nat) (w : World) (s : Nat) (mv : Value) (m1 m2 : Nat) (gs : List Nat) (st : US) (h : Hid (SetAt B w s mv m1 m2 gs st)) (hi : Hid (UInv st)) (T : TT) (g : Nat) (hS : Hid (Shp w T g)) (hT : T.ok = true) (hz : T.sz ≤ 256) :
    Calls Tryd.prog 78 #[ptrS s, ptrS g] w (MkPost (underU st T) w) := by
  have hz2 := under_sz hi.out hz
  have kP := Lib.hid (putG_any 96 #[ptrS s] #[] 97 #[ptrS s] #[] (sgU st.made) (rhU st.made) w (Lib.hid fun _ _ => by kernel_rfl) (Lib.hid fun _ _ => by kernel_rfl) (Lib.hid (typeOf_fn h.out)) (Lib.hid (rowOf_fn h.out)) (rhU_ok hi.out) T g w hS (Lib.hid (Below.refl _ _)) hT (by unfold underU at hz2; omega))
  have hq : Hid (underU st T = putT (sgU st.made) (rhU st.made) T) := Lib.hid rfl
  generalize underU st T = P at hq ⊢
  generalize putT (sgU st.made) (rhU st.made) T = Q at kP hq
  clear hT hz hz2 hS hi h
  unfold ptrS fnW at *
  go_enter Tryd.func78, Tryd.ntmps78
  go_wp2_with fail
  refine kP.out.mono ?_
  rintro e w1 ⟨g1, rfl, hs1, hb1⟩
  go_wp2_with fail
  go_ret
  exact ⟨g1, rfl, by rw [hq.out]; exact hs1, hb1⟩
set_option maxRecDepth 100000 in
set_option maxHeartbeats 4000000 in
theorem underRow_any (B : Nat) (w : World) (s : Nat) (mv : Value) (m1 m2 : Nat) (gs : List Nat) (st : US) (h : Hid (SetAt B w s mv m1 m2 gs st)) (hi : Hid (UInv st)) (r : Rw) (hr : r.may = true) :
    Calls Tryd.prog 109 #[ptrS s, rwV r] w fun e w' => e = .returned (rwV (putR (rhU st.made) r)) ∧ Below w.heap.size w w' := by
  have kP := Lib.hid fun (W : World) (hb : Below w.heap.size w W) => putRowG_any 97 #[ptrS s] #[] (rhU st.made) w (Lib.hid fun _ _ => by kernel_rfl) (Lib.hid (rowOf_fn h.out)) (rhU_ok hi.out) r hr W (Lib.hid hb)
  generalize putR (rhU st.made) r = q at kP ⊢
  clear hi h hr
  unfold ptrS rwV fnW at *
  go_enter Tryd.func109, Tryd.ntmps109
  go_wp2_with fail
  refine (kP.out _ (below_alc2 w _ _)).mono ?_
  rintro e w1 ⟨rfl, hb1⟩
  obtain ⟨hc1, hf1⟩ := bcell hb1
  have hz1_0 : w.heap.size < w1.heap.size := by have := hb1.size; (try simp at this); omega
  have hz1_1 : w.heap.size + 1 < w1.heap.size := by have := hb1.size; (try simp at this); omega
  have hcl1_1_0 : w1.cell? ⟨w.heap.size + 1, 0, none⟩ = some (.int .i64 0) := by rw [hc1 _ _ (by simp; try omega)]; simp
  have hfl1_1_0 : w1.frozen? ⟨w.heap.size + 1, 0, none⟩ = false := by rw [hf1 _ _ (by simp; try omega)]; simp
  have hcl1_1_1 : w1.cell? ⟨w.heap.size + 1, 1, none⟩ = some (.int .i64 0) := by rw [hc1 _ _ (by simp; try omega)]; simp
  have hfl1_1_1 : w1.frozen? ⟨w.heap.size + 1, 1, none⟩ = false := by rw [hf1 _ _ (by simp; try omega)]; simp
  have hcl1_1_2 : w1.cell? ⟨w.heap.size + 1, 2, none⟩ = some (.int .i64 0) := by rw [hc1 _ _ (by simp; try omega)]; simp
  have hfl1_1_2 : w1.frozen? ⟨w.heap.size + 1, 2, none⟩ = false := by rw [hf1 _ _ (by simp; try omega)]; simp
  have hcl1_1_3 : w1.cell? ⟨w.heap.size + 1, 3, none⟩ = some (.int .i64 0) := by rw [hc1 _ _ (by simp; try omega)]; simp
  have hfl1_1_3 : w1.frozen? ⟨w.heap.size + 1, 3, none⟩ = false := by rw [hf1 _ _ (by simp; try omega)]; simp
  have hcl1_1_4 : w1.cell? ⟨w.heap.size + 1, 4, none⟩ = some (.int .i64 0) := by rw [hc1 _ _ (by simp; try omega)]; simp
  have hfl1_1_4 : w1.frozen? ⟨w.heap.size + 1, 4, none⟩ = false := by rw [hf1 _ _ (by simp; try omega)]; simp
  have hfr : ∀ o, w1.frozen? ⟨w.heap.size + 1, o, none⟩ = false := fun o => by rw [hf1 _ _ (by simp)]; simp [go_sem]
  have f0 := hfr 0; have f1 := hfr 1; have f2 := hfr 2; have f3 := hfr 3; have f4 := hfr 4
  have hB := Lib.hid (belT (below_alc2 w _ _) hb1)
  clear hc1 hf1 hb1 hfr
  go_wp2_with fail
  have hbb := hB.out
  exact bodyPost_ret (v := .agg #[.int .i64 q.a, .int .i64 q.b, .int .i64 q.c, .int .i64 q.d, .int .i64 q.t]) (by simp [results, Tryd.results109, go_sem, *]) rfl ⟨rfl, by (repeat' (first | with_reducible exact Below.refl _ _ | with_reducible assumption | with_reducible apply Below.setCell | with_reducible apply Below.alloc | with_reducible apply Below.drew | with_reducible apply below_drewN | with_reducible exact Nat.le_refl _ | (simp; done) | (simp; omega) | omega | exact Nat.le_refl _))⟩
end Go.Proofs.YtfkdcconmecaoaaDoor

/- A set of binds: put. -/
namespace Go.Proofs.YtfkdcconmecaoaaDoor
open Go.RowKit Go.Maps
set_option linter.unusedVariables false
set_option linter.unusedSimpArgs false

/-- the three errors that stand in variables. -/
def errV (a : Addr) : Value := .iface 211 (.pointer (some a))
structure SenW (a0 a1 a2 : Addr) (w : World) : Prop where
  c0 : w.cell? ⟨0, 0, none⟩ = some (errV a0)
  c1 : w.cell? ⟨1, 0, none⟩ = some (errV a1)
  c2 : w.cell? ⟨2, 0, none⟩ = some (errV a2)
  b0 : ∃ cs t, w.heap[a0.block]? = some (.cells cs t (0, 0))
  b1 : ∃ cs t, w.heap[a1.block]? = some (.cells cs t (0, 0))
  b2 : ∃ cs t, w.heap[a2.block]? = some (.cells cs t (0, 0))
  n01 : a0 ≠ a1
  n02 : a0 ≠ a2
  n12 : a1 ≠ a2
theorem SenW.below {a0 a1 a2 : Addr} {w w' : World} (h : SenW a0 a1 a2 w) (hb : Below w.heap.size w w') : SenW a0 a1 a2 w' := by
  have k : ∀ {g : Nat} {o : Obj}, w.heap[g]? = some o → w'.heap[g]? = some o := fun {g o} hg => (hb.block g (Array.getElem?_eq_some_iff.1 hg).1).trans hg
  obtain ⟨c0, c1, c2, ⟨x0, y0, b0⟩, ⟨x1, y1, b1⟩, ⟨x2, y2, b2⟩, n01, n02, n12⟩ := h
  exact ⟨carry hb (World.block_lt_of_cell? _ _ c0) c0, carry hb (World.block_lt_of_cell? _ _ c1) c1, carry hb (World.block_lt_of_cell? _ _ c2) c2, ⟨x0, y0, k b0⟩, ⟨x1, y1, k b1⟩, ⟨x2, y2, k b2⟩, n01, n02, n12⟩
/-- what lies below a set's blocks stays while it is turned. -/
theorem SetAt.bel {B : Nat} {w w' : World} {s : Nat} {mv : Value} {m1 m2 : Nat} {gs : List Nat} {st : US} (h : SetAt B w s mv m1 m2 gs st) (hb : Bar (SetB s m1 m2 mv) w w') : Below B w w' :=
  hb.below (by have := h.bs; have := h.s_lt; omega) fun k hk => (h.low k hk).1
theorem SetAt.turnT {B : Nat} {w : World} {s G c : Nat} {m1 m2 : Nat} {gs : List Nat} {st : US} {i : Nat} {v : Int} {T T' : TT} {g : Nat} (h : SetAt B w s (.slice (some ⟨G, 0, none⟩) st.made.length c) m1 m2 gs st) (hi : st.made[i]? = some (.ty v T)) (hS : Shp w T' g) :
    SetAt B (w.setCell ⟨G, i * 8 + 2, none⟩ (ptrS g)) s (.slice (some ⟨G, 0, none⟩) st.made.length c) m1 m2 (gs.set i g) ⟨st.made.set i (.ty v T'), st.fresh⟩ := by
  have hb : Bar (SetB s m1 m2 (.slice (some ⟨G, 0, none⟩) st.made.length c)) w (w.setCell ⟨G, i * 8 + 2, none⟩ (ptrS g)) := Bar.set _ _ (.inr (.inr (.inr rfl)))
  have hown := (World.ownsRow.stored h.own (i * 8 + 2) (ptrS g)).1
  rw [← bdL_set gs st.made i v T T' g h.len hi] at hown
  have hG : ∃ cs, w.heap[G]? = some (.cells cs 150 (0, 0)) := by
    rcases h.own.2 with ⟨h0, _⟩ | ⟨g', cap, cur, h0, _, hg, _⟩
    · cases h0
    · injection h0 with h0 _ _; injection h0 with h0; injection h0 with h0; subst h0; exact ⟨_, hg⟩
  obtain ⟨csG, hG⟩ := hG
  have hil := (List.getElem?_eq_some_iff.1 hi).1
  have hlk : (Bo.ty v T).like (.ty v T') := rfl
  have nS : s ≠ G := by rintro rfl; have := h.blk; rw [hG] at this; unfold sObj at this; injection this with this; injection this with _ this _; exact absurd this (by decide)
  have n1 : m1 ≠ G := by rintro rfl; obtain ⟨es, c', hm⟩ := h.mp1.blk; rw [hG] at hm; cases hm
  have n2 : m2 ≠ G := by rintro rfl; obtain ⟨es, c', hm⟩ := h.mp2.blk; rw [hG] at hm; cases hm
  have hne : ∀ k, k ≠ G → (w.setCell ⟨G, i * 8 + 2, none⟩ (ptrS g)).heap[k]? = w.heap[k]? := fun k hk => Deep.blk_setCell_other _ _ _ _ hk
  have hf1 : ∀ x, tyI (st.made.set i (.ty v T')) 0 x = tyI st.made 0 x := fun x => (tyI_set hlk x st.made i 0 hi).1
  have hf2 : ∀ x, rwI (st.made.set i (.ty v T')) 0 x = rwI st.made 0 x := fun x => (tyI_set hlk x st.made i 0 hi).2
  refine ⟨(hne s nS).trans h.blk, ?_, by simp [h.len], ?_, ?_, ?_, h.ne, h.bs, h.b1, h.b2⟩
  · simpa using hown
  · intro j u U hj
    by_cases e : i = j
    · subst e
      simp [hil] at hj
      obtain ⟨rfl, rfl⟩ := hj
      have : (gs.set i g).getD i 0 = g := by rw [List.getD_eq_getElem?_getD, List.getElem?_set_self (by rw [h.len]; exact hil)]; rfl
      rw [this]; exact h.shape hb hS
    · rw [List.getElem?_set_ne e] at hj
      have : (gs.set i g).getD j 0 = gs.getD j 0 := by rw [List.getD_eq_getElem?_getD, List.getElem?_set_ne e, List.getD_eq_getElem?_getD]
      rw [this]; exact h.shape hb (h.shp j u U hj)
  · obtain ⟨k, hk, D, ⟨es, c', x1, x2⟩, x3⟩ := h.mp1
    exact ⟨k, by simpa using hk, D, ⟨es, c', (hne m1 n1).trans x1, x2⟩, mapIs_congr x3 hf1⟩
  · obtain ⟨k, hk, D, ⟨es, c', x1, x2⟩, x3⟩ := h.mp2
    exact ⟨k, by simpa using hk, D, ⟨es, c', (hne m2 n2).trans x1, x2⟩, mapIs_congr x3 hf2⟩
theorem set1 (W : World) (G o : Nat) (x : Value) {k : Nat} (hk : k ≠ G) : (W.setCell ⟨G, o, none⟩ x).heap[k]? = W.heap[k]? := Deep.blk_setCell_other _ _ _ _ hk
theorem uSet5 (w : World) (G i : Nat) (r' : Rw) {k : Nat} (hk : k ≠ G) : (((((w.setCell ⟨G, i * 8 + 3, none⟩ (.int .i64 r'.a)).setCell ⟨G, i * 8 + 4, none⟩ (.int .i64 r'.b)).setCell ⟨G, i * 8 + 5, none⟩ (.int .i64 r'.c)).setCell ⟨G, i * 8 + 6, none⟩ (.int .i64 r'.d)).setCell ⟨G, i * 8 + 7, none⟩ (.int .i64 r'.t)).heap[k]? = w.heap[k]? :=
  (set1 _ G _ _ hk).trans ((set1 _ G _ _ hk).trans ((set1 _ G _ _ hk).trans ((set1 _ G _ _ hk).trans (set1 _ G _ _ hk))))
theorem Bar.set' {S : Nat → Prop} {w W : World} {G : Nat} (h : Bar S w W) (o : Nat) (v : Value) (hG : S G) : Bar S w (W.setCell ⟨G, o, none⟩ v) := h.trans (Bar.set (S := S) ⟨G, o, none⟩ v hG) fun _ _ h => h
theorem bar_turnR {S : Nat → Prop} {w : World} {G i : Nat} {r' : Rw} (hS : S G) : Bar S w (((((w.setCell ⟨G, i * 8 + 3, none⟩ (.int .i64 r'.a)).setCell ⟨G, i * 8 + 4, none⟩ (.int .i64 r'.b)).setCell ⟨G, i * 8 + 5, none⟩ (.int .i64 r'.c)).setCell ⟨G, i * 8 + 6, none⟩ (.int .i64 r'.d)).setCell ⟨G, i * 8 + 7, none⟩ (.int .i64 r'.t)) :=
  (((((Bar.refl S w).set' _ _ hS).set' _ _ hS).set' _ _ hS).set' _ _ hS).set' _ _ hS
theorem SetAt.turnR {B : Nat} {w : World} {s G c : Nat} {m1 m2 : Nat} {gs : List Nat} {st : US} {i : Nat} {v : Int} {r r' : Rw} (h : SetAt B w s (.slice (some ⟨G, 0, none⟩) st.made.length c) m1 m2 gs st) (hi : st.made[i]? = some (.rw v r)) :
    SetAt B (((((w.setCell ⟨G, i * 8 + 3, none⟩ (.int .i64 r'.a)).setCell ⟨G, i * 8 + 4, none⟩ (.int .i64 r'.b)).setCell ⟨G, i * 8 + 5, none⟩ (.int .i64 r'.c)).setCell ⟨G, i * 8 + 6, none⟩ (.int .i64 r'.d)).setCell ⟨G, i * 8 + 7, none⟩ (.int .i64 r'.t)) s (.slice (some ⟨G, 0, none⟩) st.made.length c) m1 m2 gs ⟨st.made.set i (.rw v r'), st.fresh⟩ := by
  have o3 := (World.ownsRow.stored h.own (i * 8 + 3) (.int .i64 r'.a)).1
  have o4 := (World.ownsRow.stored o3 (i * 8 + 4) (.int .i64 r'.b)).1
  have o5 := (World.ownsRow.stored o4 (i * 8 + 5) (.int .i64 r'.c)).1
  have o6 := (World.ownsRow.stored o5 (i * 8 + 6) (.int .i64 r'.d)).1
  have hown := (World.ownsRow.stored o6 (i * 8 + 7) (.int .i64 r'.t)).1
  clear o3 o4 o5 o6
  rw [← bdL_setR v r r' st.made gs i h.len hi] at hown
  have hG : ∃ cs, w.heap[G]? = some (.cells cs 150 (0, 0)) := by
    rcases h.own.2 with ⟨h0, _⟩ | ⟨g', cap, cur, h0, _, hg, _⟩
    · cases h0
    · injection h0 with h0 _ _; injection h0 with h0; injection h0 with h0; subst h0; exact ⟨_, hg⟩
  obtain ⟨csG, hG⟩ := hG
  have hil := (List.getElem?_eq_some_iff.1 hi).1
  have hlk : (Bo.rw v r).like (.rw v r') := rfl
  have nS : s ≠ G := by rintro rfl; have := h.blk; rw [hG] at this; unfold sObj at this; injection this with this; injection this with _ this _; exact absurd this (by decide)
  have n1 : m1 ≠ G := by rintro rfl; obtain ⟨es, c', hm⟩ := h.mp1.blk; rw [hG] at hm; cases hm
  have n2 : m2 ≠ G := by rintro rfl; obtain ⟨es, c', hm⟩ := h.mp2.blk; rw [hG] at hm; cases hm
  have hne : ∀ k, k ≠ G → (((((w.setCell ⟨G, i * 8 + 3, none⟩ (.int .i64 r'.a)).setCell ⟨G, i * 8 + 4, none⟩ (.int .i64 r'.b)).setCell ⟨G, i * 8 + 5, none⟩ (.int .i64 r'.c)).setCell ⟨G, i * 8 + 6, none⟩ (.int .i64 r'.d)).setCell ⟨G, i * 8 + 7, none⟩ (.int .i64 r'.t)).heap[k]? = w.heap[k]? := fun k hk => uSet5 w G i r' hk
  have hb : Bar (SetB s m1 m2 (.slice (some ⟨G, 0, none⟩) st.made.length c)) w (((((w.setCell ⟨G, i * 8 + 3, none⟩ (.int .i64 r'.a)).setCell ⟨G, i * 8 + 4, none⟩ (.int .i64 r'.b)).setCell ⟨G, i * 8 + 5, none⟩ (.int .i64 r'.c)).setCell ⟨G, i * 8 + 6, none⟩ (.int .i64 r'.d)).setCell ⟨G, i * 8 + 7, none⟩ (.int .i64 r'.t)) :=
    bar_turnR (.inr (.inr (.inr rfl)))
  have hf1 : ∀ x, tyI (st.made.set i (.rw v r')) 0 x = tyI st.made 0 x := fun x => (tyI_set hlk x st.made i 0 hi).1
  have hf2 : ∀ x, rwI (st.made.set i (.rw v r')) 0 x = rwI st.made 0 x := fun x => (tyI_set hlk x st.made i 0 hi).2
  refine ⟨(hne s nS).trans h.blk, ?_, by simp [h.len], ?_, ?_, ?_, h.ne, h.bs, h.b1, h.b2⟩
  · simpa using hown
  · intro j u U hj
    by_cases e : i = j
    · subst e; simp [hil] at hj
    · rw [List.getElem?_set_ne e] at hj
      exact h.shape hb (h.shp j u U hj)
  · obtain ⟨k, hk, D, ⟨es, c', x1, x2⟩, x3⟩ := h.mp1
    exact ⟨k, by simpa using hk, D, ⟨es, c', (hne m1 n1).trans x1, x2⟩, mapIs_congr x3 hf1⟩
  · obtain ⟨k, hk, D, ⟨es, c', x1, x2⟩, x3⟩ := h.mp2
    exact ⟨k, by simpa using hk, D, ⟨es, c', (hne m2 n2).trans x1, x2⟩, mapIs_congr x3 hf2⟩
/-- the binds, the first j of them turned. -/
def mapJ (f : Bo → Bo) (m : List Bo) (j : Nat) : List Bo := (m.take j).map f ++ m.drop j
theorem mapJ_len (f : Bo → Bo) (m : List Bo) (j : Nat) : (mapJ f m j).length = m.length := by unfold mapJ; simp; omega
theorem mapJ_zero (f : Bo → Bo) (m : List Bo) : mapJ f m 0 = m := by simp [mapJ]
theorem mapJ_all (f : Bo → Bo) (m : List Bo) {j : Nat} (h : m.length ≤ j) : mapJ f m j = m.map f := by unfold mapJ; rw [List.take_of_length_le h, List.drop_of_length_le h, List.append_nil]
theorem mapJ_at (f : Bo → Bo) (m : List Bo) {j : Nat} (h : j < m.length) : (mapJ f m j)[j]? = m[j]? := by
  unfold mapJ; rw [List.getElem?_append_right (by simp; omega)]; simp; congr 1; omega
theorem mapJ_set (f : Bo → Bo) (m : List Bo) {j : Nat} {b : Bo} (h : m[j]? = some b) : (mapJ f m j).set j (f b) = mapJ f m (j + 1) := by
  obtain ⟨hj, hb⟩ := List.getElem?_eq_some_iff.1 h
  unfold mapJ
  rw [List.set_append_right _ _ (by simp; omega), List.take_succ_eq_append_getElem hj, List.map_append, hb, List.drop_eq_getElem_cons hj, hb]
  have e : j - ((m.take j).map f).length = 0 := by simp; omega
  rw [e]; simp
end Go.Proofs.YtfkdcconmecaoaaDoor

/- A set of binds: put, walked. -/
namespace Go.Proofs.YtfkdcconmecaoaaDoor
open Go.RowKit Go.Maps
set_option linter.unusedVariables false
set_option linter.unusedSimpArgs false

def PutPost (B : Nat) (w : World) (s m1 m2 : Nat) (mv : Value) (a2 : Addr) (f : Int) (o : Option (List Bo)) (e : Ending) (w' : World) : Prop :=
  (match o with
    | none => e = .returned (errV a2)
    | some m => e = .returned .nilIface ∧ ∃ gs', SetAt B w' s mv m1 m2 gs' ⟨m, f⟩) ∧ Bar (SetB s m1 m2 mv) w w'
/-- what holds in each round. -/
structure PutInv (B : Nat) (w : World) (s m1 m2 : Nat) (mv : Value) (st : US) (fB : Bo → Bo) (J : World → Prop) (j : Nat) (wr : World) : Prop where
  at_ : ∃ gs', SetAt B wr s mv m1 m2 gs' ⟨mapJ fB st.made j, st.fresh⟩
  bar : Bar (SetB s m1 m2 mv) w wr
  jj : J wr
  fit : ∀ b ∈ st.made.take j, fitB (fB b) = true
theorem PutInv.done {B : Nat} {w : World} {s m1 m2 : Nat} {mv : Value} {st : US} {σ : Int → Option TT} {ρ : Int → Option Rw} {J : World → Prop} {j : Nat} {wr : World} (h : PutInv B w s m1 m2 mv st (putB σ ρ) J j wr) (hj : st.made.length ≤ j) (a2 : Addr) : PutPost B w s m1 m2 mv a2 st.fresh (putM σ ρ st.made) (.returned .nilIface) wr := by
  have hf : (st.made.map (putB σ ρ)).all fitB = true := by
    rw [List.all_eq_true]
    intro x hx
    obtain ⟨b, hb, rfl⟩ := List.mem_map.1 hx
    exact h.fit b (by rw [List.take_of_length_le hj]; exact hb)
  unfold PutPost putM
  rw [if_pos hf]
  refine ⟨⟨rfl, ?_⟩, h.bar⟩
  obtain ⟨gs', hs⟩ := h.at_
  rw [mapJ_all _ _ hj] at hs
  exact ⟨gs', hs⟩
theorem put_bad {B : Nat} {w wr : World} {s m1 m2 : Nat} {mv : Value} {st : US} {σ : Int → Option TT} {ρ : Int → Option Rw} {b : Bo} (hb : b ∈ st.made) (hf : fitB (putB σ ρ b) = false) (hbar : Bar (SetB s m1 m2 mv) w wr) (a2 : Addr) : PutPost B w s m1 m2 mv a2 st.fresh (putM σ ρ st.made) (.returned (errV a2)) wr := by
  have hn : (st.made.map (putB σ ρ)).all fitB = false := by
    rw [List.all_eq_false]
    exact ⟨_, List.mem_map_of_mem hb, by rw [hf]; simp⟩
  unfold PutPost putM
  rw [hn, if_neg (by simp)]
  exact ⟨rfl, hbar⟩
theorem take_fit {f : Bo → Bool} {m : List Bo} {j : Nat} {b : Bo} (h : ∀ x ∈ m.take j, f x = true) (hj : m[j]? = some b) (hb : f b = true) : ∀ x ∈ m.take (j + 1), f x = true := by
  obtain ⟨hl, he⟩ := List.getElem?_eq_some_iff.1 hj
  intro x hx
  rw [List.take_succ_eq_append_getElem hl, he] at hx
  rcases List.mem_append.1 hx with hx | hx
  · exact h x hx
  · simp at hx; subst hx; exact hb
set_option maxRecDepth 100000 in
set_option maxHeartbeats 8000000 in
theorem setPut_any (F1 : Nat) (bs1 cs1 : Array Value) (F2 : Nat) (bs2 cs2 : Array Value) (σ : Int → Option TT) (ρ : Int → Option Rw) (J : World → Prop) (B : Nat) (w : World) (s : Nat) (mv : Value) (m1 m2 : Nat) (gs : List Nat) (st : US) (a0 a1 a2 : Addr)
    (kF1 : Hid (∀ (xs : Array Value) (W : World), (callFunc F1 xs).run Tryd.prog W = .ok (.enter F1 xs) W)) (kF2 : Hid (∀ (xs : Array Value) (W : World), (callFunc F2 xs).run Tryd.prog W = .ok (.enter F2 xs) W))
    (hJF : Hid (∀ W, J W → FnTg F1 bs1 cs1 σ W ∧ FnRg F2 bs2 cs2 ρ W ∧ SenW a0 a1 a2 W)) (hJb : Hid (∀ W W' gs' st', SetAt B W s mv m1 m2 gs' st' → J W → Bar (SetB s m1 m2 mv) W W' → J W'))
    (hσ : ∀ v U, σ v = some U → U.sz ≤ 256) (hρ : ∀ v q, ρ v = some q → q.may = true)
    (h : Hid (SetAt B w s mv m1 m2 gs st)) (hi : Hid (UInv st)) (hJ : Hid (J w)) :
    Calls Tryd.prog 103 #[ptrS s, fnW F1 bs1 cs1, fnW F2 bs2 cs2] w (PutPost B w s m1 m2 mv a2 st.fresh (putM σ ρ st.made)) := by
  have hsl := h.out.s_lt
  have hlen : Hid (st.made.length ≤ 8192) := Lib.hid (made_bd hi.out)
  have hok := Lib.hid hi.out.ok
  have hmv : ∃ a c, mv = .slice a st.made.length c := by
    rcases h.out.own.2 with ⟨rfl, h0⟩ | ⟨g, cap, cur, rfl, _⟩
    · exact ⟨none, 0, by rw [h0]⟩
    · exact ⟨_, _, rfl⟩
  obtain ⟨a, c, rfl⟩ := hmv
  have hfin := Lib.hid fun (j : Nat) (wr : World) (hq : PutInv B w s m1 m2 (.slice a st.made.length c) st (putB σ ρ) J j wr) (hj : st.made.length ≤ j) => hq.done hj a2
  have hbad := Lib.hid fun (b : Bo) (wr : World) (hb : b ∈ st.made) (hf : fitB (putB σ ρ b) = false) (hbar : Bar (SetB s m1 m2 (.slice a st.made.length c)) w wr) => put_bad (B := B) (σ := σ) (ρ := ρ) hb hf hbar a2
  have hstart : Hid (PutInv B w s m1 m2 (.slice a st.made.length c) st (putB σ ρ) J 0 w) := Lib.hid ⟨⟨gs, by rw [mapJ_zero]; exact h.out⟩, Bar.refl _ _, hJ.out, by simp⟩
  generalize hR : putM σ ρ st.made = R at hfin hbad ⊢
  clear hR
  obtain ⟨c0, _, _, _, _⟩ := h.out.cs
  obtain ⟨n, hn⟩ : ∃ n, st.made.length = n := ⟨_, rfl⟩
  have hn' := Lib.hid hn
  rw [hn] at c0 hfin hbad hstart hJb hlen
  rw [hn]
  clear hn h hJ hi
  unfold ptrS fnW at *
  go_enter Tryd.func103, Tryd.ntmps103
  go_wp2_with fail
  go_loopw [14] (fun i wr => ∃ j : Nat, j ≤ n ∧ i = .int .i64 j ∧ Hid (PutInv B w s m1 m2 (.slice a n c) st (putB σ ρ) J j wr)) (fun i _ => n - (intOf i).toNat)
  case atStart => exact ⟨0, by omega, rfl, hstart⟩
  case round =>
    obtain ⟨j, hj, rfl, hI⟩ := hrel
    have hn8 := hlen.out
    by_cases hlt : j < n
    · obtain ⟨gs', hA⟩ := hI.out.at_
      obtain ⟨hF1, hF2, hSen⟩ := hJF.out wr hI.out.jj
      have hjm : j < st.made.length := by rw [hn'.out]; exact hlt
      obtain ⟨b, hb⟩ : ∃ b, st.made[j]? = some b := ⟨_, List.getElem?_eq_getElem hjm⟩
      have hbj : (mapJ (putB σ ρ) st.made j)[j]? = some b := by rw [mapJ_at _ _ hjm]; exact hb
      have hbm : b ∈ st.made := List.mem_of_getElem? hb
      have hbo := hok.out b hbm
      obtain ⟨G, c', hsl', hc, hfz⟩ := hA.bind hbj
      obtain ⟨rfl, rfl⟩ : a = some ⟨G, 0, none⟩ ∧ c = c' := by
        simp only [Value.slice.injEq] at hsl'; exact ⟨hsl'.1, hsl'.2.2⟩
      obtain ⟨d0, _, _, _, _⟩ := hA.cs
      have hsr := hA.s_lt
      have hGr : G < wr.heap.size := (hA.low G (.inr (.inr (.inr rfl)))).2
      have hlt' : (j : Int) < (n : Int) := by omega
      have hj0 : (0 : Int) ≤ (j : Int) := by omega
      have hsG : s ≠ G := by
        intro e
        rcases hA.own.2 with ⟨h0, _⟩ | ⟨g, cap, cur, h0, _, hg, _⟩
        · cases h0
        · injection h0 with h0 _ _; injection h0 with h0; injection h0 with h0; subst h0
          have := hA.blk; rw [e, hg] at this; unfold sObj at this; injection this with this; injection this with _ this _; exact absurd this (by decide)
      have hsc2 := hSen.c2
      have hsl2 := World.block_lt_of_cell? _ _ hsc2
      simp only [] at hsl2
      cases b with
      | rw v r =>
        have e1 := hc 1 (.bool true) (by omega) rfl
        have e3 := hc 3 (.int .i64 r.a) (by omega) rfl
        have e4 := hc 4 (.int .i64 r.b) (by omega) rfl
        have e5 := hc 5 (.int .i64 r.c) (by omega) rfl
        have e6 := hc 6 (.int .i64 r.d) (by omega) rfl
        have e7 := hc 7 (.int .i64 r.t) (by omega) rfl
        have z3 := hfz (j * 8 + 3); have z4 := hfz (j * 8 + 4); have z5 := hfz (j * 8 + 5); have z6 := hfz (j * 8 + 6); have z7 := hfz (j * 8 + 7)
        have hrm : r.may = true := by simp only [Bo.ok, Bool.and_eq_true] at hbo; exact hbo.2
        have kR := Lib.hid (putRowG_any F2 bs2 cs2 ρ wr kF2 (Lib.hid hF2) hρ r hrm wr (Lib.hid (Below.refl _ _)))
        have hq : Hid (fitB (putB σ ρ (.rw v r)) = cntR (putR ρ r).a (putR ρ r).b (putR ρ r).c (putR ρ r).d) := Lib.hid rfl
        have hstep := Lib.hid fun (W : World) (hb1 : Below wr.heap.size wr W) => (show SetAt B _ s (.slice (some ⟨G, 0, none⟩) n c) m1 m2 gs' ⟨mapJ (putB σ ρ) st.made (j + 1), st.fresh⟩ from by
          have hl : (mapJ (putB σ ρ) st.made j).length = n := by rw [mapJ_len]; exact hn'.out
          have hA' := hA.keep hb1
          have := SetAt.turnR (st := ⟨mapJ (putB σ ρ) st.made j, st.fresh⟩) (r' := putR ρ r) (c := c) (G := G) (by show SetAt B W s (.slice _ (mapJ (putB σ ρ) st.made j).length c) m1 m2 gs' _; rw [hl]; exact hA') hbj
          simp only [hl] at this
          rw [show (Bo.rw v (putR ρ r)) = putB σ ρ (.rw v r) from rfl, mapJ_set _ _ hb] at this
          exact this)
        have hbar := Lib.hid hI.out.bar
        have hjj := Lib.hid fun (W' : World) (hb : Bar (SetB s m1 m2 (.slice (some ⟨G, 0, none⟩) n c)) wr W') => hJb.out wr W' gs' _ hA hI.out.jj hb
        have hfit0 := Lib.hid hI.out.fit
        generalize hQ : putR ρ r = q at kR hstep hq
        clear hQ hF1 hF2 hSen hA hbj hbo hrm hc hfz hsl' hI
        unfold rwV at kR
        have kF' := kF2.out
        go_wp2_with fail
        refine kR.out.mono ?_
        rintro e w1 ⟨rfl, hb1⟩
        have hS := Lib.hid (hstep.out w1 hb1)
        have hBr : Hid (Bar (SetB s m1 m2 (.slice (some ⟨G, 0, none⟩) n c)) w1 _) := Lib.hid (bar_turnR (w := w1) (i := j) (r' := q) (.inr (.inr (.inr rfl))))
        have hB1 := Lib.hid hb1
        have x3 := carry hb1 hGr e3; have x4 := carry hb1 hGr e4; have x5 := carry hb1 hGr e5; have x6 := carry hb1 hGr e6; have x7 := carry hb1 hGr e7
        have y3 := (hb1.frozen (p := ⟨G, j * 8 + 3, none⟩) hGr).trans z3; have y4 := (hb1.frozen (p := ⟨G, j * 8 + 4, none⟩) hGr).trans z4; have y5 := (hb1.frozen (p := ⟨G, j * 8 + 5, none⟩) hGr).trans z5; have y6 := (hb1.frozen (p := ⟨G, j * 8 + 6, none⟩) hGr).trans z6; have y7 := (hb1.frozen (p := ⟨G, j * 8 + 7, none⟩) hGr).trans z7
        have hG1 : G < w1.heap.size := by have := hb1.size; omega
        clear hb1 e3 e4 e5 e6 e7 z3 z4 z5 z6 z7 e1 hstep kF'
        go_wp2_with fail
        refine (cntMay_any _ _ _ _ _ _).mono ?_
        rintro e w6 ⟨rfl, hb6⟩
        have hS6 := Lib.hid (hS.out.keep hb6)
        have hr6 : Hid (Bar (SetB s m1 m2 (.slice (some ⟨G, 0, none⟩) n c)) wr w6) := Lib.hid (((Bar.of_below hB1.out).trans hBr.out fun _ _ h => h).trans (Bar.of_below (S := SetB s m1 m2 (.slice (some ⟨G, 0, none⟩) n c)) hb6) fun _ _ h => h)
        have hj6 := hjj.out w6 hr6.out
        have hc6 := (hJF.out w6 hj6).2.2.c2
        have hw6 := Lib.hid (hbar.out.trans hr6.out fun _ _ h => h)
        have hjj6 := Lib.hid hj6
        clear hb6 hj6 x3 x4 x5 x6 x7 y3 y4 y5 y6 y7 hS hBr d0
        cases hcn : cntR q.a q.b q.c q.d
        · have hno := Lib.hid (hq.out.trans hcn)
          clear hcn
          go_wp2_with fail
          go_ret
          exact hbad.out _ w6 hbm hno.out hw6.out
        · have hye := Lib.hid (hq.out.trans hcn)
          clear hcn
          go_wp2_with fail
          go_roundw
          case rel => exact ⟨j + 1, by omega, by go_num, Lib.hid ⟨⟨gs', hS6.out⟩, hw6.out, hjj6.out, take_fit hfit0.out hb hye.out⟩⟩
          case measure => simp [intOf]; omega
      | ty v T =>
        have e1 := hc 1 (.bool false) (by omega) rfl
        have e2 := hc 2 (ptrS (gs'.getD j 0)) (by omega) rfl
        have z2 := hfz (j * 8 + 2)
        have hSh := hA.shp j v T hbj
        have hTo : T.ok = true ∧ T.sz ≤ 256 := by simp only [Bo.ok, Bool.and_eq_true, decide_eq_true_eq] at hbo; exact ⟨hbo.1.2, hbo.2⟩
        have hz := putT_sz (ρ := ρ) hσ T
        have kP := Lib.hid (putG_any F1 bs1 cs1 F2 bs2 cs2 σ ρ wr kF1 kF2 (Lib.hid hF1) (Lib.hid hF2) hρ T (gs'.getD j 0) wr (Lib.hid hSh) (Lib.hid (Below.refl _ _)) hTo.1 (by omega))
        have hq : Hid (fitB (putB σ ρ (.ty v T)) = (putT σ ρ T).fits) := Lib.hid rfl
        have hstep := Lib.hid fun (W : World) (g : Nat) (hb1 : Below wr.heap.size wr W) (hg : Shp W (putT σ ρ T) g) => (show SetAt B (W.setCell ⟨G, j * 8 + 2, none⟩ (ptrS g)) s (.slice (some ⟨G, 0, none⟩) n c) m1 m2 (gs'.set j g) ⟨mapJ (putB σ ρ) st.made (j + 1), st.fresh⟩ from by
          have hl : (mapJ (putB σ ρ) st.made j).length = n := by rw [mapJ_len]; exact hn'.out
          have hA' := hA.keep hb1
          have := SetAt.turnT (st := ⟨mapJ (putB σ ρ) st.made j, st.fresh⟩) (c := c) (G := G) (by show SetAt B W s (.slice _ (mapJ (putB σ ρ) st.made j).length c) m1 m2 gs' _; rw [hl]; exact hA') hbj hg
          simp only [hl] at this
          rw [show (Bo.ty v (putT σ ρ T)) = putB σ ρ (.ty v T) from rfl, mapJ_set _ _ hb] at this
          exact this)
        have hbar := Lib.hid hI.out.bar
        have hjj := Lib.hid fun (W' : World) (hb : Bar (SetB s m1 m2 (.slice (some ⟨G, 0, none⟩) n c)) wr W') => hJb.out wr W' gs' _ hA hI.out.jj hb
        have hfit0 := Lib.hid hI.out.fit
        have hnS := Lib.hid fun (W : World) (g : Nat) (hb1 : Below wr.heap.size wr W) (hg : Shp W (putT σ ρ T) g) => (hA.keep hb1).shape (w' := W.setCell ⟨G, j * 8 + 2, none⟩ (ptrS g)) (Bar.set _ _ (.inr (.inr (.inr rfl)))) hg
        generalize hQ : putT σ ρ T = q at kP hstep hq hnS
        generalize gs'.getD j 0 = g0 at e2 kP
        clear hQ hF1 hF2 hSen hA hbj hbo hc hfz hsl' hI hSh hTo hz
        unfold ptrS fnW at kP
        unfold ptrS at e2
        have kF' := kF1.out
        have kF'' := kF2.out
        go_wp2_with fail
        refine kP.out.mono ?_
        rintro e w1 ⟨g1, rfl, hs1, hb1⟩
        have hS := Lib.hid (hstep.out w1 g1 hb1 hs1)
        have hSh := Lib.hid (hnS.out w1 g1 hb1 hs1)
        have hBr : Hid (Bar (SetB s m1 m2 (.slice (some ⟨G, 0, none⟩) n c)) w1 (w1.setCell ⟨G, j * 8 + 2, none⟩ (ptrS g1))) := Lib.hid (Bar.set _ _ (.inr (.inr (.inr rfl))))
        have hB1 := Lib.hid hb1
        have x2 := carry hb1 hGr e2
        have y2 := (hb1.frozen (p := ⟨G, j * 8 + 2, none⟩) hGr).trans z2
        have hG1 : G < w1.heap.size := by have := hb1.size; omega
        clear hb1 hs1 e2 z2 e1 hstep hnS kF' kF''
        unfold ptrS at *
        go_wp2_with fail
        refine (shFits_any q g1 _ (Lib.hid hSh.out)).mono ?_
        rintro e w6 ⟨rfl, hb6⟩
        have hS6 := Lib.hid (hS.out.keep hb6)
        have hr6 : Hid (Bar (SetB s m1 m2 (.slice (some ⟨G, 0, none⟩) n c)) wr w6) := Lib.hid (((Bar.of_below hB1.out).trans hBr.out fun _ _ h => h).trans (Bar.of_below (S := SetB s m1 m2 (.slice (some ⟨G, 0, none⟩) n c)) hb6) fun _ _ h => h)
        have hj6 := hjj.out w6 hr6.out
        have hc6 := (hJF.out w6 hj6).2.2.c2
        have hw6 := Lib.hid (hbar.out.trans hr6.out fun _ _ h => h)
        have hjj6 := Lib.hid hj6
        clear hb6 hj6 x2 y2 hS hBr d0 hSh
        cases hcn : q.fits
        · have hno := Lib.hid (hq.out.trans hcn)
          clear hcn
          go_wp2_with fail
          go_ret
          exact hbad.out _ w6 hbm hno.out hw6.out
        · have hye := Lib.hid (hq.out.trans hcn)
          clear hcn
          go_wp2_with fail
          go_roundw
          case rel => exact ⟨j + 1, by omega, by go_num, Lib.hid ⟨⟨_, hS6.out⟩, hw6.out, hjj6.out, take_fit hfit0.out hb hye.out⟩⟩
          case measure => simp [intOf]; omega
    · obtain rfl : j = n := by omega
      have hfin' := Lib.hid (hfin.out _ wr hI.out (Nat.le_refl _))
      clear hfin hbad hI hJb hstart
      go_wp2_with fail
      go_ret
      exact hfin'.out
end Go.Proofs.YtfkdcconmecaoaaDoor

/- A set of binds: Visit; the closures of bind and bindTail. -/
namespace Go.Proofs.YtfkdcconmecaoaaDoor
open Go.RowKit Go.Maps
set_option linter.unusedVariables false
set_option linter.unusedSimpArgs false

/-- shapes stay while other blocks are turned. -/
theorem Shp.barS {S : Nat → Prop} {w w' : World} (hS : ∀ k cs, w.heap[k]? = some (.cells cs 116 (0, 0)) → ¬ S k) (hb : Bar S w w') : ∀ {T : TT} {g : Nat}, Shp w T g → Shp w' T g := by
  have hn : ∀ {T : TT} {g : Nat}, Shp w T g → ¬ S g := by
    intro T g h
    obtain ⟨pa, pb, hg⟩ := h.blk
    unfold shB at hg
    exact hS g _ hg
  intro T
  induction T with
  | base k => intro g h; exact ⟨h.1, (hb.block g (Shp.lt (T := .base k) h) (hn (T := .base k) h)).trans h.2⟩
  | var v => intro g h; exact (hb.block g (Shp.lt (T := .var v) h) (hn (T := .var v) h)).trans h
  | fn a r b iha ihb =>
    intro g h
    have hl := Shp.lt (T := .fn a r b) h
    have hg := hn (T := .fn a r b) h
    obtain ⟨ga, gb, h1, h2, h3⟩ := h
    exact ⟨ga, gb, (hb.block g hl hg).trans h1, iha h2, ihb h3⟩
/-- a variable that is captured. -/
def BlB (w : World) (p : Nat) (b : Bool) : Prop := w.heap[p]? = some (.cells #[.bool b] 4)
theorem BlB.cell {w : World} {p : Nat} {b : Bool} (h : BlB w p b) : w.cell? ⟨p, 0, none⟩ = some (.bool b) ∧ w.frozen? ⟨p, 0, none⟩ = false ∧ p < w.heap.size :=
  ⟨(Lib.cell_of_heap (show w.heap[p]? = some (.cells #[.bool b] 4 (0, 0)) from h) 0).trans rfl, Lib.frozen_of_heap (show w.heap[p]? = some (.cells #[.bool b] 4 (0, 0)) from h) 0, (Array.getElem?_eq_some_iff.1 h).1⟩
theorem BlB.set {w : World} {p : Nat} {b : Bool} (h : BlB w p b) (b' : Bool) : BlB (w.setCell ⟨p, 0, none⟩ (.bool b')) p b' := by
  unfold BlB at *
  simp [World.setCell, Array.getElem?_modify, h]
structure VisPost (w : World) (p : Nat) (b : Bool) (e : Ending) (w' : World) : Prop where
  ret : e = .returned (.tuple #[])
  blk : BlB w' p b
  bar : Bar (fun k => k = p) w w'
set_option maxHeartbeats 2000000 in
theorem bind1_any (p p4 : Nat) (v x : Int) (b : Bool) (w : World) (h : Hid (BlB w p b)) (h4 : Hid (BoxAt w p4 (.int .i64 v))) :
    Calls Tryd.prog 99 #[.int .i64 x, .pointer (some ⟨p, 0, none⟩), .pointer (some ⟨p4, 0, none⟩)] w (VisPost w p (b || x == v)) := by
  obtain ⟨c0, f0, hp⟩ := h.out.cell
  obtain ⟨hp4, c4⟩ := h4.out
  have hfin := Lib.hid fun (b' : Bool) (e : b' = (b || x == v)) => (show VisPost w p (b || x == v) (.returned (.tuple #[])) (w.setCell ⟨p, 0, none⟩ (.bool b')) from ⟨rfl, by subst e; exact h.out.set _, Bar.set _ _ rfl⟩)
  cases b
  · cases hx : (x == v)
    · have hf := Lib.hid (hfin.out false (by rw [hx]; rfl))
      rw [hx] at hf
      clear hfin
      go_enter Tryd.func99, Tryd.ntmps99
      go_wp2_with fail
      exact bodyPost_ret (v := .tuple #[]) (by simp [results, Tryd.results99, go_sem]) rfl hf.out
    · have hf := Lib.hid (hfin.out true (by rw [hx]; rfl))
      rw [hx] at hf
      clear hfin
      go_enter Tryd.func99, Tryd.ntmps99
      go_wp2_with fail
      exact bodyPost_ret (v := .tuple #[]) (by simp [results, Tryd.results99, go_sem]) rfl hf.out
  · have hf := Lib.hid (hfin.out true rfl)
    clear hfin
    go_enter Tryd.func99, Tryd.ntmps99
    go_wp2_with fail
    exact bodyPost_ret (v := .tuple #[]) (by simp [results, Tryd.results99, go_sem]) rfl hf.out
theorem bind2_any (x : Int) (w : World) : Calls Tryd.prog 100 #[.int .i64 x] w fun e w' => e = .returned (.tuple #[]) ∧ w' = w := by
  go_enter Tryd.func100, Tryd.ntmps100
  go_wp2_with fail
  exact bodyPost_end (v := .tuple #[]) (by simp [results, Tryd.results100, go_sem]) rfl ⟨rfl, rfl⟩
theorem bind4_any (x : Int) (w : World) : Calls Tryd.prog 102 #[.int .i64 x] w fun e w' => e = .returned (.tuple #[rwV ⟨0, 0, 0, 0, 0⟩, .bool false]) ∧ Below w.heap.size w w' := by
  go_enter Tryd.func102, Tryd.ntmps102
  go_wp2_with fail
  exact bodyPost_ret (v := .tuple #[.agg #[.int .i64 0, .int .i64 0, .int .i64 0, .int .i64 0, .int .i64 0], .bool false]) (by simp [results, Tryd.results102, go_sem, *]) rfl ⟨rfl, by (repeat' (first | with_reducible exact Below.refl _ _ | with_reducible assumption | with_reducible apply Below.setCell | with_reducible apply Below.alloc | with_reducible apply Below.drew | with_reducible apply below_drewN | with_reducible exact Nat.le_refl _ | (simp; done) | (simp; omega) | omega | exact Nat.le_refl _))⟩
theorem tail1_any (x : Int) (w : World) : Calls Tryd.prog 117 #[.int .i64 x] w fun e w' => e = .returned (.tuple #[.pointer none, .bool false]) ∧ Below w.heap.size w w' := by
  go_enter Tryd.func117, Tryd.ntmps117
  go_wp2_with fail
  go_ret2
  exact ⟨rfl, Below.refl _ _⟩
set_option maxHeartbeats 2000000 in
theorem bind3_any (p5 p4 g : Nat) (v x : Int) (w : World) (h5 : Hid (BoxAt w p5 (ptrS g))) (h4 : Hid (BoxAt w p4 (.int .i64 v))) :
    Calls Tryd.prog 101 #[.int .i64 x, .pointer (some ⟨p5, 0, none⟩), .pointer (some ⟨p4, 0, none⟩)] w fun e w' => e = .returned (.tuple #[ptrS g, .bool (x == v)]) ∧ Below w.heap.size w w' := by
  obtain ⟨hp5, c5⟩ := h5.out
  obtain ⟨hp4, c4⟩ := h4.out
  unfold ptrS at *
  go_enter Tryd.func101, Tryd.ntmps101
  go_wp2_with fail
  go_quiet (fail)
  go_wp2_with fail
  go_ret2
  exact ⟨rfl, below_drewN (Below.refl _ _) _⟩
set_option maxHeartbeats 2000000 in
theorem tail2_any (p5 p4 : Nat) (v x : Int) (r : Rw) (w : World) (h5 : Hid (RowAt w p5 r)) (h4 : Hid (BoxAt w p4 (.int .i64 v))) :
    Calls Tryd.prog 118 #[.int .i64 x, .pointer (some ⟨p5, 0, none⟩), .pointer (some ⟨p4, 0, none⟩)] w fun e w' => e = .returned (.tuple #[rwV r, .bool (x == v)]) ∧ Below w.heap.size w w' := by
  obtain ⟨hp5, c0, c1, c2, c3, c4⟩ := h5.out
  obtain ⟨hp4, d0⟩ := h4.out
  unfold rwV
  go_enter Tryd.func118, Tryd.ntmps118
  go_wp2_with fail
  go_region
  all_goals
    go_wp2_with fail
    exact bodyPost_ret (v := .tuple #[.agg #[.int .i64 r.a, .int .i64 r.b, .int .i64 r.c, .int .i64 r.d, .int .i64 r.t], .bool (x == v)]) (by simp [results, Tryd.results118, go_sem, *]) rfl ⟨rfl, by (repeat' (first | with_reducible exact Below.refl _ _ | with_reducible assumption | with_reducible apply Below.setCell | with_reducible apply Below.alloc | with_reducible apply Below.drew | with_reducible apply below_drewN | with_reducible exact Nat.le_refl _ | (simp; done) | (simp; omega) | omega | exact Nat.le_refl _))⟩
abbrev fnB (p p4 : Nat) : Value := .func (.func 99) #[] #[.pointer (some ⟨p, 0, none⟩), .pointer (some ⟨p4, 0, none⟩)]
abbrev fnN : Value := .func (.func 100) #[] #[]
set_option maxRecDepth 100000 in
set_option maxHeartbeats 4000000 in
theorem shVisit_any (p p4 : Nat) (v : Int) (hpp : p4 ≠ p) : ∀ (T : TT) (g : Nat) (w : World) (b : Bool), Hid (Shp w T g) → Hid (BlB w p b) → Hid (BoxAt w p4 (.int .i64 v)) →
    Calls Tryd.prog 98 #[ptrS g, fnB p p4, fnN] w (VisPost w p (b || hasVb T v)) := by
  have kF : Hid (∀ (xs : Array Value) (W : World), (callFunc 99 xs).run Tryd.prog W = .ok (.enter 99 xs) W) := Lib.hid fun _ _ => by kernel_rfl
  have kG : Hid (∀ (xs : Array Value) (W : World), (callFunc 100 xs).run Tryd.prog W = .ok (.enter 100 xs) W) := Lib.hid fun _ _ => by kernel_rfl
  intro T
  induction T with
  | base k =>
    intro g w b hS h h4
    have c0 := (shC_of hS.out.2).c0
    have hgl := hS.out.lt
    have hk := hS.out.1
    have hfin : Hid (VisPost w p (b || hasVb (.base k) v) (.returned (.tuple #[])) w) := Lib.hid ⟨rfl, by simpa [hasVb] using h.out, Bar.refl _ _⟩
    generalize hasVb (.base k) v = q at hfin
    clear hS
    unfold ptrS fnB fnN at *
    rcases hk with rfl | rfl
    all_goals
      go_enter Tryd.func98, Tryd.ntmps98
      go_wp2_with fail
      exact bodyPost_ret (v := .tuple #[]) (by simp [results, Tryd.results98, go_sem]) rfl hfin.out
  | var u =>
    intro g w b hS h h4
    have c0 := (shC_of (show w.heap[g]? = _ from hS.out)).c0
    have c1 := (shC_of (show w.heap[g]? = _ from hS.out)).c1
    have hgl := hS.out.lt
    have kc := Lib.hid (bind1_any p p4 v u b w h h4)
    have hq : Hid (hasVb (.var u) v = (u == v)) := Lib.hid (by show (v == u) = (u == v); rw [Bool.eq_iff_iff]; simp only [beq_iff_eq]; exact eq_comm)
    generalize hasVb (.var u) v = q at hq
    have hq' := hq.out
    subst hq'
    clear hS hq
    unfold ptrS fnB fnN at *
    go_enter Tryd.func98, Tryd.ntmps98
    have kF' := kF.out
    go_wp2_with fail
    refine kc.out.mono ?_
    rintro e w1 ⟨rfl, hB, hbar⟩
    have hfin : Hid (VisPost w p (b || u == v) (.returned (.tuple #[])) w1) := Lib.hid ⟨rfl, hB, hbar⟩
    clear hB hbar
    go_wp2_with fail
    exact bodyPost_ret (v := .tuple #[]) (by simp [results, Tryd.results98, go_sem]) rfl hfin.out
  | fn a r b' iha ihb =>
    intro g w b hS h h4
    obtain ⟨ga, gb, hB, hA, hBb⟩ := hS.out
    have hC := shC_of hB
    have hgl := hS.out.lt
    have c0 := hC.c0; have c2 := hC.c2; have c3 := hC.c3; have c8 := hC.c8
    have hns : ∀ k cs, w.heap[k]? = some (.cells cs 116 (0, 0)) → ¬ (fun k => k = p) k := by
      rintro k cs hk rfl
      have hh := (show w.heap[k]? = some (.cells #[.bool b] 4 (0, 0)) from h.out)
      rw [hh] at hk; injection hk with hk; injection hk with _ hk _; exact absurd hk (by decide)
    have hgp : g ≠ p := fun e => hns g _ (by unfold shB at hB; exact hB) e
    have kA := Lib.hid (iha ga w b (Lib.hid hA) h h4)
    have kB := Lib.hid fun (W : World) (b1 : Bool) (hb : BlB W p b1) (hbar : Bar (fun k => k = p) w W) => ihb gb W b1 (Lib.hid (hBb.barS hns hbar)) (Lib.hid hb) (Lib.hid (h4.out.bar hbar hpp))
    have hq : Hid (hasVb (.fn a r b') v = (hasVb a v || hasVb b' v)) := Lib.hid rfl
    generalize hasVb (.fn a r b') v = q at hq
    have hq' := hq.out
    subst hq'
    generalize hasVb a v = qa at kA
    generalize hasVb b' v = qb at kB
    clear hS hq hB hC hA hBb iha ihb hns
    unfold ptrS fnB fnN at *
    go_enter Tryd.func98, Tryd.ntmps98
    have kG' := kG.out
    go_wp2_with fail
    refine kA.out.mono ?_
    rintro e w1 ⟨rfl, hB1, hbar1⟩
    have d3 := hbar1.cell c3 hgp
    have d8 := hbar1.cell c8 hgp
    have hgl1 : g < w1.heap.size := by have := hbar1.size; omega
    have hB1' := Lib.hid hB1
    have hbar1' := Lib.hid hbar1
    have kB1 := Lib.hid (kB.out w1 _ hB1 hbar1)
    clear hB1 hbar1 c0 c2 c3 c8 kB
    by_cases ht : 0 ≤ r.t
    · go_wp2_with fail
      refine (bind2_any _ _).mono ?_
      rintro e w2 ⟨rfl, rfl⟩
      go_wp2_with fail
      refine kB1.out.mono ?_
      rintro e w3 ⟨rfl, hB3, hbar3⟩
      have hfin : Hid (VisPost w p (b || (qa || qb)) (.returned (.tuple #[])) w3) := Lib.hid ⟨rfl, by rw [← Bool.or_assoc]; exact hB3, hbar1'.out.trans hbar3 fun _ _ h => h⟩
      clear hB3 hbar3
      go_wp2_with fail
      exact bodyPost_ret (v := .tuple #[]) (by simp [results, Tryd.results98, go_sem]) rfl hfin.out
    · go_wp2_with fail
      refine kB1.out.mono ?_
      rintro e w3 ⟨rfl, hB3, hbar3⟩
      have hfin : Hid (VisPost w p (b || (qa || qb)) (.returned (.tuple #[])) w3) := Lib.hid ⟨rfl, by rw [← Bool.or_assoc]; exact hB3, hbar1'.out.trans hbar3 fun _ _ h => h⟩
      clear hB3 hbar3
      go_wp2_with fail
      exact bodyPost_ret (v := .tuple #[]) (by simp [results, Tryd.results98, go_sem]) rfl hfin.out
end Go.Proofs.YtfkdcconmecaoaaDoor

/- A set of binds: bind and bindTail. -/
namespace Go.Proofs.YtfkdcconmecaoaaDoor
open Go.RowKit Go.Maps
set_option linter.unusedVariables false
set_option linter.unusedSimpArgs false

theorem Bar.wide {S S' : Nat → Prop} {w w' : World} (h : Bar S w w') (hs : ∀ k, S k → S' k) : Bar S' w w' := ⟨h.os, h.tape, h.output, h.size, fun k hk hn => h.block k hk (fun hc => hn (hs k hc))⟩
/-- an error that stands in a variable, or one that tells in which part it is. -/
def errN (a0 a1 a2 : Addr) (k : Nat) : Value := errV (if k = 1 then a1 else if k = 2 then a0 else a2)
def ErrD (a0 a1 a2 : Addr) (w : World) (k : Nat) : Nat → Value → Prop
  | 0, v => v = errN a0 a1 a2 k
  | d + 1, v => ∃ g x u, v = .iface 177 (.pointer (some ⟨g, 0, none⟩)) ∧ w.heap[g]? = some (.cells #[.string x, u] 179 (0, 0)) ∧ ErrD a0 a1 a2 w k d u
theorem ErrD.below {a0 a1 a2 : Addr} {w w' : World} {k : Nat} (hb : Below w.heap.size w w') : ∀ {d : Nat} {v : Value}, ErrD a0 a1 a2 w k d v → ErrD a0 a1 a2 w' k d v
  | 0, v, h => h
  | d + 1, v, ⟨g, x, u, h1, h2, h3⟩ => ⟨g, x, u, h1, (hb.block g (Array.getElem?_eq_some_iff.1 h2).1).trans h2, h3.below hb⟩
theorem ErrD.iface {a0 a1 a2 : Addr} {w : World} {k d : Nat} {v : Value} (h : ErrD a0 a1 a2 w k d v) : ∃ t u, v = .iface t u := by
  cases d with
  | zero => exact ⟨_, _, h⟩
  | succ d => obtain ⟨g, x, u, h1, _⟩ := h; exact ⟨_, _, h1⟩
def SetPost (a0 a1 a2 : Addr) (B : Nat) (w : World) (s m1 m2 : Nat) (mv : Value) (r : Except Nat US) (e : Ending) (w' : World) : Prop :=
  (match r with
    | .error k => ∃ v d, e = .returned v ∧ ErrD a0 a1 a2 w' k d v
    | .ok st' => e = .returned .nilIface ∧ ∃ mv' gs', SetAt B w' s mv' m1 m2 gs' st' ∧ ∀ k, k < w.heap.size → mv'.ownBlock = some k → mv.ownBlock = some k) ∧ Bar (SetB s m1 m2 mv) w w'
theorem infoBo : (Tryd.prog.info? 150).map (fun i => (i.zero, i.size, i.bytes)) = some (some (.agg #[.int .i64 0, .bool false, .pointer none, .int .i64 0, .int .i64 0, .int .i64 0, .int .i64 0, .int .i64 0]), 8, 64) := by kernel_rfl
theorem step_bo {ops : Array Oper} {o : Oper} {a : Act} {K : Act → World → Prop} {Q : Exit → Act → World → Prop} {E : Prop} (hgd : o.guard = none) (s x : Operand) (W : World) (B : Nat) (hB : B ≤ W.heap.size) (ov : Value) (gs : List Nat) (l : List Bo) (hgl : gs.length = l.length) (g : Nat) (y : Bo) (arr : Array Value)
    (ho : o.op = .call { callee := .builtin .append, args := #[s, x], argTypes := #[144, 144] })
    (hs : a.eval s = ov) (g0 : Nat) (hg0 : g0 = W.heap.size) (hx : a.eval x = .slice (some ⟨g0, 0, none⟩) 1 1) (harr : arr.toList = bdL1 g y) (hown : W.ownsRow B 150 8 ov l.length (bdL gs l)) (hlen : l.length ≤ 1000000)
    (h : ∀ G c w', w'.ownsRow B 150 8 (.slice (some ⟨G, 0, none⟩) (l.length + 1) c) (l.length + 1) (bdL (gs ++ [g]) (l ++ [y])) → Bar (fun k => ov.ownBlock = some k) W w' → (∀ k, k < W.heap.size → (Value.slice (some ⟨G, 0, none⟩) (l.length + 1) c).ownBlock = some k → ov.ownBlock = some k) → K (a.put o.dst (.slice (some ⟨G, 0, none⟩) (l.length + 1) c)) w') :
    if Region.wanted o (yielded ops a.tmps) = true then Oper.wp Tryd.prog o a (W.alloc (.cells arr 150)) K Q else E := by
  subst hg0
  have hw : Region.wanted o (yielded ops a.tmps) = true := by simp [Region.wanted, hgd]
  rw [if_pos hw]
  obtain ⟨i0, hi, hz0, hz1, hz2⟩ := info_parts infoBo
  obtain ⟨v', w', hrun, r1, hgr, _, hmv⟩ := run_append_moved (P := Tryd.prog) (W.alloc (.cells arr 150)) B 144 o.type 150 i0 _ 8 64 Tryd.underlying144 hi hz0 hz1 hz2 rfl (by decide) ov l.length (bdL gs l) (World.ownsRow.alloc hown _) ⟨W.heap.size, 0, none⟩ 1 1 (bdL1 g y) (by rw [bdL1_len]) (by
    intro j u hj
    have e : (⟨W.heap.size, 0, none⟩ : Addr).add j = ⟨W.heap.size, j, none⟩ := by simp [Addr.add]; try omega
    rw [e, World.cell?_alloc_at _ _ _ _ rfl, ← hj, ← harr, Array.getElem?_toList]) (by
    have := bdL_one [g] [y]; simp only [bdL, List.append_nil] at this; exact this) (by unfold maxLen; omega) (by omega) (by simp; omega)
  unfold Oper.wp
  simp [execOp, ho, resolve, invoke, builtin, hs, hx, hrun, Result.andThen]
  rw [← bdL_app gs l g y hgl] at r1
  rcases r1.2 with ⟨_, h0⟩ | ⟨G, c, cur, rfl, _⟩
  · omega
  · refine h G c w' r1 ((Bar.of_below (S := fun k => ov.ownBlock = some k) (below_alc W _)).trans (Bar.of_grown hgr) fun _ _ hs => hs) fun k hk hv => ?_
    rcases hmv with h1 | ⟨k', h1, h2⟩
    · exact h1 ▸ hv
    · have e := Option.some.inj (hv.symm.trans h1)
      have h3 : (W.alloc (.cells arr 150)).heap.size = W.heap.size + 1 := by simp
      rw [h3] at h2
      exact absurd hk (by omega)
/-- a map turned. -/
theorem fs_put {w : World} {bm n : Nat} {f f' : Int → Option Nat} (h : FsLe w bm n f) (v : Int) (hv : 0 ≤ v ∧ v < 4096) (k : Nat) (hk : k ≤ 100000) (hn : n ≤ 100000) (hx : f' v = some k) (ho : ∀ u, u ≠ v → f' u = f u) :
    ∃ w', (Instr.mapUpdate 119 (.map (some bm)) (.int .i64 v) (.int .i64 (k : Nat))).run Tryd.prog w = .ok () w' ∧ FsLe w' bm (n + 1) f' ∧ Bar (fun j => j = bm) w w' := by
  obtain ⟨n', hn', D, h1, h2⟩ := h
  obtain ⟨w', hr, h4, h5⟩ := h1.update (val := .int .i64 (k : Nat)) lawI Tryd.underlying119 (by unfold maxLen; omega) (keyOf_int_mk Tryd.underlying3 (wf_var hv)) (d := .lit (.int .i64 k)) (ps := []) (plainElem_int Tryd.underlying3 (by simp [Lit.wf, IntKind.min, IntKind.max, IntKind.signed, IntKind.bits]; omega))
  exact ⟨w', hr, ⟨n' + 1, by omega, _, h4, mapIs_put h2 hx ho⟩, (Bar.of_grown h5).wide fun k hk => (Option.some.inj hk).symm⟩
theorem SetAt.grow {B : Nat} {w w5 w6 : World} {s m1 m2 : Nat} {mv mv' : Value} {gs : List Nat} {m : List Bo} {f : Int} (h : SetAt B w s mv m1 m2 gs ⟨m, f⟩) (b : Bo) (g : Nat)
    (hb5 : Bar (fun k => k = m1 ∨ k = m2) w w5) (hm1 : FsLe w5 m1 (m.length + 1) (tyI (m ++ [b]) 0)) (hm2 : FsLe w5 m2 (m.length + 1) (rwI (m ++ [b]) 0))
    (hb6 : Bar (fun k => mv.ownBlock = some k) w5 w6) (hown : w6.ownsRow B 150 8 mv' (m.length + 1) (bdL (gs ++ [g]) (m ++ [b])))
    (hmv : ∀ k, k < w5.heap.size → mv'.ownBlock = some k → mv.ownBlock = some k) (hsh : ∀ v T, b = .ty v T → Shp w T g) :
    SetAt B (w6.setCell ⟨s, 0, none⟩ mv') s mv' m1 m2 (gs ++ [g]) ⟨m ++ [b], f⟩ ∧ Bar (SetB s m1 m2 mv) w (w6.setCell ⟨s, 0, none⟩ mv') ∧ ∀ k, k < w.heap.size → mv'.ownBlock = some k → mv.ownBlock = some k := by
  have hsB : w6.heap[s]? = some (sObj mv m1 m2 f) := by
    have h1 : s ≠ m1 := by rintro rfl; obtain ⟨es, c, hm⟩ := h.mp1.blk; have := h.blk; rw [hm] at this; cases this
    have h2 : s ≠ m2 := by rintro rfl; obtain ⟨es, c, hm⟩ := h.mp2.blk; have := h.blk; rw [hm] at this; cases this
    have h3 : w5.heap[s]? = some (sObj mv m1 m2 f) := (hb5.block s h.s_lt (by rintro (rfl | rfl) <;> contradiction)).trans h.blk
    refine (hb6.block s (Array.getElem?_eq_some_iff.1 h3).1 ?_).trans h3
    intro e
    rcases h.own.2 with ⟨rfl, _⟩ | ⟨g', cap, cur, rfl, _, hg, _⟩
    · cases e
    · injection e with e; subst e; have := h.blk; rw [hg] at this; unfold sObj at this; injection this with this; injection this with _ this _; exact absurd this (by decide)
  have hn1 : ¬ (mv.ownBlock = some m1) := by
    intro e
    obtain ⟨es, c, hm⟩ := h.mp1.blk
    rcases h.own.2 with ⟨rfl, _⟩ | ⟨g', cap, cur, rfl, _, hg, _⟩
    · cases e
    · injection e with e; subst e; rw [hg] at hm; cases hm
  have hn2 : ¬ (mv.ownBlock = some m2) := by
    intro e
    obtain ⟨es, c, hm⟩ := h.mp2.blk
    rcases h.own.2 with ⟨rfl, _⟩ | ⟨g', cap, cur, rfl, _, hg, _⟩
    · cases e
    · injection e with e; subst e; rw [hg] at hm; cases hm
  have hm16 := hm1.bar hb6 hn1
  have hm26 := hm2.bar hb6 hn2
  have hne : ∀ k, k ≠ s → (w6.setCell ⟨s, 0, none⟩ mv').heap[k]? = w6.heap[k]? := fun k hk => Deep.blk_setCell_other _ _ _ _ hk
  have ms1 : m1 ≠ s := by rintro rfl; obtain ⟨es, c, hm⟩ := hm16.blk; rw [hsB] at hm; unfold sObj at hm; cases hm
  have ms2 : m2 ≠ s := by rintro rfl; obtain ⟨es, c, hm⟩ := hm26.blk; rw [hsB] at hm; unfold sObj at hm; cases hm
  have hbar : Bar (SetB s m1 m2 mv) w (w6.setCell ⟨s, 0, none⟩ mv') :=
    ((hb5.wide fun k hk => (by rcases hk with rfl | rfl; exact .inr (.inl rfl); exact .inr (.inr (.inl rfl)) : SetB s m1 m2 mv k)).trans (hb6.wide fun k hk => (.inr (.inr (.inr hk)) : SetB s m1 m2 mv k)) fun _ _ h => h).set' 0 mv' (.inl rfl)
  have hso : (w6.setCell ⟨s, 0, none⟩ mv').heap[s]? = some (sObj mv' m1 m2 f) := by
    unfold sObj at hsB ⊢
    simp [World.setCell, Array.getElem?_modify, hsB]
  refine ⟨⟨hso, ?_, by simp [h.len], ?_, ?_, ?_, h.ne, h.bs, h.b1, h.b2⟩, hbar, fun k hk => hmv k (by have := hb5.size; omega)⟩
  · have : mv'.ownBlock ≠ some s := by
      intro e
      rcases hown.2 with ⟨rfl, h0⟩ | ⟨g', cap, cur, rfl, _, hg, _⟩
      · cases e
      · injection e with e; subst e; rw [hsB] at hg; unfold sObj at hg; injection hg with hg; injection hg with _ hg _; exact absurd hg (by decide)
    have hlen : (m ++ [b]).length = m.length + 1 := by simp
    show World.ownsRow _ B _ 8 mv' (m ++ [b]).length _
    rw [hlen]
    refine ⟨hown.1, ?_⟩
    rcases hown.2 with h0 | ⟨g', cap, cur, rfl, x1, x2, x3⟩
    · exact .inl h0
    · exact .inr ⟨g', cap, cur, rfl, x1, (hne g' (fun e => this (by rw [← e]; rfl))).trans x2, x3⟩
  · intro i v T hi
    by_cases hil : i < m.length
    · have hi' : m[i]? = some (.ty v T) := by
        have : (m ++ [b])[i]? = m[i]? := List.getElem?_append_left hil
        rw [← this]; exact hi
      have : (gs ++ [g]).getD i 0 = gs.getD i 0 := by rw [List.getD_eq_getElem?_getD, List.getElem?_append_left (by have := h.len; simp only at this; omega), List.getD_eq_getElem?_getD]
      rw [this]
      exact h.shape hbar (h.shp i v T hi')
    · have hil2 : i = m.length := by
        have := (List.getElem?_eq_some_iff.1 hi).1; simp only [List.length_append, List.length_cons, List.length_nil] at this; omega
      subst hil2
      have hb : b = .ty v T := by
        have : (m ++ [b])[m.length]? = some b := by simp
        rw [this] at hi; injection hi
      have hg : (gs ++ [g]).getD m.length 0 = g := by
        have := h.len; simp only at this
        rw [List.getD_eq_getElem?_getD, ← this]; simp
      rw [hg]
      exact h.shape hbar (hsh v T hb)
  · obtain ⟨k, hk, D, ⟨es, c, x1, x2⟩, x3⟩ := hm16
    exact ⟨k, by simpa using hk, D, ⟨es, c, (hne m1 ms1).trans x1, x2⟩, x3⟩
  · obtain ⟨k, hk, D, ⟨es, c, x1, x2⟩, x3⟩ := hm26
    exact ⟨k, by simpa using hk, D, ⟨es, c, (hne m2 ms2).trans x1, x2⟩, x3⟩
theorem args_two (a b c : Value) : (#[] ++ #[a] ++ #[b, c] : Array Value) = #[a, b, c] := by simp
theorem args_one (a : Value) : (#[] ++ #[a] ++ #[] : Array Value) = #[a] := by simp
theorem bind3_fn {p5 p4 g : Nat} {v : Int} {T : TT} {w : World} (h5 : BoxAt w p5 (ptrS g)) (h4 : BoxAt w p4 (.int .i64 v)) (hS : Shp w T g) : FnTg 101 #[] #[.pointer (some ⟨p5, 0, none⟩), .pointer (some ⟨p4, 0, none⟩)] (sg1 v T) w := fun x W hr hW => by
  rw [args_two]
  refine (bind3_any p5 p4 g v x W (Lib.hid (h5.below hW)) (Lib.hid (h4.below hW))).mono ?_
  rintro e w' ⟨rfl, hb⟩
  refine ⟨?_, hb⟩
  unfold sg1
  by_cases hx : x = v
  · rw [if_pos hx]; exact ⟨g, by simp [hx], (hS.keep hW).keep hb⟩
  · rw [if_neg hx]; exact ⟨_, by simp [hx]; rfl⟩
theorem bind4_fn (w : World) : FnRg 102 #[] #[] rh0 w := fun x W hr hW => by
  rw [args_one]
  refine (bind4_any x W).mono ?_
  rintro e w' ⟨rfl, hb⟩
  exact ⟨⟨_, rfl⟩, hb⟩
theorem tail1_fn (w : World) : FnTg 117 #[] #[] sg0 w := fun x W hr hW => by
  rw [args_one]
  refine (tail1_any x W).mono ?_
  rintro e w' ⟨rfl, hb⟩
  exact ⟨⟨_, rfl⟩, hb⟩
theorem tail2_fn {p5 p4 : Nat} {v : Int} {r : Rw} {w : World} (h5 : RowAt w p5 r) (h4 : BoxAt w p4 (.int .i64 v)) : FnRg 118 #[] #[.pointer (some ⟨p5, 0, none⟩), .pointer (some ⟨p4, 0, none⟩)] (rh1 v r) w := fun x W hr hW => by
  rw [args_two]
  refine (tail2_any p5 p4 v x r W (Lib.hid (h5.below hW)) (Lib.hid (h4.below hW))).mono ?_
  rintro e w' ⟨rfl, hb⟩
  refine ⟨?_, hb⟩
  unfold rh1
  by_cases hx : x = v
  · rw [if_pos hx]; simp [hx]
  · rw [if_neg hx]; exact ⟨r, by simp [hx]⟩
end Go.Proofs.YtfkdcconmecaoaaDoor
