/- What comes of a prim. Plain. -/
import Derived.Test.YthpcbgljbpmafaaGreatDoorU9
import Derived.Test.YthpcbgljbpmafaaGreatDoorU14
import Derived.Test.YthpcbgljbpmafaaGreatDoorChecked
import Derived.Laws.Strings
import Derived.Maps.OwnSet
import Derived.StringKeys
import Derived.Laws.OwnMore
import Derived.Laws.AppendOwn
import Derived.Laws.AppendOwnNone
set_option maxRecDepth 100000
set_option maxHeartbeats 8000000
namespace Go.Proofs.YthpcbgljbpmafaaGreatDoor
set_option linter.unusedVariables false
set_option linter.unusedSimpArgs false
def numO (n : Int) : Int × Int := if n < -1073741824 ∨ 1073741823 < n then (3, 0) else (0, n)
def truO (b : Bool) : Int × Int := if b then (1, 1) else (1, 0)
def prmV (p u v : Int) : Int × Int :=
 if p = 0 then numO (u + v) else if p = 1 then numO (u - v) else if p = 2 then numO (u * v)
 else if p = 3 then (if v = 0 then (3, 1) else numO (u.tdiv v)) else if p = 4 then truO (decide (u = v)) else truO (decide (u < v))
theorem ba_of {s u : ByteArray} (h : s.data.toList = u.data.toList) : s = u := by
 obtain ⟨x⟩ := s; obtain ⟨y⟩ := u
 exact congrArg ByteArray.mk (Array.ext' h)
def eqS (s u : ByteArray) : Bool := s.toList == u.toList
theorem eqS_iff {s u : ByteArray} : eqS s u = true ↔ s = u := by
 unfold eqS
 rw [beq_iff_eq, ByteArray.toList_eq, ByteArray.toList_eq]
 exact ⟨ba_of, fun e => by rw [e]⟩
def inS (l : List ByteArray) (s : ByteArray) : Bool := l.any fun u => eqS u s
theorem inS_iff {l : List ByteArray} {s : ByteArray} : inS l s = true ↔ s ∈ l := by
 unfold inS
 rw [List.any_eq_true]
 exact ⟨fun ⟨u, h1, h2⟩ => by rw [← eqS_iff.1 h2]; exact h1, fun h => ⟨s, h, eqS_iff.2 rfl⟩⟩
theorem inS_no {l : List ByteArray} {s : ByteArray} : inS l s = false ↔ s ∉ l := by
 rw [← inS_iff]; cases inS l s <;> simp
open Go.RowKit Go.Maps Go.WideMaps
theorem lawS : Keyed Tryz.prog 9 := string_keyed Tryz.underlying9
def heldR (v : Value) : Option (DataW Value × List MemPlace) := some (.held v, [])
theorem wfS {s : ByteArray} (h : s.size ≤ 1125899906842624) : keyOf Tryz.prog 9 (.string s) = some (.string s.data.toList) :=
 keyOf_string_mk Tryz.underlying9 (by unfold maxLen; omega)
def OpMap (w : World) (bm : Nat) (l : List ByteArray) : Prop :=
 ∃ D : DataW Value, w.ownsMap Tryz.prog 9 heldR bm l.length D ∧ Maps.size D ≤ l.length ∧ (Maps.size D = l.length ↔ l.Nodup) ∧
  ∀ s : ByteArray, Maps.has D (.string s.data.toList) = inS l s ∧ (s ∈ l → ∃ i : Nat, l[i]? = some s ∧ ∀ z, D.atKey (.string s.data.toList) z = .held (.int .i64 i))
theorem OpMap.lt {w : World} {bm : Nat} {l : List ByteArray} (h : OpMap w bm l) : bm < w.heap.size := by obtain ⟨D, h1, _⟩ := h; exact h1.lt
theorem OpMap.bar {S : Nat → Prop} {w w' : World} {bm : Nat} {l : List ByteArray} (h : OpMap w bm l) (hb : Bar S w w') (hn : ¬ S bm) : OpMap w' bm l := by
 have hl := h.lt
 obtain ⟨D, ⟨es, clock, h1, h3⟩, h2⟩ := h
 exact ⟨D, ⟨es, clock, (hb.block bm hl hn).trans h1, h3⟩, h2⟩
theorem OpMap.below {w w' : World} {bm : Nat} {l : List ByteArray} (h : OpMap w bm l) (hb : Below w.heap.size w w') : OpMap w' bm l := h.bar (Bar.of_below (S := fun _ => False) hb) id
theorem opMap_made (w : World) : OpMap (w.alloc (.map #[] 0)) w.heap.size [] :=
 ⟨.map [], World.ownsMap_made w _ _ _, Nat.le_refl _, by simp [Maps.size], fun s => ⟨rfl, fun h => by cases h⟩⟩
theorem op_put {w : World} {bm : Nat} {l : List ByteArray} (h : OpMap w bm l) (s : ByteArray) (hs : s.size ≤ 1125899906842624) (hn : l.length ≤ 1000000) :
  ∃ w', (Instr.mapUpdate 66 (.map (some bm)) (.string s) (.int .i64 (l.length : Nat))).run Tryz.prog w = .ok () w' ∧ OpMap w' bm (l ++ [s]) ∧ Bar (fun k => k = bm) w w' := by
 obtain ⟨D, h1, h2, h2', h3⟩ := h
 have hT := h1.tidy lawS
 obtain ⟨w', hr, h4, h5⟩ := h1.update (val := .int .i64 (l.length : Nat)) lawS Tryz.underlying66 (by unfold maxLen; omega) (wfS hs) (d := .held (.int .i64 (l.length : Nat))) (ps := []) rfl
 have hb : Bar (fun k => k = bm) w w' := ⟨h5.os, h5.tape, h5.output, h5.size, fun k hk hn => h5.block k hk (fun e => hn (Option.some.inj e))⟩
 have hhas := (h3 s).1
 refine ⟨w', hr, ⟨_, by rw [List.length_append]; exact h4, ?_, ?_, fun u => ?_⟩, hb⟩
 ·rw [Maps.size_put hT, List.length_append]; simp only [List.length_cons, List.length_nil]; split <;> omega
 ·rw [Maps.size_put hT, hhas, List.length_append, List.nodup_append]
  rcases Classical.em (s ∈ l) with hm | hm
  ·rw [inS_iff.2 hm]
   simp only [if_true, List.length_cons, List.length_nil]
   constructor
   ·intro e; omega
   ·intro e; exact absurd rfl (e.2.2 s hm s (List.mem_singleton.2 rfl))
  ·rw [inS_no.2 hm]
   simp only [Bool.false_eq_true, if_false, List.length_cons, List.length_nil]
   constructor
   ·intro e
    refine ⟨h2'.1 (by omega), (by simp), fun a ha b hb => ?_⟩
    rw [List.mem_singleton.1 hb]; exact fun e => hm (e ▸ ha)
   ·intro e; rw [h2'.2 e.1]
 ·rcases Classical.em (u = s) with hu | hu
  ·subst hu
   refine ⟨(has_put_same hT.isMap (by trivial) _).trans (inS_iff.2 (by simp)).symm, fun _ => ⟨l.length, by simp, fun z => ?_⟩⟩
   rw [atKey_put_same hT.isMap (by trivial)]
  ·have hne : (Lit.string u.data.toList) ≠ (Lit.string s.data.toList) := fun e => hu (ba_of (by injection e))
   obtain ⟨h6, h7⟩ := h3 u
   refine ⟨(has_put_other hne _).trans (h6.trans ?_), fun hx => ?_⟩
   ·rw [Bool.eq_iff_iff, inS_iff, inS_iff]; simp [hu]
   ·have hx : u ∈ l := by simpa [hu] using hx
    obtain ⟨i, hi, hat⟩ := h7 hx
    refine ⟨i, ?_, fun z => ?_⟩
    ·rw [List.getElem?_append_left (List.getElem?_eq_some_iff.1 hi).1]; exact hi
    ·rw [atKey_put_other hne]; exact hat z
open Go.RowKit
theorem infoSt : (Tryz.prog.info? 9).map (fun i => (i.zero, i.size, i.bytes)) = some (some (.string ByteArray.empty), 1, 16) := by kernel_rfl
def stL (l : List ByteArray) : List Value := l.map Value.string
theorem stL_len (l : List ByteArray) : (stL l).length = l.length * 1 := by simp [stL]
theorem stL_app (l m : List ByteArray) : stL (l ++ m) = stL l ++ stL m := by simp [stL]
theorem stL_one (l : List ByteArray) : ∀ u ∈ stL l, u.oneCell' = true := by
 intro u hu
 obtain ⟨s, _, rfl⟩ := List.mem_map.1 hu
 rfl
def StSl (w : World) (b off : Nat) (l : List ByteArray) : Prop := ∀ i, i < l.length → w.cell? ⟨b, off + i, none⟩ = some (.string (l.getD i ⟨#[]⟩))
def StArg (w : World) (a : Option Addr) (n : Nat) (l : List ByteArray) : Prop := n = l.length ∧ (l = [] ∨ ∃ b off, a = some ⟨b, off, none⟩ ∧ StSl w b off l ∧ b < w.heap.size)
theorem StArg.below {w w' : World} {a : Option Addr} {n : Nat} {l : List ByteArray} (h : StArg w a n l) (hb : Below w.heap.size w w') : StArg w' a n l := by
 obtain ⟨h1, h2 | ⟨b, off, h2, h3, h4⟩⟩ := h
 ·exact ⟨h1, .inl h2⟩
 ·exact ⟨h1, .inr ⟨b, off, h2, fun i hi => by rw [hb.cell (p := ⟨b, off + i, none⟩) h4]; exact h3 i hi, by have := hb.size; omega⟩⟩
theorem stL_get (l : List ByteArray) (j : Nat) : (stL l)[j]? = (l[j]?).map Value.string := by simp [stL]
theorem stArg_lit (w : World) (arr : Array Value) (T : TypeId) (g n : Nat) (l : List ByteArray) (hg : g = w.heap.size) (hn : n = l.length) (h : arr.toList = stL l) : StArg (w.alloc (.cells arr T)) (some ⟨g, 0, none⟩) n l := by
 subst hg
 refine ⟨hn, .inr ⟨_, 0, rfl, fun i hi => ?_, by simp⟩⟩
 rw [World.cell?_alloc_at _ _ _ _ rfl, Nat.zero_add, ← Array.getElem?_toList, h, stL_get, List.getD_eq_getElem?_getD, List.getElem?_eq_getElem hi]
 rfl
theorem StSl.get {w : World} {b off : Nat} {l : List ByteArray} (h : StSl w b off l) : ∀ j u, (stL l)[j]? = some u → w.cell? ((⟨b, off, none⟩ : Addr).add j) = some u := by
 intro j u hj
 rw [stL_get] at hj
 cases hq : l[j]? with
 | none => rw [hq] at hj; cases hj
 | some s =>
  rw [hq] at hj; injection hj with hj; subst hj
  have hl := (List.getElem?_eq_some_iff.1 hq).1
  have := h j hl
  rw [List.getD_eq_getElem?_getD, hq] at this
  by_cases hj0 : j = 0
  ·subst hj0; simpa [Addr.add] using this
  ·simpa [Addr.add, hj0] using this
def OwnS (B : Nat) (w : World) (v : Value) (l : List ByteArray) : Prop := w.ownsRow B 9 1 v l.length (stL l)
theorem OwnS.nil (B : Nat) (w : World) : OwnS B w (.slice none 0 0) [] := ⟨rfl, .inl ⟨rfl, rfl⟩⟩
theorem OwnS.sl {B : Nat} {w : World} {v : Value} {l : List ByteArray} (h : OwnS B w v l) : ∃ a c, v = .slice a l.length c := by
 rcases h.2 with ⟨h1, h0⟩ | ⟨g, cap, cur, h1, _⟩
 ·exact ⟨none, 0, by rw [h1, h0]⟩
 ·exact ⟨_, _, h1⟩
theorem OwnS.arg {B : Nat} {w : World} {a : Option Addr} {n c : Nat} {l : List ByteArray} (h : OwnS B w (.slice a n c) l) : StArg w a n l := by
 have hh := h
 rcases h.2 with ⟨h1, h0⟩ | ⟨g, cap, cur, h1, hb, hg, hc, hm, hsz, htk⟩
 ·injection h1 with _ h1 _; exact ⟨by omega, .inl (List.eq_nil_of_length_eq_zero h0)⟩
 ·injection h1 with h0 h1 _
  subst h0
  refine ⟨h1, .inr ⟨g, 0, rfl, fun i hi => ?_, (Array.getElem?_eq_some_iff.1 hg).1⟩⟩
  have := World.ownsRow.cells (show w.ownsRow B 9 1 (.slice (some ⟨g, 0, none⟩) n c) l.length (stL l) from hh) rfl i (.string (l.getD i ⟨#[]⟩)) (by rw [stL_get, List.getD_eq_getElem?_getD, List.getElem?_eq_getElem hi]; rfl)
  by_cases hj0 : i = 0
  ·subst hj0; simpa [Addr.add] using this
  ·simpa [Addr.add, hj0] using this
theorem OwnS.of_block {B : Nat} {w w' : World} {v : Value} {l : List ByteArray} (h : OwnS B w v l) (hb : ∀ g, v.ownBlock = some g → w'.heap[g]? = w.heap[g]?) : OwnS B w' v l := by
 refine ⟨h.1, ?_⟩
 rcases h.2 with h2 | ⟨g, cap, cur, h1, h2, h3, h4⟩
 ·exact .inl h2
 ·exact .inr ⟨g, cap, cur, h1, h2, by rw [hb g (by rw [h1]; rfl)]; exact h3, h4⟩
def Goes (v : Value) (n : Nat) (v' : Value) : Prop := v = .slice none 0 0 ∨ ∃ g cap, v = .slice (some ⟨g, 0, none⟩) n cap ∧ (v'.ownBlock ≠ some g ∨ ∃ n', v' = .slice (some ⟨g, 0, none⟩) n' cap)
theorem OwnS.back {B B' : Nat} {w w' : World} {v v' : Value} {l ys : List ByteArray} (hg : Goes v l.length v') (h : OwnS B w v l) (h' : OwnS B' w' v' (l ++ ys)) (hb : ∀ g, v.ownBlock = some g → v'.ownBlock ≠ some g → w'.heap[g]? = w.heap[g]?) : OwnS B w' v l := by
 rcases hg with rfl | ⟨g, cap, rfl, hne | ⟨n', rfl⟩⟩
 ·refine ⟨h.1, .inl ⟨rfl, ?_⟩⟩
  rcases h.2 with ⟨_, h0⟩ | ⟨g, cap, cur, h1, _⟩
  ·exact h0
  ·cases h1
 ·exact h.of_block fun k hk => by
   have e : g = k := by injection hk
   subst e
   exact hb g rfl hne
 ·rcases h.2 with ⟨h1, _⟩ | ⟨g1, cap1, cur, h1, hB, _, hc, hm, _, _⟩
  ·cases h1
  ·injection h1 with e1 _ e2; injection e1 with e1; injection e1 with e1 _ _; subst e1; subst e2
   rcases h'.2 with ⟨h2, _⟩ | ⟨g2, cap2, cur2, h2, _, hg2, _, _, hs2, ht2⟩
   ·cases h2
   ·injection h2 with e1 _ e2; injection e1 with e1; injection e1 with e1 _ _; subst e1; subst e2
    refine ⟨h.1, .inr ⟨g, cap, cur2, rfl, hB, hg2, hc, hm, hs2, ?_⟩⟩
    have := congrArg (List.take (l.length * 1)) ht2
    rw [List.take_take, stL_app, List.length_append, show min (l.length * 1) ((l.length + ys.length) * 1) = l.length * 1 by omega, ← stL_len, List.take_left] at this
    rw [← stL_len]; exact this
theorem run_appS {W : World} (B : Nat) (hB : B ≤ W.heap.size) (ty : TypeId) (v : Value) (l : List ByteArray) (hown : OwnS B W v l) (a : Option Addr) (m c : Nat) (ys : List ByteArray) (hx : StArg W a m ys) (hn : a = none → c = 0) (hlen : l.length + ys.length ≤ 1000000) :
  ∃ v' w', (Builtin.append_ #[37, 37] ty #[v, .slice a m c]).run Tryz.prog W = .ok v' w' ∧ OwnS B w' v' (l ++ ys) ∧ OwnS B w' v l ∧ Bar (fun k => v.ownBlock = some k) W w' ∧ Goes v l.length v' ∧ (∀ g, v'.ownBlock = some g → v.ownBlock = some g ∨ W.heap.size ≤ g) := by
 obtain ⟨i0, hi, hz0, hz1, hz2⟩ := info_parts infoSt
 obtain ⟨hm, hx⟩ := hx
 cases a with
 | none =>
  have hys : ys = [] := by
   rcases hx with h | ⟨b, off, h, _⟩
   ·exact h
   ·cases h
  subst hys
  have hm0 : m = 0 := hm
  subst hm0
  obtain rfl := hn rfl
  refine ⟨v, W, run_append_owned_none (P := Tryz.prog) (w := W) B 37 ty 9 i0 1 Tryz.underlying37 hi v l.length (stL l) hown, by rw [List.append_nil]; exact hown, hown, Bar.refl _ _, ?_, fun g h => .inl h⟩
  rcases hown.2 with ⟨h1, _⟩ | ⟨g, cap, cur, h1, _⟩
  ·exact .inl h1
  ·exact .inr ⟨g, cap, h1, .inr ⟨_, h1⟩⟩
 | some ad =>
  have hnews : ∀ j u, (stL ys)[j]? = some u → W.cell? (ad.add j) = some u := by
   rcases hx with h | ⟨b, off, h, hs, _⟩
   ·subst h; intro j u hj; simp [stL] at hj
   ·injection h with h; subst h; exact hs.get
  obtain ⟨v', w', hr, h1, h2, h3⟩ := run_append_own (P := Tryz.prog) (w := W) B 37 ty 9 i0 (.string ByteArray.empty) 1 16 Tryz.underlying37 hi hz0 hz1 hz2 rfl (by decide) v l.length (stL l) hown ad m c (stL ys) (by rw [stL_len, hm]) hnews (stL_one ys) (by unfold maxLen; omega) (by omega) hB
  have h1' : OwnS B w' v' (l ++ ys) := by unfold OwnS; rw [stL_app, List.length_append, ← hm]; exact h1
  have hbar : Bar (fun k => v.ownBlock = some k) W w' := ⟨h2.os, h2.tape, h2.output, h2.size, fun k hk hn => h2.block k hk (fun e => hn e.symm)⟩
  rcases hown.2 with ⟨e1, e0⟩ | ⟨g, cap, cur, e1, hBg, hg, hc, hcm, hcs, htk⟩
  ·have hl0 : l = [] := List.eq_nil_of_length_eq_zero e0
   subst hl0; subst e1
   refine ⟨v', w', hr, h1', OwnS.nil _ _, hbar, .inl rfl, fun k hk => ?_⟩
   by_cases h0 : m = 0
   ·have := h3.2 ⟨rfl, h0⟩; rw [this] at hk; cases hk
   ·have hr2 := run_append_nil (P := Tryz.prog) W 37 ty 9 i0 (.string ByteArray.empty) Tryz.underlying37 hi hz0 ad m c (stL ys) (by rw [stL_len, hm, hz1]) hnews (by omega) (by omega) (by rw [hz2]; omega)
    rw [hr] at hr2
    injection hr2 with e1 e2
    subst e1
    have hk : W.heap.size = k := Option.some.inj hk
    exact .inr (by omega)
  ·subst e1
   by_cases hroom : l.length + m ≤ cap
   ·have hfit : l.length * i0.size + (stL ys).length ≤ cur.size := by rw [hz1, hcs, stL_len]; omega
    have hr2 := run_append_room (P := Tryz.prog) W 37 ty 9 i0 Tryz.underlying37 hi g l.length cap cur hg ad m c (stL ys) (by rw [stL_len, hm, hz1]) hnews (stL_one ys) hroom hfit
    rw [hr] at hr2
    injection hr2 with e1 e2
    have hgo : Goes (.slice (some ⟨g, 0, none⟩) l.length cap) l.length v' := .inr ⟨g, cap, rfl, .inr ⟨_, e1⟩⟩
    refine ⟨v', w', hr, h1', OwnS.back hgo hown h1' (fun k hk hne => absurd (by rw [e1]; exact hk) hne), hbar, hgo, fun k hk => .inl (by rw [e1] at hk; exact hk)⟩
   ·have hr2 := run_append_grow (P := Tryz.prog) W 37 ty 9 i0 (.string ByteArray.empty) Tryz.underlying37 hi hz0 ⟨g, 0, none⟩ l.length cap (stL l) (by rw [stL_len, hz1]) (fun j u hj => World.ownsRow.cells (show W.ownsRow B 9 1 (.slice (some ⟨g, 0, none⟩) l.length cap) l.length (stL l) from hown) rfl j u hj) ad m c (stL ys) (by rw [stL_len, hm, hz1]) hnews (by omega) (by omega) (by rw [hz2]; exact growslice_fits (by omega) (by omega))
    rw [hr] at hr2
    injection hr2 with e1 e2
    have hgl : g < W.heap.size := (Array.getElem?_eq_some_iff.1 hg).1
    have hob : v'.ownBlock = some W.heap.size := by rw [e1]; rfl
    have hgo : Goes (.slice (some ⟨g, 0, none⟩) l.length cap) l.length v' := .inr ⟨g, cap, rfl, .inl (by rw [hob]; intro e; injection e with e; omega)⟩
    have hgk : w'.heap[g]? = W.heap[g]? := by rw [e2]; exact heap_alloc_old W.drew _ (show g < W.drew.heap.size from hgl)
    refine ⟨v', w', hr, h1', hown.of_block (fun k hk => by
     have e : g = k := by injection hk
     subst e; exact hgk), hbar, hgo, fun k hk => .inr (by rw [hob] at hk; injection hk with hk; omega)⟩
theorem op_st {ops : Array Oper} {rest : List Oper} {o : Oper} {a : Act} {Q : Exit → Act → World → Prop} (hgd : o.guard = none) (s x : Operand) (W : World) (B : Nat) (hB : B ≤ W.heap.size) (v : Value) (l : List ByteArray)
  (ho : o.op = .call { callee := .builtin .append, args := #[s, x], argTypes := #[37, 37] })
  (hs : a.eval s = v) (ad : Option Addr) (m c : Nat) (ys : List ByteArray) (hx : a.eval x = .slice ad m c) (hxs : StArg W ad m ys) (hn : ad = none → c = 0) (hown : OwnS B W v l) (hlen : l.length + ys.length ≤ 1000000)
  (h : ∀ v' w', OwnS B w' v' (l ++ ys) → OwnS B w' v l → Bar (fun k => v.ownBlock = some k) W w' → Goes v l.length v' → (∀ g, v'.ownBlock = some g → v.ownBlock = some g ∨ W.heap.size ≤ g) → wpList Tryz.prog ops Q rest (a.put o.dst v') w') :
  wpList Tryz.prog ops Q (o :: rest) a W := by
 refine wpList_plain hgd fun K hK => ?_
 obtain ⟨v', w', hr, h1, h2, h3, h4, h5⟩ := run_appS B hB o.type v l hown ad m c ys hxs hn hlen
 unfold Oper.wp execOp
 simp only [ho, resolve, invoke, builtin, Sem.run_bind, Sem.run_pure, Result.andThen_ok, List.map_toArray, List.map_cons, List.map_nil, hs, hx, hr]
 exact hK _ _ (h v' w' h1 h2 h3 h4 h5)
open Go.RowKit
theorem bq_four (b : Bool) (a : Int) : b = false ∨ (b = true ∧ ¬ 0 ≤ a) ∨ (b = true ∧ 0 ≤ a ∧ ¬ a ≤ 4096) ∨ (b = true ∧ 0 ≤ a ∧ a ≤ 4096) := by
 cases b
 ·exact .inl rfl
 ·by_cases h0 : 0 ≤ a
  ·by_cases h1 : a ≤ 4096
   ·exact .inr (.inr (.inr ⟨rfl, h0, h1⟩))
   ·exact .inr (.inr (.inl ⟨rfl, h0, h1⟩))
  ·exact .inr (.inl ⟨rfl, h0⟩)
theorem fl_two {w w1 : World} {a0 a1 a2 a3 a4 a5 a6 a7 a8 a9 b0 b1 b2 b3 b4 b5 b6 b7 b8 b9 : Value} {T U : TypeId} (hb1 : Below ((w.alloc (.cells #[a0, a1, a2, a3, a4, a5, a6, a7, a8, a9] T)).alloc (.cells #[b0, b1, b2, b3, b4, b5, b6, b7, b8, b9] U)).heap.size ((w.alloc (.cells #[a0, a1, a2, a3, a4, a5, a6, a7, a8, a9] T)).alloc (.cells #[b0, b1, b2, b3, b4, b5, b6, b7, b8, b9] U)) w1) :
  (w1.cell? ⟨w.heap.size, 0, none⟩ = some a0 ∧ w1.cell? ⟨w.heap.size, 1, none⟩ = some a1 ∧ w1.cell? ⟨w.heap.size, 2, none⟩ = some a2 ∧ w1.cell? ⟨w.heap.size, 3, none⟩ = some a3 ∧ w1.cell? ⟨w.heap.size, 4, none⟩ = some a4 ∧ w1.cell? ⟨w.heap.size, 5, none⟩ = some a5 ∧ w1.cell? ⟨w.heap.size, 6, none⟩ = some a6 ∧ w1.cell? ⟨w.heap.size, 7, none⟩ = some a7 ∧ w1.cell? ⟨w.heap.size, 8, none⟩ = some a8 ∧ w1.cell? ⟨w.heap.size, 9, none⟩ = some a9) ∧
  (w1.cell? ⟨w.heap.size + 1, 0, none⟩ = some b0 ∧ w1.cell? ⟨w.heap.size + 1, 1, none⟩ = some b1 ∧ w1.cell? ⟨w.heap.size + 1, 2, none⟩ = some b2 ∧ w1.cell? ⟨w.heap.size + 1, 3, none⟩ = some b3 ∧ w1.cell? ⟨w.heap.size + 1, 4, none⟩ = some b4 ∧ w1.cell? ⟨w.heap.size + 1, 5, none⟩ = some b5 ∧ w1.cell? ⟨w.heap.size + 1, 6, none⟩ = some b6 ∧ w1.cell? ⟨w.heap.size + 1, 7, none⟩ = some b7 ∧ w1.cell? ⟨w.heap.size + 1, 8, none⟩ = some b8 ∧ w1.cell? ⟨w.heap.size + 1, 9, none⟩ = some b9) ∧
  (∀ o, w1.frozen? ⟨w.heap.size + 1, o, none⟩ = false) ∧ w.heap.size + 1 < w1.heap.size := by
 refine ⟨⟨?_, ?_, ?_, ?_, ?_, ?_, ?_, ?_, ?_, ?_⟩, ⟨?_, ?_, ?_, ?_, ?_, ?_, ?_, ?_, ?_, ?_⟩, fun o => by rw [hb1.frozen (p := ⟨w.heap.size + 1, o, none⟩) (by simp)]; simp [go_sem], by have := hb1.size; (try simp at this); omega⟩
 all_goals exact carry hb1 (by first | (simp; done) | (simp; omega)) (by simp)
def ba0 : ByteArray := ⟨#[]⟩
end Go.Proofs.YthpcbgljbpmafaaGreatDoor
