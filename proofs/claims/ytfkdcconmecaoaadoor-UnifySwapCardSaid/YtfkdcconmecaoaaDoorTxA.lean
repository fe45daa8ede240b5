/- order.ByFirst: numbers by first appearance. -/
import Derived.Test.YtfkdcconmecaoaaDoorVrC
import Derived.Test.YtfkdcconmecaoaaDoorMmA
import Derived.Lib.Builder
import Derived.Lib.AppendStr
import Derived.Lib.UnsafeStr
import Derived.Laws.Externs
import Derived.Test.YtfkdcconmecaoaaDoorRwG
import Derived.Test.YtfkdcconmecaoaaDoorSbH
import Derived.Test.YtfkdcconmecaoaaDoorMtP
import Derived.Test.YtfkdcconmecaoaaDoorTyI
import Derived.Test.YtfkdcconmecaoaaDoorMmD
import Derived.Deep.RegionHeld3
/- order.ByFirst: numbers by first appearance. -/
/- order.ByFirst: numbers by first appearance. -/
/- order.ByFirst: numbers by first appearance. -/
namespace Go.Proofs.YtfkdcconmecaoaaDoor
open Go.RowKit Go.Maps
set_option linter.unusedVariables false
set_option linter.unusedSimpArgs false

theorem posI_has {l : List Int} {v : Int} (h : hasI l v = true) : posI l v = l.findIdx (· == v) := by
  unfold posI addI; rw [h]; rfl
theorem posI_app {l : List Int} {u v : Int} (h : hasI l u = true) : posI (l ++ [v]) u = posI l u := by
  have h2 : hasI (l ++ [v]) u = true := by rw [hasI_app, h]; rfl
  rw [posI_has h, posI_has h2, List.findIdx_append]
  have hm : u ∈ l := (hasI_iff l u).1 h
  have : l.findIdx (· == u) < l.length := List.findIdx_lt_length_of_exists ⟨u, hm, by simp⟩
  rw [if_pos this]
theorem posI_snoc {l : List Int} {v : Int} (h : hasI l v = false) : posI (l ++ [v]) v = l.length := by
  have h2 : hasI (l ++ [v]) v = true := by rw [hasI_app]; simp
  have h3 := (posI_new h).1
  unfold posI at h3
  rw [(posI_new h).2] at h3
  rw [posI_has h2, h3]
theorem posI_lt {l : List Int} {v : Int} : posI l v ≤ l.length := by
  cases h : hasI l v
  · rw [(posI_new h).1]; exact Nat.le_refl _
  · rw [posI_has h]; exact List.findIdx_le_length
/-- block bm is a map that says where each number of a list stands. -/
def NmMap (w : World) (bm : Nat) (l : List Int) : Prop :=
  ∃ D : DataW Value, w.ownsMap Tryd.prog 3 heldR bm l.length D ∧ Maps.size D = l.length ∧ ∀ v : Int, Maps.has D (.int .i64 v) = hasI l v ∧ (hasI l v = true → ∀ z, D.atKey (.int .i64 v) z = .held (.int .i64 (posI l v : Nat)))
def NmAt (w : World) (p bm : Nat) (l : List Int) : Prop := w.heap[p]? = some (.cells #[.map (some bm)] 119 (0, 0)) ∧ NmMap w bm l
theorem NmAt.cell {w : World} {p bm : Nat} {l : List Int} (h : NmAt w p bm l) : p < w.heap.size ∧ w.cell? ⟨p, 0, none⟩ = some (.map (some bm)) :=
  ⟨(Array.getElem?_eq_some_iff.1 h.1).1, (Lib.cell_of_heap h.1 0).trans rfl⟩
theorem NmMap.lt {w : World} {bm : Nat} {l : List Int} (h : NmMap w bm l) : bm < w.heap.size := by obtain ⟨D, h1, _⟩ := h; exact h1.lt
theorem NmMap.bar {S : Nat → Prop} {w w' : World} {bm : Nat} {l : List Int} (h : NmMap w bm l) (hb : Bar S w w') (hn : ¬ S bm) : NmMap w' bm l := by
  have hl := h.lt
  obtain ⟨D, ⟨es, clock, h1, h3⟩, h2⟩ := h
  exact ⟨D, ⟨es, clock, (hb.block bm hl hn).trans h1, h3⟩, h2⟩
theorem NmAt.bar {S : Nat → Prop} {w w' : World} {p bm : Nat} {l : List Int} (h : NmAt w p bm l) (hb : Bar S w w') (hn : ¬ S bm) (hp : ¬ S p) : NmAt w' p bm l :=
  ⟨(hb.block p h.cell.1 hp).trans h.1, h.2.bar hb hn⟩
theorem NmAt.below {w w' : World} {p bm : Nat} {l : List Int} (h : NmAt w p bm l) (hb : Below w.heap.size w w') : NmAt w' p bm l := h.bar (Bar.of_below (S := fun _ => False) hb) id id
theorem NmMap.blk {w : World} {bm : Nat} {l : List Int} (h : NmMap w bm l) : ∃ es clock, w.heap[bm]? = some (.map es clock) := by
  obtain ⟨D, ⟨es, clock, h1, _⟩, _⟩ := h; exact ⟨es, clock, h1⟩
theorem NmMap.ne {w : World} {b g o : Nat} {l : List Int} {v : Value} (h : NmMap w b l) (hc : w.cell? ⟨g, o, none⟩ = some v) : g ≠ b := by
  rintro rfl
  obtain ⟨es, clock, h1⟩ := h.blk
  unfold World.cell? at hc
  simp [h1] at hc
theorem nmMap_made (w : World) : NmMap (w.alloc (.map #[] 0)) w.heap.size [] :=
  ⟨.map [], World.ownsMap_made w _ _ _, rfl, fun v => ⟨rfl, fun h => by cases h⟩⟩
theorem nm_look {w : World} {bm : Nat} {l : List Int} (h : NmMap w bm l) (v : Int) (hwf : -9223372036854775808 ≤ v ∧ v ≤ 9223372036854775807) :
    (Instr.lookup 119 (.map (some bm)) (.int .i64 v) true).run Tryd.prog w = .ok (.tuple #[.int .i64 (if hasI l v then ((posI l v : Nat) : Int) else 0), .bool (hasI l v)]) w := by
  obtain ⟨D, h1, h2, h3⟩ := h
  obtain ⟨h4, h6⟩ := h3 v
  obtain ⟨u, ps, hr, hu⟩ := h1.look_ok lawI Tryd.underlying119 (zeroI w) (zd := .held (.int .i64 0)) (zp := []) rfl (wfI hwf)
  rw [hr, h4]
  have e2 : heldR u = some (.held u, []) := rfl
  rw [e2] at hu
  cases hf : hasI l v
  · rw [hf] at h4
    rw [atKey_of_not_has h4] at hu
    have hu := DataW.held.inj (Prod.mk.inj (Option.some.inj hu)).1
    rw [hu]; rfl
  · rw [h6 hf] at hu
    have hu := DataW.held.inj (Prod.mk.inj (Option.some.inj hu)).1
    rw [hu]; rfl
theorem nm_len {w : World} {bm : Nat} {l : List Int} (h : NmMap w bm l) (ty : TypeId) : (Builtin.len_ #[119] ty #[.map (some bm)]).run Tryd.prog w = .ok (.int .i64 l.length) w := by
  obtain ⟨D, h1, h2, h3⟩ := h
  rw [h1.len Tryd.underlying119 ty, h2]
theorem nm_put {w : World} {bm : Nat} {l : List Int} (h : NmMap w bm l) (v : Int) (hwf : -9223372036854775808 ≤ v ∧ v ≤ 9223372036854775807) (hn : l.length ≤ 1000000) (hno : hasI l v = false) :
    ∃ w', (Instr.mapUpdate 119 (.map (some bm)) (.int .i64 v) (.int .i64 (l.length : Nat))).run Tryd.prog w = .ok () w' ∧ NmMap w' bm (l ++ [v]) ∧ Bar (fun k => k = bm) w w' := by
  obtain ⟨D, h1, h2, h3⟩ := h
  have hT := h1.tidy lawI
  obtain ⟨w', hr, h4, h5⟩ := h1.update (val := .int .i64 (l.length : Nat)) lawI Tryd.underlying119 (by unfold maxLen; omega) (wfI hwf) (d := .held (.int .i64 (l.length : Nat))) (ps := []) rfl
  have hnv : Maps.has D (.int .i64 v) = false := (h3 v).1.trans hno
  refine ⟨w', hr, ⟨_, by rw [List.length_append]; exact h4, by rw [Maps.size_put hT, hnv, h2, List.length_append]; rfl, fun u => ?_⟩, ((Bar.of_grown h5).mono fun k hk => (Option.some.inj hk).symm)⟩
  by_cases hu : u = v
  · subst hu
    refine ⟨(has_put_same hT.isMap (by trivial) _).trans (by rw [hasI_app]; simp), fun _ z => ?_⟩
    rw [atKey_put_same hT.isMap (by trivial), posI_snoc hno]
  · have hne : (Lit.int .i64 u) ≠ (Lit.int .i64 v) := fun e => hu (by injection e)
    have hh : hasI (l ++ [v]) u = hasI l u := by
      rw [hasI_app]
      have : (v == u) = false := by rw [beq_eq_false_iff_ne]; exact fun e => hu e.symm
      rw [this, Bool.or_false]
    obtain ⟨h6, h7⟩ := h3 u
    refine ⟨(has_put_other hne _).trans (h6.trans hh.symm), fun hx z => ?_⟩
    rw [hh] at hx
    rw [atKey_put_other hne, posI_app hx]
    exact h7 hx z
set_option maxRecDepth 100000 in
set_option maxHeartbeats 4000000 in
theorem byFirst1_any (p bm : Nat) (l : List Int) (v : Int) (w : World) (h : Hid (NmAt w p bm l)) (hv : 0 ≤ v ∧ v < 4096) (hl : l.length ≤ 100000) :
    Calls Tryd.prog 89 #[.int .i64 v, .pointer (some ⟨p, 0, none⟩)] w fun e w' => e = .returned (.int .i64 (posI l v : Nat)) ∧ NmAt w' p bm (addI l v) ∧ Bar (fun k => k = bm) w w' := by
  obtain ⟨h1, h2⟩ := h.out.cell
  have h0 := h.out.1
  have h3 := h.out.2
  have hk := nm_look h3 v (by omega)
  have hln := nm_len h3 3
  cases hq : hasI l v
  · obtain ⟨e1, e2⟩ := posI_new hq
    obtain ⟨w', hup, hM, hBar⟩ := nm_put h3 v (by omega) (by omega) hq
    have hfin := Lib.hid (show NmAt w' p bm (l ++ [v]) ∧ Bar (fun k => k = bm) w w' from ⟨⟨(hBar.block p h1 (h3.ne h2)).trans h0, hM⟩, hBar⟩)
    rw [hq] at hk
    simp only [Bool.false_eq_true, if_false] at hk
    rw [e1, e2]
    clear e1 e2 hM hBar h0 h3 hq h
    go_enter Tryd.func89, Tryd.ntmps89
    go_wp2_with fail
    go_ret
    exact ⟨rfl, hfin.out⟩
  · have e2 : addI l v = l := by unfold addI; rw [hq]; rfl
    rw [hq] at hk
    simp only [if_true] at hk
    rw [e2]
    have h' := h
    clear e2 h0 h3 hq h
    go_enter Tryd.func89, Tryd.ntmps89
    go_wp2_with fail
    go_ret
    exact ⟨rfl, h'.out, Bar.refl _ _⟩
def byV (p : Nat) : Value := .func (.func 89) #[] #[.pointer (some ⟨p, 0, none⟩)]
theorem byFirst_any (w : World) : Calls Tryd.prog 74 #[] w fun e w' => e = .returned (byV (w.heap.size + 1)) ∧ w' = (w.alloc (.map #[] 0)).alloc (.cells #[.map (some w.heap.size)] 119) := by
  have hmm := @run_makeMap Tryd.prog
  go_enter Tryd.func74, Tryd.ntmps74
  go_wp2_with fail
  go_ret
  exact ⟨rfl, rfl⟩
theorem nmAt_new (w : World) : NmAt ((w.alloc (.map #[] 0)).alloc (.cells #[.map (some w.heap.size)] 119)) (w.heap.size + 1) w.heap.size [] :=
  ⟨by have := alloc_last (w.alloc (.map #[] 0)) (.cells #[.map (some w.heap.size)] 119); simpa using this, (nmMap_made w).bar (Bar.of_below (S := fun _ => False) (below_alc _ _)) id⟩
end Go.Proofs.YtfkdcconmecaoaaDoor

/- A text that grows within a writer: package strings' Builder as the writer's first field. -/
namespace Go.Proofs.YtfkdcconmecaoaaDoor
open Go.RowKit Go.Maps
set_option linter.unusedVariables false
set_option linter.unusedSimpArgs false

def IsU8 (w : World) (k : Nat) : Prop := ∃ cs fr, w.heap[k]? = some (.cells cs 5 fr)
/-- a writer in memory, from B on; it holds l. -/
def WrtP (w : World) (B g : Nat) (p : Value) (l : List UInt8) (nd f1 f2 : Value) : Prop :=
  B ≤ g ∧ ∃ v, w.heap[g]? = some (.cells #[p, v, nd, f1, f2] 139 (0, 0)) ∧ w.ownsRow B 5 1 v l.length (Lib.byteCells l)
def WrtAt (w : World) (B g : Nat) (l : List UInt8) (nd f1 f2 : Value) : Prop := WrtP w B g (.pointer none) l nd f1 f2 ∨ WrtP w B g (.pointer (some ⟨g, 0, none⟩)) l nd f1 f2
abbrev BarU (B g : Nat) (w w' : World) : Prop := Bar (fun k => B ≤ k ∧ (k = g ∨ IsU8 w k)) w w'
theorem IsU8.of {S : Nat → Prop} {w w' : World} {k : Nat} (hb : Bar S w w') (hk : k < w.heap.size) (h : IsU8 w' k) (hn : ¬ S k) : IsU8 w k := by
  obtain ⟨cs, fr, h⟩ := h
  exact ⟨cs, fr, (hb.block k hk hn).symm.trans h⟩
theorem BarU.trans {B g : Nat} {w w1 w2 : World} (h : BarU B g w w1) (h' : BarU B g w1 w2) : BarU B g w w2 :=
  Bar.trans h h' fun k hk ⟨h1, h2⟩ => by
    refine ⟨h1, ?_⟩
    rcases h2 with h2 | h2
    · exact .inl h2
    · by_cases hs : B ≤ k ∧ (k = g ∨ IsU8 w k)
      · exact hs.2
      · exact .inr (IsU8.of h hk h2 hs)
theorem WrtP.lt {w : World} {B g : Nat} {p : Value} {l : List UInt8} {nd f1 f2 : Value} (h : WrtP w B g p l nd f1 f2) : g < w.heap.size := by
  obtain ⟨_, v, h1, _⟩ := h; exact (Array.getElem?_eq_some_iff.1 h1).1
theorem wrt_lies : liesAt Tryd.prog Tryd.prog.depth 139 (5 / Tryd.prog.cellsOf 139) 0 137 1 = true := by kernel_rfl
theorem bld_size : (Tryd.prog.info? 137).map (·.size) = some 2 := by kernel_rfl
theorem infoU8b : (Tryd.prog.info? 5).map (fun i => (i.zero, i.size, i.bytes)) = some (some (.int .u8 0), 1, 1) := by kernel_rfl
set_option maxHeartbeats 2000000 in
set_option maxRecDepth 100000 in
theorem wr_fresh (g : Nat) (v nd f1 f2 : Value) (w : World) (hb : w.heap[g]? = some (.cells #[.pointer none, v, nd, f1, f2] 139 (0, 0))) :
    Calls Tryd.prog 105 #[.pointer (some ⟨g, 0, none⟩)] w fun e w' => e = .returned (.tuple #[]) ∧ w' = w.setCell ⟨g, 0, none⟩ (.pointer (some ⟨g, 0, none⟩)) := by
  obtain ⟨j, hj, hjs⟩ := Option.map_eq_some_iff.1 bld_size
  have h0 : w.cell? ⟨g, 0, none⟩ = some (.pointer none) := by rw [Lib.cell_of_heap hb]; rfl
  have hfz : w.frozen? ⟨g, 0, none⟩ = false := Lib.frozen_of_heap hb 0
  have hsh : w.shape? g = some (139, 5) := by simp [World.shape?, hb]
  have k1 := Lib.run_to_unsafe w ⟨g, 0, none⟩ Tryd.underlying134 Tryd.underlying188 hj (by rw [hjs]; decide) hsh (Nat.zero_lt_succ 4)
  have k2 := Lib.run_from_unsafe w ⟨g, 0, none⟩ Tryd.underlying188 Tryd.underlying134 hj hsh wrt_lies
  have k3 : ∀ (x : Value) (W : World), (callFunc 112 #[x]).run Tryd.prog W = .ok (.value x) W := fun x W => by
    rw [run_callFunc_extern Tryd.func112 (by kernel_rfl) (by kernel_rfl) (by kernel_rfl) (e := Extern.AbiNoEscape.same) (by kernel_rfl)]
    rw [Lib.run_noEscape]; rfl
  have hgl : g < w.heap.size := (Array.getElem?_eq_some_iff.1 hb).1
  clear hb hsh hj
  go_enter Tryd.func105, Tryd.ntmps105
  go_wp2_with fail
  go_end0
  exact ⟨rfl, rfl⟩
set_option maxHeartbeats 2000000 in
set_option maxRecDepth 100000 in
theorem wr_used (g : Nat) (v nd f1 f2 : Value) (w : World) (hb : w.heap[g]? = some (.cells #[.pointer (some ⟨g, 0, none⟩), v, nd, f1, f2] 139 (0, 0))) :
    Calls Tryd.prog 105 #[.pointer (some ⟨g, 0, none⟩)] w fun e w' => e = .returned (.tuple #[]) ∧ w' = w := by
  obtain ⟨j, hj, hjs⟩ := Option.map_eq_some_iff.1 bld_size
  have h0 : w.cell? ⟨g, 0, none⟩ = some (.pointer (some ⟨g, 0, none⟩)) := by rw [Lib.cell_of_heap hb]; rfl
  have k1 := Lib.run_neq_ptr_same w ⟨g, 0, none⟩ Tryd.underlying134 hj
  have hgl : g < w.heap.size := (Array.getElem?_eq_some_iff.1 hb).1
  clear hb hj
  go_enter Tryd.func105, Tryd.ntmps105
  go_wp2_with fail
  go_end0
  exact ⟨rfl, rfl⟩
theorem wr_check (B g : Nat) (l : List UInt8) (nd f1 f2 : Value) (w : World) (h : WrtAt w B g l nd f1 f2) :
    Calls Tryd.prog 105 #[.pointer (some ⟨g, 0, none⟩)] w fun e w' => e = .returned (.tuple #[]) ∧ WrtP w' B g (.pointer (some ⟨g, 0, none⟩)) l nd f1 f2 ∧ BarU B g w w' := by
  rcases h with ⟨hB, v, h1, h2⟩ | ⟨hB, v, h1, h2⟩
  · refine (wr_fresh g v nd f1 f2 w h1).mono ?_
    rintro e w' ⟨rfl, rfl⟩
    refine ⟨rfl, ⟨hB, v, ?_, ?_⟩, Bar.set _ _ ⟨hB, .inl rfl⟩⟩
    · simp [World.setCell, Array.getElem?_modify, h1]
    · have hne := Lib.ownBlock_ne h2 h1 (by decide)
      exact h2.kept (row := some g) ⟨rfl, rfl, rfl, by simp [World.setCell], fun k _ hk => Below.heap_setCell _ _ _ _ (fun e => hk (by simp [e]))⟩ (Or.inr hne)
  · refine (wr_used g v nd f1 f2 w h1).mono ?_
    rintro e w' ⟨rfl, rfl⟩
    exact ⟨rfl, ⟨hB, v, h1, h2⟩, Bar.refl _ _⟩
set_option maxHeartbeats 4000000 in
set_option maxRecDepth 100000 in
theorem wr_string (B g : Nat) (l : List UInt8) (nd f1 f2 : Value) (s : ByteArray) (w : World) (h : Hid (WrtAt w B g l nd f1 f2)) (hlen : l.length + s.size ≤ 140737488355328) :
    Calls Tryd.prog 90 #[.pointer (some ⟨g, 0, none⟩), .string s] w fun e w' => e = .returned (.tuple #[.int .i64 s.size, .nilIface]) ∧ WrtAt w' B g (l ++ s.data.toList) nd f1 f2 ∧ BarU B g w w' := by
  obtain ⟨i0, hi, hz0, hz1, hz2⟩ := info_parts infoU8b
  go_enter Tryd.func90, Tryd.ntmps90
  go_wp2_with fail
  refine (wr_check B g l nd f1 f2 w h.out).mono ?_
  rintro e w1 ⟨rfl, ⟨hB, v, hbk, hown⟩, hb1⟩
  have c0 : w1.cell? ⟨g, 0, none⟩ = some (.pointer (some ⟨g, 0, none⟩)) := by rw [Lib.cell_of_heap hbk]; rfl
  have c1 : w1.cell? ⟨g, 1, none⟩ = some v := by rw [Lib.cell_of_heap hbk]; rfl
  have hgl : g < w1.heap.size := (Array.getElem?_eq_some_iff.1 hbk).1
  have hbk' := Lib.hid hbk
  have hb1' := Lib.hid hb1
  clear hbk hb1
  go_wp2_with (at_builtin; refine Lib.wpList_append_own_string _ rfl (.tmp 12) (.tmp 13) 135 9 rfl B 5 i0 Tryd.underlying135 Tryd.underlying9 hi hz0 hz1 hz2 v l.length (Lib.byteCells l) rfl hown s rfl ?c3 ?c4 ?c5 ?_)
  case c3 => unfold maxLen; omega
  case c4 => omega
  case c5 => omega
  intro v' w2 hown' hgrow _
  have hne : v.ownBlock ≠ some g := Lib.ownBlock_ne hown hbk'.out (by decide)
  have hb2 : w2.heap[g]? = some (.cells #[.pointer (some ⟨g, 0, none⟩), v, nd, f1, f2] 139 (0, 0)) := by
    rw [hgrow.block g hgl (fun e => hne e.symm)]; exact hbk'.out
  have d0 : w2.cell? ⟨g, 0, none⟩ = some (.pointer (some ⟨g, 0, none⟩)) := by rw [Lib.cell_of_heap hb2]; rfl
  have d1 : w2.cell? ⟨g, 1, none⟩ = some v := by rw [Lib.cell_of_heap hb2]; rfl
  have e1 : w2.frozen? ⟨g, 1, none⟩ = false := Lib.frozen_of_heap hb2 1
  obtain ⟨ao, n', cap, rfl⟩ : ∃ ao n' cap, v' = .slice ao n' cap := by
    rcases hown'.2 with ⟨hv, _⟩ | ⟨g, cap, cur, hv, _⟩
    · exact ⟨_, _, _, hv⟩
    · exact ⟨_, _, _, hv⟩
  have hgl2 : g < w2.heap.size := (Array.getElem?_eq_some_iff.1 hb2).1
  have hfin := Lib.hid (show WrtAt (w2.setCell ⟨g, 1, none⟩ (.slice ao n' cap)) B g (l ++ s.data.toList) nd f1 f2 from by
    refine .inr ⟨hB, .slice ao n' cap, ?_, ?_⟩
    · simp [World.setCell, Array.getElem?_modify, hb2]
    · have e3 : Lib.byteCells (l ++ s.data.toList) = Lib.byteCells l ++ Lib.strCells s := by rw [Lib.byteCells_append, Lib.strCells_eq]
      have e4 : (l ++ s.data.toList).length = l.length + s.size := by rw [List.length_append]; rfl
      rw [e3, e4]
      have hne2 := Lib.ownBlock_ne hown' hb2 (by decide)
      exact hown'.kept (row := some g) ⟨rfl, rfl, rfl, by simp [World.setCell], fun k _ hk => Below.heap_setCell _ _ _ _ (fun e => hk (by simp [e]))⟩ (Or.inr hne2))
  have hbar := Lib.hid (show BarU B g w (w2.setCell ⟨g, 1, none⟩ (.slice ao n' cap)) from by
    refine hb1'.out.trans ?_
    have h2 : BarU B g w1 w2 := (Bar.of_grown hgrow).mono fun k hk => by
      have hk : v.ownBlock = some k := hk
      rcases hown.2 with ⟨rfl, _⟩ | ⟨q, cq, cur, rfl, hq, hqg, _⟩
      · simp [Value.ownBlock] at hk
      · simp [Value.ownBlock] at hk; subst hk
        exact ⟨hq, .inr ⟨cur, _, hqg⟩⟩
    exact h2.trans (Bar.set _ _ ⟨hB, .inl rfl⟩))
  clear hown hown' hgrow hb2 hbk' hb1' hne
  go_wp2_with fail
  go_ret2
  exact ⟨rfl, hfin.out, hbar.out⟩
set_option maxHeartbeats 4000000 in
set_option maxRecDepth 100000 in
theorem wr_text (B g : Nat) (l : List UInt8) (nd f1 f2 : Value) (w : World) (h : Hid (WrtAt w B g l nd f1 f2)) (h0 : l ≠ []) :
    Calls Tryd.prog 76 #[.pointer (some ⟨g, 0, none⟩)] w fun e w' => e = .returned (.string ⟨l.toArray⟩) ∧ Below B w w' := by
  obtain ⟨p, hB, v, hbk, hown⟩ : ∃ p, WrtP w B g p l nd f1 f2 := by
    rcases h.out with h | h
    · exact ⟨_, h⟩
    · exact ⟨_, h⟩
  have hl0 : l.length ≠ 0 := by simpa using h0
  obtain ⟨q, cap, cur, rfl, hbg, hg, hnc, hcm, hcs, htake⟩ : ∃ q cap cur, v = .slice (some ⟨q, 0, none⟩) l.length cap ∧ B ≤ q ∧ w.heap[q]? = some (.cells cur 5 (0, 0)) ∧ l.length ≤ cap ∧ cap ≤ maxLen ∧ cur.size = cap * 1 ∧ cur.toList.take (l.length * 1) = Lib.byteCells l := by
    rcases hown.2 with ⟨_, hz⟩ | ⟨q, cap, cur, hv, r⟩
    · exact absurd hz hl0
    · exact ⟨q, cap, cur, hv, r⟩
  have c1 : w.drew.cell? ⟨g, 1, none⟩ = some (.slice (some ⟨q, 0, none⟩) l.length cap) := by
    have : w.drew.heap[g]? = some (.cells #[p, .slice (some ⟨q, 0, none⟩) l.length cap, nd, f1, f2] 139 (0, 0)) := hbk
    rw [Lib.cell_of_heap this]; rfl
  have hSD : (Builtin.unsafeSliceData_ #[135] 171 #[.slice (some ⟨q, 0, none⟩) l.length cap]).run Tryd.prog w.drew = .ok (.pointer (some ⟨q, 0, none⟩)) w.drew :=
    Lib.run_unsafeSliceData_row _ _ _ _ _ _ (by omega)
  have hUS : (Builtin.unsafeString_ #[171, 3] 9 #[.pointer (some ⟨q, 0, none⟩), .int .i64 l.length]).run Tryd.prog w.drew = .ok (.string ⟨l.toArray⟩) (w.drew.freeze ⟨q, 0, none⟩ l.length) := by
    refine Lib.run_unsafeString_row w.drew 171 3 9 5 Tryd.underlying171 (by kernel_rfl) q cur.size (by have hg' : w.drew.heap[q]? = some (.cells cur 5 (0, 0)) := hg; simp [World.shape?, hg']) l h0 (by omega) (by unfold maxLen at hcm; omega) ?_
    intro j x hx
    have := hown.cells (g := q) rfl j (.int .u8 x.toNat) (by simp [Lib.byteCells, hx])
    exact this
  have hgl : g < w.heap.size := (Array.getElem?_eq_some_iff.1 hbk).1
  clear hbk hown hg htake h
  go_enter Tryd.func76, Tryd.ntmps76
  go_wp2_with fail
  go_region
  all_goals (go_wp2_with fail; go_ret; exact ⟨rfl, Lib.below_freeze (Below.drew (Below.refl B w)) (p := ⟨q, 0, none⟩) hbg _⟩)
end Go.Proofs.YtfkdcconmecaoaaDoor

/- The text of a type: what it is; what stays while it is written. -/
namespace Go.Proofs.YtfkdcconmecaoaaDoor
open Go.RowKit Go.Maps
set_option linter.unusedVariables false
set_option linter.unusedSimpArgs false

def rwT (r : Rw) (s : List UInt8) : List UInt8 := (rowK r.a r.b r.c r.d r.t s).data.toList
/-- a type's text, behind these names. -/
def tx : TT → List Int → List Int → List UInt8
  | .base k, _, _ => if k = 0 then [105, 110, 116] else [98, 111, 111, 108]
  | .var v, a, _ => 116 :: Lib.itoa (posI a v : Nat)
  | .fn A r B, a, b => [40] ++ tx A a b ++ ([32, 45] ++ rwT r (Lib.itoa (posI (rvs A b) r.t : Nat)) ++ [32]) ++ tx B (tvs A a) (addT (rvs A b) r.t) ++ [41]
theorem tx_ne (T : TT) (a b : List Int) : tx T a b ≠ [] := by
  cases T with
  | base k => unfold tx; split <;> simp
  | var v => unfold tx; simp
  | fn A r B => unfold tx; simp
theorem rwT_len {r : Rw} (h : r.may = true) (s : List UInt8) (hs : s.length ≤ 30) : (rwT r s).length ≤ 500 := by
  have h' := of_decide_eq_true (show mayR r.a r.b r.c r.d r.t = true from h)
  unfold rwT rowK
  have h1 := join_len ((opsL (cnt4 r.a r.b r.c r.d) 4).map (·.data.toList)) (by
    intro x hx
    obtain ⟨y, hy, rfl⟩ := List.mem_map.1 hx
    have := opsL_size _ 4 y hy
    rw [← this]; simp)
  have h2 := opsL_len (cnt4 r.a r.b r.c r.d) 32 (fun i => by unfold cnt4; (repeat' split) <;> omega) 4
  rw [List.length_map] at h1
  split <;> simp <;> omega
theorem tx_len : ∀ (T : TT) (a b : List Int), T.ok = true → a.length + T.sz ≤ 1000000 → b.length + T.sz ≤ 1000000 → (tx T a b).length ≤ T.sz * 600
  | .base k, a, b, _, _, _ => by unfold tx TT.sz; split <;> simp
  | .var v, a, b, _, ha, _ => by
    unfold tx TT.sz
    have := itoa_len (posI a v : Nat) (by omega) (by have := posI_lt (l := a) (v := v); omega)
    simp; omega
  | .fn A r B, a, b, ho, ha, hb => by
    unfold TT.ok at ho
    simp only [Bool.and_eq_true] at ho
    unfold TT.sz at ha hb
    have t1 := tvs_len A a
    have t2 := rvs_len A b
    have t3 := addT_len (rvs A b) r.t
    have h1 := tx_len A a b ho.1.1 (by omega) (by omega)
    have h2 := tx_len B (tvs A a) (addT (rvs A b) r.t) ho.2 (by omega) (by omega)
    have h3 := rwT_len ho.1.2 (Lib.itoa (posI (rvs A b) r.t : Nat)) (by have := itoa_len (posI (rvs A b) r.t : Nat) (by omega) (by have := posI_lt (l := rvs A b) (v := r.t); omega); omega)
    unfold tx TT.sz
    simp only [List.length_append, List.length_cons, List.length_nil]
    omega
/-- what may change while a text is written. -/
abbrev BarW (B g m1 m2 : Nat) (w w' : World) : Prop := Bar (fun k => B ≤ k ∧ (k = g ∨ k = m1 ∨ k = m2 ∨ IsU8 w k)) w w'
theorem BarW.trans {B g m1 m2 : Nat} {w w1 w2 : World} (h : BarW B g m1 m2 w w1) (h' : BarW B g m1 m2 w1 w2) : BarW B g m1 m2 w w2 :=
  Bar.trans h h' fun k hk ⟨h1, h2⟩ => by
    refine ⟨h1, ?_⟩
    by_cases hs : B ≤ k ∧ (k = g ∨ k = m1 ∨ k = m2 ∨ IsU8 w k)
    · exact hs.2
    · rcases h2 with h2 | h2 | h2 | h2
      · exact .inl h2
      · exact .inr (.inl h2)
      · exact .inr (.inr (.inl h2))
      · exact .inr (.inr (.inr (IsU8.of h hk h2 hs)))
theorem BarW.ofU {B g m1 m2 : Nat} {w w' : World} (h : BarU B g w w') : BarW B g m1 m2 w w' := h.mono fun k ⟨h1, h2⟩ => ⟨h1, by rcases h2 with h2 | h2; exact .inl h2; exact .inr (.inr (.inr h2))⟩
theorem BarW.of1 {B g m1 m2 : Nat} {w w' : World} (h : Bar (fun k => k = m1) w w') (hm : B ≤ m1) : BarW B g m1 m2 w w' := h.mono fun k hk => ⟨by have hk : k = m1 := hk; omega, .inr (.inl hk)⟩
theorem BarW.of2 {B g m1 m2 : Nat} {w w' : World} (h : Bar (fun k => k = m2) w w') (hm : B ≤ m2) : BarW B g m1 m2 w w' := h.mono fun k hk => ⟨by have hk : k = m2 := hk; omega, .inr (.inr (.inl hk))⟩
theorem BarW.below {B g m1 m2 : Nat} {w w' : World} (h : BarW B g m1 m2 w w') (hB : B ≤ w.heap.size) : Below B w w' := Bar.below h hB fun k hk => hk.1
theorem NmAt.barU {B g : Nat} {w w' : World} {p m : Nat} {l n : List Int} {t : List UInt8} {nd f1 f2 : Value} (h : NmAt w p m n) (hb : BarU B g w w') (hw : WrtAt w B g t nd f1 f2) : NmAt w' p m n := by
  obtain ⟨q, v, hg⟩ : ∃ q v, w.heap[g]? = some (.cells #[q, v, nd, f1, f2] 139 (0, 0)) := by
    rcases hw with ⟨_, v, h, _⟩ | ⟨_, v, h, _⟩ <;> exact ⟨_, v, h⟩
  obtain ⟨es, ck, hm⟩ := h.2.blk
  refine h.bar hb ?_ ?_
  · rintro ⟨_, rfl | ⟨cs, fr, h2⟩⟩
    · rw [hm] at hg; cases hg
    · rw [hm] at h2; cases h2
  · rintro ⟨_, rfl | ⟨cs, fr, h2⟩⟩
    · rw [h.1] at hg; injection hg with hg; injection hg with _ hg _; exact absurd hg (by decide)
    · rw [h.1] at h2; injection h2 with h2; injection h2 with _ h2 _; exact absurd h2 (by decide)
theorem NmAt.bar1 {w w' : World} {p m m' : Nat} {n : List Int} (h : NmAt w p m n) (hb : Bar (fun k => k = m') w w') (hm : ∃ es ck, w.heap[m']? = some (.map es ck)) (hne : m ≠ m') : NmAt w' p m n := by
  obtain ⟨es, ck, hm⟩ := hm
  exact h.bar hb hne (by rintro rfl; rw [h.1] at hm; cases hm)
theorem WrtAt.bar1 {B g : Nat} {w w' : World} {m : Nat} {t : List UInt8} {nd f1 f2 : Value} (h : WrtAt w B g t nd f1 f2) (hb : Bar (fun k => k = m) w w') (hm : ∃ es ck, w.heap[m]? = some (.map es ck)) : WrtAt w' B g t nd f1 f2 := by
  obtain ⟨es, ck, hm⟩ := hm
  have key : ∀ p, WrtP w B g p t nd f1 f2 → WrtP w' B g p t nd f1 f2 := by
    rintro p ⟨h1, v, h2, h3⟩
    refine ⟨h1, v, (hb.block g (Array.getElem?_eq_some_iff.1 h2).1 (by rintro rfl; rw [h2] at hm; cases hm)).trans h2, hb.own h3 fun k hk => ?_⟩
    rintro rfl
    rcases h3.2 with ⟨rfl, _⟩ | ⟨q, cq, cur, rfl, hq, hqg, _⟩
    · simp [Value.ownBlock] at hk
    · simp [Value.ownBlock] at hk; subst hk; rw [hm] at hqg; cases hqg
  exact h.imp (key _) (key _)
theorem WrtAt.below {B g : Nat} {w w' : World} {t : List UInt8} {nd f1 f2 : Value} (h : WrtAt w B g t nd f1 f2) (hb : Below w.heap.size w w') : WrtAt w' B g t nd f1 f2 := by
  have key : ∀ p, WrtP w B g p t nd f1 f2 → WrtP w' B g p t nd f1 f2 := by
    rintro p ⟨h1, v, h2, h3⟩
    exact ⟨h1, v, (hb.block g (Array.getElem?_eq_some_iff.1 h2).1).trans h2, owns_below h3 hb⟩
  exact h.imp (key _) (key _)
theorem WrtAt.cells {B g : Nat} {w : World} {t : List UInt8} {nd f1 f2 : Value} (h : WrtAt w B g t nd f1 f2) : g < w.heap.size ∧ B ≤ g ∧ w.cell? ⟨g, 2, none⟩ = some nd ∧ w.cell? ⟨g, 3, none⟩ = some f1 ∧ w.cell? ⟨g, 4, none⟩ = some f2 := by
  obtain ⟨q, v, hB, hg⟩ : ∃ q v, B ≤ g ∧ w.heap[g]? = some (.cells #[q, v, nd, f1, f2] 139 (0, 0)) := by
    rcases h with ⟨hB, v, h, _⟩ | ⟨hB, v, h, _⟩ <;> exact ⟨_, v, hB, h⟩
  have e := fun j => Lib.cell_of_heap hg j
  exact ⟨(Array.getElem?_eq_some_iff.1 hg).1, hB, (e 2).trans rfl, (e 3).trans rfl, (e 4).trans rfl⟩
/-- a writer at its work. -/
structure WrW (w0 w : World) (g p1 m1 p2 m2 b off cp : Nat) (ts : List Ty) (l : List UInt8) (n1 n2 : List Int) : Prop where
  wr : WrtAt w w0.heap.size g l (.slice (some ⟨b, off, none⟩) ts.length cp) (byV p1) (byV p2)
  na : NmAt w p1 m1 n1
  nb : NmAt w p2 m2 n2
  bel : Below w0.heap.size w0 w
  ma : w0.heap.size ≤ m1
  mb : w0.heap.size ≤ m2
  ne : m1 ≠ m2
theorem WrW.below {w0 w w' : World} {g p1 m1 p2 m2 b off cp : Nat} {ts : List Ty} {l : List UInt8} {n1 n2 : List Int} (h : WrW w0 w g p1 m1 p2 m2 b off cp ts l n1 n2) (hb : Below w.heap.size w w') : WrW w0 w' g p1 m1 p2 m2 b off cp ts l n1 n2 :=
  ⟨h.wr.below hb, h.na.below hb, h.nb.below hb, h.bel.trans (hb.mono h.bel.size), h.ma, h.mb, h.ne⟩
theorem WrW.wrote {w0 w w' : World} {g p1 m1 p2 m2 b off cp : Nat} {ts : List Ty} {l l' : List UInt8} {n1 n2 : List Int} (h : WrW w0 w g p1 m1 p2 m2 b off cp ts l n1 n2) (hw : WrtAt w' w0.heap.size g l' (.slice (some ⟨b, off, none⟩) ts.length cp) (byV p1) (byV p2)) (hb : BarU w0.heap.size g w w') : WrW w0 w' g p1 m1 p2 m2 b off cp ts l' n1 n2 :=
  ⟨hw, h.na.barU (l := []) hb h.wr, h.nb.barU (l := []) hb h.wr, h.bel.trans (Bar.below hb h.bel.size fun k hk => hk.1), h.ma, h.mb, h.ne⟩
theorem WrW.named1 {w0 w w' : World} {g p1 m1 p2 m2 b off cp : Nat} {ts : List Ty} {l : List UInt8} {n1 n2 n1' : List Int} (h : WrW w0 w g p1 m1 p2 m2 b off cp ts l n1 n2) (hn : NmAt w' p1 m1 n1') (hb : Bar (fun k => k = m1) w w') : WrW w0 w' g p1 m1 p2 m2 b off cp ts l n1' n2 :=
  ⟨h.wr.bar1 hb h.na.2.blk, hn, h.nb.bar1 hb h.na.2.blk (Ne.symm h.ne), h.bel.trans (hb.below h.bel.size fun k hk => by have hk : k = m1 := hk; have := h.ma; omega), h.ma, h.mb, h.ne⟩
theorem WrW.named2 {w0 w w' : World} {g p1 m1 p2 m2 b off cp : Nat} {ts : List Ty} {l : List UInt8} {n1 n2 n2' : List Int} (h : WrW w0 w g p1 m1 p2 m2 b off cp ts l n1 n2) (hn : NmAt w' p2 m2 n2') (hb : Bar (fun k => k = m2) w w') : WrW w0 w' g p1 m1 p2 m2 b off cp ts l n1 n2' :=
  ⟨h.wr.bar1 hb h.nb.2.blk, h.na.bar1 hb h.nb.2.blk h.ne, hn, h.bel.trans (hb.below h.bel.size fun k hk => by have hk : k = m2 := hk; have := h.mb; omega), h.ma, h.mb, h.ne⟩
end Go.Proofs.YtfkdcconmecaoaaDoor

/- Texts of types tell them but for names: plain facts. -/
namespace Go.Proofs.YtfkdcconmecaoaaDoor
set_option linter.unusedVariables false
set_option linter.unusedSimpArgs false

def isDg (b : UInt8) : Bool := decide (48 ≤ b.toNat ∧ b.toNat ≤ 57)
def valD (l : List UInt8) : Nat := l.foldl (fun a b => a * 10 + (b.toNat - 48)) 0
theorem dd_val (u : Nat) : valD (Lib.decDigits u) = u ∧ ∀ b ∈ Lib.decDigits u, isDg b = true := by
  induction u using Nat.strongRecOn with
  | _ u ih =>
    rw [Lib.decDigits]
    by_cases h : u < 10
    · rw [dif_pos h]
      have e : (UInt8.ofNat (48 + u)).toNat = 48 + u := by simp; omega
      refine ⟨by unfold valD; simp only [List.foldl]; rw [e]; omega, ?_⟩
      intro b hb
      rw [List.mem_singleton] at hb
      subst hb
      unfold isDg; rw [e]; exact decide_eq_true (by omega)
    · rw [dif_neg h]
      obtain ⟨h1, h2⟩ := ih (u / 10) (by omega)
      have e : (UInt8.ofNat (48 + u % 10)).toNat = 48 + u % 10 := by simp; omega
      refine ⟨?_, ?_⟩
      · unfold valD at h1 ⊢
        rw [List.foldl_append, h1]
        simp only [List.foldl]
        rw [e]; omega
      · intro b hb
        rcases List.mem_append.1 hb with hb | hb
        · exact h2 b hb
        · rw [List.mem_singleton] at hb
          subst hb
          unfold isDg; rw [e]; exact decide_eq_true (by omega)
/-- no digit stands here. -/
def Ends (X : List UInt8) : Prop := ∀ b, X.head? = some b → isDg b = false
theorem dg_take : ∀ (d X : List UInt8), (∀ b ∈ d, isDg b = true) → Ends X → (d ++ X).takeWhile isDg = d
  | [], X, _, hX => by
    cases X with
    | nil => rfl
    | cons b X => rw [List.nil_append, List.takeWhile_cons, hX b rfl]; rfl
  | b :: d, X, h, hX => by
    rw [List.cons_append, List.takeWhile_cons, h b (List.mem_cons_self ..), if_pos rfl, dg_take d X (fun c hc => h c (List.mem_cons_of_mem _ hc)) hX]
theorem it_split {n m : Nat} {X Y : List UInt8} (hX : Ends X) (hY : Ends Y) (h : Lib.itoa (n : Int) ++ X = Lib.itoa (m : Int) ++ Y) : n = m ∧ X = Y := by
  have e : ∀ k : Nat, Lib.itoa (k : Int) = Lib.decDigits k := fun k => by unfold Lib.itoa; rw [if_neg (by omega)]; rfl
  rw [e, e] at h
  have h1 := dg_take _ X (dd_val n).2 hX
  rw [h, dg_take _ Y (dd_val m).2 hY] at h1
  rw [h1] at h
  exact ⟨by rw [← (dd_val n).1, ← (dd_val m).1, h1], List.append_cancel_left h⟩
theorem by_split {c : UInt8} : ∀ {a b X Y : List UInt8}, a ++ c :: X = b ++ c :: Y → c ∉ a → c ∉ b → a = b ∧ X = Y
  | [], [], X, Y, h, _, _ => ⟨rfl, by injection h⟩
  | [], y :: b, X, Y, h, _, hb => by
    injection h with h1 _; exact absurd (h1 ▸ List.mem_cons_self ..) hb
  | x :: a, [], X, Y, h, ha, _ => by
    injection h with h1 _; exact absurd (h1 ▸ List.mem_cons_self ..) ha
  | x :: a, y :: b, X, Y, h, ha, hb => by
    injection h with h1 h2
    obtain ⟨h3, h4⟩ := by_split h2 (fun h => ha (List.mem_cons_of_mem _ h)) (fun h => hb (List.mem_cons_of_mem _ h))
    exact ⟨by rw [h1, h3], h4⟩
def rwJ (r : Rw) : List UInt8 := Lib.join ((opsL (cnt4 r.a r.b r.c r.d) 4).map (·.data.toList)) [44]
theorem rwT_eq (r : Rw) (s : List UInt8) : rwT r s = 60 :: (rwJ r ++ (if 0 ≤ r.t then 124 :: 101 :: s else [])) ++ [62] := by
  unfold rwT rowK rwJ
  by_cases h : 0 ≤ r.t
  · simp [h]
  · simp [h]
theorem join_count {b : UInt8} (hb : b ≠ 44) : ∀ xs : List (List UInt8), (Lib.join xs [44]).count b = (xs.map (List.count b)).sum := by
  intro xs
  cases xs with
  | nil => rfl
  | cons x r =>
    rw [Lib.join_cons, List.count_append, List.map_cons, List.sum_cons]
    congr 1
    unfold Lib.joinTail
    induction r with
    | nil => rfl
    | cons y r ih =>
      rw [List.map_cons, List.flatten_cons, List.count_append, List.count_append, ih, List.map_cons, List.sum_cons]
      have : List.count b [44] = 0 := by rw [List.count_eq_zero]; simpa using hb
      omega
theorem rwJ_count (r : Rw) {b : UInt8} (hb : b ≠ 44) (hb2 : b ≠ 111) : (rwJ r).count b = (if b = 48 then r.a.toNat else 0) + (if b = 49 then r.b.toNat else 0) + (if b = 50 then r.c.toNat else 0) + (if b = 51 then r.d.toNat else 0) := by
  unfold rwJ
  rw [join_count hb]
  have hs : ∀ (n k : Nat), (((List.replicate n (opB k)).map (·.data.toList)).map (List.count b)).sum = if b = UInt8.ofNat (48 + k) then n else 0 := by
    intro n k
    have e : (opB k).data.toList = [111, UInt8.ofNat (48 + k)] := rfl
    have e2 : List.count b [111, UInt8.ofNat (48 + k)] = if b = UInt8.ofNat (48 + k) then 1 else 0 := by
      rw [List.count_cons, List.count_cons, List.count_nil]
      have : ((111 : UInt8) == b) = false := by simpa using fun h => hb2 h.symm
      rw [this]
      by_cases h : b = UInt8.ofNat (48 + k)
      · subst h; simp
      · have : (UInt8.ofNat (48 + k) == b) = false := by rw [beq_eq_false_iff_ne]; exact fun h' => h h'.symm
        rw [this, if_neg h]; rfl
    induction n with
    | zero => simp
    | succ n ih =>
      rw [List.replicate_succ, List.map_cons, List.map_cons, List.sum_cons, ih, e, e2]
      split <;> omega
  have e0 : cnt4 r.a r.b r.c r.d 0 = r.a.toNat := rfl
  have e1 : cnt4 r.a r.b r.c r.d 1 = r.b.toNat := rfl
  have e2 : cnt4 r.a r.b r.c r.d 2 = r.c.toNat := rfl
  have e3 : cnt4 r.a r.b r.c r.d 3 = r.d.toNat := rfl
  simp only [opsL, List.nil_append, List.map_append, List.sum_append, hs, e0, e1, e2, e3]
  rfl
theorem rwJ_no (r : Rw) {b : UInt8} (hb : b ≠ 44) (hb2 : b ≠ 111) (h0 : b ≠ 48) (h1 : b ≠ 49) (h2 : b ≠ 50) (h3 : b ≠ 51) : b ∉ rwJ r := by
  rw [← List.count_eq_zero, rwJ_count r hb hb2, if_neg h0, if_neg h1, if_neg h2, if_neg h3]
theorem it_no {n : Nat} {b : UInt8} (hb : isDg b = false) : b ∉ Lib.itoa (n : Int) := by
  have e : Lib.itoa (n : Int) = Lib.decDigits n := by unfold Lib.itoa; rw [if_neg (by omega)]; rfl
  intro h
  rw [e] at h
  rw [(dd_val n).2 b h] at hb; cases hb
theorem rw_split {r r' : Rw} (h : r.may = true) (h' : r'.may = true) {n m : Nat} {X Y : List UInt8} (he : rwT r (Lib.itoa (n : Int)) ++ X = rwT r' (Lib.itoa (m : Int)) ++ Y) :
    (r.a = r'.a ∧ r.b = r'.b ∧ r.c = r'.c ∧ r.d = r'.d) ∧ (r.t < 0 ↔ r'.t < 0) ∧ (0 ≤ r.t → n = m) ∧ X = Y := by
  have hm := of_decide_eq_true (show mayR r.a r.b r.c r.d r.t = true from h)
  have hm' := of_decide_eq_true (show mayR r'.a r'.b r'.c r'.d r'.t = true from h')
  rw [rwT_eq, rwT_eq] at he
  simp only [List.cons_append, List.append_assoc, List.nil_append] at he
  injection he with _ he
  have key : ∀ (r : Rw) (n : Nat), (62 : UInt8) ∉ rwJ r ++ (if 0 ≤ r.t then 124 :: 101 :: Lib.itoa (n : Int) else []) := by
    intro r n hc
    rcases List.mem_append.1 hc with hc | hc
    · exact rwJ_no r (by decide) (by decide) (by decide) (by decide) (by decide) (by decide) hc
    · split at hc
      · rcases List.mem_cons.1 hc with hc | hc
        · exact absurd hc (by decide)
        · rcases List.mem_cons.1 hc with hc | hc
          · exact absurd hc (by decide)
          · exact it_no (by decide) hc
      · cases hc
  rw [← List.append_assoc, ← List.append_assoc] at he
  obtain ⟨h1, h2⟩ := by_split he (key r n) (key r' m)
  have n124 : ∀ r : Rw, (124 : UInt8) ∉ rwJ r := fun r => rwJ_no r (by decide) (by decide) (by decide) (by decide) (by decide) (by decide)
  have hJ : rwJ r = rwJ r' ∧ (r.t < 0 ↔ r'.t < 0) ∧ (0 ≤ r.t → n = m) := by
    by_cases ht : 0 ≤ r.t
    · by_cases ht' : 0 ≤ r'.t
      · rw [if_pos ht, if_pos ht'] at h1
        obtain ⟨h3, h4⟩ := by_split h1 (n124 r) (n124 r')
        injection h4 with _ h4
        refine ⟨h3, by omega, fun _ => ?_⟩
        exact (it_split (X := []) (Y := []) (fun _ h => by cases h) (fun _ h => by cases h) (by rw [List.append_nil, List.append_nil]; exact h4)).1
      · rw [if_pos ht, if_neg ht', List.append_nil] at h1
        exact absurd (h1 ▸ List.mem_append_right _ (List.mem_cons_self ..)) (n124 r')
    · by_cases ht' : 0 ≤ r'.t
      · rw [if_neg ht, if_pos ht', List.append_nil] at h1
        exact absurd (h1 ▸ List.mem_append_right _ (List.mem_cons_self ..)) (n124 r)
      · rw [if_neg ht, if_neg ht', List.append_nil, List.append_nil] at h1
        exact ⟨h1, by omega, fun h => absurd h ht⟩
  obtain ⟨hJ, hR⟩ := hJ
  have c0 := rwJ_count r (b := 48) (by decide) (by decide)
  have c1 := rwJ_count r (b := 49) (by decide) (by decide)
  have c2 := rwJ_count r (b := 50) (by decide) (by decide)
  have c3 := rwJ_count r (b := 51) (by decide) (by decide)
  rw [hJ, rwJ_count r' (by decide) (by decide)] at c0 c1 c2 c3
  simp at c0 c1 c2 c3
  exact ⟨by omega, hR.1, hR.2, h2⟩
/-- other names. -/
def renS (f : Int → Int) : Int → Option TT := fun v => some (.var (f v))
def renR (g : Int → Int) : Int → Option Rw := fun t => some ⟨0, 0, 0, 0, g t⟩
def renT (f g : Int → Int) (T : TT) : TT := putT (renS f) (renR g) T
theorem renT_base (f g : Int → Int) (k : Int) : renT f g (.base k) = .base k := rfl
theorem renT_var (f g : Int → Int) (v : Int) : renT f g (.var v) = .var (f v) := rfl
theorem renT_fn (f g : Int → Int) (a b : TT) (r : Rw) : renT f g (.fn a r b) = .fn (renT f g a) (if r.t < 0 then r else ⟨r.a, r.b, r.c, r.d, g r.t⟩) (renT f g b) := by
  show TT.fn (putT (renS f) (renR g) a) (putR (renR g) r) (putT (renS f) (renR g) b) = _
  unfold renT putR renR
  simp only [Int.zero_add]
theorem addI_pre (l : List Int) (v : Int) : ∃ e, addI l v = l ++ e := by
  unfold addI; split
  · exact ⟨[], (List.append_nil _).symm⟩
  · exact ⟨_, rfl⟩
theorem addT_pre (l : List Int) (v : Int) : ∃ e, addT l v = l ++ e := by
  unfold addT; split
  · exact ⟨[], (List.append_nil _).symm⟩
  · exact addI_pre l v
theorem tvs_pre : ∀ (T : TT) (l : List Int), ∃ e, tvs T l = l ++ e
  | .base _, l => ⟨[], (List.append_nil _).symm⟩
  | .var v, l => addI_pre l v
  | .fn a r b, l => by
    obtain ⟨e, h⟩ := tvs_pre a l
    obtain ⟨e', h'⟩ := tvs_pre b (tvs a l)
    exact ⟨e ++ e', by unfold tvs; rw [h', h, List.append_assoc]⟩
theorem rvs_pre : ∀ (T : TT) (l : List Int), ∃ e, rvs T l = l ++ e
  | .base _, l => ⟨[], (List.append_nil _).symm⟩
  | .var v, l => ⟨[], (List.append_nil _).symm⟩
  | .fn a r b, l => by
    obtain ⟨e, h⟩ := rvs_pre a l
    obtain ⟨e2, h2⟩ := addT_pre (rvs a l) r.t
    obtain ⟨e', h'⟩ := rvs_pre b (addT (rvs a l) r.t)
    exact ⟨e ++ e2 ++ e', by unfold rvs; rw [h', h2, h, List.append_assoc, List.append_assoc]; simp⟩
theorem pre_map {f : Int → Int} {l l' L L' : List Int} (h : ∃ e, L = l ++ e) (h' : ∃ e, L' = l' ++ e) (hl : l.length = l'.length) (hm : L.map f = L') : l.map f = l' := by
  obtain ⟨e, rfl⟩ := h
  obtain ⟨e', rfl⟩ := h'
  rw [List.map_append] at hm
  exact (List.append_inj hm (by simpa using hl)).1
theorem posI_get (l : List Int) (v : Int) : posI l v < (addI l v).length ∧ (addI l v).getD (posI l v) 0 = v := by
  have hm : v ∈ addI l v := (addI_mem l v v).2 (.inr rfl)
  have h1 : posI l v < (addI l v).length := List.findIdx_lt_length_of_exists ⟨v, hm, by simp⟩
  refine ⟨h1, ?_⟩
  rw [List.getD_eq_getElem?_getD, List.getElem?_eq_getElem h1]
  exact eq_of_beq (List.findIdx_getElem (xs := addI l v) (p := (· == v)) (w := h1))
theorem addI_sz (l : List Int) (v : Int) : (addI l v).length = max l.length (posI l v + 1) := by
  cases h : hasI l v
  · obtain ⟨h1, h2⟩ := posI_new h
    rw [h1, h2, List.length_append]; simp
  · have hm : v ∈ l := (hasI_iff l v).1 h
    have : l.findIdx (· == v) < l.length := List.findIdx_lt_length_of_exists ⟨v, hm, by simp⟩
    rw [posI_has h]; unfold addI; rw [h, if_pos rfl]; omega
theorem ends_nil : Ends [] := fun _ h => by cases h
theorem ends_cons {b : UInt8} {X : List UInt8} (h : isDg b = false) : Ends (b :: X) := fun c hc => by injection hc with hc; rw [← hc]; exact h
theorem map_pos {f : Int → Int} {na ma : List Int} {v u : Int} (hp : posI na v = posI ma u) (hm : (addI na v).map f = addI ma u) : f v = u := by
  have h1 := posI_get na v
  have h2 := posI_get ma u
  rw [← hp, ← hm, List.getD_eq_getElem?_getD, List.getElem?_map] at h2
  rw [List.getD_eq_getElem?_getD] at h1
  rw [List.getElem?_eq_getElem h1.1] at h1 h2
  simp only [Option.map_some, Option.getD_some] at h1 h2
  rw [h1.2] at h2
  exact h2.2
set_option maxHeartbeats 2000000 in
/-- a text tells its type but for names. -/
theorem tx_split : ∀ (A B : TT) (na nb ma mb : List Int) (X Y : List UInt8), A.ok = true → B.ok = true → Ends X → Ends Y → na.length = ma.length → nb.length = mb.length → tx A na nb ++ X = tx B ma mb ++ Y →
    X = Y ∧ (tvs A na).length = (tvs B ma).length ∧ (rvs A nb).length = (rvs B mb).length ∧ ∀ f g : Int → Int, (tvs A na).map f = tvs B ma → (rvs A nb).map g = rvs B mb → renT f g A = B
  | .base k, .base k', na, nb, ma, mb, X, Y, hA, hB, hX, hY, hn, hm, h => by
    have h1 : k = 0 ∨ k = 1 := by simpa [TT.ok] using hA
    have h2 : k' = 0 ∨ k' = 1 := by simpa [TT.ok] using hB
    rcases h1 with rfl | rfl <;> rcases h2 with rfl | rfl <;> simp [tx] at h
    · exact ⟨h, hn, hm, fun f g _ _ => rfl⟩
    · exact ⟨h, hn, hm, fun f g _ _ => rfl⟩
  | .base k, .var v, na, nb, ma, mb, X, Y, hA, hB, hX, hY, hn, hm, h => by
    have h1 : k = 0 ∨ k = 1 := by simpa [TT.ok] using hA
    rcases h1 with rfl | rfl <;> simp [tx] at h
  | .base k, .fn a r b, na, nb, ma, mb, X, Y, hA, hB, hX, hY, hn, hm, h => by
    have h1 : k = 0 ∨ k = 1 := by simpa [TT.ok] using hA
    rcases h1 with rfl | rfl <;> simp [tx] at h
  | .var v, .base k, na, nb, ma, mb, X, Y, hA, hB, hX, hY, hn, hm, h => by
    have h1 : k = 0 ∨ k = 1 := by simpa [TT.ok] using hB
    rcases h1 with rfl | rfl <;> simp [tx] at h
  | .var v, .var u, na, nb, ma, mb, X, Y, hA, hB, hX, hY, hn, hm, h => by
    unfold tx at h
    simp only [List.cons_append] at h
    injection h with _ h
    obtain ⟨h1, h2⟩ := it_split hX hY h
    refine ⟨h2, ?_, hm, fun f g hf hg => ?_⟩
    · show (addI na v).length = (addI ma u).length
      rw [addI_sz, addI_sz, h1, hn]
    · rw [renT_var, map_pos h1 hf]
  | .var v, .fn a r b, na, nb, ma, mb, X, Y, hA, hB, hX, hY, hn, hm, h => by simp [tx] at h
  | .fn a r b, .base k, na, nb, ma, mb, X, Y, hA, hB, hX, hY, hn, hm, h => by
    have h1 : k = 0 ∨ k = 1 := by simpa [TT.ok] using hB
    rcases h1 with rfl | rfl <;> simp [tx] at h
  | .fn a r b, .var v, na, nb, ma, mb, X, Y, hA, hB, hX, hY, hn, hm, h => by simp [tx] at h
  | .fn a r b, .fn a' r' b', na, nb, ma, mb, X, Y, hA, hB, hX, hY, hn, hm, h => by
    unfold TT.ok at hA hB
    simp only [Bool.and_eq_true] at hA hB
    unfold tx at h
    simp only [List.cons_append, List.append_assoc, List.nil_append] at h
    injection h with _ h
    obtain ⟨h1, l1, l2, k1⟩ := tx_split a a' na nb ma mb _ _ hA.1.1 hB.1.1 (ends_cons (by decide)) (ends_cons (by decide)) hn hm h
    injection h1 with _ h1
    injection h1 with _ h1
    obtain ⟨h2, h3, h4, h5⟩ := rw_split hA.1.2 hB.1.2 h1
    injection h5 with _ h5
    have lT : (addT (rvs a nb) r.t).length = (addT (rvs a' mb) r'.t).length := by
      unfold addT
      by_cases ht : r.t < 0
      · rw [if_pos ht, if_pos (h3.1 ht)]; exact l2
      · rw [if_neg ht, if_neg (fun h => ht (h3.2 h)), addI_sz, addI_sz, h4 (by omega), l2]
    obtain ⟨h6, l3, l4, k2⟩ := tx_split b b' _ _ _ _ _ _ hA.2 hB.2 (ends_cons (by decide)) (ends_cons (by decide)) l1 lT h5
    injection h6 with _ h6
    refine ⟨h6, l3, l4, fun f g hf hg => ?_⟩
    have hf1 := pre_map (tvs_pre b (tvs a na)) (tvs_pre b' (tvs a' ma)) l1 hf
    have hg2 := pre_map (rvs_pre b (addT (rvs a nb) r.t)) (rvs_pre b' (addT (rvs a' mb) r'.t)) lT hg
    have hg1 := pre_map (addT_pre (rvs a nb) r.t) (addT_pre (rvs a' mb) r'.t) l2 hg2
    rw [renT_fn, k1 f g hf1 hg1, k2 f g hf hg]
    congr 1
    obtain ⟨ra, rb, rc, rd, rt⟩ := r
    obtain ⟨ra', rb', rc', rd', rt'⟩ := r'
    simp only at h2 h3 h4 hg2 ⊢
    obtain ⟨rfl, rfl, rfl, rfl⟩ := h2
    have hr1 := (may_tail hA.1.2).1
    have hr2 := (may_tail hB.1.2).1
    (try simp only at hr1 hr2)
    by_cases ht : rt < 0
    · rw [if_pos ht]
      have := h3.1 ht
      obtain rfl : rt = -1 := by omega
      obtain rfl : rt' = -1 := by omega
      rfl
    · rw [if_neg ht]
      unfold addT at hg2
      rw [if_neg ht, if_neg (fun h => ht (h3.2 h))] at hg2
      rw [map_pos (h4 (by omega)) hg2]
theorem ex_map : ∀ {l l' : List Int}, l.Nodup → l.length = l'.length → ∃ f : Int → Int, l.map f = l'
  | [], [], _, _ => ⟨id, rfl⟩
  | x :: l, y :: l', h, hl => by
    rw [List.nodup_cons] at h
    obtain ⟨f, hf⟩ := ex_map h.2 (by simpa using hl)
    refine ⟨fun z => if z = x then y else f z, ?_⟩
    rw [List.map_cons, if_pos rfl, ← hf]
    congr 1
    refine List.map_congr_left fun z hz => if_neg ?_
    rintro rfl
    exact h.1 hz
/-- types with one text are one but for names. -/
theorem tx_ren_of {A B : TT} (hA : A.ok = true) (hB : B.ok = true) (h : tx A [] [] = tx B [] []) : ∃ f g, renT f g A = B := by
  obtain ⟨_, l1, l2, k⟩ := tx_split A B [] [] [] [] [] [] hA hB ends_nil ends_nil rfl rfl (by rw [h])
  obtain ⟨f, hf⟩ := ex_map (tvs_nodup A List.nodup_nil) l1
  obtain ⟨g, hg⟩ := ex_map (rvs_nodup A List.nodup_nil) l2
  exact ⟨f, g, k f g hf hg⟩
theorem tx_fn (A : TT) (r : Rw) (B : TT) (a b : List Int) : tx (.fn A r B) a b = [40] ++ tx A a b ++ ([32, 45] ++ rwT r (Lib.itoa (posI (rvs A b) r.t : Nat)) ++ [32]) ++ tx B (tvs A a) (addT (rvs A b) r.t) ++ [41] := rfl
theorem tvs_fn (A : TT) (r : Rw) (B : TT) (a : List Int) : tvs (.fn A r B) a = tvs B (tvs A a) := rfl
theorem rvs_fn (A : TT) (r : Rw) (B : TT) (b : List Int) : rvs (.fn A r B) b = rvs B (addT (rvs A b) r.t) := rfl
theorem fi_map {f : Int → Int} {P : Int → Prop} (hf : ∀ x y, P x → P y → f x = f y → x = y) {v : Int} (hv : P v) : ∀ l : List Int, (∀ x ∈ l, P x) → (l.map f).findIdx (· == f v) = l.findIdx (· == v) ∧ hasI (l.map f) (f v) = hasI l v
  | [], _ => ⟨rfl, rfl⟩
  | x :: l, h => by
    obtain ⟨h1, h2⟩ := fi_map hf hv l fun y hy => h y (List.mem_cons_of_mem _ hy)
    have e : (f x == f v) = (x == v) := by
      by_cases e : x = v
      · subst e; simp
      · have : f x ≠ f v := fun h' => e (hf x v (h x (List.mem_cons_self ..)) hv h')
        rw [beq_eq_false_iff_ne.2 this, beq_eq_false_iff_ne.2 e]
    refine ⟨by rw [List.map_cons, List.findIdx_cons, List.findIdx_cons, h1, e], ?_⟩
    unfold hasI at h2 ⊢
    rw [List.map_cons, decide_eq_decide, List.mem_cons, List.mem_cons]
    rw [decide_eq_decide] at h2
    rw [h2]
    have : f v = f x ↔ v = x := ⟨fun h' => (hf x v (h x (List.mem_cons_self ..)) hv h'.symm).symm, fun h' => by rw [h']⟩
    rw [this]
theorem addI_map {f : Int → Int} {P : Int → Prop} (hf : ∀ x y, P x → P y → f x = f y → x = y) {v : Int} (hv : P v) {l : List Int} (hl : ∀ x ∈ l, P x) : addI (l.map f) (f v) = (addI l v).map f ∧ posI (l.map f) (f v) = posI l v ∧ ∀ x ∈ addI l v, P x := by
  have h1 : addI (l.map f) (f v) = (addI l v).map f := by
    unfold addI
    rw [(fi_map hf hv l hl).2]
    split
    · rfl
    · rw [List.map_append]; rfl
  have h2 : ∀ x ∈ addI l v, P x := fun x hx => by
    rcases (addI_mem l v x).1 hx with hx | rfl
    · exact hl x hx
    · exact hv
  refine ⟨h1, ?_, h2⟩
  unfold posI
  rw [h1]
  exact (fi_map hf hv _ h2).1
/-- a text doesn't tell names. -/
theorem tx_renT {f g : Int → Int} {P Q : Int → Prop} (hf : ∀ x y, P x → P y → f x = f y → x = y) (hg : ∀ x y, Q x → Q y → g x = g y → x = y) (hg0 : ∀ x, Q x → 0 ≤ g x) : ∀ (A : TT) (na nb : List Int), (∀ x ∈ na, P x) → (∀ x ∈ nb, Q x) → (∀ x, hasV A x → P x) → (∀ x, hasT A x → Q x) →
    tx (renT f g A) (na.map f) (nb.map g) = tx A na nb ∧ tvs (renT f g A) (na.map f) = (tvs A na).map f ∧ rvs (renT f g A) (nb.map g) = (rvs A nb).map g ∧ (∀ x ∈ tvs A na, P x) ∧ (∀ x ∈ rvs A nb, Q x)
  | .base k, na, nb, hna, hnb, hv, ht => ⟨rfl, rfl, rfl, hna, hnb⟩
  | .var v, na, nb, hna, hnb, hv, ht => by
    rw [renT_var]
    obtain ⟨h1, h2, h3⟩ := addI_map hf (hv v rfl) hna
    refine ⟨by unfold tx; rw [h2], h1, rfl, h3, hnb⟩
  | .fn a r b, na, nb, hna, hnb, hv, ht => by
    obtain ⟨h1, h2, h3, h4, h5⟩ := tx_renT hf hg hg0 a na nb hna hnb (fun x h => hv x (.inl h)) (fun x h => ht x (.inl h))
    rw [renT_fn]
    obtain ⟨r', hr'⟩ : ∃ r' : Rw, (if r.t < 0 then r else ⟨r.a, r.b, r.c, r.d, g r.t⟩) = r' := ⟨_, rfl⟩
    have hT : addT ((rvs a nb).map g) r'.t = (addT (rvs a nb) r.t).map g ∧ (∀ x ∈ addT (rvs a nb) r.t, Q x) ∧ rwT r' (Lib.itoa (posI ((rvs a nb).map g) r'.t : Nat)) = rwT r (Lib.itoa (posI (rvs a nb) r.t : Nat)) := by
      by_cases h : r.t < 0
      · rw [if_pos h] at hr'
        subst hr'
        unfold addT
        rw [if_pos h, if_pos h]
        refine ⟨rfl, h5, ?_⟩
        rw [rwT_eq, rwT_eq, if_neg (by omega), if_neg (by omega)]
      · rw [if_neg h] at hr'
        subst hr'
        have hq : Q r.t := ht r.t (.inr (.inl ⟨by omega, rfl⟩))
        have hq0 := hg0 _ hq
        obtain ⟨e1, e2, e3⟩ := addI_map hg hq h5
        unfold addT
        simp only
        rw [if_neg h, if_neg (by omega)]
        refine ⟨e1, e3, ?_⟩
        rw [e2, rwT_eq, rwT_eq]
        simp only
        rw [if_pos (by omega), if_pos (by omega)]
        rfl
    obtain ⟨t1, t2, t3⟩ := hT
    obtain ⟨k1, k2, k3, k4, k5⟩ := tx_renT hf hg hg0 b (tvs a na) (addT (rvs a nb) r.t) h4 t2 (fun x h => hv x (.inr h)) (fun x h => ht x (.inr (.inr h)))
    rw [hr']
    simp only [tx_fn, tvs_fn, rvs_fn]
    rw [h1, h2, h3, t1, t3, k1]
    exact ⟨rfl, k2, k3, k4, k5⟩
/-! What a match has met. -/
def MS.le (m m' : MS) : Prop := (∀ v U, m.s v = some U → m'.s v = some U) ∧ (∀ t q, m.r t = some q → m'.r t = some q)
def MS.nn (m : MS) : Prop := ∀ t q, m.r t = some q → 0 ≤ q.a ∧ 0 ≤ q.b ∧ 0 ≤ q.c ∧ 0 ≤ q.d
theorem MS.le_refl (m : MS) : m.le m := ⟨fun _ _ h => h, fun _ _ h => h⟩
theorem MS.le_trans {m m' m'' : MS} (h : m.le m') (h' : m'.le m'') : m.le m'' := ⟨fun v U k => h'.1 v U (h.1 v U k), fun t q k => h'.2 t q (h.2 t q k)⟩
theorem le_updS {m : MS} {v : Int} {x : TT} (h : m.s v = none) : m.le ⟨upd m.s v x, m.r⟩ := by
  refine ⟨fun u U k => ?_, fun _ _ h => h⟩
  show upd m.s v x u = _
  unfold upd
  by_cases e : u = v
  · subst e; rw [h] at k; cases k
  · rw [if_neg e]; exact k
theorem le_updR {m : MS} {v : Int} {x : Rw} (h : m.r v = none) : m.le ⟨m.s, upd m.r v x⟩ := by
  refine ⟨fun _ _ h => h, fun u U k => ?_⟩
  show upd m.r v x u = _
  unfold upd
  by_cases e : u = v
  · subst e; rw [h] at k; cases k
  · rw [if_neg e]; exact k
theorem mtR_put {g s : Rw} {m m' : MS} (h : mtR g s m = some m') (hn : m.nn) : m.le m' ∧ m'.nn ∧ (g.t < 0 ∨ ∃ q, m'.r g.t = some q) ∧ ∀ m'' : MS, m'.le m'' → putR m''.r g = s := by
  unfold mtR at h
  by_cases ht : g.t < 0
  · rw [if_pos ht] at h
    by_cases e : g = s
    · rw [if_pos e] at h; injection h with h; subst h
      exact ⟨m.le_refl, hn, .inl ht, fun _ _ => by unfold putR; rw [if_pos ht, e]⟩
    · rw [if_neg e] at h; cases h
  · rw [if_neg ht] at h
    by_cases hge : geR s g = true
    · rw [if_pos hge] at h
      have hge' := of_decide_eq_true (show decide (g.a ≤ s.a ∧ g.b ≤ s.b ∧ g.c ≤ s.c ∧ g.d ≤ s.d) = true from hge)
      have hp : ∀ m'' : MS, m''.r g.t = some (subRw s g) → putR m''.r g = s := by
        intro m'' hq
        unfold putR
        rw [if_neg ht, hq]
        obtain ⟨sa, sb, sc, sd, st⟩ := s
        simp only [subRw, Rw.mk.injEq, and_true]
        omega
      cases hq : m.r g.t with
      | none =>
        rw [hq] at h
        injection h with h; subst h
        refine ⟨le_updR hq, ?_, .inr ⟨subRw s g, ?_⟩, fun m'' hl => hp m'' (hl.2 _ _ ?_)⟩
        · intro t q hh
          simp only [upd] at hh
          by_cases e : t = g.t
          · rw [if_pos e] at hh; injection hh with hh; subst hh
            unfold subRw; simp only; omega
          · rw [if_neg e] at hh; exact hn t q hh
        · show upd m.r g.t _ g.t = _; unfold upd; rw [if_pos rfl]
        · show upd m.r g.t _ g.t = _; unfold upd; rw [if_pos rfl]
      | some q =>
        rw [hq] at h
        simp only at h
        by_cases e : q = subRw s g
        · rw [if_pos e] at h; injection h with h; subst h
          exact ⟨m.le_refl, hn, .inr ⟨q, hq⟩, fun m'' hl => hp m'' (hl.2 _ _ (e ▸ hq))⟩
        · rw [if_neg e] at h; cases h
    · rw [if_neg hge] at h; cases h
theorem mtT_put : ∀ (g s : TT) (m m' : MS), mtT g s m = some m' → m.nn → m.le m' ∧ m'.nn ∧ (∀ v, hasV g v → ∃ U, m'.s v = some U) ∧ (∀ t, hasT g t → ∃ q, m'.r t = some q) ∧ ∀ m'' : MS, m'.le m'' → putT m''.s m''.r g = s
  | .base k, s, m, m', h, hn => by
    unfold mtT at h
    by_cases e : s = .base k
    · rw [if_pos e] at h; injection h with h; subst h
      exact ⟨m.le_refl, hn, fun _ h => (by cases h), fun _ h => (by cases h), fun _ _ => by rw [e]; rfl⟩
    · rw [if_neg e] at h; cases h
  | .var v, s, m, m', h, hn => by
    unfold mtT at h
    cases hq : m.s v with
    | none =>
      rw [hq] at h
      injection h with h; subst h
      have hu : upd m.s v s v = some s := by unfold upd; rw [if_pos rfl]
      exact ⟨le_updS hq, hn, fun u hu' => ⟨s, by rw [show u = v from hu']; exact hu⟩, fun _ h => (by cases h), fun m'' hl => by show (m''.s v).getD _ = s; rw [hl.1 v s hu]; rfl⟩
    | some q =>
      rw [hq] at h
      simp only at h
      by_cases e : q = s
      · rw [if_pos e] at h; injection h with h; subst h
        subst e
        exact ⟨m.le_refl, hn, fun u hu' => ⟨q, by rw [show u = v from hu']; exact hq⟩, fun _ h => (by cases h), fun m'' hl => by show (m''.s v).getD _ = q; rw [hl.1 v q hq]; rfl⟩
      · rw [if_neg e] at h; cases h
  | .fn a r b, .base k, m, m', h, hn => by unfold mtT at h; cases h
  | .fn a r b, .var k, m, m', h, hn => by unfold mtT at h; cases h
  | .fn a r b, .fn a' r' b', m, m', h, hn => by
    unfold mtT at h
    cases h1 : mtT a a' m with
    | none => rw [h1] at h; cases h
    | some m1 =>
      rw [h1, Option.bind_some] at h
      cases h2 : mtR r r' m1 with
      | none => rw [h2] at h; cases h
      | some m2 =>
        rw [h2, Option.bind_some] at h
        obtain ⟨k1, n1, v1, t1, p1⟩ := mtT_put a a' m m1 h1 hn
        obtain ⟨k2, n2, v2, p2⟩ := mtR_put h2 n1
        obtain ⟨k3, n3, v3, t3, p3⟩ := mtT_put b b' m2 m' h n2
        refine ⟨MS.le_trans k1 (MS.le_trans k2 k3), n3, ?_, ?_, fun m'' hl => ?_⟩
        · rintro v (hv | hv)
          · obtain ⟨U, hU⟩ := v1 v hv
            exact ⟨U, k3.1 _ _ (k2.1 _ _ hU)⟩
          · exact v3 v hv
        · rintro t (hv | ⟨hv, rfl⟩ | hv)
          · obtain ⟨U, hU⟩ := t1 t hv
            exact ⟨U, k3.2 _ _ (k2.2 _ _ hU)⟩
          · rcases v2 with v2 | ⟨q, v2⟩
            · omega
            · exact ⟨q, k3.2 _ _ v2⟩
          · exact t3 t hv
        · show TT.fn _ _ _ = _
          rw [p1 m'' (MS.le_trans k2 (MS.le_trans k3 hl)), p2 m'' (MS.le_trans k3 hl), p3 m'' hl]
theorem put_self (τ : Int → Option TT) (π : Int → Option Rw) : ∀ A : TT, putT τ π A = A → (∀ v, hasV A v → τ v = none ∨ τ v = some (.var v)) ∧ (∀ t, hasT A t → π t = none ∨ π t = some ⟨0, 0, 0, 0, t⟩)
  | .base k, _ => ⟨fun _ h => (by cases h), fun _ h => (by cases h)⟩
  | .var v, h => by
    refine ⟨fun u hu => ?_, fun _ h => (by cases h)⟩
    obtain rfl : u = v := hu
    have h : (τ u).getD (.var u) = .var u := h
    cases hτ : τ u with
    | none => exact .inl rfl
    | some U => rw [hτ] at h; exact .inr (by rw [show U = .var u from h])
  | .fn a r b, h => by
    have h : TT.fn (putT τ π a) (putR π r) (putT τ π b) = .fn a r b := h
    injection h with ha hr hb
    obtain ⟨h1, h2⟩ := put_self τ π a ha
    obtain ⟨h3, h4⟩ := put_self τ π b hb
    refine ⟨fun v hv => hv.elim (h1 v) (h3 v), ?_⟩
    rintro t (ht | ⟨ht, rfl⟩ | ht)
    · exact h2 t ht
    · unfold putR at hr
      rw [if_neg (by omega)] at hr
      cases hπ : π r.t with
      | none => exact .inl rfl
      | some q =>
        rw [hπ] at hr
        right
        obtain ⟨ra, rb, rc, rd, rt⟩ := r
        obtain ⟨qa, qb, qc, qd, qt⟩ := q
        simp only [Rw.mk.injEq] at hr
        simp only [Option.some.injEq, Rw.mk.injEq]
        omega
    · exact h4 t ht
theorem put_var {σ : Int → Option TT} {ρ : Int → Option Rw} {U : TT} {v : Int} (h : putT σ ρ U = .var v) : ∃ u, U = .var u := by
  cases U with
  | base k => cases h
  | var u => exact ⟨u, rfl⟩
  | fn a r b => cases h
theorem hasT_pos : ∀ (A : TT) (t : Int), hasT A t → 0 ≤ t
  | .base _, _, h => by cases h
  | .var _, _, h => by cases h
  | .fn a r b, t, h => by
    rcases h with h | ⟨h, rfl⟩ | h
    · exact hasT_pos a t h
    · exact h
    · exact hasT_pos b t h
/-- instances of each other have one text. -/
theorem tx_of_both {A B : TT} (h1 : instT A B = true) (h2 : instT B A = true) : tx A [] [] = tx B [] [] := by
  unfold instT at h1 h2
  obtain ⟨m, h1⟩ := Option.isSome_iff_exists.1 h1
  obtain ⟨m', h2⟩ := Option.isSome_iff_exists.1 h2
  have n0 : MS.none.nn := fun _ _ h => by cases h
  obtain ⟨_, nn1, v1, t1, p1⟩ := mtT_put A B _ _ h1 n0
  obtain ⟨_, nn2, v2, t2, p2⟩ := mtT_put B A _ _ h2 n0
  have p1 := p1 m m.le_refl
  have p2 := p2 m' m'.le_refl
  have hs : putT (thenT m.s m'.s m'.r) (thenR m.r m'.r) A = A := by rw [← putT_then, p1, p2]
  obtain ⟨s1, s2⟩ := put_self _ _ A hs
  have hV : ∀ v, hasV A v → ∃ u, m.s v = some (.var u) ∧ putT m'.s m'.r (.var u) = .var v := by
    intro v hv
    obtain ⟨U, hU⟩ := v1 v hv
    have := s1 v hv
    unfold thenT at this
    rw [hU] at this
    simp only [Option.some.injEq, false_or, reduceCtorEq] at this
    obtain ⟨u, rfl⟩ := put_var this
    exact ⟨u, hU, this⟩
  have hT : ∀ t, hasT A t → 0 ≤ t ∧ ∃ u, 0 ≤ u ∧ m.r t = some ⟨0, 0, 0, 0, u⟩ ∧ putR m'.r ⟨0, 0, 0, 0, u⟩ = ⟨0, 0, 0, 0, t⟩ := by
    intro t ht
    have ht0 : 0 ≤ t := hasT_pos A t ht
    obtain ⟨q, hq⟩ := t1 t ht
    have hs2 := s2 t ht
    have hqn := nn1 t q hq
    unfold thenR at hs2
    rw [hq] at hs2
    simp only [Option.some.injEq, false_or, reduceCtorEq] at hs2
    have hz : q.a = 0 ∧ q.b = 0 ∧ q.c = 0 ∧ q.d = 0 ∧ 0 ≤ q.t := by
      unfold putR at hs2
      by_cases h : q.t < 0
      · rw [if_pos h] at hs2
        rw [hs2] at h; simp only at h; omega
      · rw [if_neg h] at hs2
        cases hr : m'.r q.t with
        | none =>
          rw [hr] at hs2
          obtain ⟨qa, qb, qc, qd, qt⟩ := q
          simp only [Rw.mk.injEq] at hs2 ⊢
          omega
        | some q' =>
          rw [hr] at hs2
          have := nn2 _ _ hr
          simp only [Rw.mk.injEq] at hs2
          omega
    obtain ⟨qa, qb, qc, qd, qt⟩ := q
    simp only at hz
    obtain ⟨rfl, rfl, rfl, rfl, hz⟩ := hz
    exact ⟨ht0, qt, hz, hq, hs2⟩
  obtain ⟨f, hf⟩ : ∃ f : Int → Int, ∀ v, hasV A v → m.s v = some (.var (f v)) ∧ putT m'.s m'.r (.var (f v)) = .var v :=
    ⟨fun v => match m.s v with | some (.var u) => u | _ => 0, fun v hv => by obtain ⟨u, h1, h2⟩ := hV v hv; simp only [h1]; exact ⟨trivial, h2⟩⟩
  obtain ⟨g, hg⟩ : ∃ g : Int → Int, ∀ t, hasT A t → 0 ≤ g t ∧ m.r t = some ⟨0, 0, 0, 0, g t⟩ ∧ putR m'.r ⟨0, 0, 0, 0, g t⟩ = ⟨0, 0, 0, 0, t⟩ :=
    ⟨fun t => match m.r t with | some q => q.t | none => 0, fun t ht => by obtain ⟨_, u, h0, h1, h2⟩ := hT t ht; simp only [h1]; exact ⟨h0, trivial, h2⟩⟩
  have e : renT f g A = B := by
    rw [← p1]
    unfold renT
    refine putT_on A (fun v hv => ?_) (fun t ht => ?_)
    · rw [(hf v hv).1]; rfl
    · rw [(hg t ht).2.1]; rfl
  have := (tx_renT (f := f) (g := g) (P := hasV A) (Q := hasT A) (fun x y hx hy h => by
      have h1 := (hf x hx).2
      rw [h, (hf y hy).2] at h1
      injection h1 with h1; exact h1.symm) (fun x y hx hy h => by
      have h1 := (hg x hx).2.2
      rw [h, (hg y hy).2.2] at h1
      injection h1 with _ _ _ _ h1; exact h1.symm) (fun x hx => (hg x hx).1) A [] [] (fun _ h => by cases h) (fun _ h => by cases h) (fun _ h => h) (fun _ h => h)).1
  rw [e] at this
  exact this.symm
theorem both_of_tx {A B : TT} (hA : A.ok = true) (hB : B.ok = true) (h : tx A [] [] = tx B [] []) : instT A B = true := by
  obtain ⟨f, g, rfl⟩ := tx_ren_of hA hB h
  exact instT_put _ _ (fun v q h => by unfold renR at h; injection h with h; subst h; simp) A
theorem both_iff {A B : TT} (hA : A.ok = true) (hB : B.ok = true) : (instT A B && instT B A) = decide (tx A [] [] = tx B [] []) := by
  by_cases h : tx A [] [] = tx B [] []
  · rw [decide_eq_true h, both_of_tx hA hB h, both_of_tx hB hA h.symm]; rfl
  · rw [decide_eq_false h]
    cases h1 : instT A B
    · rfl
    · cases h2 : instT B A
      · rfl
      · exact absurd (tx_of_both h1 h2) h
theorem instT_self (A : TT) : instT A A = true := by
  have := instT_put (fun _ => none) (fun _ => none) (fun _ _ h => by cases h) A
  rwa [putT_id _ _ _ (fun _ => rfl) (fun _ => rfl)] at this
end Go.Proofs.YtfkdcconmecaoaaDoor

/- typ.writer's row and write, walked. -/
/- typ.writer's row and write, walked. -/
namespace Go.Proofs.YtfkdcconmecaoaaDoor
open Go.RowKit Go.Maps
set_option linter.unusedVariables false
set_option linter.unusedSimpArgs false

theorem rowK_neg {a b c d t : Int} (h : t < 0) (s s' : List UInt8) : rowK a b c d t s = rowK a b c d t s' := by
  unfold rowK; rw [if_neg (by omega), if_neg (by omega)]
theorem ba_list (x : ByteArray) : (⟨x.data.toList.toArray⟩ : ByteArray) = x := by apply ba_ext; simp
theorem enterBy : ∀ (xs : Array Value) (W : World), (callFunc 89 xs).run Tryd.prog W = .ok (.enter 89 xs) W := fun _ _ => by kernel_rfl
theorem bar_ne {w w' : World} {g m o : Nat} {v : Value} (hb : Bar (fun k => k = m) w w') (hc : w.cell? ⟨g, o, none⟩ = some v) (hm : ∃ es ck, w.heap[m]? = some (.map es ck)) : w'.cell? ⟨g, o, none⟩ = some v := by
  obtain ⟨es, ck, hm⟩ := hm
  refine hb.cell hc ?_
  rintro rfl
  unfold World.cell? at hc
  simp [hm] at hc
theorem row_bar {w w' : World} {g m : Nat} {r : Rw} (hb : Bar (fun k => k = m) w w') (h : RowAt w g r) (hm : ∃ es ck, w.heap[m]? = some (.map es ck)) : RowAt w' g r := by
  obtain ⟨h0, h1, h2, h3, h4, h5⟩ := h
  exact ⟨by have := hb.size; omega, bar_ne hb h1 hm, bar_ne hb h2 hm, bar_ne hb h3 hm, bar_ne hb h4 hm, bar_ne hb h5 hm⟩
set_option maxRecDepth 100000 in
set_option maxHeartbeats 8000000 in
theorem wrow_any (w0 w : World) (g p1 m1 p2 m2 b off cp : Nat) (ts : List Ty) (l : List UInt8) (n1 n2 : List Int) (ra rb rc rd rt : Int) (h : Hid (WrW w0 w g p1 m1 p2 m2 b off cp ts l n1 n2)) (hT : Hid (TabW w0)) (hr : Rw.may ⟨ra, rb, rc, rd, rt⟩ = true) (hn : n2.length ≤ 10000) :
    Calls Tryd.prog 92 #[.pointer (some ⟨g, 0, none⟩), .agg #[.int .i64 ra, .int .i64 rb, .int .i64 rc, .int .i64 rd, .int .i64 rt]] w fun e w' => e = .returned (.string (rowK ra rb rc rd rt (Lib.itoa (posI n2 rt : Nat)))) ∧ WrW w0 w' g p1 m1 p2 m2 b off cp ts l n1 (addT n2 rt) ∧ BarW w0.heap.size g m1 m2 w w' := by
  have hm := of_decide_eq_true (show mayR ra rb rc rd rt = true from hr)
  have hbA := below_alc w (.cells #[.int .i64 ra, .int .i64 rb, .int .i64 rc, .int .i64 rd, .int .i64 rt] 36)
  have kT := Lib.hid fun (W : World) (tl : Int) (h1 : 0 ≤ tl ∧ tl ≤ 1000000) (hW : Below w0.heap.size w0 W) => textk_any ra rb rc rd rt tl W hr h1 (Lib.hid (tab_keep hT.out hW (Nat.le_refl _)))
  have hW1 := Lib.hid (h.out.below hbA)
  have hR1 : RowAt (w.alloc (.cells #[.int .i64 ra, .int .i64 rb, .int .i64 rc, .int .i64 rd, .int .i64 rt] 36)) w.heap.size ⟨ra, rb, rc, rd, rt⟩ := row_lit _ _ _ ⟨ra, rb, rc, rd, rt⟩ rfl
  unfold TextPost at kT
  by_cases ht : rt < 0
  · have ha : addT n2 rt = n2 := by unfold addT; rw [if_pos ht]
    rw [ha, rowK_neg ht _ (Lib.itoa 0)]
    have kT0 := Lib.hid fun (W : World) hW => kT.out W 0 (by omega) hW
    generalize rowK ra rb rc rd rt (Lib.itoa 0) = TX at kT0 ⊢
    clear kT hR1 ha hm hr
    go_enter Tryd.func92, Tryd.ntmps92
    go_wp2_with fail
    refine (kT0.out _ hW1.out.bel).mono ?_
    rintro e w2 ⟨rfl, hb2⟩
    have hW2 := Lib.hid (hW1.out.below hb2)
    have hBr := Lib.hid (Bar.of_below (S := fun k => w0.heap.size ≤ k ∧ (k = g ∨ k = m1 ∨ k = m2 ∨ IsU8 w k)) (belT hbA hb2))
    clear hbA hb2
    go_wp2_with fail
    go_ret
    exact ⟨rfl, hW2.out, hBr.out⟩
  · have ha : addT n2 rt = addI n2 rt := by unfold addT; rw [if_neg ht]
    rw [ha]
    have hpl := posI_lt (l := n2) (v := rt)
    have kN := Lib.hid fun (W : World) (hW : NmAt W p2 m2 n2) => byFirst1_any p2 m2 n2 rt W (Lib.hid hW) (by omega) (by omega)
    have kT1 := Lib.hid fun (W : World) hW => kT.out W (posI n2 rt : Nat) (by omega) hW
    generalize rowK ra rb rc rd rt (Lib.itoa (posI n2 rt : Nat)) = TX at kT1 ⊢
    have hg := hW1.out.wr.cells
    have hk := enterBy
    clear kT ha hm hr hpl
    unfold byV at hg
    go_enter Tryd.func92, Tryd.ntmps92
    go_upto_region 3 with fail
    generalize hX : w.alloc (.cells #[.int .i64 ra, .int .i64 rb, .int .i64 rc, .int .i64 rd, .int .i64 rt] 36) = X at hbA hW1 hR1 hg ⊢
    clear hX
    generalize w.heap.size = kx at hR1 ⊢
    have hd : Below X.heap.size X X.drew := (Below.refl _ _).drew
    have hW2 := Lib.hid (hW1.out.below hd)
    have hS : ∀ W, RowAt W kx ⟨ra, rb, rc, rd, rt⟩ → ∀ q1 q2 l', WrtAt W w0.heap.size g l' q1 q2 (byV p2) → (W.cell? ⟨g, 4, none⟩ = some (.func (.func 89) #[] #[.pointer (some ⟨p2, 0, none⟩)]) ∧ W.cell? ⟨kx, 0, none⟩ = some (.int .i64 ra) ∧ W.cell? ⟨kx, 1, none⟩ = some (.int .i64 rb) ∧ W.cell? ⟨kx, 2, none⟩ = some (.int .i64 rc) ∧ W.cell? ⟨kx, 3, none⟩ = some (.int .i64 rd) ∧ W.cell? ⟨kx, 4, none⟩ = some (.int .i64 rt) ∧ g < W.heap.size ∧ kx < W.heap.size) := fun W hR q1 q2 l' hw =>
      ⟨hw.cells.2.2.2.2, hR.2.1, hR.2.2.1, hR.2.2.2.1, hR.2.2.2.2.1, hR.2.2.2.2.2, hw.cells.1, hR.1⟩
    have hR2 := hR1.below hd
    refine wp_region_held_drew (S := fun W => W.cell? ⟨g, 4, none⟩ = some (.func (.func 89) #[] #[.pointer (some ⟨p2, 0, none⟩)]) ∧ W.cell? ⟨kx, 0, none⟩ = some (.int .i64 ra) ∧ W.cell? ⟨kx, 1, none⟩ = some (.int .i64 rb) ∧ W.cell? ⟨kx, 2, none⟩ = some (.int .i64 rc) ∧ W.cell? ⟨kx, 3, none⟩ = some (.int .i64 rd) ∧ W.cell? ⟨kx, 4, none⟩ = some (.int .i64 rt) ∧ g < W.heap.size ∧ kx < W.heap.size) (by kernel_rfl) (hS _ hR2 _ _ _ hW2.out.wr) (fun hHeld => ?_)
    have hB2 := belT hbA hd
    generalize X.drew = W2 at hHeld hW2 hR2 hB2 ⊢
    clear hd hW1 hR1 hg hbA
    refine rg_take 0 (some 10) (v := ?vr1) rfl rfl (by kernel_rfl) (by kernel_rfl) (by kernel_rfl) (fun _ _ _ h => h) (by rfl) ?hyr1 (by assumption) ?_
    case hyr1 => intro W hSW; (try dsimp only at hSW); go_simp; (try with_reducible rfl)
    try simp only [Act.put, List.setIfInBounds_toArray, List.set_cons_zero, List.set_cons_succ]
    refine rg_take 1 (some 11) (v := ?vr2) rfl rfl (by kernel_rfl) (by kernel_rfl) (by kernel_rfl) (fun _ _ _ h => h) (by rfl) ?hyr2 (by assumption) ?_
    case hyr2 => intro W hSW; (try dsimp only at hSW); go_simp; (try with_reducible rfl)
    try simp only [Act.put, List.setIfInBounds_toArray, List.set_cons_zero, List.set_cons_succ]
    refine rg_take 2 (some 12) (v := ?vr3) rfl rfl (by kernel_rfl) (by kernel_rfl) (by kernel_rfl) (fun _ _ _ h => h) (by rfl) ?hyr3 (by assumption) ?_
    case hyr3 => intro W hSW; (try dsimp only at hSW); go_simp; (try with_reducible rfl)
    try simp only [Act.put, List.setIfInBounds_toArray, List.set_cons_zero, List.set_cons_succ]
    refine rg_take 3 (some 13) (v := ?vr4) rfl rfl (by kernel_rfl) (by kernel_rfl) (by kernel_rfl) (fun _ _ _ h => h) (by rfl) ?hyr4 (by assumption) ?_
    case hyr4 => intro W hSW; (try dsimp only at hSW); go_simp; (try with_reducible rfl)
    try simp only [Act.put, List.setIfInBounds_toArray, List.set_cons_zero, List.set_cons_succ]
    refine rg_take 4 (some 14) (v := ?vr5) rfl rfl (by kernel_rfl) (by kernel_rfl) (by kernel_rfl) (fun _ _ _ h => h) (by rfl) ?hyr5 (by assumption) ?_
    case hyr5 => intro W hSW; (try dsimp only at hSW); go_simp; (try with_reducible rfl)
    try simp only [Act.put, List.setIfInBounds_toArray, List.set_cons_zero, List.set_cons_succ]
    refine rg_take 5 (some 15) (v := ?vr6) rfl rfl (by kernel_rfl) (by kernel_rfl) (by kernel_rfl) (fun _ _ _ h => h) (by rfl) ?hyr6 (by assumption) ?_
    case hyr6 => intro W hSW; (try dsimp only at hSW); go_simp; (try with_reducible rfl)
    try simp only [Act.put, List.setIfInBounds_toArray, List.set_cons_zero, List.set_cons_succ]
    refine rg_take 6 (some 16) (v := ?vr7) rfl rfl (by kernel_rfl) (by kernel_rfl) (by kernel_rfl) (fun _ _ _ h => h) (by rfl) ?hyr7 (by assumption) ?_
    case hyr7 => intro W hSW; (try dsimp only at hSW); go_simp; (try with_reducible rfl)
    try simp only [Act.put, List.setIfInBounds_toArray, List.set_cons_zero, List.set_cons_succ]
    refine rg_one 7 rfl (by kernel_rfl) (by rfl) (fun K hK => ?_)
    go_simp
    (go_at_call 89; refine (kN.out _ hW2.out.nb).mono ?_; rintro e w3 ⟨rfl, hn3, hb3⟩)
    refine hK.out _ _ (hS _ (row_bar hb3 hR2 hW2.out.nb.2.blk) _ _ _ (hW2.out.wr.bar1 hb3 hW2.out.nb.2.blk)) (fun hHeld7 => ?_)
    clear hK K hHeld
    try simp only [Act.put, List.setIfInBounds_toArray, List.set_cons_zero, List.set_cons_succ]
    have hW3 := Lib.hid (hW2.out.named2 hn3 hb3)
    have hR3 := row_bar hb3 hR2 hW2.out.nb.2.blk
    refine rg_one 8 rfl (by kernel_rfl) (by rfl) (fun K hK => ?_)
    go_simp
    (go_at_call 107; refine (kT1.out _ hW3.out.bel).mono ?_; rintro e w4 ⟨rfl, hb4⟩)
    refine hK.out _ _ (hS _ (hR3.below hb4) _ _ _ (hW3.out.wr.below hb4)) (fun hHeld8 => ?_)
    clear hK K hHeld7
    try simp only [Act.put, List.setIfInBounds_toArray, List.set_cons_zero, List.set_cons_succ]
    refine rg_take 9 (some 4) (v := ?vr8) rfl rfl (by kernel_rfl) (by kernel_rfl) (by kernel_rfl) (fun _ _ _ h => h) (by rfl) ?hyr8 (by assumption) ?_
    case hyr8 => intro W hSW; (try dsimp only at hSW); go_simp; (try with_reducible rfl)
    try simp only [Act.put, List.setIfInBounds_toArray, List.set_cons_zero, List.set_cons_succ]
    refine wpAnyH_done (by kernel_rfl) ?_ _
    have hW4 := Lib.hid (hW3.out.below hb4)
    have hBr := Lib.hid (show BarW w0.heap.size g m1 m2 w w4 from
      BarW.trans (Bar.of_below (S := fun k => w0.heap.size ≤ k ∧ (k = g ∨ k = m1 ∨ k = m2 ∨ IsU8 w k)) hB2) (BarW.trans (BarW.of2 hb3 hW3.out.mb) (Bar.of_below hb4)))
    go_wp2_with fail
    go_ret
    exact ⟨rfl, hW4.out, hBr.out⟩
/-- a type's node in a block of its own. -/
def NdB (w : World) (k : Nat) (t : Ty) : Prop := w.heap[k]? = some (.cells (tyL1 t).toArray 38 (0, 0))
theorem NdB.cells {w : World} {k : Nat} {t : Ty} (h : NdB w k t) : k < w.heap.size ∧ w.cell? ⟨k, 0, none⟩ = some (.int .i64 t.k) ∧ w.cell? ⟨k, 1, none⟩ = some (.int .i64 t.v) ∧ w.cell? ⟨k, 2, none⟩ = some (.int .i64 t.a) ∧ w.cell? ⟨k, 3, none⟩ = some (.int .i64 t.b) ∧ w.cell? ⟨k, 4, none⟩ = some (.int .i64 t.c0) ∧ w.cell? ⟨k, 5, none⟩ = some (.int .i64 t.c1) ∧ w.cell? ⟨k, 6, none⟩ = some (.int .i64 t.c2) ∧ w.cell? ⟨k, 7, none⟩ = some (.int .i64 t.c3) ∧ w.cell? ⟨k, 8, none⟩ = some (.int .i64 t.t) := by
  have e := fun j => Lib.cell_of_heap (show w.heap[k]? = some (.cells (tyL1 t).toArray 38 (0, 0)) from h) j
  exact ⟨(Array.getElem?_eq_some_iff.1 h).1, (e 0).trans rfl, (e 1).trans rfl, (e 2).trans rfl, (e 3).trans rfl, (e 4).trans rfl, (e 5).trans rfl, (e 6).trans rfl, (e 7).trans rfl, (e 8).trans rfl⟩
theorem NdB.below {w w' : World} {k : Nat} {t : Ty} (h : NdB w k t) (hb : Below w.heap.size w w') : NdB w' k t := (hb.block k (Array.getElem?_eq_some_iff.1 h).1).trans h
theorem NdB.bar1 {w w' : World} {k m : Nat} {t : Ty} (h : NdB w k t) (hb : Bar (fun k => k = m) w w') (hm : ∃ es ck, w.heap[m]? = some (.map es ck)) : NdB w' k t := by
  obtain ⟨es, ck, hm⟩ := hm
  refine (hb.block k (Array.getElem?_eq_some_iff.1 h).1 ?_).trans h
  rintro rfl
  unfold NdB at h; rw [hm] at h; cases h
theorem NdB.wrote {w0 w w' : World} {g p1 m1 p2 m2 b off cp k : Nat} {ts : List Ty} {l : List UInt8} {n1 n2 : List Int} {t : Ty} (h : NdB w k t) (hw : WrW w0 w g p1 m1 p2 m2 b off cp ts l n1 n2) (hb : BarW w0.heap.size g m1 m2 w w') : NdB w' k t := by
  have h' : w.heap[k]? = some (.cells (tyL1 t).toArray 38 (0, 0)) := h
  obtain ⟨q, v, hg⟩ : ∃ q v, w.heap[g]? = some (.cells #[q, v, .slice (some ⟨b, off, none⟩) ts.length cp, byV p1, byV p2] 139 (0, 0)) := by
    rcases hw.wr with ⟨_, v, h, _⟩ | ⟨_, v, h, _⟩ <;> exact ⟨_, v, h⟩
  obtain ⟨es1, ck1, hm1⟩ := hw.na.2.blk
  obtain ⟨es2, ck2, hm2⟩ := hw.nb.2.blk
  refine (hb.block k (Array.getElem?_eq_some_iff.1 h).1 ?_).trans h
  rintro ⟨_, rfl | rfl | rfl | ⟨cs, fr, h2⟩⟩
  · rw [hg] at h'; injection h' with h'; injection h' with _ h' _; exact absurd h' (by decide)
  · rw [hm1] at h'; cases h'
  · rw [hm2] at h'; cases h'
  · rw [h2] at h'; injection h' with h'; injection h' with _ h' _; exact absurd h' (by decide)
def WrPost (w0 w : World) (g p1 m1 p2 m2 b off cp : Nat) (ts : List Ty) (l : List UInt8) (n1 n2 : List Int) (e : Ending) (w' : World) : Prop :=
  e = .returned (.tuple #[]) ∧ WrW w0 w' g p1 m1 p2 m2 b off cp ts l n1 n2 ∧ BarW w0.heap.size g m1 m2 w w'
theorem ndB_new (w : World) (t : Ty) : NdB (w.alloc (.cells #[.int .i64 t.k, .int .i64 t.v, .int .i64 t.a, .int .i64 t.b, .int .i64 t.c0, .int .i64 t.c1, .int .i64 t.c2, .int .i64 t.c3, .int .i64 t.t] 38)) w.heap.size t := alloc_last _ _
theorem barW_alloc {B g m1 m2 : Nat} (w : World) (o : Obj) : BarW B g m1 m2 w (w.alloc o) := Bar.of_below (below_alc _ _)
set_option maxRecDepth 100000 in
set_option maxHeartbeats 16000000 in
theorem write_any (w0 : World) (g p1 m1 p2 m2 b off cp : Nat) (ts : List Ty) (hT : Hid (TabW w0)) (hts : Hid (TySl w0 b off ts)) (hbw : b < w0.heap.size) (hl256 : ts.length ≤ 256) :
    ∀ (T : TT) (i : Nat) (w : World) (l : List UInt8) (n1 n2 : List Int), Hid (WrW w0 w g p1 m1 p2 m2 b off cp ts l n1 n2) → SubAt ts T i → T.ok = true → n1.length + T.sz ≤ 1000 → n2.length + T.sz ≤ 1000 → l.length + T.sz * 600 ≤ 10000000 →
    Calls Tryd.prog 75 #[.pointer (some ⟨g, 0, none⟩), .int .i64 i] w (WrPost w0 w g p1 m1 p2 m2 b off cp ts (l ++ tx T n1 n2) (tvs T n1) (rvs T n2)) := by
  intro T
  induction T with
  | base k =>
    intro i w l n1 n2 h hs ho h1 h2 h3
    obtain ⟨hil, hnd⟩ := hs
    have hcell := (hts.out.below h.out.bel hbw) i hil
    rw [hnd] at hcell
    have hk : k = 0 ∨ k = 1 := by simpa [TT.ok] using ho
    have hA := Lib.hid (h.out.below (below_alc w (.cells #[.int .i64 k, .int .i64 0, .int .i64 0, .int .i64 0, .int .i64 0, .int .i64 0, .int .i64 0, .int .i64 0, .int .i64 0] 38)))
    obtain ⟨c0, c1, c2, _, _⟩ := h.out.wr.cells
    have hbl : b < w.heap.size := by have := h.out.bel.size; omega
    obtain ⟨e0, e1, e2, e3, e4, e5, e6, e7, e8⟩ := hcell
    unfold bsT at e0 e1 e2 e3 e4 e5 e6 e7 e8
    simp only [] at e0 e1 e2 e3 e4 e5 e6 e7 e8
    have hi1 : (0 : Int) ≤ (i : Int) := by omega
    have hi2 : (i : Int) < (ts.length : Int) := by omega
    unfold WrPost
    rcases hk with rfl | rfl
    · have kW := Lib.hid fun (W : World) (hw : WrW w0 W g p1 m1 p2 m2 b off cp ts l n1 n2) => wr_string w0.heap.size g l _ _ _ ⟨#[105, 110, 116]⟩ W (Lib.hid hw.wr) (by show l.length + 3 ≤ _; omega)
      have hfin := Lib.hid fun (W W' : World) (hw : WrW w0 W g p1 m1 p2 m2 b off cp ts l n1 n2) (hb0 : BarW w0.heap.size g m1 m2 w W) (hx : WrtAt W' w0.heap.size g (l ++ (⟨#[105, 110, 116]⟩ : ByteArray).data.toList) (.slice (some ⟨b, off, none⟩) ts.length cp) (byV p1) (byV p2)) (hb : BarU w0.heap.size g W W') => (show WrW w0 W' g p1 m1 p2 m2 b off cp ts (l ++ tx (.base 0) n1 n2) (tvs (.base 0) n1) (rvs (.base 0) n2) ∧ BarW w0.heap.size g m1 m2 w W' from ⟨hw.wrote hx hb, hb0.trans (BarW.ofU hb)⟩)
      clear h hnd h1 h2 h3 hts
      go_enter Tryd.func75, Tryd.ntmps75
      go_wp2_with fail
      refine (kW.out _ hA.out).mono ?_
      rintro e w2 ⟨rfl, hx, hb⟩
      have hF := Lib.hid (hfin.out _ _ hA.out (barW_alloc _ _) hx hb)
      clear hx hb
      go_wp2_with fail
      go_end0
      exact ⟨rfl, hF.out⟩
    · have kW := Lib.hid fun (W : World) (hw : WrW w0 W g p1 m1 p2 m2 b off cp ts l n1 n2) => wr_string w0.heap.size g l _ _ _ ⟨#[98, 111, 111, 108]⟩ W (Lib.hid hw.wr) (by show l.length + 4 ≤ _; omega)
      have hfin := Lib.hid fun (W W' : World) (hw : WrW w0 W g p1 m1 p2 m2 b off cp ts l n1 n2) (hb0 : BarW w0.heap.size g m1 m2 w W) (hx : WrtAt W' w0.heap.size g (l ++ (⟨#[98, 111, 111, 108]⟩ : ByteArray).data.toList) (.slice (some ⟨b, off, none⟩) ts.length cp) (byV p1) (byV p2)) (hb : BarU w0.heap.size g W W') => (show WrW w0 W' g p1 m1 p2 m2 b off cp ts (l ++ tx (.base 1) n1 n2) (tvs (.base 1) n1) (rvs (.base 1) n2) ∧ BarW w0.heap.size g m1 m2 w W' from ⟨hw.wrote hx hb, hb0.trans (BarW.ofU hb)⟩)
      clear h hnd h1 h2 h3 hts
      go_enter Tryd.func75, Tryd.ntmps75
      go_wp2_with fail
      refine (kW.out _ hA.out).mono ?_
      rintro e w2 ⟨rfl, hx, hb⟩
      have hF := Lib.hid (hfin.out _ _ hA.out (barW_alloc _ _) hx hb)
      clear hx hb
      go_wp2_with fail
      go_end0
      exact ⟨rfl, hF.out⟩
  | var v =>
    intro i w l n1 n2 h hs ho h1 h2 h3
    obtain ⟨hil, hnd⟩ := hs
    have hcell := (hts.out.below h.out.bel hbw) i hil
    rw [hnd] at hcell
    have hA := Lib.hid (h.out.below (below_alc w (.cells #[.int .i64 (vrT v).k, .int .i64 (vrT v).v, .int .i64 (vrT v).a, .int .i64 (vrT v).b, .int .i64 (vrT v).c0, .int .i64 (vrT v).c1, .int .i64 (vrT v).c2, .int .i64 (vrT v).c3, .int .i64 (vrT v).t] 38)))
    have hN := Lib.hid (ndB_new w (vrT v))
    have hB := Lib.hid (barW_alloc (B := w0.heap.size) (g := g) (m1 := m1) (m2 := m2) w (.cells #[.int .i64 (vrT v).k, .int .i64 (vrT v).v, .int .i64 (vrT v).a, .int .i64 (vrT v).b, .int .i64 (vrT v).c0, .int .i64 (vrT v).c1, .int .i64 (vrT v).c2, .int .i64 (vrT v).c3, .int .i64 (vrT v).t] 38))
    obtain ⟨c0, c1, c2, _, _⟩ := h.out.wr.cells
    have hbl : b < w.heap.size := by have := h.out.bel.size; omega
    obtain ⟨e0, e1, e2, e3, e4, e5, e6, e7, e8⟩ := hcell
    unfold vrT at e0 e1 e2 e3 e4 e5 e6 e7 e8 hA hB
    simp only [] at e0 e1 e2 e3 e4 e5 e6 e7 e8 hA hB
    have hi1 : (0 : Int) ≤ (i : Int) := by omega
    have hi2 : (i : Int) < (ts.length : Int) := by omega
    unfold WrPost
    have hv : 0 ≤ v ∧ v < 4096 := by unfold TT.ok at ho; simp only [Bool.and_eq_true, decide_eq_true_eq] at ho; exact ho
    unfold TT.sz at h1 h2 h3
    have hpl := posI_lt (l := n1) (v := v)
    have hil2 := itoa_len (posI n1 v : Nat) (by omega) (by omega)
    have kN := Lib.hid fun (W : World) (hW : NmAt W p1 m1 n1) => byFirst1_any p1 m1 n1 v W (Lib.hid hW) hv (by omega)
    have kI := Lib.hid fun (W : World) (hW : Below w0.heap.size w0 W) => itoa_any (posI n1 v : Nat) W (by omega) (by omega) (Lib.hid (tab_keep hT.out hW (Nat.le_refl _)))
    rw [show tx (.var v) n1 n2 = 116 :: Lib.itoa (posI n1 v : Nat) from rfl, show tvs (.var v) n1 = addI n1 v from rfl, show rvs (.var v) n2 = n2 from rfl]
    generalize Lib.itoa (posI n1 v : Nat) = IT at kI hil2 ⊢
    have kW := Lib.hid fun (W : World) (n : List Int) (hw : WrW w0 W g p1 m1 p2 m2 b off cp ts l n n2) => wr_string w0.heap.size g l _ _ _ ((⟨#[116]⟩ : ByteArray) ++ ⟨IT.toArray⟩) W (Lib.hid hw.wr) (by rw [ByteArray.size_append]; show l.length + (1 + IT.toArray.size) ≤ _; simp; omega)
    have hfin := Lib.hid fun (W W' : World) (n : List Int) (hw : WrW w0 W g p1 m1 p2 m2 b off cp ts l n n2) (hb0 : BarW w0.heap.size g m1 m2 w W) (hx : WrtAt W' w0.heap.size g (l ++ ((⟨#[116]⟩ : ByteArray) ++ ⟨IT.toArray⟩).data.toList) (.slice (some ⟨b, off, none⟩) ts.length cp) (byV p1) (byV p2)) (hb : BarU w0.heap.size g W W') => (show WrW w0 W' g p1 m1 p2 m2 b off cp ts (l ++ 116 :: IT) n n2 ∧ BarW w0.heap.size g m1 m2 w W' from ⟨hw.wrote (by simpa using hx) hb, hb0.trans (BarW.ofU hb)⟩)
    have hk := enterBy
    have hsum : ¬ 9223372036854775807 < 1 + IT.length := by omega
    clear h hnd h1 h2 h3 hts hpl ho
    go_enter Tryd.func75, Tryd.ntmps75
    go_upto_region 7 with fail
    generalize hX : w.alloc (.cells #[.int .i64 2, .int .i64 v, .int .i64 0, .int .i64 0, .int .i64 0, .int .i64 0, .int .i64 0, .int .i64 0, .int .i64 0] 38) = X at hA hB ⊢
    have hN : Hid (NdB X w.heap.size (vrT v)) := Lib.hid (by rw [← hX]; exact hN.out)
    clear hX e0 e1 e2 e3 e4 e5 e6 e7 e8 c0 c2
    generalize w.heap.size = kx at hN ⊢
    have hd : Below X.heap.size X X.drew := (Below.refl _ _).drew
    have hA2 := Lib.hid (hA.out.below hd)
    have hN2 := Lib.hid (hN.out.below hd)
    have hB2 := Lib.hid (hB.out.trans (Bar.of_below hd))
    have hS : ∀ W, NdB W kx (vrT v) → ∀ q1 q2 l', WrtAt W w0.heap.size g l' q1 (byV p1) q2 → (W.cell? ⟨g, 3, none⟩ = some (.func (.func 89) #[] #[.pointer (some ⟨p1, 0, none⟩)]) ∧ W.cell? ⟨kx, 1, none⟩ = some (.int .i64 v) ∧ g < W.heap.size ∧ kx < W.heap.size) := fun W hR q1 q2 l' hw => ⟨hw.cells.2.2.2.1, hR.cells.2.2.1, hw.cells.1, hR.cells.1⟩
    clear hA hN hB
    refine wp_region_held_drew (S := fun W => W.cell? ⟨g, 3, none⟩ = some (.func (.func 89) #[] #[.pointer (some ⟨p1, 0, none⟩)]) ∧ W.cell? ⟨kx, 1, none⟩ = some (.int .i64 v) ∧ g < W.heap.size ∧ kx < W.heap.size) (by kernel_rfl) (hS _ hN2.out _ _ _ hA2.out.wr) (fun hHeld => ?_)
    generalize X.drew = W2 at hHeld hA2 hN2 hB2 ⊢
    clear hd
    refine rg_take 0 (some 28) (v := ?vv1) rfl rfl (by kernel_rfl) (by kernel_rfl) (by kernel_rfl) (fun _ _ _ h => h) (by rfl) ?hyv1 (by assumption) ?_
    case hyv1 => intro W hSW; (try dsimp only at hSW); go_simp; (try with_reducible rfl)
    try simp only [Act.put, List.setIfInBounds_toArray, List.set_cons_zero, List.set_cons_succ]
    refine rg_take 1 (some 29) (v := ?vv2) rfl rfl (by kernel_rfl) (by kernel_rfl) (by kernel_rfl) (fun _ _ _ h => h) (by rfl) ?hyv2 (by assumption) ?_
    case hyv2 => intro W hSW; (try dsimp only at hSW); go_simp; (try with_reducible rfl)
    try simp only [Act.put, List.setIfInBounds_toArray, List.set_cons_zero, List.set_cons_succ]
    refine rg_take 2 (some 30) (v := ?vv3) rfl rfl (by kernel_rfl) (by kernel_rfl) (by kernel_rfl) (fun _ _ _ h => h) (by rfl) ?hyv3 (by assumption) ?_
    case hyv3 => intro W hSW; (try dsimp only at hSW); go_simp; (try with_reducible rfl)
    try simp only [Act.put, List.setIfInBounds_toArray, List.set_cons_zero, List.set_cons_succ]
    refine rg_take 3 (some 31) (v := ?vv4) rfl rfl (by kernel_rfl) (by kernel_rfl) (by kernel_rfl) (fun _ _ _ h => h) (by rfl) ?hyv4 (by assumption) ?_
    case hyv4 => intro W hSW; (try dsimp only at hSW); go_simp; (try with_reducible rfl)
    try simp only [Act.put, List.setIfInBounds_toArray, List.set_cons_zero, List.set_cons_succ]
    refine rg_take 4 (some 32) (v := ?vv5) rfl rfl (by kernel_rfl) (by kernel_rfl) (by kernel_rfl) (fun _ _ _ h => h) (by rfl) ?hyv5 (by assumption) ?_
    case hyv5 => intro W hSW; (try dsimp only at hSW); go_simp; (try with_reducible rfl)
    try simp only [Act.put, List.setIfInBounds_toArray, List.set_cons_zero, List.set_cons_succ]
    refine rg_take 5 (some 33) (v := ?vv6) rfl rfl (by kernel_rfl) (by kernel_rfl) (by kernel_rfl) (fun _ _ _ h => h) (by rfl) ?hyv6 (by assumption) ?_
    case hyv6 => intro W hSW; (try dsimp only at hSW); go_simp; (try with_reducible rfl)
    try simp only [Act.put, List.setIfInBounds_toArray, List.set_cons_zero, List.set_cons_succ]
    refine rg_take 6 (some 34) (v := ?vv7) rfl rfl (by kernel_rfl) (by kernel_rfl) (by kernel_rfl) (fun _ _ _ h => h) (by rfl) ?hyv7 (by assumption) ?_
    case hyv7 => intro W hSW; (try dsimp only at hSW); go_simp; (try with_reducible rfl)
    try simp only [Act.put, List.setIfInBounds_toArray, List.set_cons_zero, List.set_cons_succ]
    refine rg_take 7 (some 35) (v := ?vv8) rfl rfl (by kernel_rfl) (by kernel_rfl) (by kernel_rfl) (fun _ _ _ h => h) (by rfl) ?hyv8 (by assumption) ?_
    case hyv8 => intro W hSW; (try dsimp only at hSW); go_simp; (try with_reducible rfl)
    try simp only [Act.put, List.setIfInBounds_toArray, List.set_cons_zero, List.set_cons_succ]
    refine rg_take 8 (some 36) (v := ?vv9) rfl rfl (by kernel_rfl) (by kernel_rfl) (by kernel_rfl) (fun _ _ _ h => h) (by rfl) ?hyv9 (by assumption) ?_
    case hyv9 => intro W hSW; (try dsimp only at hSW); go_simp; (try with_reducible rfl)
    try simp only [Act.put, List.setIfInBounds_toArray, List.set_cons_zero, List.set_cons_succ]
    refine rg_one 9 rfl (by kernel_rfl) (by rfl) (fun K hK => ?_)
    go_simp
    (go_at_call 89; refine (kN.out _ hA2.out.na).mono ?_; rintro e w3 ⟨rfl, hn3, hb3⟩)
    refine hK.out _ _ (hS _ (hN2.out.bar1 hb3 hA2.out.na.2.blk) _ _ _ (hA2.out.wr.bar1 hb3 hA2.out.na.2.blk)) (fun hHeld9 => ?_)
    clear hK K hHeld
    try simp only [Act.put, List.setIfInBounds_toArray, List.set_cons_zero, List.set_cons_succ]
    have hA3 := Lib.hid (hA2.out.named1 hn3 hb3)
    have hN3 := Lib.hid (hN2.out.bar1 hb3 hA2.out.na.2.blk)
    have hB3 := Lib.hid (hB2.out.trans (BarW.of1 hb3 hA2.out.ma))
    refine rg_one 10 rfl (by kernel_rfl) (by rfl) (fun K hK => ?_)
    go_simp
    (go_at_call 91; refine (kI.out _ hA3.out.bel).mono ?_; rintro e w4 ⟨rfl, hb4⟩)
    refine hK.out _ _ (hS _ (hN3.out.below hb4) _ _ _ (hA3.out.wr.below hb4)) (fun hHeld10 => ?_)
    clear hK K hHeld9
    try simp only [Act.put, List.setIfInBounds_toArray, List.set_cons_zero, List.set_cons_succ]
    have hA4 := Lib.hid (hA3.out.below hb4)
    have hN4 := Lib.hid (hN3.out.below hb4)
    have hB4 := Lib.hid (hB3.out.trans (Bar.of_below hb4))
    refine rg_take 11 (some 39) (v := ?vv10) rfl rfl (by kernel_rfl) (by kernel_rfl) (by kernel_rfl) (fun _ _ _ h => h) (by rfl) ?hyv10 (by assumption) ?_
    case hyv10 => intro W hSW; (try dsimp only at hSW); go_simp; (try with_reducible rfl)
    try simp only [Act.put, List.setIfInBounds_toArray, List.set_cons_zero, List.set_cons_succ]
    refine rg_one 12 rfl (by kernel_rfl) (by rfl) (fun K hK => ?_)
    go_simp
    (go_at_call 90; refine (kW.out _ _ hA4.out).mono ?_; rintro e w5 ⟨rfl, hx5, hb5⟩)
    refine hK.out _ _ (hS _ (hN4.out.wrote hA4.out (BarW.ofU hb5)) _ _ _ hx5) (fun hHeld12 => ?_)
    clear hK K hHeld10
    try simp only [Act.put, List.setIfInBounds_toArray, List.set_cons_zero, List.set_cons_succ]
    refine wpAnyH_done (by kernel_rfl) ?_ _
    have hF := Lib.hid (hfin.out _ _ _ hA4.out hB4.out hx5 hb5)
    clear hx5 hb5
    go_wp2_with fail
    go_end0
    exact ⟨rfl, hF.out⟩
  | fn a r c iha ihb =>
    intro i w l n1 n2 h hs ho h1 h2 h3
    obtain ⟨hil, j, k, hnd, hji, hki, hsa, hsb⟩ := hs
    have hcell := (hts.out.below h.out.bel hbw) i hil
    rw [hnd] at hcell
    have hA := Lib.hid (h.out.below (below_alc w (.cells #[.int .i64 (fnT j k r).k, .int .i64 (fnT j k r).v, .int .i64 (fnT j k r).a, .int .i64 (fnT j k r).b, .int .i64 (fnT j k r).c0, .int .i64 (fnT j k r).c1, .int .i64 (fnT j k r).c2, .int .i64 (fnT j k r).c3, .int .i64 (fnT j k r).t] 38)))
    have hN := Lib.hid (ndB_new w (fnT j k r))
    have hB := Lib.hid (barW_alloc (B := w0.heap.size) (g := g) (m1 := m1) (m2 := m2) w (.cells #[.int .i64 (fnT j k r).k, .int .i64 (fnT j k r).v, .int .i64 (fnT j k r).a, .int .i64 (fnT j k r).b, .int .i64 (fnT j k r).c0, .int .i64 (fnT j k r).c1, .int .i64 (fnT j k r).c2, .int .i64 (fnT j k r).c3, .int .i64 (fnT j k r).t] 38))
    obtain ⟨c0, c1, c2, _, _⟩ := h.out.wr.cells
    have hbl : b < w.heap.size := by have := h.out.bel.size; omega
    obtain ⟨e0, e1, e2, e3, e4, e5, e6, e7, e8⟩ := hcell
    unfold fnT at e0 e1 e2 e3 e4 e5 e6 e7 e8 hA hB
    simp only [] at e0 e1 e2 e3 e4 e5 e6 e7 e8 hA hB
    have hi1 : (0 : Int) ≤ (i : Int) := by omega
    have hi2 : (i : Int) < (ts.length : Int) := by omega
    unfold WrPost
    unfold TT.ok at ho
    simp only [Bool.and_eq_true] at ho
    unfold TT.sz at h1 h2 h3
    have t1 := tvs_len a n1
    have t2 := rvs_len a n2
    have t3 := addT_len (rvs a n2) r.t
    have t4 := tx_len a n1 n2 ho.1.1 (by omega) (by omega)
    have t5 := rwT_len ho.1.2 (Lib.itoa (posI (rvs a n2) r.t : Nat)) (by have := itoa_len (posI (rvs a n2) r.t : Nat) (by omega) (by have := posI_lt (l := rvs a n2) (v := r.t); omega); omega)
    have kO := Lib.hid fun (W : World) (s : ByteArray) (l : List UInt8) (n n' : List Int) (hs : l.length + s.size ≤ 20000000) (hw : WrW w0 W g p1 m1 p2 m2 b off cp ts l n n') => wr_string w0.heap.size g l _ _ _ s W (Lib.hid hw.wr) (by omega)
    have kA := Lib.hid fun (W : World) (hw : WrW w0 W g p1 m1 p2 m2 b off cp ts (l ++ [40]) n1 n2) => iha j W (l ++ [40]) n1 n2 (Lib.hid hw) hsa ho.1.1 (by omega) (by omega) (by simp; omega)
    have kR := Lib.hid fun (W : World) (hw : WrW w0 W g p1 m1 p2 m2 b off cp ts (l ++ [40] ++ tx a n1 n2) (tvs a n1) (rvs a n2)) => wrow_any w0 W g p1 m1 p2 m2 b off cp ts (l ++ [40] ++ tx a n1 n2) (tvs a n1) (rvs a n2) r.a r.b r.c r.d r.t (Lib.hid hw) hT ho.1.2 (by omega)
    have kB := Lib.hid fun (W : World) (L : List UInt8) (hL : L.length ≤ l.length + 1 + a.sz * 600 + 503) (hw : WrW w0 W g p1 m1 p2 m2 b off cp ts L (tvs a n1) (addT (rvs a n2) r.t)) => ihb k W L (tvs a n1) (addT (rvs a n2) r.t) (Lib.hid hw) hsb ho.2 (by omega) (by omega) (by omega)
    have t6 := tx_len c (tvs a n1) (addT (rvs a n2) r.t) ho.2 (by omega) (by omega)
    have t7 : (rwT r (Lib.itoa (posI (rvs a n2) r.t : Nat))).length = (rowK r.a r.b r.c r.d r.t (Lib.itoa (posI (rvs a n2) r.t : Nat))).size := rfl
    have htx : Hid (tx (.fn a r c) n1 n2 = [40] ++ tx a n1 n2 ++ ([32, 45] ++ (rowK r.a r.b r.c r.d r.t (Lib.itoa (posI (rvs a n2) r.t : Nat))).data.toList ++ [32]) ++ tx c (tvs a n1) (addT (rvs a n2) r.t) ++ [41]) := Lib.hid rfl
    rw [t7] at t5
    rw [show tvs (.fn a r c) n1 = tvs c (tvs a n1) from rfl, show rvs (.fn a r c) n2 = rvs c (addT (rvs a n2) r.t) from rfl]
    have hl0 : l.length ≤ 10000000 := by omega
    have hT3 : a.sz * 600 + c.sz * 600 + l.length + 600 ≤ 10000000 := by omega
    generalize tx (.fn a r c) n1 n2 = TXF at htx ⊢
    generalize tx a n1 n2 = TA at kA kR htx t4
    generalize tx c (tvs a n1) (addT (rvs a n2) r.t) = TC at kB htx t6
    generalize rowK r.a r.b r.c r.d r.t (Lib.itoa (posI (rvs a n2) r.t : Nat)) = RK at kR htx t5
    have hsum1 : ¬ 9223372036854775807 < 2 + RK.size := by omega
    have hsum2 : ¬ 9223372036854775807 < 2 + RK.size + 1 := by omega
    unfold WrPost at kA kB
    clear h hnd h1 h2 h3 hts iha ihb hsa hsb t1 t2 t3 t7
    go_enter Tryd.func75, Tryd.ntmps75
    go_wp2_with fail
    refine (kO.out _ _ _ _ _ (by show l.length + 1 ≤ _; omega) hA.out).mono ?_
    rintro e w2 ⟨rfl, hx2, hb2⟩
    have hN2 := Lib.hid (hN.out.wrote hA.out (BarW.ofU hb2))
    have hB2 := Lib.hid (hB.out.trans (BarW.ofU hb2))
    have hA2 := Lib.hid (hA.out.wrote hx2 hb2)
    clear hx2 hb2 hA hN hB e0 e1 e2 e3 e4 e5 e6 e7 e8 c0 c1 c2
    generalize w.heap.size = kx at hN2 ⊢
    obtain ⟨y0, y1, y2, y3, y4, _⟩ := hN2.out.cells
    unfold fnT at y1 y2 y3 y4
    simp only [] at y1 y2 y3 y4
    go_wp2_with fail
    refine (kA.out _ hA2.out).mono ?_
    rintro e w3 ⟨rfl, hA3, hb3⟩
    have hN3 := Lib.hid (hN2.out.wrote hA2.out hb3)
    have hB3 := Lib.hid (hB2.out.trans hb3)
    have hA3 := Lib.hid hA3
    clear hb3 hN2 hB2 hA2 y0 y1 y2 y3 y4 kA
    go_upto_region 11 with fail
    have hd : Below w3.heap.size w3 w3.drew := (Below.refl _ _).drew
    have hA4 := Lib.hid (hA3.out.below hd)
    have hN4 := Lib.hid (hN3.out.below hd)
    have hB4 := Lib.hid (hB3.out.trans (Bar.of_below hd))
    have hS : ∀ W, NdB W kx (fnT j k r) → (W.cell? ⟨kx, 4, none⟩ = some (.int .i64 r.a) ∧ W.cell? ⟨kx, 5, none⟩ = some (.int .i64 r.b) ∧ W.cell? ⟨kx, 6, none⟩ = some (.int .i64 r.c) ∧ W.cell? ⟨kx, 7, none⟩ = some (.int .i64 r.d) ∧ W.cell? ⟨kx, 8, none⟩ = some (.int .i64 r.t) ∧ kx < W.heap.size) := fun W hR => ⟨hR.cells.2.2.2.2.2.1, hR.cells.2.2.2.2.2.2.1, hR.cells.2.2.2.2.2.2.2.1, hR.cells.2.2.2.2.2.2.2.2.1, hR.cells.2.2.2.2.2.2.2.2.2, hR.cells.1⟩
    clear hA3 hN3 hB3
    refine wp_region_held_drew (S := fun W => W.cell? ⟨kx, 4, none⟩ = some (.int .i64 r.a) ∧ W.cell? ⟨kx, 5, none⟩ = some (.int .i64 r.b) ∧ W.cell? ⟨kx, 6, none⟩ = some (.int .i64 r.c) ∧ W.cell? ⟨kx, 7, none⟩ = some (.int .i64 r.d) ∧ W.cell? ⟨kx, 8, none⟩ = some (.int .i64 r.t) ∧ kx < W.heap.size) (by kernel_rfl) (hS _ hN4.out) (fun hHeld => ?_)
    generalize w3.drew = W4 at hHeld hA4 hN4 hB4 ⊢
    clear hd
    refine rg_take 0 (some 51) (v := ?vf1) rfl rfl (by kernel_rfl) (by kernel_rfl) (by kernel_rfl) (fun _ _ _ h => h) (by rfl) ?hyf1 (by assumption) ?_
    case hyf1 => intro W hSW; (try dsimp only at hSW); go_simp; (try with_reducible rfl)
    try simp only [Act.put, List.setIfInBounds_toArray, List.set_cons_zero, List.set_cons_succ]
    refine rg_take 1 (some 52) (v := ?vf2) rfl rfl (by kernel_rfl) (by kernel_rfl) (by kernel_rfl) (fun _ _ _ h => h) (by rfl) ?hyf2 (by assumption) ?_
    case hyf2 => intro W hSW; (try dsimp only at hSW); go_simp; (try with_reducible rfl)
    try simp only [Act.put, List.setIfInBounds_toArray, List.set_cons_zero, List.set_cons_succ]
    refine rg_take 2 (some 53) (v := ?vf3) rfl rfl (by kernel_rfl) (by kernel_rfl) (by kernel_rfl) (fun _ _ _ h => h) (by rfl) ?hyf3 (by assumption) ?_
    case hyf3 => intro W hSW; (try dsimp only at hSW); go_simp; (try with_reducible rfl)
    try simp only [Act.put, List.setIfInBounds_toArray, List.set_cons_zero, List.set_cons_succ]
    refine rg_take 3 (some 54) (v := ?vf4) rfl rfl (by kernel_rfl) (by kernel_rfl) (by kernel_rfl) (fun _ _ _ h => h) (by rfl) ?hyf4 (by assumption) ?_
    case hyf4 => intro W hSW; (try dsimp only at hSW); go_simp; (try with_reducible rfl)
    try simp only [Act.put, List.setIfInBounds_toArray, List.set_cons_zero, List.set_cons_succ]
    refine rg_take 4 (some 55) (v := ?vf5) rfl rfl (by kernel_rfl) (by kernel_rfl) (by kernel_rfl) (fun _ _ _ h => h) (by rfl) ?hyf5 (by assumption) ?_
    case hyf5 => intro W hSW; (try dsimp only at hSW); go_simp; (try with_reducible rfl)
    try simp only [Act.put, List.setIfInBounds_toArray, List.set_cons_zero, List.set_cons_succ]
    refine rg_take 5 (some 56) (v := ?vf6) rfl rfl (by kernel_rfl) (by kernel_rfl) (by kernel_rfl) (fun _ _ _ h => h) (by rfl) ?hyf6 (by assumption) ?_
    case hyf6 => intro W hSW; (try dsimp only at hSW); go_simp; (try with_reducible rfl)
    try simp only [Act.put, List.setIfInBounds_toArray, List.set_cons_zero, List.set_cons_succ]
    refine rg_one 6 rfl (by kernel_rfl) (by rfl) (fun K hK => ?_)
    go_simp
    (go_at_call 92; refine (kR.out _ hA4.out).mono ?_; rintro e w5 ⟨rfl, hA5, hb5⟩)
    refine hK.out _ _ (hS _ (hN4.out.wrote hA4.out hb5)) (fun hHeld6 => ?_)
    clear hK K hHeld
    try simp only [Act.put, List.setIfInBounds_toArray, List.set_cons_zero, List.set_cons_succ]
    have hN5 := Lib.hid (hN4.out.wrote hA4.out hb5)
    have hB5 := Lib.hid (hB4.out.trans hb5)
    have hA5 := Lib.hid hA5
    refine rg_take 7 (some 58) (v := ?vf7) rfl rfl (by kernel_rfl) (by kernel_rfl) (by kernel_rfl) (fun _ _ _ h => h) (by rfl) ?hyf7 (by assumption) ?_
    case hyf7 => intro W hSW; (try dsimp only at hSW); go_simp; (try with_reducible rfl)
    try simp only [Act.put, List.setIfInBounds_toArray, List.set_cons_zero, List.set_cons_succ]
    refine rg_take 8 (some 59) (v := ?vf8) rfl rfl (by kernel_rfl) (by kernel_rfl) (by kernel_rfl) (fun _ _ _ h => h) (by rfl) ?hyf8 (by assumption) ?_
    case hyf8 => intro W hSW; (try dsimp only at hSW); go_simp; (try with_reducible rfl)
    try simp only [Act.put, List.setIfInBounds_toArray, List.set_cons_zero, List.set_cons_succ]
    refine rg_one 9 rfl (by kernel_rfl) (by rfl) (fun K hK => ?_)
    go_simp
    (go_at_call 90; refine (kO.out _ _ _ _ _ (by rw [ByteArray.size_append, ByteArray.size_append]; simp; show _ + (2 + RK.size + 1) ≤ _; omega) hA5.out).mono ?_; rintro e w6 ⟨rfl, hx6, hb6⟩)
    refine hK.out _ _ (hS _ (hN5.out.wrote hA5.out (BarW.ofU hb6))) (fun hHeld9 => ?_)
    clear hK K hHeld6
    try simp only [Act.put, List.setIfInBounds_toArray, List.set_cons_zero, List.set_cons_succ]
    refine wpAnyH_done (by kernel_rfl) ?_ _
    have hN6 := Lib.hid (hN5.out.wrote hA5.out (BarW.ofU hb6))
    have hB6 := Lib.hid (hB5.out.trans (BarW.ofU hb6))
    have hA6 := Lib.hid (hA5.out.wrote hx6 hb6)
    clear hx6 hb6 hHeld9 hN5 hB5 hA5 hS hN4 hB4 hA4
    obtain ⟨y0, y1, y2, y3, y4, _⟩ := hN6.out.cells
    unfold fnT at y1 y2 y3 y4
    simp only [] at y1 y2 y3 y4
    go_wp2_with fail
    refine (kB.out _ _ (by simp; omega) hA6.out).mono ?_
    rintro e w7 ⟨rfl, hA7, hb7⟩
    have hB7 := Lib.hid (hB6.out.trans hb7)
    have hA7 := Lib.hid hA7
    clear hb7 hN6 hB6 hA6 y0 y1 y2 y3 y4
    obtain ⟨c0, _⟩ := hA7.out.wr.cells
    go_wp2_with fail
    refine (kO.out _ _ _ _ _ (by simp; show _ + 1 ≤ _; omega) hA7.out).mono ?_
    rintro e w8 ⟨rfl, hx8, hb8⟩
    have hF := Lib.hid (And.intro (hA7.out.wrote hx8 hb8) (hB7.out.trans (BarW.ofU hb8)))
    clear hx8 hb8
    go_wp2_with fail
    go_end0
    refine ⟨rfl, ?_⟩
    have e : l ++ TXF = l ++ [40] ++ TA ++ ((⟨#[32, 45]⟩ : ByteArray) ++ RK ++ ⟨#[32]⟩).data.toList ++ TC ++ (⟨#[41]⟩ : ByteArray).data.toList := by rw [htx.out]; simp
    rw [e]
    exact hF.out

end Go.Proofs.YtfkdcconmecaoaaDoor

/- typ.Text. -/
/- typ.Text. -/
namespace Go.Proofs.YtfkdcconmecaoaaDoor
open Go.RowKit Go.Maps
set_option linter.unusedVariables false
set_option linter.unusedSimpArgs false

def txV (ts : List Ty) : ByteArray := if tyV ts then ⟨(tx (treeOf ts) [] []).toArray⟩ else ⟨#[]⟩
def txE (ts : List Ty) : Int := if tyV ts then 0 else 700
/-- a writer that was just made. -/
def TxMid (w0 : World) (b off cp : Nat) (ts : List Ty) (s4 : Value) (W : World) : Prop := ∃ g p1 m1 p2 m2, s4 = .pointer (some ⟨g, 0, none⟩) ∧ WrW w0 W g p1 m1 p2 m2 b off cp ts [] [] []
theorem wrt_new {w : World} {B g : Nat} {nd f1 f2 : Value} (hB : B ≤ g) (h : w.heap[g]? = some (.cells #[.pointer none, .slice none 0 0, nd, f1, f2] 139 (0, 0))) : WrtAt w B g [] nd f1 f2 :=
  .inl ⟨hB, .slice none 0 0, h, World.ownsRow_nil _ _ _ _⟩
theorem set5 {w : World} {g : Nat} {nd f1 f2 : Value} (h : w.heap[g]? = some (.cells #[.pointer none, .slice none 0 0, .slice none 0 0, .nilFunc, .nilFunc] 139 (0, 0))) : (((((w.setCell ⟨g, 0, none⟩ (.pointer none)).setCell ⟨g, 1, none⟩ (.slice none 0 0)).setCell ⟨g, 2, none⟩ nd).setCell ⟨g, 3, none⟩ f1).setCell ⟨g, 4, none⟩ f2).heap[g]? = some (.cells #[.pointer none, .slice none 0 0, nd, f1, f2] 139 (0, 0)) := by
  simp [World.setCell, Array.getElem?_modify, h]
theorem bar5 {w : World} {g : Nat} {v0 v1 v2 v3 v4 : Value} : Bar (fun k => k = g) w (((((w.setCell ⟨g, 0, none⟩ v0).setCell ⟨g, 1, none⟩ v1).setCell ⟨g, 2, none⟩ v2).setCell ⟨g, 3, none⟩ v3).setCell ⟨g, 4, none⟩ v4) :=
  ((((Bar.set (S := fun k => k = g) ⟨g, 0, none⟩ v0 rfl).trans (Bar.set (S := fun k => k = g) ⟨g, 1, none⟩ v1 rfl) fun _ _ h => h).trans (Bar.set (S := fun k => k = g) ⟨g, 2, none⟩ v2 rfl) fun _ _ h => h).trans (Bar.set (S := fun k => k = g) ⟨g, 3, none⟩ v3 rfl) fun _ _ h => h).trans (Bar.set (S := fun k => k = g) ⟨g, 4, none⟩ v4 rfl) fun _ _ h => h
theorem nmMap_of {w : World} {m : Nat} (h : w.heap[m]? = some (.map #[] 0)) : NmMap w m [] :=
  ⟨.map [], ⟨#[], 0, h, ⟨by simp, Go.MapKept.stamped_empty 0, by simp⟩, Nat.le_refl _, rfl⟩, rfl, fun v => ⟨rfl, fun h => by cases h⟩⟩
theorem mid_new {w w1 W : World} {b off cp : Nat} {ts : List Ty} {g p1 m1 p2 m2 : Nat} (hB : Below w.heap.size w w1) (hW : Below w1.heap.size w1 W) (hg : w1.heap.size ≤ g) (h1 : w1.heap.size ≤ m1) (h2 : w1.heap.size ≤ m2) (hne : m1 ≠ m2)
    (e0 : W.heap[g]? = some (.cells #[.pointer none, .slice none 0 0, .slice (some ⟨b, off, none⟩) ts.length cp, byV p1, byV p2] 139 (0, 0))) (e1 : W.heap[p1]? = some (.cells #[.map (some m1)] 119 (0, 0))) (e2 : W.heap[p2]? = some (.cells #[.map (some m2)] 119 (0, 0))) (e3 : W.heap[m1]? = some (.map #[] 0)) (e4 : W.heap[m2]? = some (.map #[] 0)) :
    TxMid w b off cp ts (.pointer (some ⟨g, 0, none⟩)) W :=
  ⟨g, p1, m1, p2, m2, rfl, wrt_new (by have := hB.size; omega) e0, ⟨e1, nmMap_of e3⟩, ⟨e2, nmMap_of e4⟩, belT hB hW, by have := hB.size; omega, by have := hB.size; omega, hne⟩
theorem hpA {w : World} {o : Obj} {i : Nat} (h : i < w.heap.size) : (w.alloc o).heap[i]? = w.heap[i]? := Lib.alloc_old w o i h
theorem hpB {w : World} {o : Obj} {i : Nat} (h : i = w.heap.size) : (w.alloc o).heap[i]? = some o := by subst h; exact alloc_last _ _
set_option maxRecDepth 100000 in
set_option maxHeartbeats 8000000 in
theorem tyText_any (a : Option Addr) (n c : Nat) (ts : List Ty) (w : World) (h : Hid (TyArg w a n ts)) (hl : n ≤ 140737488351232) (hT : Hid (TabW w)) :
    Calls Tryd.prog 43 #[.agg #[.slice a n c]] w fun e w' => e = .returned (.tuple #[.string (txV ts), .int .i64 (txE ts)]) ∧ Below w.heap.size w w' := by
  have kM := Lib.hid fun (W : World) (hb : Below w.heap.size w W) => tyMay_any a n c ts W (Lib.hid (h.out.below hb)) hl
  have hX := Lib.hid (show BoxAt (w.alloc (.cells #[.slice a n c] 24)) w.heap.size (.slice a n c) from box_lit _ _ _ _ rfl)
  cases htv : tyV ts
  · have hv : Hid (txV ts = ⟨#[]⟩ ∧ txE ts = 700) := Lib.hid (by unfold txV txE; rw [htv]; exact ⟨rfl, rfl⟩)
    rw [htv] at kM
    clear htv h
    go_enter Tryd.func43, Tryd.ntmps43
    go_wp2_with fail
    refine (kM.out _ (below_alc w _)).mono ?_
    rintro e w1 ⟨rfl, hb1⟩
    have hB := Lib.hid (belT (below_alc w _) hb1)
    clear hb1
    go_wp2_with fail
    go_ret2
    exact ⟨by rw [hv.out.1, hv.out.2]; rfl, hB.out⟩
  · have hto := tyV_of htv
    have hv : Hid (txV ts = ⟨(tx (treeOf ts) [] []).toArray⟩ ∧ txE ts = 0) := Lib.hid (by unfold txV txE; rw [htv]; exact ⟨rfl, rfl⟩)
    obtain ⟨rfl, _⟩ := h.out
    obtain ⟨b, off, rfl, hA4, hA5⟩ := tyArg_some h.out htv
    have h256 := (tyV_le htv).2
    have hpos : 1 ≤ ts.length := by have := (treeOf ts).sz_pos; omega
    have kW := Lib.hid fun (g p1 m1 p2 m2 : Nat) (W : World) (hw : WrW w W g p1 m1 p2 m2 b off c ts [] [] []) =>
      (show Calls Tryd.prog 75 #[.pointer (some ⟨g, 0, none⟩), .int .i64 ((ts.length : Int) - 1)] W (WrPost w W g p1 m1 p2 m2 b off c ts (tx (treeOf ts) [] []) (tvs (treeOf ts) []) (rvs (treeOf ts) [])) from by
        have := write_any w g p1 m1 p2 m2 b off c ts hT (Lib.hid hA4) hA5 h256 (treeOf ts) (ts.length - 1) W [] [] [] (Lib.hid hw) hto.2.2.2.2 hto.1 (by simp; omega) (by simp; omega) (by simp; omega)
        rw [show ((ts.length - 1 : Nat) : Int) = (ts.length : Int) - 1 by omega] at this
        exact this)
    have hne := Lib.hid (tx_ne (treeOf ts) [] [])
    generalize tx (treeOf ts) [] [] = L at kW hne hv
    generalize tvs (treeOf ts) [] = NA at kW
    generalize rvs (treeOf ts) [] = NB at kW
    rw [htv] at kM
    unfold WrPost at kW
    clear htv hto h hA4 hA5
    go_enter Tryd.func43, Tryd.ntmps43
    go_wp2_with fail
    refine (kM.out _ (below_alc w _)).mono ?_
    rintro e w1 ⟨rfl, hb1⟩
    have hX := Lib.hid (hX.out.below hb1)
    have hB := Lib.hid (belT (below_alc w (.cells #[.slice (some ⟨b, off, none⟩) ts.length c] 24)) hb1)
    clear hb1 kM
    go_upto_region 3 with fail
    go_cut [4] (fun s4 W => TxMid w b off c ts s4 W ∧ BoxAt W w.heap.size (.slice (some ⟨b, off, none⟩) ts.length c))
    case first =>
      obtain ⟨x0, x1⟩ := hX.out
      have hS : ∀ W, Below w1.heap.size w1 W → (W.cell? ⟨w.heap.size, 0, none⟩ = some (.slice (some ⟨b, off, none⟩) ts.length c) ∧ Below w1.heap.size w1 W) := fun W hb => ⟨carry hb x0 x1, hb⟩
      have hzw : ∀ W : World, (zeroValue 139).run Tryd.prog W = .ok (.agg #[.pointer none, .slice none 0 0, .slice none 0 0, .nilFunc, .nilFunc]) W := fun W => by kernel_rfl
      have hsb : ∀ W : World, (sizeOf 137).run Tryd.prog W = .ok 2 W := fun W => by kernel_rfl
      have hsf : ∀ W : World, (sizeOf 129).run Tryd.prog W = .ok 1 W := fun W => by kernel_rfl
      have hsn : ∀ W : World, (sizeOf 22).run Tryd.prog W = .ok 1 W := fun W => by kernel_rfl
      have hst : ∀ (a : Addr) (f : Fn) (x y : Array Value) (m : Mode) (W : World), (store a (.func f x y) m).run Tryd.prog W = stored Tryd.prog W a (.func f x y) m := fun a f x y m W => run_store _ _ _ _ _ rfl
      unfold byV at *
      go_region_held3 (fun W => W.cell? ⟨w.heap.size, 0, none⟩ = some (.slice (some ⟨b, off, none⟩) ts.length c) ∧ Below w1.heap.size w1 W)
        (exact hS _ (by (repeat' (first | with_reducible exact Below.refl _ _ | with_reducible assumption | with_reducible apply Below.setCell | with_reducible apply Below.alloc | with_reducible apply Below.drew | with_reducible apply below_drewN | with_reducible exact Nat.le_refl _ | (simp; done) | (simp; omega) | omega | exact Nat.le_refl _))))
        ((first | (go_at_call 74; refine (byFirst_any _).mono ?_; rintro e w' ⟨rfl, rfl⟩; unfold byV)))
      all_goals (go_wp2_with fail; go_meet)
      · refine ⟨?_, ⟨by simp; omega, (by assumption : _ ∧ _).1⟩⟩
        have hBo := hB.out
        refine mid_new (p1 := w1.heap.size + 1) (p2 := w1.heap.size + 1 + 1 + 1) (m1 := w1.heap.size) (m2 := w1.heap.size + 1 + 1) hBo (Below.drew (belA _ (belA _ (belA _ (belA _ (belA _ (Below.refl _ _))))))) (by omega) (by omega) (by omega) (by omega) ?_ ?_ ?_ ?_ ?_
        all_goals (show (World.alloc _ _).heap[_]? = _)
        all_goals (repeat (first | exact hpB (by first | (simp; done) | (simp; omega)) | rw [hpA (by first | (simp; done) | (simp; omega))]))
      · refine ⟨?_, ⟨by simp; omega, (by assumption : _ ∧ _).1⟩⟩
        have hBo := hB.out
        refine mid_new (p1 := w1.heap.size + 1) (p2 := w1.heap.size + 1 + 1 + 1 + 1) (m1 := w1.heap.size) (m2 := w1.heap.size + 1 + 1 + 1) hBo (Below.drew (belA _ (belA _ (belA _ (belA _ (belA _ (Below.refl _ _))))))) (by omega) (by omega) (by omega) (by omega) ?_ ?_ ?_ ?_ ?_
        all_goals (show (World.alloc _ _).heap[_]? = _)
        all_goals (repeat (first | exact hpB (by first | (simp; done) | (simp; omega)) | rw [hpA (by first | (simp; done) | (simp; omega))]))
      · refine ⟨?_, ⟨by simp; omega, (by assumption : _ ∧ _).1⟩⟩
        have hBo := hB.out
        refine mid_new (p1 := w1.heap.size + 1 + 1) (p2 := w1.heap.size + 1 + 1 + 1 + 1) (m1 := w1.heap.size + 1) (m2 := w1.heap.size + 1 + 1 + 1) hBo (Below.drew (belA _ (belA _ (belA _ (belA _ (belA _ (Below.refl _ _))))))) (by omega) (by omega) (by omega) (by omega) ?_ ?_ ?_ ?_ ?_
        all_goals (show (World.alloc _ _).heap[_]? = _)
        all_goals (repeat (first | exact hpB (by first | (simp; done) | (simp; omega)) | rw [hpA (by first | (simp; done) | (simp; omega))]))
    case rest =>
      obtain ⟨⟨g, p1, m1, p2, m2, rfl, hW⟩, hX3⟩ := hcut
      have hW := Lib.hid hW
      have hX3 := Lib.hid hX3
      obtain ⟨x0, x1⟩ := hX3.out
      go_wp2_with fail
      refine (kW.out g p1 m1 p2 m2 _ hW.out).mono ?_
      rintro e w4 ⟨rfl, hW4, hb4⟩
      clear x0 x1 hX3 hb4
      have hW4 := Lib.hid hW4
      obtain ⟨c0, _⟩ := hW4.out.wr.cells
      go_wp2_with fail
      refine (wr_text _ g L _ _ _ _ (Lib.hid hW4.out.wr) hne.out).mono ?_
      rintro e w5 ⟨rfl, hb5⟩
      have hF := Lib.hid (hW4.out.bel.trans hb5)
      clear hb5
      go_wp2_with fail
      go_ret2
      exact ⟨by rw [hv.out.1, hv.out.2]; rfl, hF.out⟩
end Go.Proofs.YtfkdcconmecaoaaDoor

/- match.Equal. -/
namespace Go.Proofs.YtfkdcconmecaoaaDoor
open Go.RowKit Go.Maps
set_option linter.unusedVariables false
set_option linter.unusedSimpArgs false

def eqV (ts us : List Ty) : Bool := (tyV ts && tyV us) && decide (txV ts = txV us)
def eqE (ts us : List Ty) : Int := if tyV ts && tyV us then 0 else 1100
set_option maxRecDepth 100000 in
set_option maxHeartbeats 8000000 in
theorem equal_any (a1 a2 : Option Addr) (n1 n2 c1 c2 : Nat) (ts us : List Ty) (w : World) (h : Hid (TyArg w a1 n1 ts)) (h2 : Hid (TyArg w a2 n2 us)) (hl : n1 ≤ 140737488351232) (hl2 : n2 ≤ 140737488351232) (hT : Hid (TabW w)) :
    Calls Tryd.prog 21 #[.agg #[.slice a1 n1 c1], .agg #[.slice a2 n2 c2]] w fun e w' => e = .returned (.tuple #[.bool (eqV ts us), .int .i64 (eqE ts us)]) ∧ Below w.heap.size w w' := by
  have kM := Lib.hid fun (W : World) (hb : Below w.heap.size w W) => tyText_any a1 n1 c1 ts W (Lib.hid (h.out.below hb)) hl (Lib.hid (tab_keep hT.out hb (Nat.le_refl _)))
  have kN := Lib.hid fun (W : World) (hb : Below w.heap.size w W) => tyText_any a2 n2 c2 us W (Lib.hid (h2.out.below hb)) hl2 (Lib.hid (tab_keep hT.out hb (Nat.le_refl _)))
  have hX := Lib.hid (show BoxAt ((w.alloc (.cells #[.slice a1 n1 c1] 24)).alloc (.cells #[.slice a2 n2 c2] 24)) w.heap.size (.slice a1 n1 c1) from BoxAt.alloc _ (box_lit _ _ _ _ rfl))
  have hY := Lib.hid (show BoxAt ((w.alloc (.cells #[.slice a1 n1 c1] 24)).alloc (.cells #[.slice a2 n2 c2] 24)) (w.heap.size + 1) (.slice a2 n2 c2) from box_lit _ _ _ _ (by simp))
  cases htv : tyV ts
  · have hv : Hid (eqV ts us = false ∧ eqE ts us = 1100) := Lib.hid (by unfold eqV eqE; rw [htv]; exact ⟨rfl, rfl⟩)
    rw [show txE ts = 700 from by unfold txE; rw [htv]; rfl] at kM
    generalize txV ts = s1 at kM
    clear htv h h2 kN hY
    go_enter Tryd.func21, Tryd.ntmps21
    go_wp2_with fail
    refine (kM.out _ (below_alc2 w _ _)).mono ?_
    rintro e w1 ⟨rfl, hb1⟩
    have hB := Lib.hid (belT (below_alc2 w _ _) hb1)
    clear hb1
    go_wp2_with fail
    go_ret2
    exact ⟨by rw [hv.out.1, hv.out.2]; rfl, hB.out⟩
  cases huv : tyV us
  · have hv : Hid (eqV ts us = false ∧ eqE ts us = 1100) := Lib.hid (by unfold eqV eqE; rw [htv, huv]; exact ⟨rfl, rfl⟩)
    rw [show txE ts = 0 from by unfold txE; rw [htv]; rfl] at kM
    rw [show txE us = 700 from by unfold txE; rw [huv]; rfl] at kN
    generalize txV ts = s1 at kM
    generalize txV us = s2 at kN
    clear htv huv h h2
    go_enter Tryd.func21, Tryd.ntmps21
    go_wp2_with fail
    refine (kM.out _ (below_alc2 w _ _)).mono ?_
    rintro e w1 ⟨rfl, hb1⟩
    have hB := belT (below_alc2 w (.cells #[.slice a1 n1 c1] 24) (.cells #[.slice a2 n2 c2] 24)) hb1
    obtain ⟨x0, x1⟩ := hY.out.below hb1
    clear hb1
    go_wp2_with fail
    refine (kN.out _ hB).mono ?_
    rintro e w2 ⟨rfl, hb2⟩
    go_wp2_with fail
    go_ret2
    exact ⟨by rw [hv.out.1, hv.out.2]; rfl, belT hB hb2⟩
  · have hv : Hid (eqV ts us = decide (txV ts = txV us) ∧ eqE ts us = 0) := Lib.hid (by unfold eqV eqE; rw [htv, huv]; exact ⟨rfl, rfl⟩)
    rw [show txE ts = 0 from by unfold txE; rw [htv]; rfl] at kM
    rw [show txE us = 0 from by unfold txE; rw [huv]; rfl] at kN
    generalize txV ts = s1 at kM hv
    generalize txV us = s2 at kN hv
    obtain ⟨q, hq⟩ : ∃ q, (s1.toList == s2.toList) = q := ⟨_, rfl⟩
    have hv : Hid (eqV ts us = q ∧ eqE ts us = 0) := Lib.hid ⟨by rw [hv.out.1, ← hq, Bool.eq_iff_iff, decide_eq_true_iff, beq_iff_eq, Lib.toList_data, Lib.toList_data]; exact ⟨fun h => by rw [h], fun h => ba_ext h⟩, hv.out.2⟩
    clear htv huv h h2
    go_enter Tryd.func21, Tryd.ntmps21
    go_wp2_with fail
    refine (kM.out _ (below_alc2 w _ _)).mono ?_
    rintro e w1 ⟨rfl, hb1⟩
    have hB := belT (below_alc2 w (.cells #[.slice a1 n1 c1] 24) (.cells #[.slice a2 n2 c2] 24)) hb1
    obtain ⟨x0, x1⟩ := hY.out.below hb1
    clear hb1
    go_wp2_with fail
    refine (kN.out _ hB).mono ?_
    rintro e w2 ⟨rfl, hb2⟩
    go_wp2_with fail
    go_ret2
    exact ⟨by rw [hv.out.1, hv.out.2]; rfl, belT hB hb2⟩
theorem eqV_of {ts us : List Ty} (h1 : tyV ts = true) (h2 : tyV us = true) : eqV ts us = (instT (treeOf ts) (treeOf us) && instT (treeOf us) (treeOf ts)) ∧ eqE ts us = 0 := by
  rw [both_iff (tyV_of h1).1 (tyV_of h2).1]
  unfold eqV eqE txV
  rw [h1, h2]
  refine ⟨?_, rfl⟩
  simp only [Bool.and_self, Bool.true_and, if_true]
  rw [decide_eq_decide]
  exact ⟨fun h => by injection h with h; have := congrArg Array.toList h; simpa using this, fun h => by rw [h]⟩
theorem eq_no {ts us : List Ty} (h : (tyV ts && tyV us) = false) : eqV ts us = false ∧ eqE ts us = 1100 := by unfold eqV eqE; rw [h]; exact ⟨rfl, rfl⟩
/-! Layer 11's awake. -/
def mG : List Ty := [⟨2, 5, 0, 0, 0, 0, 0, 0, 0⟩, ⟨2, 5, 0, 0, 0, 0, 0, 0, 0⟩, ⟨3, 0, 0, 1, 0, 0, 0, 0, 2⟩]
def mS : List Ty := [⟨0, 0, 0, 0, 0, 0, 0, 0, 0⟩, ⟨0, 0, 0, 0, 0, 0, 0, 0, 0⟩, ⟨3, 0, 0, 1, 0, 0, 0, 1, -1⟩]
theorem ma1 : instV mG mS = true ∧ instE mG mS = 0 := ⟨by kernel_rfl, by kernel_rfl⟩
theorem ma2 : instV mS mG = false ∧ instE mS mG = 0 := ⟨by kernel_rfl, by kernel_rfl⟩
theorem ma3 : eqV mG mS = false ∧ eqE mG mS = 0 := by
  obtain ⟨h1, h2⟩ := eqV_of (ts := mG) (us := mS) (by kernel_rfl) (by kernel_rfl)
  exact ⟨h1.trans (by kernel_rfl), h2⟩
theorem ma4 : eqV mG [] = false ∧ eqE mG [] = 1100 := eq_no (by kernel_rfl)
set_option maxRecDepth 100000 in
set_option maxHeartbeats 8000000 in
theorem awake11_any (w : World) (hT : Hid (TabW w)) : Calls Tryd.prog 23 #[] w fun e w' => e = .returned (.bool true) ∧ Below w.heap.size w w' := by
  go_enter Tryd.func23, Tryd.ntmps23
  go_wp2_with fail
  refine (instance_any _ _ _ _ _ _ mG mS _ (Lib.hid (by exact TyArg.alloc _ (TyArg.alloc _ (TyArg.alloc _ (TyArg.alloc _ (tyArg_lit _ _ _ _ _ _ rfl rfl rfl)))))) (Lib.hid (by exact TyArg.alloc _ (tyArg_lit _ _ _ _ _ _ (by simp) rfl rfl))) (by omega) (by omega)).mono ?_
  rintro e w1 ⟨rfl, hb1⟩
  rw [ma1.1, ma1.2]
  have hG := Lib.hid (show TyArg w1 (some ⟨w.heap.size, 0, none⟩) 3 mG from TyArg.below (by exact TyArg.alloc _ (TyArg.alloc _ (TyArg.alloc _ (TyArg.alloc _ (tyArg_lit _ _ _ _ _ _ rfl rfl rfl))))) hb1)
  have hS := Lib.hid (show TyArg w1 (some ⟨w.heap.size + 1 + 1 + 1, 0, none⟩) 3 mS from TyArg.below (by exact TyArg.alloc _ (tyArg_lit _ _ _ _ _ _ (by simp) rfl rfl)) hb1)
  have hP := Lib.hid (show BoxAt w1 (w.heap.size + 1) (.slice (some ⟨w.heap.size, 0, none⟩) 3 3) from BoxAt.below (by exact BoxAt.alloc _ (BoxAt.alloc _ (BoxAt.alloc _ (box_lit _ _ _ _ (by simp))))) hb1)
  have hQ := Lib.hid (show BoxAt w1 (w.heap.size + 1 + 1 + 1 + 1) (.slice (some ⟨w.heap.size + 1 + 1 + 1, 0, none⟩) 3 3) from BoxAt.below (by exact box_lit _ _ _ _ (by simp)) hb1)
  have hB := Lib.hid (belT (show Below w.heap.size w _ from by (repeat' (first | with_reducible exact Below.refl _ _ | with_reducible assumption | with_reducible apply Below.setCell | with_reducible apply Below.alloc | with_reducible apply Below.drew | with_reducible apply below_drewN | with_reducible exact Nat.le_refl _ | (simp; done) | (simp; omega) | omega | exact Nat.le_refl _))) hb1)
  clear hb1
  obtain ⟨p0, p1⟩ := hP.out
  obtain ⟨q0, q1⟩ := hQ.out
  go_wp2_with fail
  clear p0 p1 q0 q1
  refine (instance_any _ _ _ _ _ _ mS mG _ hS hG (by omega) (by omega)).mono ?_
  rintro e w2 ⟨rfl, hb2⟩
  rw [ma2.1, ma2.2]
  have hG := Lib.hid (hG.out.below hb2)
  have hS := Lib.hid (hS.out.below hb2)
  have hP := Lib.hid (hP.out.below hb2)
  have hQ := Lib.hid (hQ.out.below hb2)
  have hB := Lib.hid (belT hB.out hb2)
  clear hb2
  obtain ⟨p0, p1⟩ := hP.out
  obtain ⟨q0, q1⟩ := hQ.out
  go_wp2_with fail
  clear p0 p1 q0 q1
  refine (equal_any _ _ _ _ _ _ mG mS _ hG hS (by omega) (by omega) (Lib.hid (tab_keep hT.out hB.out (Nat.le_refl _)))).mono ?_
  rintro e w3 ⟨rfl, hb3⟩
  rw [ma3.1, ma3.2]
  have hG := Lib.hid (hG.out.below hb3)
  have hP := Lib.hid (hP.out.below hb3)
  have hB := Lib.hid (belT hB.out hb3)
  clear hb3 hQ hS
  obtain ⟨p0, p1⟩ := hP.out
  go_wp2_with fail
  clear p0 p1
  refine (equal_any _ _ _ _ _ _ mG [] _ hG (Lib.hid (tyArg_nil _ _)) (by omega) (by omega) (Lib.hid (tab_keep hT.out hB.out (Nat.le_refl _)))).mono ?_
  rintro e w4 ⟨rfl, hb4⟩
  rw [ma4.1, ma4.2]
  have hB := Lib.hid (belT hB.out hb4)
  clear hb4 hP hG
  go_wp2_with ((go_at_call 11; refine (num_any _ _ (by omega) (by omega)).mono ?_; rintro e w' ⟨rfl, rfl⟩))
  go_ret
  exact ⟨rfl, hB.out⟩
end Go.Proofs.YtfkdcconmecaoaaDoor
