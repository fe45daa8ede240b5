/- order.ByFirst: numbers by first appearance. -/
import Derived.Test.YtdganhamafhfdaaDoorVrD
import Derived.Test.YtdganhamafhfdaaDoorMpA
import Derived.Lib.Builder
import Derived.Lib.AppendStr
import Derived.Lib.UnsafeStr
import Derived.Laws.Externs
import Derived.Test.YtdganhamafhfdaaDoorRwK
import Derived.Test.YtdganhamafhfdaaDoorRgA
import Derived.Test.YtdganhamafhfdaaDoorSbH
/- order.ByFirst: numbers by first appearance. -/
namespace Go.Proofs.YtdganhamafhfdaaDoor
open Go.RowKit Go.Maps
set_option linter.unusedVariables false
set_option linter.unusedSimpArgs false

theorem posI_has {l : List Int} {v : Int} (h : hasI l v = true) : posI l v = l.findIdx (· == v) := by
  unfold posI addI; rw [h]; rfl
theorem posI_app {l : List Int} {u v : Int} (h : hasI l u = true) : posI (l ++ [v]) u = posI l u := by
  have h2 : hasI (l ++ [v]) u = true := by rw [hasI_app, h]; rfl
  rw [posI_has h, posI_has h2, List.findIdx_append]
  have hm : u ∈ l := (hasI_iff l u).1 h
  have : l.findIdx (· == u) < l.length := List.findIdx_lt_length_of_exists ⟨u, hm, by simp⟩
  rw [if_pos this]
theorem posI_snoc {l : List Int} {v : Int} (h : hasI l v = false) : posI (l ++ [v]) v = l.length := by
  have h2 : hasI (l ++ [v]) v = true := by rw [hasI_app]; simp
  have h3 := (posI_new h).1
  unfold posI at h3
  rw [(posI_new h).2] at h3
  rw [posI_has h2, h3]
theorem posI_lt {l : List Int} {v : Int} : posI l v ≤ l.length := by
  cases h : hasI l v
  · rw [(posI_new h).1]; exact Nat.le_refl _
  · rw [posI_has h]; exact List.findIdx_le_length
/-- block bm is a map that says where each number of a list stands. -/
def NmMap (w : World) (bm : Nat) (l : List Int) : Prop :=
  ∃ D : DataW Value, w.ownsMap Tryd.prog 3 heldR bm l.length D ∧ Maps.size D = l.length ∧ ∀ v : Int, Maps.has D (.int .i64 v) = hasI l v ∧ (hasI l v = true → ∀ z, D.atKey (.int .i64 v) z = .held (.int .i64 (posI l v : Nat)))
def NmAt (w : World) (p bm : Nat) (l : List Int) : Prop := w.heap[p]? = some (.cells #[.map (some bm)] 129 (0, 0)) ∧ NmMap w bm l
theorem NmAt.cell {w : World} {p bm : Nat} {l : List Int} (h : NmAt w p bm l) : p < w.heap.size ∧ w.cell? ⟨p, 0, none⟩ = some (.map (some bm)) :=
  ⟨(Array.getElem?_eq_some_iff.1 h.1).1, (Lib.cell_of_heap h.1 0).trans rfl⟩
theorem NmMap.lt {w : World} {bm : Nat} {l : List Int} (h : NmMap w bm l) : bm < w.heap.size := by obtain ⟨D, h1, _⟩ := h; exact h1.lt
theorem NmMap.bar {S : Nat → Prop} {w w' : World} {bm : Nat} {l : List Int} (h : NmMap w bm l) (hb : Bar S w w') (hn : ¬ S bm) : NmMap w' bm l := by
  have hl := h.lt
  obtain ⟨D, ⟨es, clock, h1, h3⟩, h2⟩ := h
  exact ⟨D, ⟨es, clock, (hb.block bm hl hn).trans h1, h3⟩, h2⟩
theorem NmAt.bar {S : Nat → Prop} {w w' : World} {p bm : Nat} {l : List Int} (h : NmAt w p bm l) (hb : Bar S w w') (hn : ¬ S bm) (hp : ¬ S p) : NmAt w' p bm l :=
  ⟨(hb.block p h.cell.1 hp).trans h.1, h.2.bar hb hn⟩
theorem NmAt.below {w w' : World} {p bm : Nat} {l : List Int} (h : NmAt w p bm l) (hb : Below w.heap.size w w') : NmAt w' p bm l := h.bar (Bar.of_below (S := fun _ => False) hb) id id
theorem NmMap.blk {w : World} {bm : Nat} {l : List Int} (h : NmMap w bm l) : ∃ es clock, w.heap[bm]? = some (.map es clock) := by
  obtain ⟨D, ⟨es, clock, h1, _⟩, _⟩ := h; exact ⟨es, clock, h1⟩
theorem NmMap.ne {w : World} {b g o : Nat} {l : List Int} {v : Value} (h : NmMap w b l) (hc : w.cell? ⟨g, o, none⟩ = some v) : g ≠ b := by
  rintro rfl
  obtain ⟨es, clock, h1⟩ := h.blk
  unfold World.cell? at hc
  simp [h1] at hc
theorem nmMap_made (w : World) : NmMap (w.alloc (.map #[] 0)) w.heap.size [] :=
  ⟨.map [], World.ownsMap_made w _ _ _, rfl, fun v => ⟨rfl, fun h => by cases h⟩⟩
theorem nm_look {w : World} {bm : Nat} {l : List Int} (h : NmMap w bm l) (v : Int) (hwf : -9223372036854775808 ≤ v ∧ v ≤ 9223372036854775807) :
    (Instr.lookup 129 (.map (some bm)) (.int .i64 v) true).run Tryd.prog w = .ok (.tuple #[.int .i64 (if hasI l v then ((posI l v : Nat) : Int) else 0), .bool (hasI l v)]) w := by
  obtain ⟨D, h1, h2, h3⟩ := h
  obtain ⟨h4, h6⟩ := h3 v
  obtain ⟨u, ps, hr, hu⟩ := h1.look_ok lawI Tryd.underlying129 (zeroI w) (zd := .held (.int .i64 0)) (zp := []) rfl (wfI hwf)
  rw [hr, h4]
  have e2 : heldR u = some (.held u, []) := rfl
  rw [e2] at hu
  cases hf : hasI l v
  · rw [hf] at h4
    rw [atKey_of_not_has h4] at hu
    have hu := DataW.held.inj (Prod.mk.inj (Option.some.inj hu)).1
    rw [hu]; rfl
  · rw [h6 hf] at hu
    have hu := DataW.held.inj (Prod.mk.inj (Option.some.inj hu)).1
    rw [hu]; rfl
theorem nm_len {w : World} {bm : Nat} {l : List Int} (h : NmMap w bm l) (ty : TypeId) : (Builtin.len_ #[129] ty #[.map (some bm)]).run Tryd.prog w = .ok (.int .i64 l.length) w := by
  obtain ⟨D, h1, h2, h3⟩ := h
  rw [h1.len Tryd.underlying129 ty, h2]
theorem nm_put {w : World} {bm : Nat} {l : List Int} (h : NmMap w bm l) (v : Int) (hwf : -9223372036854775808 ≤ v ∧ v ≤ 9223372036854775807) (hn : l.length ≤ 1000000) (hno : hasI l v = false) :
    ∃ w', (Instr.mapUpdate 129 (.map (some bm)) (.int .i64 v) (.int .i64 (l.length : Nat))).run Tryd.prog w = .ok () w' ∧ NmMap w' bm (l ++ [v]) ∧ Bar (fun k => k = bm) w w' := by
  obtain ⟨D, h1, h2, h3⟩ := h
  have hT := h1.tidy lawI
  obtain ⟨w', hr, h4, h5⟩ := h1.update (val := .int .i64 (l.length : Nat)) lawI Tryd.underlying129 (by unfold maxLen; omega) (wfI hwf) (d := .held (.int .i64 (l.length : Nat))) (ps := []) rfl
  have hnv : Maps.has D (.int .i64 v) = false := (h3 v).1.trans hno
  refine ⟨w', hr, ⟨_, by rw [List.length_append]; exact h4, by rw [Maps.size_put hT, hnv, h2, List.length_append]; rfl, fun u => ?_⟩, ((Bar.of_grown h5).mono fun k hk => (Option.some.inj hk).symm)⟩
  by_cases hu : u = v
  · subst hu
    refine ⟨(has_put_same hT.isMap (by trivial) _).trans (by rw [hasI_app]; simp), fun _ z => ?_⟩
    rw [atKey_put_same hT.isMap (by trivial), posI_snoc hno]
  · have hne : (Lit.int .i64 u) ≠ (Lit.int .i64 v) := fun e => hu (by injection e)
    have hh : hasI (l ++ [v]) u = hasI l u := by
      rw [hasI_app]
      have : (v == u) = false := by rw [beq_eq_false_iff_ne]; exact fun e => hu e.symm
      rw [this, Bool.or_false]
    obtain ⟨h6, h7⟩ := h3 u
    refine ⟨(has_put_other hne _).trans (h6.trans hh.symm), fun hx z => ?_⟩
    rw [hh] at hx
    rw [atKey_put_other hne, posI_app hx]
    exact h7 hx z
set_option maxRecDepth 100000 in
set_option maxHeartbeats 4000000 in
theorem byFirst1_any (p bm : Nat) (l : List Int) (v : Int) (w : World) (h : Hid (NmAt w p bm l)) (hv : 0 ≤ v ∧ v < 4096) (hl : l.length ≤ 100000) :
    Calls Tryd.prog 76 #[.int .i64 v, .pointer (some ⟨p, 0, none⟩)] w fun e w' => e = .returned (.int .i64 (posI l v : Nat)) ∧ NmAt w' p bm (addI l v) ∧ Bar (fun k => k = bm) w w' := by
  obtain ⟨h1, h2⟩ := h.out.cell
  have h0 := h.out.1
  have h3 := h.out.2
  have hk := nm_look h3 v (by omega)
  have hln := nm_len h3 3
  cases hq : hasI l v
  · obtain ⟨e1, e2⟩ := posI_new hq
    obtain ⟨w', hup, hM, hBar⟩ := nm_put h3 v (by omega) (by omega) hq
    have hfin := Lib.hid (show NmAt w' p bm (l ++ [v]) ∧ Bar (fun k => k = bm) w w' from ⟨⟨(hBar.block p h1 (h3.ne h2)).trans h0, hM⟩, hBar⟩)
    rw [hq] at hk
    simp only [Bool.false_eq_true, if_false] at hk
    rw [e1, e2]
    clear e1 e2 hM hBar h0 h3 hq h
    go_enter Tryd.func76, Tryd.ntmps76
    go_wp2_with fail
    go_ret
    exact ⟨rfl, hfin.out⟩
  · have e2 : addI l v = l := by unfold addI; rw [hq]; rfl
    rw [hq] at hk
    simp only [if_true] at hk
    rw [e2]
    have h' := h
    clear e2 h0 h3 hq h
    go_enter Tryd.func76, Tryd.ntmps76
    go_wp2_with fail
    go_ret
    exact ⟨rfl, h'.out, Bar.refl _ _⟩
def byV (p : Nat) : Value := .func (.func 76) #[] #[.pointer (some ⟨p, 0, none⟩)]
theorem byFirst_any (w : World) : Calls Tryd.prog 44 #[] w fun e w' => e = .returned (byV (w.heap.size + 1)) ∧ w' = (w.alloc (.map #[] 0)).alloc (.cells #[.map (some w.heap.size)] 129) := by
  have hmm := @run_makeMap Tryd.prog
  go_enter Tryd.func44, Tryd.ntmps44
  go_wp2_with fail
  go_ret
  exact ⟨rfl, rfl⟩
theorem nmAt_new (w : World) : NmAt ((w.alloc (.map #[] 0)).alloc (.cells #[.map (some w.heap.size)] 129)) (w.heap.size + 1) w.heap.size [] :=
  ⟨by have := alloc_last (w.alloc (.map #[] 0)) (.cells #[.map (some w.heap.size)] 129); simpa using this, (nmMap_made w).bar (Bar.of_below (S := fun _ => False) (below_alc _ _)) id⟩
end Go.Proofs.YtdganhamafhfdaaDoor

/- A text that grows within a writer: package strings' Builder as the writer's first field. -/
namespace Go.Proofs.YtdganhamafhfdaaDoor
open Go.RowKit Go.Maps
set_option linter.unusedVariables false
set_option linter.unusedSimpArgs false

def IsU8 (w : World) (k : Nat) : Prop := ∃ cs fr, w.heap[k]? = some (.cells cs 5 fr)
/-- a writer in memory, from B on; it holds l. -/
def WrtP (w : World) (B g : Nat) (p : Value) (l : List UInt8) (nd f1 f2 : Value) : Prop :=
  B ≤ g ∧ ∃ v, w.heap[g]? = some (.cells #[p, v, nd, f1, f2] 80 (0, 0)) ∧ w.ownsRow B 5 1 v l.length (Lib.byteCells l)
def WrtAt (w : World) (B g : Nat) (l : List UInt8) (nd f1 f2 : Value) : Prop := WrtP w B g (.pointer none) l nd f1 f2 ∨ WrtP w B g (.pointer (some ⟨g, 0, none⟩)) l nd f1 f2
abbrev BarU (B g : Nat) (w w' : World) : Prop := Bar (fun k => B ≤ k ∧ (k = g ∨ IsU8 w k)) w w'
theorem IsU8.of {S : Nat → Prop} {w w' : World} {k : Nat} (hb : Bar S w w') (hk : k < w.heap.size) (h : IsU8 w' k) (hn : ¬ S k) : IsU8 w k := by
  obtain ⟨cs, fr, h⟩ := h
  exact ⟨cs, fr, (hb.block k hk hn).symm.trans h⟩
theorem BarU.trans {B g : Nat} {w w1 w2 : World} (h : BarU B g w w1) (h' : BarU B g w1 w2) : BarU B g w w2 :=
  Bar.trans h h' fun k hk ⟨h1, h2⟩ => by
    refine ⟨h1, ?_⟩
    rcases h2 with h2 | h2
    · exact .inl h2
    · by_cases hs : B ≤ k ∧ (k = g ∨ IsU8 w k)
      · exact hs.2
      · exact .inr (IsU8.of h hk h2 hs)
theorem WrtP.lt {w : World} {B g : Nat} {p : Value} {l : List UInt8} {nd f1 f2 : Value} (h : WrtP w B g p l nd f1 f2) : g < w.heap.size := by
  obtain ⟨_, v, h1, _⟩ := h; exact (Array.getElem?_eq_some_iff.1 h1).1
theorem wrt_lies : liesAt Tryd.prog Tryd.prog.depth 80 (5 / Tryd.prog.cellsOf 80) 0 78 1 = true := by kernel_rfl
theorem bld_size : (Tryd.prog.info? 78).map (·.size) = some 2 := by kernel_rfl
theorem infoU8b : (Tryd.prog.info? 5).map (fun i => (i.zero, i.size, i.bytes)) = some (some (.int .u8 0), 1, 1) := by kernel_rfl
set_option maxHeartbeats 2000000 in
set_option maxRecDepth 100000 in
theorem wr_fresh (g : Nat) (v nd f1 f2 : Value) (w : World) (hb : w.heap[g]? = some (.cells #[.pointer none, v, nd, f1, f2] 80 (0, 0))) :
    Calls Tryd.prog 108 #[.pointer (some ⟨g, 0, none⟩)] w fun e w' => e = .returned (.tuple #[]) ∧ w' = w.setCell ⟨g, 0, none⟩ (.pointer (some ⟨g, 0, none⟩)) := by
  obtain ⟨j, hj, hjs⟩ := Option.map_eq_some_iff.1 bld_size
  have h0 : w.cell? ⟨g, 0, none⟩ = some (.pointer none) := by rw [Lib.cell_of_heap hb]; rfl
  have hfz : w.frozen? ⟨g, 0, none⟩ = false := Lib.frozen_of_heap hb 0
  have hsh : w.shape? g = some (80, 5) := by simp [World.shape?, hb]
  have k1 := Lib.run_to_unsafe w ⟨g, 0, none⟩ Tryd.underlying75 Tryd.underlying189 hj (by rw [hjs]; decide) hsh (Nat.zero_lt_succ 4)
  have k2 := Lib.run_from_unsafe w ⟨g, 0, none⟩ Tryd.underlying189 Tryd.underlying75 hj hsh wrt_lies
  have k3 : ∀ (x : Value) (W : World), (callFunc 119 #[x]).run Tryd.prog W = .ok (.value x) W := fun x W => by
    rw [run_callFunc_extern Tryd.func119 (by kernel_rfl) (by kernel_rfl) (by kernel_rfl) (e := Extern.AbiNoEscape.same) (by kernel_rfl)]
    rw [Lib.run_noEscape]; rfl
  have hgl : g < w.heap.size := (Array.getElem?_eq_some_iff.1 hb).1
  clear hb hsh hj
  go_enter Tryd.func108, Tryd.ntmps108
  go_wp2_with fail
  go_end0
  exact ⟨rfl, rfl⟩
set_option maxHeartbeats 2000000 in
set_option maxRecDepth 100000 in
theorem wr_used (g : Nat) (v nd f1 f2 : Value) (w : World) (hb : w.heap[g]? = some (.cells #[.pointer (some ⟨g, 0, none⟩), v, nd, f1, f2] 80 (0, 0))) :
    Calls Tryd.prog 108 #[.pointer (some ⟨g, 0, none⟩)] w fun e w' => e = .returned (.tuple #[]) ∧ w' = w := by
  obtain ⟨j, hj, hjs⟩ := Option.map_eq_some_iff.1 bld_size
  have h0 : w.cell? ⟨g, 0, none⟩ = some (.pointer (some ⟨g, 0, none⟩)) := by rw [Lib.cell_of_heap hb]; rfl
  have k1 := Lib.run_neq_ptr_same w ⟨g, 0, none⟩ Tryd.underlying75 hj
  have hgl : g < w.heap.size := (Array.getElem?_eq_some_iff.1 hb).1
  clear hb hj
  go_enter Tryd.func108, Tryd.ntmps108
  go_wp2_with fail
  go_end0
  exact ⟨rfl, rfl⟩
theorem wr_check (B g : Nat) (l : List UInt8) (nd f1 f2 : Value) (w : World) (h : WrtAt w B g l nd f1 f2) :
    Calls Tryd.prog 108 #[.pointer (some ⟨g, 0, none⟩)] w fun e w' => e = .returned (.tuple #[]) ∧ WrtP w' B g (.pointer (some ⟨g, 0, none⟩)) l nd f1 f2 ∧ BarU B g w w' := by
  rcases h with ⟨hB, v, h1, h2⟩ | ⟨hB, v, h1, h2⟩
  · refine (wr_fresh g v nd f1 f2 w h1).mono ?_
    rintro e w' ⟨rfl, rfl⟩
    refine ⟨rfl, ⟨hB, v, ?_, ?_⟩, Bar.set _ _ ⟨hB, .inl rfl⟩⟩
    · simp [World.setCell, Array.getElem?_modify, h1]
    · have hne := Lib.ownBlock_ne h2 h1 (by decide)
      exact h2.kept (row := some g) ⟨rfl, rfl, rfl, by simp [World.setCell], fun k _ hk => Below.heap_setCell _ _ _ _ (fun e => hk (by simp [e]))⟩ (Or.inr hne)
  · refine (wr_used g v nd f1 f2 w h1).mono ?_
    rintro e w' ⟨rfl, rfl⟩
    exact ⟨rfl, ⟨hB, v, h1, h2⟩, Bar.refl _ _⟩
set_option maxHeartbeats 4000000 in
set_option maxRecDepth 100000 in
theorem wr_string (B g : Nat) (l : List UInt8) (nd f1 f2 : Value) (s : ByteArray) (w : World) (h : Hid (WrtAt w B g l nd f1 f2)) (hlen : l.length + s.size ≤ 140737488355328) :
    Calls Tryd.prog 77 #[.pointer (some ⟨g, 0, none⟩), .string s] w fun e w' => e = .returned (.tuple #[.int .i64 s.size, .nilIface]) ∧ WrtAt w' B g (l ++ s.data.toList) nd f1 f2 ∧ BarU B g w w' := by
  obtain ⟨i0, hi, hz0, hz1, hz2⟩ := info_parts infoU8b
  go_enter Tryd.func77, Tryd.ntmps77
  go_wp2_with fail
  refine (wr_check B g l nd f1 f2 w h.out).mono ?_
  rintro e w1 ⟨rfl, ⟨hB, v, hbk, hown⟩, hb1⟩
  have c0 : w1.cell? ⟨g, 0, none⟩ = some (.pointer (some ⟨g, 0, none⟩)) := by rw [Lib.cell_of_heap hbk]; rfl
  have c1 : w1.cell? ⟨g, 1, none⟩ = some v := by rw [Lib.cell_of_heap hbk]; rfl
  have hgl : g < w1.heap.size := (Array.getElem?_eq_some_iff.1 hbk).1
  have hbk' := Lib.hid hbk
  have hb1' := Lib.hid hb1
  clear hbk hb1
  go_wp2_with (at_builtin; refine Lib.wpList_append_own_string _ rfl (.tmp 12) (.tmp 13) 76 9 rfl B 5 i0 Tryd.underlying76 Tryd.underlying9 hi hz0 hz1 hz2 v l.length (Lib.byteCells l) rfl hown s rfl ?c3 ?c4 ?c5 ?_)
  case c3 => unfold maxLen; omega
  case c4 => omega
  case c5 => omega
  intro v' w2 hown' hgrow _
  have hne : v.ownBlock ≠ some g := Lib.ownBlock_ne hown hbk'.out (by decide)
  have hb2 : w2.heap[g]? = some (.cells #[.pointer (some ⟨g, 0, none⟩), v, nd, f1, f2] 80 (0, 0)) := by
    rw [hgrow.block g hgl (fun e => hne e.symm)]; exact hbk'.out
  have d0 : w2.cell? ⟨g, 0, none⟩ = some (.pointer (some ⟨g, 0, none⟩)) := by rw [Lib.cell_of_heap hb2]; rfl
  have d1 : w2.cell? ⟨g, 1, none⟩ = some v := by rw [Lib.cell_of_heap hb2]; rfl
  have e1 : w2.frozen? ⟨g, 1, none⟩ = false := Lib.frozen_of_heap hb2 1
  obtain ⟨ao, n', cap, rfl⟩ : ∃ ao n' cap, v' = .slice ao n' cap := by
    rcases hown'.2 with ⟨hv, _⟩ | ⟨g, cap, cur, hv, _⟩
    · exact ⟨_, _, _, hv⟩
    · exact ⟨_, _, _, hv⟩
  have hgl2 : g < w2.heap.size := (Array.getElem?_eq_some_iff.1 hb2).1
  have hfin := Lib.hid (show WrtAt (w2.setCell ⟨g, 1, none⟩ (.slice ao n' cap)) B g (l ++ s.data.toList) nd f1 f2 from by
    refine .inr ⟨hB, .slice ao n' cap, ?_, ?_⟩
    · simp [World.setCell, Array.getElem?_modify, hb2]
    · have e3 : Lib.byteCells (l ++ s.data.toList) = Lib.byteCells l ++ Lib.strCells s := by rw [Lib.byteCells_append, Lib.strCells_eq]
      have e4 : (l ++ s.data.toList).length = l.length + s.size := by rw [List.length_append]; rfl
      rw [e3, e4]
      have hne2 := Lib.ownBlock_ne hown' hb2 (by decide)
      exact hown'.kept (row := some g) ⟨rfl, rfl, rfl, by simp [World.setCell], fun k _ hk => Below.heap_setCell _ _ _ _ (fun e => hk (by simp [e]))⟩ (Or.inr hne2))
  have hbar := Lib.hid (show BarU B g w (w2.setCell ⟨g, 1, none⟩ (.slice ao n' cap)) from by
    refine hb1'.out.trans ?_
    have h2 : BarU B g w1 w2 := (Bar.of_grown hgrow).mono fun k hk => by
      have hk : v.ownBlock = some k := hk
      rcases hown.2 with ⟨rfl, _⟩ | ⟨q, cq, cur, rfl, hq, hqg, _⟩
      · simp [Value.ownBlock] at hk
      · simp [Value.ownBlock] at hk; subst hk
        exact ⟨hq, .inr ⟨cur, _, hqg⟩⟩
    exact h2.trans (Bar.set _ _ ⟨hB, .inl rfl⟩))
  clear hown hown' hgrow hb2 hbk' hb1' hne
  go_wp2_with fail
  go_ret2
  exact ⟨rfl, hfin.out, hbar.out⟩
set_option maxHeartbeats 4000000 in
set_option maxRecDepth 100000 in
theorem wr_text (B g : Nat) (l : List UInt8) (nd f1 f2 : Value) (w : World) (h : Hid (WrtAt w B g l nd f1 f2)) (h0 : l ≠ []) :
    Calls Tryd.prog 46 #[.pointer (some ⟨g, 0, none⟩)] w fun e w' => e = .returned (.string ⟨l.toArray⟩) ∧ Below B w w' := by
  obtain ⟨p, hB, v, hbk, hown⟩ : ∃ p, WrtP w B g p l nd f1 f2 := by
    rcases h.out with h | h
    · exact ⟨_, h⟩
    · exact ⟨_, h⟩
  have hl0 : l.length ≠ 0 := by simpa using h0
  obtain ⟨q, cap, cur, rfl, hbg, hg, hnc, hcm, hcs, htake⟩ : ∃ q cap cur, v = .slice (some ⟨q, 0, none⟩) l.length cap ∧ B ≤ q ∧ w.heap[q]? = some (.cells cur 5 (0, 0)) ∧ l.length ≤ cap ∧ cap ≤ maxLen ∧ cur.size = cap * 1 ∧ cur.toList.take (l.length * 1) = Lib.byteCells l := by
    rcases hown.2 with ⟨_, hz⟩ | ⟨q, cap, cur, hv, r⟩
    · exact absurd hz hl0
    · exact ⟨q, cap, cur, hv, r⟩
  have c1 : w.drew.cell? ⟨g, 1, none⟩ = some (.slice (some ⟨q, 0, none⟩) l.length cap) := by
    have : w.drew.heap[g]? = some (.cells #[p, .slice (some ⟨q, 0, none⟩) l.length cap, nd, f1, f2] 80 (0, 0)) := hbk
    rw [Lib.cell_of_heap this]; rfl
  have hSD : (Builtin.unsafeSliceData_ #[76] 136 #[.slice (some ⟨q, 0, none⟩) l.length cap]).run Tryd.prog w.drew = .ok (.pointer (some ⟨q, 0, none⟩)) w.drew :=
    Lib.run_unsafeSliceData_row _ _ _ _ _ _ (by omega)
  have hUS : (Builtin.unsafeString_ #[136, 3] 9 #[.pointer (some ⟨q, 0, none⟩), .int .i64 l.length]).run Tryd.prog w.drew = .ok (.string ⟨l.toArray⟩) (w.drew.freeze ⟨q, 0, none⟩ l.length) := by
    refine Lib.run_unsafeString_row w.drew 136 3 9 5 Tryd.underlying136 (by kernel_rfl) q cur.size (by have hg' : w.drew.heap[q]? = some (.cells cur 5 (0, 0)) := hg; simp [World.shape?, hg']) l h0 (by omega) (by unfold maxLen at hcm; omega) ?_
    intro j x hx
    have := hown.cells (g := q) rfl j (.int .u8 x.toNat) (by simp [Lib.byteCells, hx])
    exact this
  have hgl : g < w.heap.size := (Array.getElem?_eq_some_iff.1 hbk).1
  clear hbk hown hg htake h
  go_enter Tryd.func46, Tryd.ntmps46
  go_wp2_with fail
  go_region
  all_goals (go_wp2_with fail; go_ret; exact ⟨rfl, Lib.below_freeze (Below.drew (Below.refl B w)) (p := ⟨q, 0, none⟩) hbg _⟩)
end Go.Proofs.YtdganhamafhfdaaDoor

/- The text of a type: what it is; what stays while it is written. -/
namespace Go.Proofs.YtdganhamafhfdaaDoor
open Go.RowKit Go.Maps
set_option linter.unusedVariables false
set_option linter.unusedSimpArgs false

def rwT (r : Rw) (s : List UInt8) : List UInt8 := (rowK r.a r.b r.c r.d r.t s).data.toList
/-- a type's text, behind these names. -/
def tx : TT → List Int → List Int → List UInt8
  | .base k, _, _ => if k = 0 then [105, 110, 116] else [98, 111, 111, 108]
  | .var v, a, _ => 116 :: Lib.itoa (posI a v : Nat)
  | .fn A r B, a, b => [40] ++ tx A a b ++ ([32, 45] ++ rwT r (Lib.itoa (posI (rvs A b) r.t : Nat)) ++ [32]) ++ tx B (tvs A a) (addT (rvs A b) r.t) ++ [41]
theorem tx_ne (T : TT) (a b : List Int) : tx T a b ≠ [] := by
  cases T with
  | base k => unfold tx; split <;> simp
  | var v => unfold tx; simp
  | fn A r B => unfold tx; simp
theorem rwT_len {r : Rw} (h : r.may = true) (s : List UInt8) (hs : s.length ≤ 30) : (rwT r s).length ≤ 500 := by
  have h' := of_decide_eq_true (show mayR r.a r.b r.c r.d r.t = true from h)
  unfold rwT rowK
  have h1 := join_len ((opsL (cnt4 r.a r.b r.c r.d) 4).map (·.data.toList)) (by
    intro x hx
    obtain ⟨y, hy, rfl⟩ := List.mem_map.1 hx
    have := opsL_size _ 4 y hy
    rw [← this]; simp)
  have h2 := opsL_len (cnt4 r.a r.b r.c r.d) 32 (fun i => by unfold cnt4; (repeat' split) <;> omega) 4
  rw [List.length_map] at h1
  split <;> simp <;> omega
theorem tx_len : ∀ (T : TT) (a b : List Int), T.ok = true → a.length + T.sz ≤ 1000000 → b.length + T.sz ≤ 1000000 → (tx T a b).length ≤ T.sz * 600
  | .base k, a, b, _, _, _ => by unfold tx TT.sz; split <;> simp
  | .var v, a, b, _, ha, _ => by
    unfold tx TT.sz
    have := itoa_len (posI a v : Nat) (by omega) (by have := posI_lt (l := a) (v := v); omega)
    simp; omega
  | .fn A r B, a, b, ho, ha, hb => by
    unfold TT.ok at ho
    simp only [Bool.and_eq_true] at ho
    unfold TT.sz at ha hb
    have t1 := tvs_len A a
    have t2 := rvs_len A b
    have t3 := addT_len (rvs A b) r.t
    have h1 := tx_len A a b ho.1.1 (by omega) (by omega)
    have h2 := tx_len B (tvs A a) (addT (rvs A b) r.t) ho.2 (by omega) (by omega)
    have h3 := rwT_len ho.1.2 (Lib.itoa (posI (rvs A b) r.t : Nat)) (by have := itoa_len (posI (rvs A b) r.t : Nat) (by omega) (by have := posI_lt (l := rvs A b) (v := r.t); omega); omega)
    unfold tx TT.sz
    simp only [List.length_append, List.length_cons, List.length_nil]
    omega
/-- what may change while a text is written. -/
abbrev BarW (B g m1 m2 : Nat) (w w' : World) : Prop := Bar (fun k => B ≤ k ∧ (k = g ∨ k = m1 ∨ k = m2 ∨ IsU8 w k)) w w'
theorem BarW.trans {B g m1 m2 : Nat} {w w1 w2 : World} (h : BarW B g m1 m2 w w1) (h' : BarW B g m1 m2 w1 w2) : BarW B g m1 m2 w w2 :=
  Bar.trans h h' fun k hk ⟨h1, h2⟩ => by
    refine ⟨h1, ?_⟩
    by_cases hs : B ≤ k ∧ (k = g ∨ k = m1 ∨ k = m2 ∨ IsU8 w k)
    · exact hs.2
    · rcases h2 with h2 | h2 | h2 | h2
      · exact .inl h2
      · exact .inr (.inl h2)
      · exact .inr (.inr (.inl h2))
      · exact .inr (.inr (.inr (IsU8.of h hk h2 hs)))
theorem BarW.ofU {B g m1 m2 : Nat} {w w' : World} (h : BarU B g w w') : BarW B g m1 m2 w w' := h.mono fun k ⟨h1, h2⟩ => ⟨h1, by rcases h2 with h2 | h2; exact .inl h2; exact .inr (.inr (.inr h2))⟩
theorem BarW.of1 {B g m1 m2 : Nat} {w w' : World} (h : Bar (fun k => k = m1) w w') (hm : B ≤ m1) : BarW B g m1 m2 w w' := h.mono fun k hk => ⟨by have hk : k = m1 := hk; omega, .inr (.inl hk)⟩
theorem BarW.of2 {B g m1 m2 : Nat} {w w' : World} (h : Bar (fun k => k = m2) w w') (hm : B ≤ m2) : BarW B g m1 m2 w w' := h.mono fun k hk => ⟨by have hk : k = m2 := hk; omega, .inr (.inr (.inl hk))⟩
theorem BarW.below {B g m1 m2 : Nat} {w w' : World} (h : BarW B g m1 m2 w w') (hB : B ≤ w.heap.size) : Below B w w' := Bar.below h hB fun k hk => hk.1
theorem NmAt.barU {B g : Nat} {w w' : World} {p m : Nat} {l n : List Int} {t : List UInt8} {nd f1 f2 : Value} (h : NmAt w p m n) (hb : BarU B g w w') (hw : WrtAt w B g t nd f1 f2) : NmAt w' p m n := by
  obtain ⟨q, v, hg⟩ : ∃ q v, w.heap[g]? = some (.cells #[q, v, nd, f1, f2] 80 (0, 0)) := by
    rcases hw with ⟨_, v, h, _⟩ | ⟨_, v, h, _⟩ <;> exact ⟨_, v, h⟩
  obtain ⟨es, ck, hm⟩ := h.2.blk
  refine h.bar hb ?_ ?_
  · rintro ⟨_, rfl | ⟨cs, fr, h2⟩⟩
    · rw [hm] at hg; cases hg
    · rw [hm] at h2; cases h2
  · rintro ⟨_, rfl | ⟨cs, fr, h2⟩⟩
    · rw [h.1] at hg; injection hg with hg; injection hg with _ hg _; exact absurd hg (by decide)
    · rw [h.1] at h2; injection h2 with h2; injection h2 with _ h2 _; exact absurd h2 (by decide)
theorem NmAt.bar1 {w w' : World} {p m m' : Nat} {n : List Int} (h : NmAt w p m n) (hb : Bar (fun k => k = m') w w') (hm : ∃ es ck, w.heap[m']? = some (.map es ck)) (hne : m ≠ m') : NmAt w' p m n := by
  obtain ⟨es, ck, hm⟩ := hm
  exact h.bar hb hne (by rintro rfl; rw [h.1] at hm; cases hm)
theorem WrtAt.bar1 {B g : Nat} {w w' : World} {m : Nat} {t : List UInt8} {nd f1 f2 : Value} (h : WrtAt w B g t nd f1 f2) (hb : Bar (fun k => k = m) w w') (hm : ∃ es ck, w.heap[m]? = some (.map es ck)) : WrtAt w' B g t nd f1 f2 := by
  obtain ⟨es, ck, hm⟩ := hm
  have key : ∀ p, WrtP w B g p t nd f1 f2 → WrtP w' B g p t nd f1 f2 := by
    rintro p ⟨h1, v, h2, h3⟩
    refine ⟨h1, v, (hb.block g (Array.getElem?_eq_some_iff.1 h2).1 (by rintro rfl; rw [h2] at hm; cases hm)).trans h2, hb.own h3 fun k hk => ?_⟩
    rintro rfl
    rcases h3.2 with ⟨rfl, _⟩ | ⟨q, cq, cur, rfl, hq, hqg, _⟩
    · simp [Value.ownBlock] at hk
    · simp [Value.ownBlock] at hk; subst hk; rw [hm] at hqg; cases hqg
  exact h.imp (key _) (key _)
theorem WrtAt.below {B g : Nat} {w w' : World} {t : List UInt8} {nd f1 f2 : Value} (h : WrtAt w B g t nd f1 f2) (hb : Below w.heap.size w w') : WrtAt w' B g t nd f1 f2 := by
  have key : ∀ p, WrtP w B g p t nd f1 f2 → WrtP w' B g p t nd f1 f2 := by
    rintro p ⟨h1, v, h2, h3⟩
    exact ⟨h1, v, (hb.block g (Array.getElem?_eq_some_iff.1 h2).1).trans h2, owns_below h3 hb⟩
  exact h.imp (key _) (key _)
theorem WrtAt.cells {B g : Nat} {w : World} {t : List UInt8} {nd f1 f2 : Value} (h : WrtAt w B g t nd f1 f2) : g < w.heap.size ∧ B ≤ g ∧ w.cell? ⟨g, 2, none⟩ = some nd ∧ w.cell? ⟨g, 3, none⟩ = some f1 ∧ w.cell? ⟨g, 4, none⟩ = some f2 := by
  obtain ⟨q, v, hB, hg⟩ : ∃ q v, B ≤ g ∧ w.heap[g]? = some (.cells #[q, v, nd, f1, f2] 80 (0, 0)) := by
    rcases h with ⟨hB, v, h, _⟩ | ⟨hB, v, h, _⟩ <;> exact ⟨_, v, hB, h⟩
  have e := fun j => Lib.cell_of_heap hg j
  exact ⟨(Array.getElem?_eq_some_iff.1 hg).1, hB, (e 2).trans rfl, (e 3).trans rfl, (e 4).trans rfl⟩
/-- a writer at its work. -/
structure WrW (w0 w : World) (g p1 m1 p2 m2 b off cp : Nat) (ts : List Ty) (l : List UInt8) (n1 n2 : List Int) : Prop where
  wr : WrtAt w w0.heap.size g l (.slice (some ⟨b, off, none⟩) ts.length cp) (byV p1) (byV p2)
  na : NmAt w p1 m1 n1
  nb : NmAt w p2 m2 n2
  bel : Below w0.heap.size w0 w
  ma : w0.heap.size ≤ m1
  mb : w0.heap.size ≤ m2
  ne : m1 ≠ m2
theorem WrW.below {w0 w w' : World} {g p1 m1 p2 m2 b off cp : Nat} {ts : List Ty} {l : List UInt8} {n1 n2 : List Int} (h : WrW w0 w g p1 m1 p2 m2 b off cp ts l n1 n2) (hb : Below w.heap.size w w') : WrW w0 w' g p1 m1 p2 m2 b off cp ts l n1 n2 :=
  ⟨h.wr.below hb, h.na.below hb, h.nb.below hb, h.bel.trans (hb.mono h.bel.size), h.ma, h.mb, h.ne⟩
theorem WrW.wrote {w0 w w' : World} {g p1 m1 p2 m2 b off cp : Nat} {ts : List Ty} {l l' : List UInt8} {n1 n2 : List Int} (h : WrW w0 w g p1 m1 p2 m2 b off cp ts l n1 n2) (hw : WrtAt w' w0.heap.size g l' (.slice (some ⟨b, off, none⟩) ts.length cp) (byV p1) (byV p2)) (hb : BarU w0.heap.size g w w') : WrW w0 w' g p1 m1 p2 m2 b off cp ts l' n1 n2 :=
  ⟨hw, h.na.barU (l := []) hb h.wr, h.nb.barU (l := []) hb h.wr, h.bel.trans (Bar.below hb h.bel.size fun k hk => hk.1), h.ma, h.mb, h.ne⟩
theorem WrW.named1 {w0 w w' : World} {g p1 m1 p2 m2 b off cp : Nat} {ts : List Ty} {l : List UInt8} {n1 n2 n1' : List Int} (h : WrW w0 w g p1 m1 p2 m2 b off cp ts l n1 n2) (hn : NmAt w' p1 m1 n1') (hb : Bar (fun k => k = m1) w w') : WrW w0 w' g p1 m1 p2 m2 b off cp ts l n1' n2 :=
  ⟨h.wr.bar1 hb h.na.2.blk, hn, h.nb.bar1 hb h.na.2.blk (Ne.symm h.ne), h.bel.trans (hb.below h.bel.size fun k hk => by have hk : k = m1 := hk; have := h.ma; omega), h.ma, h.mb, h.ne⟩
theorem WrW.named2 {w0 w w' : World} {g p1 m1 p2 m2 b off cp : Nat} {ts : List Ty} {l : List UInt8} {n1 n2 n2' : List Int} (h : WrW w0 w g p1 m1 p2 m2 b off cp ts l n1 n2) (hn : NmAt w' p2 m2 n2') (hb : Bar (fun k => k = m2) w w') : WrW w0 w' g p1 m1 p2 m2 b off cp ts l n1 n2' :=
  ⟨h.wr.bar1 hb h.nb.2.blk, h.na.bar1 hb h.nb.2.blk h.ne, hn, h.bel.trans (hb.below h.bel.size fun k hk => by have hk : k = m2 := hk; have := h.mb; omega), h.ma, h.mb, h.ne⟩
end Go.Proofs.YtdganhamafhfdaaDoor
