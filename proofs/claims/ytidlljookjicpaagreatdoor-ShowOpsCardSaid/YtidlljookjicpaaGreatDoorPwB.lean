/- A text that grows within a printer: package strings' Builder as the printer's first field. -/
import Derived.Test.YtidlljookjicpaaGreatDoorPwA
import Derived.Test.YtidlljookjicpaaGreatDoorBarA
import Derived.Lib.Builder
import Derived.Lib.AppendStr
import Derived.Lib.UnsafeStr
import Derived.Laws.Externs
/- A text that grows within a printer: package strings' Builder as the printer's first field. -/
namespace Go.Proofs.YtidlljookjicpaaGreatDoor
open Go.RowKit
set_option linter.unusedVariables false
set_option linter.unusedSimpArgs false

def IsU8p (w : World) (k : Nat) : Prop := ∃ cs fr, w.heap[k]? = some (.cells cs 5 fr)
/-- a writer in memory, from B on; it holds l. -/
def PnP (w : World) (B g : Nat) (p : Value) (l : List UInt8) (nd td : Value) : Prop :=
  B ≤ g ∧ ∃ v, w.heap[g]? = some (.cells #[p, v, nd, td] 59 (0, 0)) ∧ w.ownsRow B 5 1 v l.length (Lib.byteCells l)
def PnAt (w : World) (B g : Nat) (l : List UInt8) (nd td : Value) : Prop := PnP w B g (.pointer none) l nd td ∨ PnP w B g (.pointer (some ⟨g, 0, none⟩)) l nd td
theorem Bar.wid {S S' : Nat → Prop} {w w' : World} (h : Bar S w w') (hs : ∀ k, S k → S' k) : Bar S' w w' := ⟨h.os, h.tape, h.output, h.size, fun k hk hn => h.block k hk fun e => hn (hs k e)⟩
abbrev BarP (B g : Nat) (w w' : World) : Prop := Bar (fun k => B ≤ k ∧ (k = g ∨ IsU8p w k)) w w'
theorem IsU8p.of {S : Nat → Prop} {w w' : World} {k : Nat} (hb : Bar S w w') (hk : k < w.heap.size) (h : IsU8p w' k) (hn : ¬ S k) : IsU8p w k := by
  obtain ⟨cs, fr, h⟩ := h
  exact ⟨cs, fr, (hb.block k hk hn).symm.trans h⟩
theorem BarP.trans {B g : Nat} {w w1 w2 : World} (h : BarP B g w w1) (h' : BarP B g w1 w2) : BarP B g w w2 :=
  Bar.trans h h' fun k hk ⟨h1, h2⟩ => by
    refine ⟨h1, ?_⟩
    rcases h2 with h2 | h2
    · exact .inl h2
    · by_cases hs : B ≤ k ∧ (k = g ∨ IsU8p w k)
      · exact hs.2
      · exact .inr (IsU8p.of h hk h2 hs)
theorem PnP.lt {w : World} {B g : Nat} {p : Value} {l : List UInt8} {nd td : Value} (h : PnP w B g p l nd td) : g < w.heap.size := by
  obtain ⟨_, v, h1, _⟩ := h; exact (Array.getElem?_eq_some_iff.1 h1).1
theorem pn_lies : liesAt Tryz.prog Tryz.prog.depth 59 (4 / Tryz.prog.cellsOf 59) 0 57 1 = true := by kernel_rfl
theorem pn_bsz : (Tryz.prog.info? 57).map (·.size) = some 2 := by kernel_rfl
theorem infoU8p : (Tryz.prog.info? 5).map (fun i => (i.zero, i.size, i.bytes)) = some (some (.int .u8 0), 1, 1) := by kernel_rfl
set_option maxHeartbeats 2000000 in
set_option maxRecDepth 100000 in
theorem pn_fresh (g : Nat) (v nd td : Value) (w : World) (hb : w.heap[g]? = some (.cells #[.pointer none, v, nd, td] 59 (0, 0))) :
    Calls Tryz.prog 44 #[.pointer (some ⟨g, 0, none⟩)] w fun e w' => e = .returned (.tuple #[]) ∧ w' = w.setCell ⟨g, 0, none⟩ (.pointer (some ⟨g, 0, none⟩)) := by
  obtain ⟨j, hj, hjs⟩ := Option.map_eq_some_iff.1 pn_bsz
  have h0 : w.cell? ⟨g, 0, none⟩ = some (.pointer none) := by rw [Lib.cell_of_heap hb]; rfl
  have hfz : w.frozen? ⟨g, 0, none⟩ = false := Lib.frozen_of_heap hb 0
  have hsh : w.shape? g = some (59, 4) := by simp [World.shape?, hb]
  have k1 := Lib.run_to_unsafe w ⟨g, 0, none⟩ Tryz.underlying54 Tryz.underlying102 hj (by rw [hjs]; decide) hsh (Nat.zero_lt_succ 3)
  have k2 := Lib.run_from_unsafe w ⟨g, 0, none⟩ Tryz.underlying102 Tryz.underlying54 hj hsh pn_lies
  have k3 : ∀ (x : Value) (W : World), (callFunc 67 #[x]).run Tryz.prog W = .ok (.value x) W := fun x W => by
    rw [run_callFunc_extern Tryz.func67 (by kernel_rfl) (by kernel_rfl) (by kernel_rfl) (e := Extern.AbiNoEscape.same) (by kernel_rfl)]
    rw [Lib.run_noEscape]; rfl
  have hgl : g < w.heap.size := (Array.getElem?_eq_some_iff.1 hb).1
  clear hb hsh hj
  go_enter Tryz.func44, Tryz.ntmps44
  go_wp2_with fail
  go_end0
  exact ⟨rfl, rfl⟩
set_option maxHeartbeats 2000000 in
set_option maxRecDepth 100000 in
theorem pn_used (g : Nat) (v nd td : Value) (w : World) (hb : w.heap[g]? = some (.cells #[.pointer (some ⟨g, 0, none⟩), v, nd, td] 59 (0, 0))) :
    Calls Tryz.prog 44 #[.pointer (some ⟨g, 0, none⟩)] w fun e w' => e = .returned (.tuple #[]) ∧ w' = w := by
  obtain ⟨j, hj, hjs⟩ := Option.map_eq_some_iff.1 pn_bsz
  have h0 : w.cell? ⟨g, 0, none⟩ = some (.pointer (some ⟨g, 0, none⟩)) := by rw [Lib.cell_of_heap hb]; rfl
  have k1 := Lib.run_neq_ptr_same w ⟨g, 0, none⟩ Tryz.underlying54 hj
  have hgl : g < w.heap.size := (Array.getElem?_eq_some_iff.1 hb).1
  clear hb hj
  go_enter Tryz.func44, Tryz.ntmps44
  go_wp2_with fail
  go_end0
  exact ⟨rfl, rfl⟩
theorem pn_check (B g : Nat) (l : List UInt8) (nd td : Value) (w : World) (h : PnAt w B g l nd td) :
    Calls Tryz.prog 44 #[.pointer (some ⟨g, 0, none⟩)] w fun e w' => e = .returned (.tuple #[]) ∧ PnP w' B g (.pointer (some ⟨g, 0, none⟩)) l nd td ∧ BarP B g w w' := by
  rcases h with ⟨hB, v, h1, h2⟩ | ⟨hB, v, h1, h2⟩
  · refine (pn_fresh g v nd td w h1).mono ?_
    rintro e w' ⟨rfl, rfl⟩
    refine ⟨rfl, ⟨hB, v, ?_, ?_⟩, Bar.set _ _ ⟨hB, .inl rfl⟩⟩
    · simp [World.setCell, Array.getElem?_modify, h1]
    · have hne := Lib.ownBlock_ne h2 h1 (by decide)
      exact h2.kept (row := some g) ⟨rfl, rfl, rfl, by simp [World.setCell], fun k _ hk => Below.heap_setCell _ _ _ _ (fun e => hk (by simp [e]))⟩ (Or.inr hne)
  · refine (pn_used g v nd td w h1).mono ?_
    rintro e w' ⟨rfl, rfl⟩
    exact ⟨rfl, ⟨hB, v, h1, h2⟩, Bar.refl _ _⟩
set_option maxHeartbeats 4000000 in
set_option maxRecDepth 100000 in
theorem pn_string (B g : Nat) (l : List UInt8) (nd td : Value) (s : ByteArray) (w : World) (h : Hid (PnAt w B g l nd td)) (hlen : l.length + s.size ≤ 140737488355328) :
    Calls Tryz.prog 22 #[.pointer (some ⟨g, 0, none⟩), .string s] w fun e w' => e = .returned (.tuple #[.int .i64 s.size, .nilIface]) ∧ PnAt w' B g (l ++ s.data.toList) nd td ∧ BarP B g w w' := by
  obtain ⟨i0, hi, hz0, hz1, hz2⟩ := info_parts infoU8p
  go_enter Tryz.func22, Tryz.ntmps22
  go_wp2_with fail
  refine (pn_check B g l nd td w h.out).mono ?_
  rintro e w1 ⟨rfl, ⟨hB, v, hbk, hown⟩, hb1⟩
  have c0 : w1.cell? ⟨g, 0, none⟩ = some (.pointer (some ⟨g, 0, none⟩)) := by rw [Lib.cell_of_heap hbk]; rfl
  have c1 : w1.cell? ⟨g, 1, none⟩ = some v := by rw [Lib.cell_of_heap hbk]; rfl
  have hgl : g < w1.heap.size := (Array.getElem?_eq_some_iff.1 hbk).1
  have hbk' := Lib.hid hbk
  have hb1' := Lib.hid hb1
  clear hbk hb1
  go_wp2_with (at_builtin; refine Lib.wpList_append_own_string _ rfl (.tmp 12) (.tmp 13) 55 9 rfl B 5 i0 Tryz.underlying55 Tryz.underlying9 hi hz0 hz1 hz2 v l.length (Lib.byteCells l) rfl hown s rfl ?c3 ?c4 ?c5 ?_)
  case c3 => unfold maxLen; omega
  case c4 => omega
  case c5 => omega
  intro v' w2 hown' hgrow _
  have hne : v.ownBlock ≠ some g := Lib.ownBlock_ne hown hbk'.out (by decide)
  have hb2 : w2.heap[g]? = some (.cells #[.pointer (some ⟨g, 0, none⟩), v, nd, td] 59 (0, 0)) := by
    rw [hgrow.block g hgl (fun e => hne e.symm)]; exact hbk'.out
  have d0 : w2.cell? ⟨g, 0, none⟩ = some (.pointer (some ⟨g, 0, none⟩)) := by rw [Lib.cell_of_heap hb2]; rfl
  have d1 : w2.cell? ⟨g, 1, none⟩ = some v := by rw [Lib.cell_of_heap hb2]; rfl
  have e1 : w2.frozen? ⟨g, 1, none⟩ = false := Lib.frozen_of_heap hb2 1
  obtain ⟨ao, n', cap, rfl⟩ : ∃ ao n' cap, v' = .slice ao n' cap := by
    rcases hown'.2 with ⟨hv, _⟩ | ⟨g, cap, cur, hv, _⟩
    · exact ⟨_, _, _, hv⟩
    · exact ⟨_, _, _, hv⟩
  have hgl2 : g < w2.heap.size := (Array.getElem?_eq_some_iff.1 hb2).1
  have hfin := Lib.hid (show PnAt (w2.setCell ⟨g, 1, none⟩ (.slice ao n' cap)) B g (l ++ s.data.toList) nd td from by
    refine .inr ⟨hB, .slice ao n' cap, ?_, ?_⟩
    · simp [World.setCell, Array.getElem?_modify, hb2]
    · have e3 : Lib.byteCells (l ++ s.data.toList) = Lib.byteCells l ++ Lib.strCells s := by rw [Lib.byteCells_append, Lib.strCells_eq]
      have e4 : (l ++ s.data.toList).length = l.length + s.size := by rw [List.length_append]; rfl
      rw [e3, e4]
      have hne2 := Lib.ownBlock_ne hown' hb2 (by decide)
      exact hown'.kept (row := some g) ⟨rfl, rfl, rfl, by simp [World.setCell], fun k _ hk => Below.heap_setCell _ _ _ _ (fun e => hk (by simp [e]))⟩ (Or.inr hne2))
  have hbar := Lib.hid (show BarP B g w (w2.setCell ⟨g, 1, none⟩ (.slice ao n' cap)) from by
    refine hb1'.out.trans ?_
    have h2 : BarP B g w1 w2 := (Bar.of_grown hgrow).wid fun k hk => by
      have hk : v.ownBlock = some k := hk
      rcases hown.2 with ⟨rfl, _⟩ | ⟨q, cq, cur, rfl, hq, hqg, _⟩
      · simp [Value.ownBlock] at hk
      · simp [Value.ownBlock] at hk; subst hk
        exact ⟨hq, .inr ⟨cur, _, hqg⟩⟩
    exact h2.trans (Bar.set _ _ ⟨hB, .inl rfl⟩))
  clear hown hown' hgrow hb2 hbk' hb1' hne
  go_wp2_with fail
  go_ret2
  exact ⟨rfl, hfin.out, hbar.out⟩
set_option maxHeartbeats 4000000 in
set_option maxRecDepth 100000 in
theorem pn_text (B g : Nat) (l : List UInt8) (nd td : Value) (w : World) (h : Hid (PnAt w B g l nd td)) (h0 : l ≠ []) :
    Calls Tryz.prog 26 #[.pointer (some ⟨g, 0, none⟩)] w fun e w' => e = .returned (.string ⟨l.toArray⟩) ∧ Below B w w' := by
  obtain ⟨p, hB, v, hbk, hown⟩ : ∃ p, PnP w B g p l nd td := by
    rcases h.out with h | h
    · exact ⟨_, h⟩
    · exact ⟨_, h⟩
  have hl0 : l.length ≠ 0 := by simpa using h0
  obtain ⟨q, cap, cur, rfl, hbg, hg, hnc, hcm, hcs, htake⟩ : ∃ q cap cur, v = .slice (some ⟨q, 0, none⟩) l.length cap ∧ B ≤ q ∧ w.heap[q]? = some (.cells cur 5 (0, 0)) ∧ l.length ≤ cap ∧ cap ≤ maxLen ∧ cur.size = cap * 1 ∧ cur.toList.take (l.length * 1) = Lib.byteCells l := by
    rcases hown.2 with ⟨_, hz⟩ | ⟨q, cap, cur, hv, r⟩
    · exact absurd hz hl0
    · exact ⟨q, cap, cur, hv, r⟩
  have c1 : w.drew.cell? ⟨g, 1, none⟩ = some (.slice (some ⟨q, 0, none⟩) l.length cap) := by
    have : w.drew.heap[g]? = some (.cells #[p, .slice (some ⟨q, 0, none⟩) l.length cap, nd, td] 59 (0, 0)) := hbk
    rw [Lib.cell_of_heap this]; rfl
  have hSD : (Builtin.unsafeSliceData_ #[55] 86 #[.slice (some ⟨q, 0, none⟩) l.length cap]).run Tryz.prog w.drew = .ok (.pointer (some ⟨q, 0, none⟩)) w.drew :=
    Lib.run_unsafeSliceData_row _ _ _ _ _ _ (by omega)
  have hUS : (Builtin.unsafeString_ #[86, 3] 9 #[.pointer (some ⟨q, 0, none⟩), .int .i64 l.length]).run Tryz.prog w.drew = .ok (.string ⟨l.toArray⟩) (w.drew.freeze ⟨q, 0, none⟩ l.length) := by
    refine Lib.run_unsafeString_row w.drew 86 3 9 5 Tryz.underlying86 (by kernel_rfl) q cur.size (by have hg' : w.drew.heap[q]? = some (.cells cur 5 (0, 0)) := hg; simp [World.shape?, hg']) l h0 (by omega) (by unfold maxLen at hcm; omega) ?_
    intro j x hx
    have := hown.cells (g := q) rfl j (.int .u8 x.toNat) (by simp [Lib.byteCells, hx])
    exact this
  have hgl : g < w.heap.size := (Array.getElem?_eq_some_iff.1 hbk).1
  clear hbk hown hg htake h
  go_enter Tryz.func26, Tryz.ntmps26
  go_wp2_with fail
  go_region
  all_goals (go_wp2_with fail; go_ret; exact ⟨rfl, Lib.below_freeze (Below.drew (Below.refl B w)) (p := ⟨q, 0, none⟩) hbg _⟩)
end Go.Proofs.YtidlljookjicpaaGreatDoor

/- A printer at its work: what it holds, what a step leaves. -/
namespace Go.Proofs.YtidlljookjicpaaGreatDoor
open Go.RowKit
set_option linter.unusedVariables false
set_option linter.unusedSimpArgs false

theorem PnAt.below {B g : Nat} {w w' : World} {t : List UInt8} {nd td : Value} (h : PnAt w B g t nd td) (hb : Below w.heap.size w w') : PnAt w' B g t nd td := by
  have key : ∀ p, PnP w B g p t nd td → PnP w' B g p t nd td := by
    rintro p ⟨h1, v, h2, h3⟩
    exact ⟨h1, v, (hb.block g (Array.getElem?_eq_some_iff.1 h2).1).trans h2, owns_below h3 hb⟩
  exact h.imp (key _) (key _)
theorem PnAt.cells {B g : Nat} {w : World} {t : List UInt8} {nd td : Value} (h : PnAt w B g t nd td) : g < w.heap.size ∧ B ≤ g ∧ w.cell? ⟨g, 2, none⟩ = some nd ∧ w.cell? ⟨g, 3, none⟩ = some td ∧ ∀ o, w.frozen? ⟨g, o, none⟩ = false := by
  obtain ⟨q, v, hB, hg⟩ : ∃ q v, B ≤ g ∧ w.heap[g]? = some (.cells #[q, v, nd, td] 59 (0, 0)) := by
    rcases h with ⟨hB, v, h, _⟩ | ⟨hB, v, h, _⟩ <;> exact ⟨_, v, hB, h⟩
  have e := fun j => Lib.cell_of_heap hg j
  exact ⟨(Array.getElem?_eq_some_iff.1 hg).1, hB, (e 2).trans rfl, (e 3).trans rfl, Lib.frozen_of_heap hg⟩
theorem PnAt.deep {B g : Nat} {w : World} {t : List UInt8} {nd td : Value} (v2 : Value) (h : PnAt w B g t nd td) : PnAt (w.setCell ⟨g, 3, none⟩ v2) B g t nd v2 := by
  have key : ∀ p, PnP w B g p t nd td → PnP (w.setCell ⟨g, 3, none⟩ v2) B g p t nd v2 := by
    rintro p ⟨h1, v, h2, h3⟩
    refine ⟨h1, v, by simp [World.setCell, Array.getElem?_modify, h2], ?_⟩
    have hne := Lib.ownBlock_ne h3 h2 (by decide)
    exact h3.kept (row := some g) ⟨rfl, rfl, rfl, by simp [World.setCell], fun k _ hk => Below.heap_setCell _ _ _ _ (fun e => hk (by simp [e]))⟩ (Or.inr hne)
  exact h.imp (key _) (key _)
theorem BxN.bar {B G : Nat} {w w' : World} {g : Nat} {t : Nd} (h : BxN w g t) (hb : BarP B G w w') (hne : g ≠ G) : BxN w' g t :=
  (hb.block g h.lt (by
    rintro ⟨_, h2 | ⟨cs, fr, h2⟩⟩
    · exact hne h2
    · rw [h] at h2; injection h2 with h2; injection h2 with _ h3 _; exact absurd h3 (by decide))).trans h
/-- a printer at its work since w0: none: it went too deep. -/
def StP (w0 : World) (G b off cp : Nat) (ts : List Nd) (w : World) (R : Option (List UInt8)) (m : Nat) : Prop :=
  Below w0.heap.size w0 w ∧ ∃ l td, PnAt w w0.heap.size G l (.slice (some ⟨b, off, none⟩) ts.length cp) (.bool td) ∧ l.length ≤ m ∧ ((R = some l ∧ td = false) ∨ (R = none ∧ td = true))
theorem StP.lt {w0 : World} {G b off cp : Nat} {ts : List Nd} {w : World} {R : Option (List UInt8)} {m : Nat} (h : StP w0 G b off cp ts w R m) : G < w.heap.size ∧ w0.heap.size ≤ G ∧ w0.heap.size ≤ w.heap.size := by
  obtain ⟨h0, l, td, h1, _⟩ := h
  exact ⟨h1.cells.1, h1.cells.2.1, h0.size⟩
theorem StP.below {w0 : World} {G b off cp : Nat} {ts : List Nd} {w w' : World} {R : Option (List UInt8)} {m : Nat} (h : StP w0 G b off cp ts w R m) (hb : Below w.heap.size w w') : StP w0 G b off cp ts w' R m := by
  obtain ⟨h0, l, td, h1, h2⟩ := h
  exact ⟨belT h0 hb, l, td, h1.below hb, h2⟩
theorem StP.mono {w0 : World} {G b off cp : Nat} {ts : List Nd} {w : World} {R : Option (List UInt8)} {m m' : Nat} (h : StP w0 G b off cp ts w R m) (hm : m ≤ m') : StP w0 G b off cp ts w R m' := by
  obtain ⟨h0, l, td, h1, h2, h3⟩ := h
  exact ⟨h0, l, td, h1, by omega, h3⟩
theorem BarP.belowB {B G : Nat} {w w' : World} (h : BarP B G w w') (hB : B ≤ w.heap.size) : Below B w w' := Bar.below h hB fun k hk => hk.1
theorem barP_next {B G : Nat} {w w1 w2 : World} (h : Below w.heap.size w w1) (h' : BarP B G w1 w2) : BarP B G w w2 := BarP.trans (Bar.of_below h) h'
def wrO (s : List UInt8) (R : Option (List UInt8)) : Option (List UInt8) := R.map (· ++ s)
def exO (T : PT) (o : Nat) (R : Option (List UInt8)) : Option (List UInt8) := R.bind fun l => if o + T.ins + 1 ≤ 40 then some (l ++ T.tx) else none
def ndO (T : PT) (o : Nat) (R : Option (List UInt8)) : Option (List UInt8) := R.bind fun l => if o + T.ins ≤ 40 then some (l ++ T.tx) else none
def opO (T : PT) (o : Nat) (R : Option (List UInt8)) : Option (List UInt8) := R.bind fun l => if o + sdD T ≤ 40 then some (l ++ brS T.atm T.tx) else none
theorem stp_write {w0 : World} {G b off cp : Nat} {ts : List Nd} {R : Option (List UInt8)} {m : Nat} (s : ByteArray) (w : World) (h : Hid (StP w0 G b off cp ts w R m)) (hm : m + s.size ≤ 1000000) :
    Calls Tryz.prog 22 #[.pointer (some ⟨G, 0, none⟩), .string s] w fun e w' => e = .returned (.tuple #[.int .i64 s.size, .nilIface]) ∧ StP w0 G b off cp ts w' (wrO s.data.toList R) (m + s.size) ∧ BarP w0.heap.size G w w' := by
  have hl := h.out.lt
  obtain ⟨h0, l, td, h1, h2, h3⟩ := h.out
  refine (pn_string w0.heap.size G l _ _ s w (Lib.hid h1) (by omega)).mono ?_
  rintro e w' ⟨rfl, k1, k2⟩
  refine ⟨rfl, ⟨h0.trans (k2.belowB h0.size), _, td, k1, ?_, ?_⟩, k2⟩
  · rw [List.length_append]
    have : s.data.toList.length = s.size := rfl
    omega
  · rcases h3 with ⟨rfl, rfl⟩ | ⟨rfl, rfl⟩
    · exact .inl ⟨rfl, rfl⟩
    · exact .inr ⟨rfl, rfl⟩
end Go.Proofs.YtidlljookjicpaaGreatDoor
