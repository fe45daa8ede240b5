/- The three errors that stand in variables of package binds: what the listed variables hold; a world that holds them. -/
import Derived.Test.YtfkdcconmecaoaaDoorSfb
import Derived.Test.YtfkdcconmecaoaaDoorRows
import Derived.Test.YtfkdcconmecaoaaDoorCrd
import Derived.Stop.LaidErr
namespace Go.Proofs.YtfkdcconmecaoaaDoor
open Go.RowKit Go.ChangeShapes
set_option linter.unusedVariables false
set_option linter.unusedSimpArgs false

theorem gErrO : Tryd.prog.globalNamed "trammel/binds.ErrOccurs" = some 0 := by kernel_rfl
theorem gErrU : Tryd.prog.globalNamed "trammel/binds.ErrUnlike" = some 1 := by kernel_rfl
theorem gErrM : Tryd.prog.globalNamed "trammel/binds.ErrMany" = some 2 := by kernel_rfl
theorem yErrO : (Tryd.prog.globals[(0 : Nat)]?).map (·.type) = some 59 := by kernel_rfl
theorem yErrU : (Tryd.prog.globals[(1 : Nat)]?).map (·.type) = some 59 := by kernel_rfl
theorem yErrM : (Tryd.prog.globals[(2 : Nat)]?).map (·.type) = some 59 := by kernel_rfl
theorem starES : "*" ++ "errors.errorString" = "*errors.errorString" := by decide
theorem rowES (u : TypeId) (h : Tryd.prog.typeName? 3 u = some "*errors.errorString") : u = 211 :=
  typeName_ptr_named (nm := "errors.errorString") (by rw [starES]; kernel_rfl) (by kernel_rfl) (by decide) u (by rw [starES]; exact h)
theorem cellsES : Tryd.prog.cellsOf 234 = 1 := by kernel_rfl
theorem cellsStr : Tryd.prog.cellsOf 9 = 1 := by kernel_rfl
set_option maxRecDepth 20000 in
/-- what the three listed variables hold. -/
theorem sen_of_laid {W : World} {x0 x1 x2 : List UInt8} (h : laidMet Tryd.prog [("trammel/binds.ErrUnlike", .iface "*errors.errorString" (.ptr (.agg [.lit (.string x1)]))), ("trammel/binds.ErrOccurs", .iface "*errors.errorString" (.ptr (.agg [.lit (.string x0)]))), ("trammel/binds.ErrMany", .iface "*errors.errorString" (.ptr (.agg [.lit (.string x2)])))] W) :
    ∃ a0 a1 a2, SenB W.heap.size a0 a1 a2 W := by
  obtain ⟨ps, ⟨g1, t1, cs1, f1, p1, q1, hg1, ht1, hv1, hd1, ⟨g0, t0, cs0, f0, p0, q0, hg0, ht0, hv0, hd0, ⟨g2, t2, cs2, f2, p2, q2, hg2, ht2, hv2, hd2, hq2, e2⟩, e0⟩, e1⟩, hnd, hrows⟩ := h
  obtain rfl := Option.some.inj (gErrU.symm.trans hg1)
  obtain rfl := Option.some.inj (gErrO.symm.trans hg0)
  obtain rfl := Option.some.inj (gErrM.symm.trans hg2)
  obtain rfl := Option.some.inj (yErrU.symm.trans ht1)
  obtain rfl := Option.some.inj (yErrO.symm.trans ht0)
  obtain rfl := Option.some.inj (yErrM.symm.trans ht2)
  have hq2' : q2 = [] := hq2
  subst hq2'
  subst e2
  subst e0
  subst e1
  obtain ⟨l1⟩ := cs1
  obtain ⟨l0⟩ := cs0
  obtain ⟨l2⟩ := cs2
  have ok1 : ∀ u v, l1 = [.iface u v] → Value.okWide Tryd.prog W .any 0 u v := fun u v e => by
    subst e
    exact (hrows (1) 0 (by simp [MemPlace.row])).2 u v (by have := World.var?_cell hg1 hv1 0; exact this)
  have ok0 : ∀ u v, l0 = [.iface u v] → Value.okWide Tryd.prog W .any 0 u v := fun u v e => by
    subst e
    exact (hrows (0) 0 (by simp [MemPlace.row])).2 u v (by have := World.var?_cell hg0 hv0 0; exact this)
  have ok2 : ∀ u v, l2 = [.iface u v] → Value.okWide Tryd.prog W .any 0 u v := fun u v e => by
    subst e
    exact (hrows (2) 0 (by simp [MemPlace.row])).2 u v (by have := World.var?_cell hg2 hv2 0; exact this)
  obtain ⟨a1, s1, rfl, hc1, hs1, hz1, rfl⟩ := errorString_of_trod Tryd.underlying59 rowES Tryd.underlying211 Tryd.underlying234 rfl rfl Tryd.underlying9 cellsES cellsStr hd1 ok1
  obtain ⟨a0, s0, rfl, hc0, hs0, hz0, rfl⟩ := errorString_of_trod Tryd.underlying59 rowES Tryd.underlying211 Tryd.underlying234 rfl rfl Tryd.underlying9 cellsES cellsStr hd0 ok0
  obtain ⟨a2, s2, rfl, hc2, hs2, hz2, rfl⟩ := errorString_of_trod Tryd.underlying59 rowES Tryd.underlying211 Tryd.underlying234 rfl rfl Tryd.underlying9 cellsES cellsStr hd2 ok2
  have hb0 := (hrows a0.block a0.off (by simp [MemPlace.row])).1
  have hb1 := (hrows a1.block a1.off (by simp [MemPlace.row])).1
  have hb2 := (hrows a2.block a2.off (by simp [MemPlace.row])).1
  have lt : ∀ {a : Addr}, (∃ c t, W.heap[a.block]? = some (.cells c t (0, 0))) → a.block < W.heap.size := fun {a} ⟨c, t, h⟩ => (Array.getElem?_eq_some_iff.1 h).1
  have k0 : W.cell? ⟨0, 0, none⟩ = some (errV a0) := by simpa [errV] using World.var?_cell hg0 hv0 0
  have k1 : W.cell? ⟨1, 0, none⟩ = some (errV a1) := by simpa [errV] using World.var?_cell hg1 hv1 0
  have k2 : W.cell? ⟨2, 0, none⟩ = some (errV a2) := by simpa [errV] using World.var?_cell hg2 hv2 0
  refine ⟨a0, a1, a2, ⟨k0, k1, k2, hb0, hb1, hb2, ?_, ?_, ?_⟩, World.block_lt_of_cell? _ _ k0, World.block_lt_of_cell? _ _ k1, World.block_lt_of_cell? _ _ k2, lt hb0, lt hb1, lt hb2⟩
  · rintro rfl; simp [MemPlace.row] at hnd
  · rintro rfl; simp [MemPlace.row] at hnd
  · rintro rfl; simp [MemPlace.row] at hnd
/-- a world that holds errors in the listed variables. -/
def layErrs (P : Program) (tp te : TypeId) : List (String × DataW Unit) → Array Obj → Array Obj
  | [], h => h
  | (n, d) :: r, h => layErrs P tp te r (match d, P.globalNamed n with
    | .iface _ (.ptr (.agg [.lit (.string s)])), some g => (h.modify g fun | .cells _ t frozen => .cells #[.iface tp (.pointer (some ⟨h.size, 0, none⟩))] t frozen | o => o).push (.cells #[.string ⟨s.toArray⟩] te)
    | _, _ => h)
end Go.Proofs.YtfkdcconmecaoaaDoor
