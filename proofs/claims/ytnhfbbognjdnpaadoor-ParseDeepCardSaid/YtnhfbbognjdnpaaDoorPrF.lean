/- Rows of nodes that are the same but for their places. -/
import Derived.Test.YtnhfbbognjdnpaaDoorPrE
namespace Go.Proofs.YtnhfbbognjdnpaaDoor
open Go.RowKit
set_option linter.unusedVariables false
set_option linter.unusedSimpArgs false

def bare0 (t : Nd) : Nd := { t with p := 0 }
theorem sameS_of {ns ms : List Nd} (h : ns.map bare0 = ms.map bare0) : sameV ndS ns ms = true := by
  have hl : ns.length = ms.length := by have := congrArg List.length h; simpa using this
  unfold sameV allR
  rw [decide_eq_true hl, Bool.true_and, List.all_eq_true]
  intro j hj
  have hj : j < ns.length := List.mem_range.1 hj
  have e : ∀ (l : List Nd), j < l.length → (l.map bare0)[j]? = some (bare0 (l.getD j nd0)) := fun l hl => by
    rw [List.getElem?_map, List.getD_eq_getElem?_getD, List.getElem?_eq_getElem hl]; rfl
  have k := e ns hj
  rw [h, e ms (by omega)] at k
  injection k with k
  show ndE (bare0 (ns.getD j nd0)) (bare0 (ms.getD j nd0)) = true
  rw [k]; exact ndE_self _
def bareE (t u : Nd) : Bool := decide (t.k = u.k) && decide (t.a = u.a) && decide (t.b = u.b) && decide (t.c = u.c) && decide (t.n = u.n) && decide (t.nm.data.toList = u.nm.data.toList) && decide (t.x.data.toList = u.x.data.toList) && decide (t.y.data.toList = u.y.data.toList) && decide (t.z.data.toList = u.z.data.toList)
theorem bareE_inj {t u : Nd} (h : bareE t u = true) : bare0 t = bare0 u := by
  obtain ⟨k, a, b, c, n, nm, x, y, z, p⟩ := t
  obtain ⟨k', a', b', c', n', nm', x', y', z', p'⟩ := u
  unfold bareE at h
  simp only [Bool.and_eq_true, decide_eq_true_eq] at h
  obtain ⟨⟨⟨⟨⟨⟨⟨⟨rfl, rfl⟩, rfl⟩, rfl⟩, rfl⟩, h1⟩, h2⟩, h3⟩, h4⟩ := h
  obtain rfl := ba_ext h1
  obtain rfl := ba_ext h2
  obtain rfl := ba_ext h3
  obtain rfl := ba_ext h4
  rfl
def rowE : List Nd → List Nd → Bool
  | [], [] => true
  | t :: l, u :: m => bareE t u && rowE l m
  | _, _ => false
theorem rowE_map : ∀ {ns ms : List Nd}, rowE ns ms = true → ns.map bare0 = ms.map bare0
  | [], [], _ => rfl
  | [], _ :: _, h => by cases h
  | _ :: _, [], h => by cases h
  | t :: ns, u :: ms, h => by
    unfold rowE at h
    rw [Bool.and_eq_true] at h
    rw [List.map_cons, List.map_cons, bareE_inj h.1, rowE_map h.2]
theorem sameS_l {ns ms : List Nd} (h : rowE ns ms = true) : sameV ndS ns ms = true := sameS_of (rowE_map h)
end Go.Proofs.YtnhfbbognjdnpaaDoor
