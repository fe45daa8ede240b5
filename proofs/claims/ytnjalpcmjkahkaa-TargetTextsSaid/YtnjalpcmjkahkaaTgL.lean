/- Copies of rows of target nodes, lent and held against each other. -/
import Derived.Test.YtnjalpcmjkahkaaTgD
import Derived.Laws.AppendOwn
import Derived.Laws.AppendOwnNone
import Derived.OwnWalk
import Derived.Deep.WholeRow
namespace Go.Proofs.Ytnjalpcmjkahkaa
open Go.RowKit
set_option linter.unusedVariables false
set_option linter.unusedSimpArgs false

def cellsT (t : Tg) : List Value := [.int .i64 t.k, .int .i64 t.a, .int .i64 t.b, .int .i64 t.c, .int .i64 t.n, .int .i64 t.x, .int .i64 t.y, .int .i64 t.z, .int .i64 t.w]
def rowT (ts : List Tg) : List Value := ts.flatMap cellsT
theorem rowT_cons (t : Tg) (ts : List Tg) : rowT (t :: ts) = cellsT t ++ rowT ts := rfl
theorem rowT_app (a b : List Tg) : rowT (a ++ b) = rowT a ++ rowT b := by unfold rowT; rw [List.flatMap_append]
theorem rowT_len (ts : List Tg) : (rowT ts).length = ts.length * 9 := by
  induction ts with
  | nil => rfl
  | cons t ts ih => rw [rowT_cons, List.length_append, ih, List.length_cons]; show 9 + _ = _; omega
theorem rowT_at : ∀ (ts : List Tg) (i j : Nat), i < ts.length → j < 9 → (rowT ts)[i * 9 + j]? = (cellsT (ts.getD i tg0))[j]?
  | [], i, j, h, _ => by simp at h
  | t :: ts, 0, j, _, hj => by
    rw [rowT_cons, List.getElem?_append_left (by show _ < 9; omega)]
    simp
  | t :: ts, i + 1, j, h, hj => by
    rw [rowT_cons, List.getElem?_append_right (by show 9 ≤ _; omega)]
    have e : (i + 1) * 9 + j - (cellsT t).length = i * 9 + j := by show _ - 9 = _; omega
    rw [e, rowT_at ts i j (by simpa using h) hj]
    simp
theorem rowT_one (ts : List Tg) : ∀ u ∈ rowT ts, u.oneCell' = true := by
  intro u hu
  unfold rowT at hu
  rw [List.mem_flatMap] at hu
  obtain ⟨t, _, ht⟩ := hu
  unfold cellsT at ht
  simp only [List.mem_cons, List.not_mem_nil, or_false] at ht
  rcases ht with rfl | rfl | rfl | rfl | rfl | rfl | rfl | rfl | rfl <;> rfl
theorem tgAt_cells {w : World} {b off i : Nat} {t : Tg} : TgAt w b off t i ↔ ∀ j u, (cellsT t)[j]? = some u → w.cell? ⟨b, off + i * 9 + j, none⟩ = some u := by
  constructor
  · rintro ⟨e0, e1, e2, e3, e4, e5, e6, e7, e8⟩ j u hj
    have hlt : j < 9 := (List.getElem?_eq_some_iff.1 hj).1
    have : j = 0 ∨ j = 1 ∨ j = 2 ∨ j = 3 ∨ j = 4 ∨ j = 5 ∨ j = 6 ∨ j = 7 ∨ j = 8 := by omega
    rcases this with rfl | rfl | rfl | rfl | rfl | rfl | rfl | rfl | rfl <;> (simp [cellsT] at hj; subst hj; assumption)
  · intro h
    exact ⟨h 0 _ rfl, h 1 _ rfl, h 2 _ rfl, h 3 _ rfl, h 4 _ rfl, h 5 _ rfl, h 6 _ rfl, h 7 _ rfl, h 8 _ rfl⟩
theorem tgSl_cells {w : World} {b off : Nat} {ts : List Tg} : TgSl w b off ts ↔ ∀ q u, (rowT ts)[q]? = some u → w.cell? ⟨b, off + q, none⟩ = some u := by
  constructor
  · intro h q u hq
    have hlt : q < ts.length * 9 := by rw [← rowT_len]; exact (List.getElem?_eq_some_iff.1 hq).1
    have hi : q / 9 < ts.length := by omega
    have hqe : q = q / 9 * 9 + q % 9 := by omega
    rw [hqe, rowT_at ts (q / 9) (q % 9) hi (by omega)] at hq
    have := tgAt_cells.1 (h (q / 9) hi) (q % 9) u hq
    rw [show off + q = off + q / 9 * 9 + q % 9 from by omega]; exact this
  · intro h i hi
    rw [tgAt_cells]
    intro j u hj
    have hlt : j < 9 := (List.getElem?_eq_some_iff.1 hj).1
    rw [show off + i * 9 + j = off + (i * 9 + j) from by omega]
    exact h (i * 9 + j) u (by rw [rowT_at ts i j hi hlt]; exact hj)

/-- what an owned row of nodes is good for. -/
theorem owns_sl {w : World} {base e n : Nat} {v : Value} {ts : List Tg} (h : w.ownsRow base e 9 v n (rowT ts)) (hn : 0 < n) :
    ∃ g cap, v = .slice (some ⟨g, 0, none⟩) n cap ∧ base ≤ g ∧ g < w.heap.size ∧ n ≤ cap ∧ ts.length = n ∧ TgSl w g 0 ts := by
  obtain ⟨hl, h⟩ := h
  rw [rowT_len] at hl
  rcases h with ⟨rfl, h0⟩ | ⟨g, cap, cur, rfl, hb, hg, hc, hm, hsz, htk⟩
  · omega
  · refine ⟨g, cap, rfl, hb, ?_, hc, by omega, ?_⟩
    · exact (Array.getElem?_eq_some_iff.1 hg).1
    · rw [tgSl_cells]
      intro q u hq
      have hq' := hq
      rw [← htk] at hq
      have hlt : q < n * 9 := by have := (List.getElem?_eq_some_iff.1 hq').1; rw [rowT_len] at this; omega
      rw [List.getElem?_take_of_lt hlt] at hq
      simp only [World.cell?, hg, Nat.zero_add]
      simpa using hq

def zT : Value := .agg #[.int .i64 0, .int .i64 0, .int .i64 0, .int .i64 0, .int .i64 0, .int .i64 0, .int .i64 0, .int .i64 0, .int .i64 0]
theorem infoT : (Try.prog.info? 37).map (fun i => (i.zero, i.size, i.bytes)) = some (some zT, 9, 72) := by kernel_rfl

set_option maxHeartbeats 400000 in
theorem Copy_any (b off cp : Nat) (ts : List Tg) (w : World) (h : Hid (TgSl w b off ts)) (hbs : b < w.heap.size) (hl : ts.length * 72 ≤ 140737488351232) :
    Calls Try.prog 14 #[.slice (some ⟨b, off, none⟩) ts.length cp] w fun e w' => ∃ v, e = .returned v ∧ w'.ownsRow w.heap.size 37 9 v ts.length (rowT ts) ∧ Below w.heap.size w w' := by
  obtain ⟨i0, hi, hz0, hz1, hz2⟩ := info_parts infoT
  have hown0 : (w.alloc (.cells #[] 37)).ownsRow w.heap.size 37 9 (.slice (some ⟨w.heap.size, 0, none⟩) 0 0) 0 [] :=
    ⟨rfl, .inr ⟨w.heap.size, 0, #[], rfl, Nat.le_refl _, heap_alloc_last _ _, Nat.le_refl _, by decide, rfl, rfl⟩⟩
  have hown0' := Lib.hid hown0; clear hown0
  have hnews : Hid (∀ j u, (rowT ts)[j]? = some u → (w.alloc (.cells #[] 37)).cell? ((⟨b, off, none⟩ : Addr).add j) = some u) := Lib.hid (by
    intro j u hj
    have e : (⟨b, off, none⟩ : Addr).add j = ⟨b, off + j, none⟩ := by simp [Addr.add]; try omega
    rw [e, World.cell?_alloc_past _ _ _ hbs]
    exact tgSl_cells.1 h.out j u hj)
  go_enter Try.func14, Try.ntmps14
  go_wp2_with (at_builtin; refine wpList_append_own _ rfl (.tmp 3) (.tmp 4) 22 rfl w.heap.size 37 i0 zT 9 72 Try.underlying22 hi hz0 hz1 hz2 rfl (by decide) _ 0 [] rfl hown0'.out ⟨b, off, none⟩ ts.length cp (rowT ts) rfl (rowT_len ts) hnews.out (rowT_one ts) (by unfold maxLen; omega) (by omega) (by simp) ?_)
  intro v' w1 hown1 hgr _
  have hbel : Below w.heap.size w w1 := ((Below.refl _ _).alloc (Nat.le_refl _) _).grown hgr (by simp) (by intro k hk; simp [Value.ownBlock] at hk; omega)
  (try rw [Nat.zero_add, List.nil_append] at hown1)
  have hown1' := Lib.hid hown1; clear hown1 hgr
  go_wp2_with fail
  go_ret
  exact ⟨v', rfl, hown1'.out, hbel⟩
end Go.Proofs.Ytnjalpcmjkahkaa
