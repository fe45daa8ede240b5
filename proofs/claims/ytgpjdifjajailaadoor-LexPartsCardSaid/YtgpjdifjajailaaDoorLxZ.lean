/- Slices of tokens: copies; bounds of places. -/
import Derived.Test.YtgpjdifjajailaaDoorLxY
namespace Go.Proofs.YtgpjdifjajailaaDoor
open Go.RowKit
set_option linter.unusedVariables false
set_option linter.unusedSimpArgs false

theorem hal_last (w : World) (o : Obj) : (w.alloc o).heap[w.heap.size]? = some o := by
  show (w.heap.push o)[w.heap.size]? = some o
  simp
theorem tkL_one (l : List Tk) : ∀ u ∈ tkL l, u.oneCell' = true := by
  intro u hu
  unfold tkL at hu
  rw [List.mem_flatMap] at hu
  obtain ⟨t, _, ht⟩ := hu
  unfold tk4 at ht
  simp only [List.mem_cons, List.not_mem_nil, or_false] at ht
  rcases ht with rfl | rfl | rfl | rfl <;> rfl
theorem tkSl_get {w : World} {g : Nat} {l : List Tk} (h : TkSl w g 0 l) : ∀ j u, (tkL l)[j]? = some u → w.cell? ⟨g, j, none⟩ = some u := by
  intro j u hj
  have hjj : j = j / 4 * 4 + j % 4 := by omega
  have hm : j % 4 < 4 := by omega
  generalize j / 4 = i at hjj
  generalize j % 4 = k at hjj hm
  subst hjj
  rw [tkL_get l i k hm] at hj
  cases hg : l[i]? with
  | none => rw [hg] at hj; cases hj
  | some t =>
    rw [hg] at hj
    have hi : i < l.length := (List.getElem?_eq_some_iff.1 hg).1
    have hT := h i hi
    have ht : l.getD i tk0 = t := by rw [List.getD_eq_getElem?_getD, hg]; rfl
    rw [ht] at hT
    obtain ⟨e0, e1, e2, e3⟩ := hT
    rw [Nat.zero_add] at e0 e1 e2 e3
    match k, hm with
    | 0, _ => simp [tk4] at hj; subst hj; exact e0
    | 1, _ => simp [tk4] at hj; subst hj; exact e1
    | 2, _ => simp [tk4] at hj; subst hj; exact e2
    | 3, _ => simp [tk4] at hj; subst hj; exact e3

set_option maxHeartbeats 400000 in
theorem copy_nil (w : World) :
    Calls Tryd.prog 18 #[.slice none 0 0] w fun e w' => ∃ v, e = .returned v ∧ OwnK w.heap.size w' v [] ∧ Below w.heap.size w w' := by
  have hown0 : (w.alloc (.cells #[] 35)).ownsRow w.heap.size 35 4 (.slice (some ⟨w.heap.size, 0, none⟩) 0 0) 0 [] :=
    ⟨rfl, .inr ⟨w.heap.size, 0, #[], rfl, Nat.le_refl _, hal_last _ _, Nat.le_refl _, by decide, rfl, rfl⟩⟩
  have hown0' := Lib.hid hown0; clear hown0
  go_enter Tryd.func18, Tryd.ntmps18
  go_wp2_with fail
  go_ret
  exact ⟨_, rfl, hown0'.out, by (repeat' (first | with_reducible exact Below.refl _ _ | with_reducible assumption | with_reducible apply Below.setCell | with_reducible apply Below.alloc | with_reducible apply Below.drew | with_reducible apply below_drewN | with_reducible exact Nat.le_refl _ | (simp; done) | (simp; omega) | omega | exact Nat.le_refl _))⟩
set_option maxHeartbeats 400000 in
theorem copy_sl (g cp : Nat) (l : List Tk) (w : World) (h : Hid (TkSl w g 0 l)) (hg : g < w.heap.size) (hl : l.length ≤ 5000) :
    Calls Tryd.prog 18 #[.slice (some ⟨g, 0, none⟩) l.length cp] w fun e w' => ∃ v, e = .returned v ∧ OwnK w.heap.size w' v l ∧ Below w.heap.size w w' := by
  obtain ⟨i0, hi, hz0, hz1, hz2⟩ := info_parts infoK
  have hown0 : (w.alloc (.cells #[] 35)).ownsRow w.heap.size 35 4 (.slice (some ⟨w.heap.size, 0, none⟩) 0 0) 0 [] :=
    ⟨rfl, .inr ⟨w.heap.size, 0, #[], rfl, Nat.le_refl _, hal_last _ _, Nat.le_refl _, by decide, rfl, rfl⟩⟩
  have hown0' := Lib.hid hown0; clear hown0
  have hnews : Hid (∀ j u, (tkL l)[j]? = some u → (w.alloc (.cells #[] 35)).cell? ((⟨g, 0, none⟩ : Addr).add j) = some u) := Lib.hid (by
    intro j u hj
    have e : (⟨g, 0, none⟩ : Addr).add j = ⟨g, j, none⟩ := by simp [Addr.add]; try omega
    rw [e, World.cell?_alloc_past _ _ _ hg]
    exact tkSl_get h.out j u hj)
  go_enter Tryd.func18, Tryd.ntmps18
  go_wp2_with (at_builtin; refine wpList_append_own _ rfl (.tmp 3) (.tmp 4) 22 rfl w.heap.size 35 i0 (.agg #[.int .i64 0, .string ByteArray.empty, .int .i64 0, .int .i64 0]) 4 40 Tryd.underlying22 hi hz0 hz1 hz2 rfl (by decide) _ 0 [] rfl hown0'.out ⟨g, 0, none⟩ l.length cp (tkL l) rfl (tkL_len l) hnews.out (tkL_one l) (by unfold maxLen; omega) (by omega) (by simp) ?_)
  intro v' w1 hown1 hgr _
  have hbel : Below w.heap.size w w1 := ((Below.refl _ _).alloc (Nat.le_refl _) _).grown hgr (by simp) (by intro k hk; simp [Value.ownBlock] at hk; omega)
  (try rw [Nat.zero_add, List.nil_append] at hown1)
  have hown1' := Lib.hid hown1; clear hown1 hgr
  go_wp2_with fail
  go_ret
  exact ⟨v', rfl, hown1'.out, hbel⟩
theorem copy_any {B : Nat} {v : Value} {l : List Tk} (w : World) (h : OwnK B w v l) (hl : l.length ≤ 5000) :
    Calls Tryd.prog 18 #[v] w fun e w' => ∃ v', e = .returned v' ∧ OwnK w.heap.size w' v' l ∧ Below w.heap.size w w' := by
  rcases OwnK.cases h with ⟨rfl, rfl⟩ | ⟨g, c, rfl, _, hg, hs, _⟩
  · exact copy_nil w
  · exact copy_sl g c l w (Lib.hid hs) hg hl
theorem lx_at (M : Nat) : ∀ (f : Nat) (l : List UInt8) (p : Nat) (acc : List Tk), p + l.length ≤ M → (∀ t ∈ acc, 0 ≤ t.at_ ∧ t.at_ ≤ (M : Int)) → ∀ t ∈ (lx f l p acc).1, 0 ≤ t.at_ ∧ t.at_ ≤ (M : Int)
  | 0, _, _, _, _, _ => by simp [lx]
  | f + 1, l, p, acc, hp, ha => by
    have hk := skipF_le l false
    unfold lx
    simp only []
    split
    · exact ha
    · rename_i hm
      split
      · rename_i he
        have hq := firstF_pos hm he
        simp only [List.length_drop] at hq
        refine lx_at M f _ _ _ ?_ ?_
        · simp only [List.length_drop]; omega
        · intro t ht
          rcases List.mem_append.1 ht with h | h
          · exact ha t h
          · simp only [List.mem_cons, List.not_mem_nil, or_false] at h
            subst h
            exact ⟨by simp; omega, by simp; omega⟩
      · intro t ht; simp at ht
theorem lexR_at (s : ByteArray) : ∀ t ∈ (lexR s).1, 0 ≤ t.at_ ∧ t.at_ ≤ (s.size : Int) := by
  unfold lexR
  split
  · intro t ht; simp at ht
  · split
    · intro t ht; simp at ht
    · unfold lxAt
      exact lx_at s.size _ _ _ _ (by rw [len_list]; omega) (by intro t ht; simp at ht)
end Go.Proofs.YtgpjdifjajailaaDoor
