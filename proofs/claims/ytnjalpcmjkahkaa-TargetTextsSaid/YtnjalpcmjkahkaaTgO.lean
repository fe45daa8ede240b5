/- A slice of target nodes that came in. -/
import Derived.Test.YtnjalpcmjkahkaaTgN
import Derived.Deep.Slices
import Derived.Deep.Fields
import Derived.ChangeSame
namespace Go.Proofs.Ytnjalpcmjkahkaa
open Go.RowKit
set_option linter.unusedVariables false
set_option linter.unusedSimpArgs false

def TArg (w : World) (p : Option Addr) (n : Nat) (ts : List Tg) : Prop :=
  ts.length = n ∧ (n = 0 ∨ ∃ b off, p = some ⟨b, off, none⟩ ∧ TgSl w b off ts ∧ b < w.heap.size)

theorem sl_of_cells (W : World) (b off : Nat) : ∀ (n : Nat), (∀ i, i < n → ∀ j, j < 9 → ∃ x : Int, W.cell? ⟨b, off + i * 9 + j, none⟩ = some (.int .i64 x)) → ∃ ts : List Tg, ts.length = n ∧ TgSl W b off ts := by
  intro n
  induction n with
  | zero => intro _; exact ⟨[], rfl, fun i hi => by simp at hi⟩
  | succ n ih =>
    intro h
    obtain ⟨ts, hl, hs⟩ := ih (fun i hi => h i (by omega))
    obtain ⟨x0, h0⟩ := h n (by omega) 0 (by omega)
    obtain ⟨x1, h1⟩ := h n (by omega) 1 (by omega)
    obtain ⟨x2, h2⟩ := h n (by omega) 2 (by omega)
    obtain ⟨x3, h3⟩ := h n (by omega) 3 (by omega)
    obtain ⟨x4, h4⟩ := h n (by omega) 4 (by omega)
    obtain ⟨x5, h5⟩ := h n (by omega) 5 (by omega)
    obtain ⟨x6, h6⟩ := h n (by omega) 6 (by omega)
    obtain ⟨x7, h7⟩ := h n (by omega) 7 (by omega)
    obtain ⟨x8, h8⟩ := h n (by omega) 8 (by omega)
    refine ⟨ts ++ [⟨x0, x1, x2, x3, x4, x5, x6, x7, x8⟩], by simp [hl], ?_⟩
    intro i hi
    by_cases hin : i < n
    · have := hs i (by omega)
      rwa [List.getD_eq_getElem?_getD, List.getElem?_append_left (by omega), ← List.getD_eq_getElem?_getD]
    · obtain rfl : i = n := by simp [hl] at hi; omega
      rw [List.getD_eq_getElem?_getD, List.getElem?_append_right (by omega), hl, Nat.sub_self]
      exact ⟨h0, h1, h2, h3, h4, h5, h6, h7, h8⟩

theorem rmay_arg (p : Option Addr) (n c : Nat) (ts : List Tg) (w : World) (h : Hid (TArg w p n ts)) (hl : n ≤ 140737488351232) :
    Calls Try.prog 19 #[.slice p n c] w fun e w' => e = .returned (.bool (mayV ts)) ∧ Below w.heap.size w w' := by
  obtain ⟨hn, h0 | ⟨b, off, rfl, hs, hb⟩⟩ := h.out
  · subst h0
    obtain rfl := List.eq_nil_of_length_eq_zero hn
    exact rmay_nil p c w
  · subst hn
    exact rmay_any b off c ts w (Lib.hid hs) hb hl
theorem lend_arg (p : Option Addr) (n c : Nat) (ts : List Tg) (w : World) (h : Hid (TArg w p n ts)) (hl : n * 72 ≤ 140737488351232) :
    Calls Try.prog 7 #[.slice p n c] w (LendPost ts w) := by
  obtain ⟨hn, h0 | ⟨b, off, rfl, hs, hb⟩⟩ := h.out
  · subst h0
    obtain rfl := List.eq_nil_of_length_eq_zero hn
    exact lend_tail _ [] w (.inl ⟨⟨_, _, rfl⟩, rfl⟩) (by simp)
  · subst hn
    exact lend_tail _ ts w (.inr ⟨b, off, c, rfl, Lib.hid hs, hb⟩) hl
theorem kept_arg (p : Option Addr) (n c g cap : Nat) (ts : List Tg) (w : World) (h : Hid (TArg w p n ts)) (hl : n * 72 ≤ 140737488351232) (hc : ts.length + 2 ≤ cap) (hg : Hid (TgSl w g 0 (ts ++ [t7, t7]))) (hgs : g < w.heap.size) :
    Calls Try.prog 11 #[.slice (some ⟨g, 0, none⟩) ts.length cap, .slice p n c] w fun e w' => e = .returned (.bool true) ∧ Below w.heap.size w w' := by
  obtain ⟨hn, h0 | ⟨b, off, rfl, hs, hb⟩⟩ := h.out
  · subst h0
    obtain rfl := List.eq_nil_of_length_eq_zero hn
    exact Kept_any _ g cap [] w (.inl ⟨⟨_, _, rfl⟩, rfl⟩) (by simp) hc hg hgs
  · subst hn
    exact Kept_any _ g cap ts w (.inr ⟨b, off, c, rfl, Lib.hid hs, hb⟩) hl hc hg hgs
theorem TArg.below {B : Nat} {w w' : World} {p : Option Addr} {n : Nat} {ts : List Tg} (h : TArg w p n ts) (hb : Below B w w') (hB : w.heap.size ≤ B) : TArg w' p n ts := by
  obtain ⟨hn, h0 | ⟨b, off, rfl, hs, hbl⟩⟩ := h
  · exact ⟨hn, .inl h0⟩
  · exact ⟨hn, .inr ⟨b, off, rfl, hs.below hb (by omega), by have := hb.size; omega⟩⟩


section
open Go.ChangeShapes Go.WideShapes Go.Deep
variable {H : Type} {enc : TypeId × Value → H} {P : Program} {w : World} {base : Nat} {spare : Nat → Bool} {held : Bool}
theorem addr_add (b off k : Nat) : (⟨b, off, none⟩ : Addr).add k = ⟨b, off + k, none⟩ := by
  unfold Addr.add
  by_cases h : k = 0 <;> simp [h]

theorem slice_len {t e fuel : Nat} {p : Option Addr} {len cap : Nat} {d : DataW H} {pl : List MemPlace} (ht : P.underlying t = some (.slice e))
    (h : DataW.trod enc P w base spare held fuel t [.slice p len cap] = some (d, pl)) : len = 0 ∨ ∃ el sp, d = .slice el sp ∧ el.length = len := by
  rcases open_slice ht h with ⟨hcs, _⟩ | ⟨a, len', cap', m, fu, D, Pl, hcs, _, _, _, _, hx, _⟩
  · simp at hcs
    exact .inl hcs.2.1
  · simp only [List.cons.injEq, Value.slice.injEq, and_true] at hcs
    obtain ⟨_, rfl, _⟩ := hcs
    simp only [Prod.mk.injEq] at hx
    exact .inr ⟨_, _, hx.1, by simp⟩

/-- a slice of structs whose fields are all integers, as cells. -/
theorem int_rows {t e K fuel : Nat} {fs : Array Field} {p : Option Addr} {len cap : Nat} {x : DataW H × List MemPlace} (ht : P.underlying t = some (.slice e)) (he : P.underlying e = some (.struct fs))
    (hone : oneCellFields P fs = true) (hC : P.cellsOf e = K) (hK : K = fs.size) (h0K : 0 < K) (hint : ∀ (j : Nat) (f : Field), fs[j]? = some f → P.underlying f.type = some (.int .i64))
    (h : DataW.trod enc P w base spare held fuel t [.slice p len cap] = some x) :
    len = 0 ∨ ∃ b off, p = some ⟨b, off, none⟩ ∧ ∀ i, i < len → ∀ j, j < K → ∃ n : Int, w.cell? ⟨b, off + i * K + j, none⟩ = some (.int .i64 n) := by
  rcases open_slice ht h with ⟨hcs, _⟩ | ⟨a, len', cap', m, fu, D, Pl, hcs, _, hlc, _, hm, _, hi⟩
  · simp at hcs
    exact .inl hcs.2.1
  · simp only [List.cons.injEq, Value.slice.injEq, and_true] at hcs
    obtain ⟨rfl, rfl, rfl⟩ := hcs
    by_cases h0 : len = 0
    · exact .inl h0
    have hml : len ≤ m := by rw [hm]; split <;> omega
    have key : ∀ i, i < len → ∀ j, j < K → ∃ n : Int, w.cell? (a.add (i * K + j)) = some (.int .i64 n) := by
      intro i hil j hjK
      obtain ⟨cs', hc, hd⟩ := hi i (by omega)
      rw [hC] at hc
      obtain ⟨_, _, hat⟩ := World.cells?_some hc
      obtain ⟨xs, n', _, _, _, hxl, hf⟩ := DataW.trod_struct he hd
      have hj : j < fs.size := by omega
      obtain ⟨ho, hk⟩ := hone_of hone j fs[j] (by simp [hj])
      have h1 := hf j fs[j] (by simp [hj])
      rw [ho, hk, List.getElem?_eq_getElem (by omega)] at h1
      obtain ⟨n, hn, _, _⟩ := DataW.trod_int (hint j fs[j] (by simp [hj])) h1
      refine ⟨n, ?_⟩
      have hcell := hat j hjK
      rw [add_add] at hcell
      rw [hcell]
      have := congrArg (fun l => l[0]?) hn
      simpa [List.getElem?_take] using this
    obtain ⟨n0, hn0⟩ := key 0 (by omega) 0 h0K
    obtain ⟨b, off, sp⟩ := a
    have hsp : sp = none := by
      have := World.cell?_spot hn0
      simpa [Addr.add] using this
    subst hsp
    refine .inr ⟨b, off, rfl, ?_⟩
    intro i hil j hjK
    obtain ⟨n, hn⟩ := key i hil j hjK
    rw [addr_add] at hn
    exact ⟨n, by rw [show off + i * K + j = off + (i * K + j) from by omega]; exact hn⟩
end
end Go.Proofs.Ytnjalpcmjkahkaa
