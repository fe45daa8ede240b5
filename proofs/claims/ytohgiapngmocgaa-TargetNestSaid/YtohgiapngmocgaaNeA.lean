/- Terms one within another: plain facts, and a slice of numbers that came in. -/
import Derived.Test.YtohgiapngmocgaaTgO
import Derived.Test.YtohgiapngmocgaaAid
namespace Go.Proofs.Ytohgiapngmocgaa
open Go.RowKit
set_option linter.unusedVariables false

structure Nest (ts : List Tg) (m : Int) : Prop where
  len : 1 ≤ ts.length
  ok : ∀ i, i < ts.length → okT (ts.getD i tg0) = true
  ks : ∀ i, i < ts.length → ksT ts i = if i = 0 then [] else [(i : Int) - 1]
  mx : mxT 0 ts = m + 1

theorem Nest.bg {ts : List Tg} {m : Int} (h : Nest ts m) : ∀ i, i < ts.length → Go.Proofs.Ytohgiapngmocgaa.bg (ksT ts) i = 0 := by
  intro i
  induction i with
  | zero =>
    intro hi
    rw [bg_eq, h.ks 0 hi, if_pos rfl]
    rfl
  | succ j ih =>
    intro hi
    have e := ih (by omega)
    rw [bg_eq, h.ks (j + 1) hi, if_neg (by omega)]
    simp only [List.reverse_cons, List.reverse_nil, List.nil_append]
    unfold bgK
    rw [if_pos ⟨rfl, by omega⟩]
    have ej : (((j + 1 : Nat) : Int) - 1).toNat = j := by omega
    rw [ej, e, if_neg (by decide)]
    rfl

theorem Nest.may {ts : List Tg} {m : Int} (h : Nest ts m) (hl : ts.length ≤ 8192) : mayV ts = true := by
  have hall : ts.all okT = true := by
    rw [List.all_eq_true]
    intro t ht
    obtain ⟨i, hi, rfl⟩ := List.getElem_of_mem ht
    have := h.ok i hi
    rwa [List.getD_eq_getElem?_getD, List.getElem?_eq_getElem hi] at this
  unfold mayV
  rw [hall, h.bg _ (by have := h.len; omega), decide_eq_true ⟨h.len, hl⟩]
  rfl

theorem getD_left {ts : List Tg} {t : Tg} {i : Nat} (h : i < ts.length) : (ts ++ [t]).getD i tg0 = ts.getD i tg0 := by
  rw [List.getD_eq_getElem?_getD, List.getElem?_append_left h, ← List.getD_eq_getElem?_getD]
theorem getD_last {ts : List Tg} {t : Tg} : (ts ++ [t]).getD ts.length tg0 = t := by
  rw [List.getD_eq_getElem?_getD, List.getElem?_append_right (Nat.le_refl _), Nat.sub_self]; rfl

theorem Nest.snoc {ts : List Tg} {m m' : Int} (h : Nest ts m) (t : Tg) (hok : okT t = true) (hk : kidsL t.k t.a t.b t.c = [(ts.length : Int) - 1])
    (hm : mxL (m + 1) (namesT t.k t.n t.x t.y t.z t.w) = m' + 1) : Nest (ts ++ [t]) m' where
  len := by simp
  ok := by
    intro i hi
    by_cases hl : i < ts.length
    · rw [getD_left hl]; exact h.ok i hl
    · obtain rfl : i = ts.length := by simp at hi; omega
      rw [getD_last]; exact hok
  ks := by
    intro i hi
    unfold ksT
    by_cases hl : i < ts.length
    · rw [getD_left hl]; exact h.ks i hl
    · obtain rfl : i = ts.length := by simp at hi; omega
      rw [getD_last, if_neg (by have := h.len; omega)]; exact hk
  mx := by
    have := h.mx
    unfold mxT at *
    rw [List.foldl_append, this]
    exact hm

def nFun (a : Int) (x : Int) : Tg := ⟨3, a, 0, 0, 0, x, 0, 0, 0⟩
def nRet (a : Int) : Tg := ⟨9, a, 0, 0, 0, 0, 0, 0, 0⟩
theorem okFun (a x : Int) (h0 : 0 ≤ x) (h1 : x < 4096) : okT (nFun a x) = true := by
  simp [okT, nFun, plainT, numT, okNames, namesT, nameT]; omega
theorem okRet (a : Int) : okT (nRet a) = true := by
  simp [okT, nRet, plainT, numT, okNames, namesT, nameT]
theorem ksFun (a x : Int) : kidsL (nFun a x).k (nFun a x).a (nFun a x).b (nFun a x).c = [a] := by simp [nFun, kidsL, kidsT]
theorem ksRet (a : Int) : kidsL (nRet a).k (nRet a).a (nRet a).b (nRet a).c = [a] := by simp [nRet, kidsL, kidsT]

theorem Nest.one (u : Int) (h0 : 0 ≤ u) (h1 : u < 1024) : Nest [⟨0, 0, 0, 0, u, 0, 0, 0, 0⟩, nRet 0] u where
  len := by simp
  ok := by
    intro i hi
    have : i = 0 ∨ i = 1 := by simp at hi; omega
    rcases this with rfl | rfl
    · show okT ⟨0, 0, 0, 0, u, 0, 0, 0, 0⟩ = true
      simp [okT, plainT, numT, okNames, namesT, nameT]; omega
    · exact okRet 0
  ks := by
    intro i hi
    have : i = 0 ∨ i = 1 := by simp at hi; omega
    rcases this with rfl | rfl <;> rfl
  mx := by
    show (if (0 : Int) < u + 1 then u + 1 else 0) = u + 1
    rw [if_pos (by omega)]

theorem Nest.step {ts : List Tg} {m : Int} (h : Nest ts m) (x : Int) (h0 : 0 ≤ x) (h1 : x < 4096) :
    Nest (ts ++ [nFun ((ts.length : Int) - 1) x, nRet ts.length]) (if m < x then x else m) := by
  have a := h.snoc (m' := if m < x then x else m) (nFun ((ts.length : Int) - 1) x) (okFun _ x h0 h1) (ksFun _ x) (by
    show (if m + 1 < x + 1 then x + 1 else m + 1) = (if m < x then x else m) + 1
    by_cases hx : m < x
    · rw [if_pos hx, if_pos (by omega)]
    · rw [if_neg hx, if_neg (by omega)])
  have b := a.snoc (m' := if m < x then x else m) (nRet ts.length) (okRet _) (by rw [ksRet]; simp) rfl
  rwa [List.append_assoc] at b

/-- a slice of numbers, in memory. -/
def IArg (w : World) (p : Option Addr) (n : Nat) (l : List Int) : Prop :=
  l.length = n ∧ (n = 0 ∨ ∃ b off, p = some ⟨b, off, none⟩ ∧ (∀ i, i < l.length → w.cell? ⟨b, off + i, none⟩ = some (.int .i64 (l.getD i 0))) ∧ b < w.heap.size)
theorem IArg.below {B : Nat} {w w' : World} {p : Option Addr} {n : Nat} {l : List Int} (h : IArg w p n l) (hb : Below B w w') (hB : w.heap.size ≤ B) : IArg w' p n l := by
  obtain ⟨hn, h0 | ⟨b, off, rfl, hs, hbl⟩⟩ := h
  · exact ⟨hn, .inl h0⟩
  · exact ⟨hn, .inr ⟨b, off, rfl, fun i hi => by rw [hb.cell (p := ⟨b, off + i, none⟩) (show b < B by omega)]; exact hs i hi, by have := hb.size; omega⟩⟩
theorem ints_of_cells (W : World) (b off : Nat) : ∀ (n : Nat), (∀ i, i < n → ∃ x : Int, W.cell? ⟨b, off + i, none⟩ = some (.int .i64 x)) → ∃ l : List Int, l.length = n ∧ ∀ i, i < l.length → W.cell? ⟨b, off + i, none⟩ = some (.int .i64 (l.getD i 0)) := by
  intro n
  induction n with
  | zero => intro _; exact ⟨[], rfl, fun i hi => by simp at hi⟩
  | succ n ih =>
    intro h
    obtain ⟨l, hl, hs⟩ := ih (fun i hi => h i (by omega))
    obtain ⟨x, hx⟩ := h n (by omega)
    refine ⟨l ++ [x], by simp [hl], ?_⟩
    intro i hi
    by_cases hin : i < n
    · have := hs i (by omega)
      rwa [List.getD_eq_getElem?_getD, List.getElem?_append_left (by omega), ← List.getD_eq_getElem?_getD]
    · obtain rfl : i = n := by simp [hl] at hi; omega
      rw [List.getD_eq_getElem?_getD, List.getElem?_append_right (by omega), hl, Nat.sub_self]
      exact hx
section
open Go.ChangeShapes Go.WideShapes Go.Deep
variable {H : Type} {enc : TypeId × Value → H} {P : Program} {w : World} {base : Nat} {spare : Nat → Bool} {held : Bool}
theorem ints_arg {t e fuel : Nat} {p : Option Addr} {len cap : Nat} {x : DataW H × List MemPlace} (ht : P.underlying t = some (.slice e)) (he : P.underlying e = some (.int .i64)) (hC : P.cellsOf e = 1)
    (h : DataW.trod enc P w base spare held fuel t [.slice p len cap] = some x) :
    len = 0 ∨ ∃ b off, p = some ⟨b, off, none⟩ ∧ ∀ i, i < len → ∃ n : Int, w.cell? ⟨b, off + i, none⟩ = some (.int .i64 n) := by
  rcases open_slice ht h with ⟨hcs, _⟩ | ⟨a, len', cap', m, fu, D, Pl, hcs, _, hlc, _, hm, _, hi⟩
  · simp at hcs
    exact .inl hcs.2.1
  · simp only [List.cons.injEq, Value.slice.injEq, and_true] at hcs
    obtain ⟨rfl, rfl, rfl⟩ := hcs
    by_cases h0 : len = 0
    · exact .inl h0
    have hml : len ≤ m := by rw [hm]; split <;> omega
    have key : ∀ i, i < len → ∃ n : Int, w.cell? (a.add i) = some (.int .i64 n) := by
      intro i hil
      obtain ⟨cs', hc, hd⟩ := hi i (by omega)
      rw [hC] at hc
      obtain ⟨_, _, hat⟩ := World.cells?_some hc
      obtain ⟨n, hn, _, _⟩ := DataW.trod_int he hd
      refine ⟨n, ?_⟩
      have hcell := hat 0 (by omega)
      rw [add_add, Nat.mul_one, Nat.add_zero] at hcell
      rw [hcell, hn]
      rfl
    obtain ⟨n0, hn0⟩ := key 0 (by omega)
    obtain ⟨b, off, sp⟩ := a
    have hsp : sp = none := by
      have := World.cell?_spot hn0
      simpa [Addr.add] using this
    subst hsp
    refine .inr ⟨b, off, rfl, ?_⟩
    intro i hil
    obtain ⟨n, hn⟩ := key i hil
    rw [addr_add] at hn
    exact ⟨n, hn⟩
end
end Go.Proofs.Ytohgiapngmocgaa
