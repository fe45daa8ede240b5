/- Plain facts: decimal digits, texts without great bytes, texts that begin with a number. -/
import Derived.Test.YtidlljookjicpaaGreatDoorLxV
import Derived.Lib.ItoaNum
namespace Go.Proofs.YtidlljookjicpaaGreatDoor
open Go.RowKit
set_option linter.unusedVariables false
set_option linter.unusedSimpArgs false
theorem dd_lo {n : Nat} (h : n < 10) : Lib.decDigits n = [UInt8.ofNat (48 + n)] := by rw [Lib.decDigits, dif_pos h]
theorem dd_hi {n : Nat} (h : ¬ n < 10) : Lib.decDigits n = Lib.decDigits (n / 10) ++ [UInt8.ofNat (48 + n % 10)] := by
  conv => lhs; rw [Lib.decDigits, dif_neg h]
theorem dg_nat {k : Nat} (h : k < 10) : (UInt8.ofNat (48 + k)).toNat = 48 + k := by rw [UInt8.toNat_ofNat']; omega
theorem dg_isD {k : Nat} (h : k < 10) : isD (UInt8.ofNat (48 + k)) = true := by unfold isD; rw [dg_nat h]; simp; omega
theorem dd_ne (n : Nat) : Lib.decDigits n ≠ [] := by
  by_cases h : n < 10
  · rw [dd_lo h]; simp
  · rw [dd_hi h]; simp
theorem dd_all : ∀ n : Nat, (Lib.decDigits n).all isD = true := by
  intro n
  induction n using Nat.strongRecOn with
  | ind n ih =>
    by_cases h : n < 10
    · rw [dd_lo h, List.all_cons, dg_isD h]; rfl
    · rw [dd_hi h, List.all_append, ih (n / 10) (by omega), List.all_cons, dg_isD (Nat.mod_lt _ (by omega))]; rfl
theorem dd_val : ∀ n : Nat, valF (Lib.decDigits n) = n := by
  intro n
  induction n using Nat.strongRecOn with
  | ind n ih =>
    by_cases h : n < 10
    · rw [dd_lo h]; simp only [valF, List.foldl_cons, List.foldl_nil]; rw [dg_nat h]; omega
    · rw [dd_hi h, valF_snoc, ih (n / 10) (by omega), dg_nat (Nat.mod_lt _ (by omega))]; omega
theorem dd_head : ∀ n : Nat, 0 < n → (Lib.decDigits n).head? ≠ some 48 := by
  intro n
  induction n using Nat.strongRecOn with
  | ind n ih =>
    intro h0
    by_cases h : n < 10
    · rw [dd_lo h]
      intro e
      have := congrArg UInt8.toNat (Option.some.inj e)
      rw [dg_nat h] at this
      simp at this; omega
    · rw [dd_hi h]
      have hne := dd_ne (n / 10)
      have := ih (n / 10) (by omega) (by omega)
      cases hd : Lib.decDigits (n / 10) with
      | nil => exact absurd hd hne
      | cons c t => rw [hd] at this; simpa using this
theorem dd_lead (n : Nat) : leadZ (Lib.decDigits n) = true := by
  unfold leadZ
  by_cases h : n = 0
  · subst h; rw [dd_lo (by omega)]; rfl
  · have := dd_head n (by omega)
    rw [show ((Lib.decDigits n).head? == some 48) = false by simpa using this]; simp
theorem dd_ok {n : Nat} (h : n ≤ 1073741823) : numOk (Lib.decDigits n) = true := by
  rw [numOk_eq, dd_all, dd_lead, dd_val, decide_eq_true h]; rfl
theorem dd_big {n : Nat} (h : 1073741823 < n) : numOk (Lib.decDigits n) = false := by
  rw [numOk_eq, dd_val, decide_eq_false (by omega), Bool.and_false]
theorem dd_len : ∀ (k u : Nat), 1 ≤ k → u < 10 ^ k → (Lib.decDigits u).length ≤ k := by
  intro k
  induction k with
  | zero => intro u h; omega
  | succ k ih =>
    intro u _ hu
    by_cases h : u < 10
    · rw [dd_lo h]; simp
    · rw [dd_hi h, List.length_append]
      rcases Nat.eq_zero_or_pos k with rfl | hk
      · omega
      · have := ih (u / 10) hk (by rw [Nat.pow_succ] at hu; omega)
        simp; omega
theorem widF_asc {s : ByteArray} {k : Nat} (h : k < s.size) (hb : bAt s k < 128) : widF s k = 1 := by
  have h0 := (bAt_bd s k).1
  have hl : leadF (bAt s k) = 1 := by unfold leadF; (repeat' split) <;> omega
  unfold widF
  rw [hl, decide_eq_true (by omega : (k : Int) + 1 ≤ s.size)]
  rfl
theorem va_asc (s : ByteArray) (h : ∀ k, k < s.size → bAt s k < 128) : vaV s = (0, true) := by
  rw [vaV_eq]
  have : ∀ d k, s.size - k = d → vaAt s k = (0, true) := by
    intro d
    induction d with
    | zero => intro k hk; exact vaAt_end (by omega)
    | succ d ih =>
      intro k hk
      have hw := widF_asc (by omega : k < s.size) (h k (by omega))
      rw [vaAt_step (by omega) (by rw [hw]; decide), hw]
      exact ih (k + 1) (by omega)
  exact this _ 0 rfl
theorem bAt_mem (l : List UInt8) (h : l.all (fun b => decide (b.toNat < 128)) = true) (k : Nat) (hk : k < (bs l).size) : bAt (bs l) k < 128 := by
  unfold bAt
  rw [bs_list]
  have hk' : k < l.length := hk
  rw [List.getElem?_eq_getElem hk']
  rw [List.all_eq_true] at h
  have := h l[k] (List.getElem_mem _)
  simp at this
  show ((l[k].toNat : Nat) : Int) < 128
  omega
def asc (l : List UInt8) : Bool := l.all (fun b => decide (b.toNat < 128))
theorem lexR_asc {l : List UInt8} (h : asc l = true) (hl : l.length ≤ 4096) : lexR (bs l) = lxAt l 0 [] := by
  unfold lexR
  rw [if_neg (by rw [bs_size]; omega), va_asc _ (bAt_mem l h)]
  rfl
theorem isD_asc {c : UInt8} (h : isD c = true) : decide (c.toNat < 128) = true := by have := isD_bd h; simp; omega
theorem asc_dig {l : List UInt8} (h : l.all isD = true) : asc l = true := by
  unfold asc
  rw [List.all_eq_true] at *
  exact fun c hc => isD_asc (h c hc)
theorem asc_app (a b : List UInt8) : asc (a ++ b) = (asc a && asc b) := by simp [asc]
theorem isD_notL {c : UInt8} (h : isD c = true) : isL c = false := by have := isD_bd h; unfold isL; simp; omega
theorem runN_app {l r : List UInt8} (h : l.all isN = true) : runN (l ++ r) = l.length + runN r := by
  induction l with
  | nil => simp
  | cons c l ih =>
    rw [List.all_cons, Bool.and_eq_true] at h
    rw [List.cons_append, runN_yes h.1, ih h.2, List.length_cons]; omega
theorem all_isN {l : List UInt8} (h : l.all isD = true) : l.all isN = true := by
  rw [List.all_eq_true] at *
  exact fun c hc => isD_isN (h c hc)
theorem skip_dig {c : UInt8} {l : List UInt8} (h : isD c = true) : skipF false (c :: l) = 0 := by
  have := isD_bd h
  rw [skipF_cons, if_neg (by omega), if_neg (by omega), if_neg (by omega)]; rfl
/-- a text that begins with a digit: its first token. -/
theorem first_num {c : UInt8} {x r : List UInt8} (h : isD c = true) (hx : (c :: x).all isN = true) (hr : runN r = 0) : firstF ((c :: x) ++ r) = (⟨1, [], numV (c :: x), 0⟩, (c :: x).length, numE (c :: x)) := by
  have hrun := runN_app (r := r) hx
  rw [hr, Nat.add_zero] at hrun
  rw [List.cons_append] at hrun ⊢
  rw [first_D (isD_notL h) h, hrun]
  have : ((c :: (x ++ r)).take (c :: x).length) = c :: x := by rw [← List.cons_append]; exact List.take_left' rfl
  rw [this]
/-- a number that is none. -/
theorem lex_noNum {c : UInt8} {x r : List UInt8} (h : isD c = true) (hx : (c :: x).all isN = true) (hr : runN r = 0) (hn : numOk (c :: x) = false) (p : Nat) (acc : List Tk) : lxAt ((c :: x) ++ r) p acc = ([], (p : Int), 202) :=
  lxAt_err (by rw [List.cons_append]; exact skip_dig h) (by simp) (first_num h hx hr) (by rw [(num_no hn).2]; decide) |>.trans (by rw [(num_no hn).2])
theorem itoa_nat (y : Nat) : Lib.itoa (y : Int) = Lib.decDigits y := by unfold Lib.itoa; rw [if_neg (by omega)]; rfl
theorem dd_cons (y : Nat) : ∃ c x, Lib.decDigits y = c :: x ∧ isD c = true ∧ (c :: x).all isN = true := by
  have h := dd_all y
  cases hd : Lib.decDigits y with
  | nil => exact absurd hd (dd_ne y)
  | cons c x => rw [hd] at h; exact ⟨c, x, rfl, by rw [List.all_cons, Bool.and_eq_true] at h; exact h.1, all_isN h⟩
theorem dd_le {y : Nat} (h : y < 10 ^ 11) : (Lib.decDigits y).length ≤ 11 := dd_len 11 y (by decide) h
theorem lexN1 {y : Nat} (h : y ≤ 1073741823) : lexR (bs (Lib.decDigits y ++ [32])) = ([⟨1, [], (y : Int), 0⟩], 0, 0) := by
  have hl := dd_le (y := y) (by omega)
  rw [lexR_asc (by rw [asc_app, asc_dig (dd_all y)]; rfl) (by simp; omega)]
  have hok := dd_ok h
  have hv := dd_val y
  obtain ⟨c, x, hd, hc, hx⟩ := dd_cons y
  rw [hd] at hok hv ⊢
  have hf := first_num (r := [32]) hc hx (by decide)
  rw [(num_yes hok).1, (num_yes hok).2, hv] at hf
  rw [lxAt_more (by rw [List.cons_append]; exact skip_dig hc) (by simp) hf, List.drop_left, lxAt_blank (by decide), lxAt_nil]
  rfl
theorem lexN2 {y : Nat} (h : y ≤ 1073741823) : lexR (bs (32 :: 48 :: Lib.decDigits y)) = ([], 1, 202) := by
  have hl := dd_le (y := y) (by omega)
  rw [lexR_asc (by have := asc_dig (dd_all y); unfold asc at *; rw [List.all_cons, List.all_cons, this]; rfl) (by simp; omega)]
  rw [lxAt_blank (by decide)]
  have hn : numOk (48 :: Lib.decDigits y) = false := by
    rw [numOk_eq]
    have : leadZ (48 :: Lib.decDigits y) = false := by
      unfold leadZ
      cases hd : Lib.decDigits y with
      | nil => exact absurd hd (dd_ne y)
      | cons c x => simp
    rw [this]; simp
  have hx : ((48 : UInt8) :: Lib.decDigits y).all isN = true := by rw [List.all_cons, all_isN (dd_all y)]; rfl
  have := lex_noNum (c := 48) (x := Lib.decDigits y) (r := []) (by decide) hx rfl hn (0 + 1) []
  rw [List.append_nil] at this
  exact this
theorem lexN4 {y : Nat} (h : 1073741823 < y) (h2 : y < 10 ^ 11) : lexR (bs (Lib.decDigits y)) = ([], 0, 202) := by
  have hl := dd_le h2
  rw [lexR_asc (asc_dig (dd_all y)) (by omega)]
  have hok := dd_big h
  obtain ⟨c, x, hd, hc, hx⟩ := dd_cons y
  rw [hd] at hok ⊢
  have := lex_noNum (r := []) hc hx rfl hok 0 []
  rw [List.append_nil] at this
  exact this
theorem not_all {l : List UInt8} {b : UInt8} (hb : isD b = false) : numOk (l ++ [b]) = false := by
  rw [numOk_eq, List.all_append, List.all_cons, hb]; simp
theorem lexN3 {y : Nat} (h : y ≤ 1073741823) : lexR (bs (Lib.decDigits y ++ [97])) = ([], 0, 202) := by
  have hl := dd_le (y := y) (by omega)
  rw [lexR_asc (by rw [asc_app, asc_dig (dd_all y)]; rfl) (by simp; omega)]
  have hn := not_all (l := Lib.decDigits y) (b := 97) (by decide)
  obtain ⟨c, x, hd, hc, hx⟩ := dd_cons y
  rw [hd] at hn ⊢
  rw [List.cons_append] at hn ⊢
  have := lex_noNum (c := c) (x := x ++ [97]) (r := []) hc (by rw [← List.cons_append, List.all_append, hx]; rfl) rfl hn 0 []
  rw [List.append_nil] at this
  exact this
theorem lexN5 {y : Nat} (h : y ≤ 1073741823) : lexR (bs (Lib.decDigits y ++ [95, 32])) = ([], 0, 202) := by
  have hl := dd_le (y := y) (by omega)
  rw [lexR_asc (by rw [asc_app, asc_dig (dd_all y)]; rfl) (by simp; omega)]
  have hn := not_all (l := Lib.decDigits y) (b := 95) (by decide)
  obtain ⟨c, x, hd, hc, hx⟩ := dd_cons y
  rw [hd] at hn ⊢
  rw [List.cons_append] at hn
  have := lex_noNum (c := c) (x := x ++ [95]) (r := [32]) hc (by rw [← List.cons_append, List.all_append, hx]; rfl) (by decide) hn 0 []
  rw [← List.cons_append, List.append_assoc] at this
  exact this
end Go.Proofs.YtidlljookjicpaaGreatDoor
