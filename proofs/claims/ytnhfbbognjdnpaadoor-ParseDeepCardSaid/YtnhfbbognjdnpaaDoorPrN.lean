/- Texts of expressions within one another. -/
import Derived.Test.YtnhfbbognjdnpaaDoorPrM
namespace Go.Proofs.YtnhfbbognjdnpaaDoor
open Go.RowKit
set_option linter.unusedVariables false
set_option linter.unusedSimpArgs false

/-- what goes ahead of an expression. -/
def uD : Nat → List UInt8
  | 0 => [40]
  | 1 => [102, 117, 110, 32, 120, 32, 45, 62, 32]
  | 2 => [105, 102, 32, 97, 32, 116, 104, 101, 110, 32, 98, 32, 101, 108, 115, 101, 32]
  | _ => [108, 101, 116, 32, 120, 32, 61, 32, 49, 32, 105, 110, 32]
def uL : Nat → Nat
  | 0 => 1
  | 1 => 9
  | 2 => 17
  | _ => 13
def uT : Nat → Nat → List Tk
  | 0, p => [⟨3, sgOpen, 0, (p : Int)⟩]
  | 1, p => [⟨2, kwFun, 0, (p : Int)⟩, ⟨0, [120], 0, ((p + 4 : Nat) : Int)⟩, ⟨3, sgArrow, 0, ((p + 6 : Nat) : Int)⟩]
  | 2, p => [⟨2, kwIf, 0, (p : Int)⟩, ⟨0, [97], 0, ((p + 3 : Nat) : Int)⟩, ⟨2, kwThen, 0, ((p + 5 : Nat) : Int)⟩, ⟨0, [98], 0, ((p + 10 : Nat) : Int)⟩, ⟨2, kwElse, 0, ((p + 12 : Nat) : Int)⟩]
  | _, p => [⟨2, kwLet, 0, (p : Int)⟩, ⟨0, [120], 0, ((p + 4 : Nat) : Int)⟩, ⟨3, sgEq, 0, ((p + 6 : Nat) : Int)⟩, ⟨1, [], 1, ((p + 8 : Nat) : Int)⟩, ⟨2, kwIn, 0, ((p + 10 : Nat) : Int)⟩]
def cD : Nat → List UInt8
  | 0 => []
  | c + 1 => 41 :: cD c
def kD : Nat → Nat → List Tk
  | 0, _ => []
  | c + 1, p => ⟨3, sgShut, 0, (p : Int)⟩ :: kD c (p + 1)
def rD (w : Nat) : Nat → List UInt8
  | 0 => []
  | n + 1 => uD w ++ rD w n
def tD (w : Nat) : Nat → Nat → Nat → List Tk
  | 0, p, c => ⟨1, [], 1, (p : Int)⟩ :: kD c (p + 1)
  | n + 1, p, c => uT w p ++ tD w n (p + uL w) c
/-- as the law makes them. -/
def sD (w : Nat) : Nat → List UInt8
  | 0 => []
  | n + 1 => sD w n ++ uD w
def eD (w : Nat) : Nat → List UInt8
  | 0 => [49]
  | n + 1 => eD w n ++ (if w = 0 then [41] else [])
theorem rD_snoc (w : Nat) : ∀ n, rD w n ++ uD w = uD w ++ rD w n
  | 0 => by simp [rD]
  | n + 1 => by
    show (uD w ++ rD w n) ++ uD w = uD w ++ (uD w ++ rD w n)
    rw [List.append_assoc, rD_snoc w n]
theorem sD_eq (w : Nat) : ∀ n, sD w n = rD w n
  | 0 => rfl
  | n + 1 => by
    show sD w n ++ uD w = uD w ++ rD w n
    rw [sD_eq w n, rD_snoc]
theorem cD_snoc : ∀ c, cD c ++ [41] = 41 :: cD c
  | 0 => rfl
  | c + 1 => by
    show (41 :: cD c) ++ [41] = 41 :: (41 :: cD c)
    rw [List.cons_append, cD_snoc c]
theorem eD_eq (w : Nat) : ∀ n, eD w n = 49 :: cD (if w = 0 then n else 0)
  | 0 => by by_cases h : w = 0 <;> simp [eD, cD, h]
  | n + 1 => by
    show eD w n ++ _ = _
    rw [eD_eq w n]
    by_cases h : w = 0
    · rw [if_pos h, if_pos h, if_pos h, List.cons_append, cD_snoc]; rfl
    · rw [if_neg h, if_neg h, if_neg h, List.append_nil]
theorem uD_len (w : Nat) : (uD w).length = uL w := by
  unfold uD uL; split <;> rfl
theorem rD_len (w : Nat) : ∀ n, (rD w n).length = uL w * n
  | 0 => rfl
  | n + 1 => by
    show (uD w ++ rD w n).length = _
    rw [List.length_append, uD_len, rD_len w n, Nat.mul_succ]; omega
theorem cD_len : ∀ c, (cD c).length = c
  | 0 => rfl
  | c + 1 => by show (41 :: cD c).length = _; rw [List.length_cons, cD_len c]
theorem first_open (l : List UInt8) : firstF (40 :: l) = (⟨3, sgOpen, 0, 0⟩, 1, 0) := by
  have hsg : signF (40 :: l) = 1 := by
    cases l with
    | nil => rfl
    | cons d l =>
      show (if ((40 : UInt8) = 45 ∧ d = 62) ∨ ((40 : UInt8) = 61 ∧ d = 61) then 2 else if signL.contains 40 then 1 else 0) = 1
      rw [if_neg (by rintro (⟨h, _⟩ | ⟨h, _⟩) <;> exact absurd h (by decide)), if_pos (by decide)]
  unfold firstF
  simp only [show isL 40 = false from by decide, show isD 40 = false from by decide, Bool.false_eq_true, if_false, hsg, List.take_succ_cons, List.take_zero]
  rfl
theorem lx_unit (w : Nat) (l : List UInt8) (p : Nat) (acc : List Tk) : lxAt (uD w ++ l) p acc = lxAt l (p + uL w) (acc ++ uT w p) := by
  match w with
  | 0 =>
    show lxAt (40 :: l) p acc = _
    rw [lx_tok (r := l) rfl (by simp) (first_open l) rfl]
    rfl
  | 1 =>
    show lxAt (102 :: 117 :: 110 :: 32 :: 120 :: 32 :: 45 :: 62 :: 32 :: l) p acc = _
    rw [lx_tok (r := 32 :: 120 :: 32 :: 45 :: 62 :: 32 :: l) rfl (by simp) (show firstF (102 :: 117 :: 110 :: 32 :: 120 :: 32 :: 45 :: 62 :: 32 :: l) = (⟨2, kwFun, 0, 0⟩, 3, 0) from rfl) rfl]
    rw [show (32 :: 120 :: 32 :: 45 :: 62 :: 32 :: l : List UInt8) = [32] ++ (120 :: 32 :: 45 :: 62 :: 32 :: l) from rfl, lx_blank rfl]
    rw [lx_tok (r := 32 :: 45 :: 62 :: 32 :: l) rfl (by simp) (show firstF (120 :: 32 :: 45 :: 62 :: 32 :: l) = (⟨0, [120], 0, 0⟩, 1, 0) from rfl) rfl]
    rw [show (32 :: 45 :: 62 :: 32 :: l : List UInt8) = [32] ++ (45 :: 62 :: 32 :: l) from rfl, lx_blank rfl]
    rw [lx_tok (r := 32 :: l) rfl (by simp) (show firstF (45 :: 62 :: 32 :: l) = (⟨3, sgArrow, 0, 0⟩, 2, 0) from rfl) rfl]
    rw [show (32 :: l : List UInt8) = [32] ++ (l) from rfl, lx_blank rfl]
    simp only [List.length_singleton, Nat.add_assoc, List.append_assoc]
    rfl
  | 2 =>
    show lxAt (105 :: 102 :: 32 :: 97 :: 32 :: 116 :: 104 :: 101 :: 110 :: 32 :: 98 :: 32 :: 101 :: 108 :: 115 :: 101 :: 32 :: l) p acc = _
    rw [lx_tok (r := 32 :: 97 :: 32 :: 116 :: 104 :: 101 :: 110 :: 32 :: 98 :: 32 :: 101 :: 108 :: 115 :: 101 :: 32 :: l) rfl (by simp) (show firstF (105 :: 102 :: 32 :: 97 :: 32 :: 116 :: 104 :: 101 :: 110 :: 32 :: 98 :: 32 :: 101 :: 108 :: 115 :: 101 :: 32 :: l) = (⟨2, kwIf, 0, 0⟩, 2, 0) from rfl) rfl]
    rw [show (32 :: 97 :: 32 :: 116 :: 104 :: 101 :: 110 :: 32 :: 98 :: 32 :: 101 :: 108 :: 115 :: 101 :: 32 :: l : List UInt8) = [32] ++ (97 :: 32 :: 116 :: 104 :: 101 :: 110 :: 32 :: 98 :: 32 :: 101 :: 108 :: 115 :: 101 :: 32 :: l) from rfl, lx_blank rfl]
    rw [lx_tok (r := 32 :: 116 :: 104 :: 101 :: 110 :: 32 :: 98 :: 32 :: 101 :: 108 :: 115 :: 101 :: 32 :: l) rfl (by simp) (show firstF (97 :: 32 :: 116 :: 104 :: 101 :: 110 :: 32 :: 98 :: 32 :: 101 :: 108 :: 115 :: 101 :: 32 :: l) = (⟨0, [97], 0, 0⟩, 1, 0) from rfl) rfl]
    rw [show (32 :: 116 :: 104 :: 101 :: 110 :: 32 :: 98 :: 32 :: 101 :: 108 :: 115 :: 101 :: 32 :: l : List UInt8) = [32] ++ (116 :: 104 :: 101 :: 110 :: 32 :: 98 :: 32 :: 101 :: 108 :: 115 :: 101 :: 32 :: l) from rfl, lx_blank rfl]
    rw [lx_tok (r := 32 :: 98 :: 32 :: 101 :: 108 :: 115 :: 101 :: 32 :: l) rfl (by simp) (show firstF (116 :: 104 :: 101 :: 110 :: 32 :: 98 :: 32 :: 101 :: 108 :: 115 :: 101 :: 32 :: l) = (⟨2, kwThen, 0, 0⟩, 4, 0) from rfl) rfl]
    rw [show (32 :: 98 :: 32 :: 101 :: 108 :: 115 :: 101 :: 32 :: l : List UInt8) = [32] ++ (98 :: 32 :: 101 :: 108 :: 115 :: 101 :: 32 :: l) from rfl, lx_blank rfl]
    rw [lx_tok (r := 32 :: 101 :: 108 :: 115 :: 101 :: 32 :: l) rfl (by simp) (show firstF (98 :: 32 :: 101 :: 108 :: 115 :: 101 :: 32 :: l) = (⟨0, [98], 0, 0⟩, 1, 0) from rfl) rfl]
    rw [show (32 :: 101 :: 108 :: 115 :: 101 :: 32 :: l : List UInt8) = [32] ++ (101 :: 108 :: 115 :: 101 :: 32 :: l) from rfl, lx_blank rfl]
    rw [lx_tok (r := 32 :: l) rfl (by simp) (show firstF (101 :: 108 :: 115 :: 101 :: 32 :: l) = (⟨2, kwElse, 0, 0⟩, 4, 0) from rfl) rfl]
    rw [show (32 :: l : List UInt8) = [32] ++ (l) from rfl, lx_blank rfl]
    simp only [List.length_singleton, Nat.add_assoc, List.append_assoc]
    rfl
  | _ + 3 =>
    show lxAt (108 :: 101 :: 116 :: 32 :: 120 :: 32 :: 61 :: 32 :: 49 :: 32 :: 105 :: 110 :: 32 :: l) p acc = _
    rw [lx_tok (r := 32 :: 120 :: 32 :: 61 :: 32 :: 49 :: 32 :: 105 :: 110 :: 32 :: l) rfl (by simp) (show firstF (108 :: 101 :: 116 :: 32 :: 120 :: 32 :: 61 :: 32 :: 49 :: 32 :: 105 :: 110 :: 32 :: l) = (⟨2, kwLet, 0, 0⟩, 3, 0) from rfl) rfl]
    rw [show (32 :: 120 :: 32 :: 61 :: 32 :: 49 :: 32 :: 105 :: 110 :: 32 :: l : List UInt8) = [32] ++ (120 :: 32 :: 61 :: 32 :: 49 :: 32 :: 105 :: 110 :: 32 :: l) from rfl, lx_blank rfl]
    rw [lx_tok (r := 32 :: 61 :: 32 :: 49 :: 32 :: 105 :: 110 :: 32 :: l) rfl (by simp) (show firstF (120 :: 32 :: 61 :: 32 :: 49 :: 32 :: 105 :: 110 :: 32 :: l) = (⟨0, [120], 0, 0⟩, 1, 0) from rfl) rfl]
    rw [show (32 :: 61 :: 32 :: 49 :: 32 :: 105 :: 110 :: 32 :: l : List UInt8) = [32] ++ (61 :: 32 :: 49 :: 32 :: 105 :: 110 :: 32 :: l) from rfl, lx_blank rfl]
    rw [lx_tok (r := 32 :: 49 :: 32 :: 105 :: 110 :: 32 :: l) rfl (by simp) (show firstF (61 :: 32 :: 49 :: 32 :: 105 :: 110 :: 32 :: l) = (⟨3, sgEq, 0, 0⟩, 1, 0) from rfl) rfl]
    rw [show (32 :: 49 :: 32 :: 105 :: 110 :: 32 :: l : List UInt8) = [32] ++ (49 :: 32 :: 105 :: 110 :: 32 :: l) from rfl, lx_blank rfl]
    rw [lx_tok (r := 32 :: 105 :: 110 :: 32 :: l) rfl (by simp) (show firstF (49 :: 32 :: 105 :: 110 :: 32 :: l) = (⟨1, [], 1, 0⟩, 1, 0) from rfl) rfl]
    rw [show (32 :: 105 :: 110 :: 32 :: l : List UInt8) = [32] ++ (105 :: 110 :: 32 :: l) from rfl, lx_blank rfl]
    rw [lx_tok (r := 32 :: l) rfl (by simp) (show firstF (105 :: 110 :: 32 :: l) = (⟨2, kwIn, 0, 0⟩, 2, 0) from rfl) rfl]
    rw [show (32 :: l : List UInt8) = [32] ++ (l) from rfl, lx_blank rfl]
    simp only [List.length_singleton, Nat.add_assoc, List.append_assoc]
    rfl
theorem lx_close : ∀ (c p : Nat) (acc : List Tk), lxAt (cD c) p acc = (acc ++ kD c p, 0, 0)
  | 0, p, acc => by rw [show cD 0 = [] from rfl, lxAt_nil]; simp [kD]
  | c + 1, p, acc => by
    show lxAt (41 :: cD c) p acc = _
    rw [lx_tok (r := cD c) rfl (by simp) (show firstF (41 :: cD c) = (⟨3, sgShut, 0, 0⟩, 1, 0) from by cases c <;> rfl) rfl, lx_close c]
    show (acc ++ [(⟨3, sgShut, 0, (p : Int)⟩ : Tk)] ++ kD c (p + 1), (0 : Int), (0 : Int)) = (acc ++ (⟨3, sgShut, 0, (p : Int)⟩ :: kD c (p + 1)), 0, 0)
    simp
theorem lx_deep (w c : Nat) : ∀ (n p : Nat) (acc : List Tk), lxAt (rD w n ++ (49 :: cD c)) p acc = (acc ++ tD w n p c, 0, 0)
  | 0, p, acc => by
    show lxAt (49 :: cD c) p acc = _
    rw [lx_tok (r := cD c) rfl (by simp) (show firstF (49 :: cD c) = (⟨1, [], 1, 0⟩, 1, 0) from by cases c <;> rfl) rfl, lx_close c]
    show (acc ++ [(⟨1, [], 1, (p : Int)⟩ : Tk)] ++ kD c (p + 1), (0 : Int), (0 : Int)) = (acc ++ (⟨1, [], 1, (p : Int)⟩ :: kD c (p + 1)), 0, 0)
    simp
  | n + 1, p, acc => by
    show lxAt ((uD w ++ rD w n) ++ (49 :: cD c)) p acc = _
    rw [List.append_assoc, lx_unit, lx_deep w c n]
    show (acc ++ uT w p ++ tD w n (p + uL w) c, (0 : Int), (0 : Int)) = (acc ++ (uT w p ++ tD w n (p + uL w) c), 0, 0)
    rw [List.append_assoc]
theorem va_list {l r : List UInt8} (h : (vaV (bs l)).2 = true) (h' : (vaV (bs r)).2 = true) : (vaV (bs (l ++ r))).2 = true := by
  rw [bs_app, vaV_app _ _ h, if_pos h']
theorem va_unit (w : Nat) : (vaV (bs (uD w))).2 = true := by
  match w with
  | 0 => decide +kernel
  | 1 => decide +kernel
  | 2 => decide +kernel
  | _ + 3 => exact (show (vaV (bs [108, 101, 116, 32, 120, 32, 61, 32, 49, 32, 105, 110, 32])).2 = true from by decide +kernel)
theorem va_nil : (vaV (bs [])).2 = true := by decide +kernel
theorem va_one : (vaV (bs [49])).2 = true := by decide +kernel
theorem va_sD (w : Nat) : ∀ n, (vaV (bs (sD w n))).2 = true
  | 0 => va_nil
  | n + 1 => va_list (va_sD w n) (va_unit w)
theorem va_eD (w : Nat) : ∀ n, (vaV (bs (eD w n))).2 = true
  | 0 => va_one
  | n + 1 => va_list (va_eD w n) (by by_cases h : w = 0 <;> simp only [h, if_true, if_false] <;> decide +kernel)
theorem uL_le (w : Nat) : uL w ≤ 17 := by unfold uL; split <;> omega
theorem deep_size (w n : Nat) : (bs (sD w n ++ eD w n)).size = uL w * n + 1 + (if w = 0 then n else 0) := by
  rw [bs_sizeL, List.length_append, sD_eq, rD_len, eD_eq, List.length_cons, cD_len]; omega
theorem lexR_deep (w n : Nat) (hn : n ≤ 63) : lexR (bs (sD w n ++ eD w n)) = (tD w n 0 (if w = 0 then n else 0), 0, 0) := by
  have hl := uL_le w
  have hm : uL w * n ≤ 17 * 63 := Nat.mul_le_mul hl hn
  rw [lexR_ok _ (by rw [deep_size]; split <;> omega) (va_list (va_sD w n) (va_eD w n))]
  show lxAt (sD w n ++ eD w n) 0 [] = _
  rw [sD_eq, eD_eq, lx_deep]
  rfl
section
variable {ts : List Tk} {en : Int}
theorem drop_get {i k : Nat} {L : List Tk} (h : ts.drop i = L) : ts[i + k]? = L[k]? := by rw [← h, List.getElem?_drop]
theorem drop_on {i k : Nat} {L M : List Tk} (h : ts.drop i = L) (hM : L.drop k = M) : ts.drop (i + k) = M := by rw [← hM, ← h, List.drop_drop]
theorem stop_kd {j k q : Nat} (h : ts.drop j = kD k q) : StopAt ts j := by
  cases k with
  | zero =>
    have h : ts.drop j = [] := h
    exact stop_end (List.drop_eq_nil_iff.1 h)
  | succ k => exact stop_tok (t := ⟨3, sgShut, 0, (q : Int)⟩) (by have := drop_get (k := 0) h; exact this) (.inr rfl) (by simp)
/-- so many expressions within one another, and so many that may be. -/
def Dp (ts : List Tk) (en : Int) (w n r i p c : Nat) : Prop := ∀ ns : List Nd, ns.length + 3 * n + 1 ≤ 512 →
  (n < r → ∃ a st, exprP ts en r ⟨i, ns⟩ = .ok (a, st) ∧ st.ns.length ≤ ns.length + 3 * n + 1 ∧ ∃ q, ts.drop st.i = kD (c - (if w = 0 then n else 0)) q) ∧
  (r ≤ n → ∃ q : Int, exprP ts en r ⟨i, ns⟩ = .error (401, q) ∧ (p : Int) ≤ q ∧ (0 < r → (p : Int) < q) ∧ q ≤ (p : Int) + ((uL w * r : Nat) : Int))
theorem deep_0 (w : Nat) {r i p c : Nat} (h : ts.drop i = tD w 0 p c) : Dp ts en w 0 r i p c := by
  intro ns hns
  have h : ts.drop i = ⟨1, [], 1, (p : Int)⟩ :: kD c (p + 1) := h
  have ht : ts[i]? = some ⟨1, [], 1, (p : Int)⟩ := by have := drop_get (k := 0) h; exact this
  have hd : ts.drop (i + 1) = kD c (p + 1) := drop_on h rfl
  refine ⟨fun hr => ?_, fun hr => ?_⟩
  · obtain ⟨r, rfl⟩ : ∃ k, r = k + 1 := ⟨r - 1, by omega⟩
    obtain ⟨x, hx⟩ := open_atom (en := en) (E := exprP ts en r) (ns := ns) ht (.inr rfl) (stop_kd hd) (by omega)
    exact ⟨_, _, hx, by simp, p + 1, by simpa using hd⟩
  · obtain rfl : r = 0 := by omega
    refine ⟨(p : Int), ?_, Int.le_refl _, fun h => by omega, by simp⟩
    show Except.error (401, hereP ts en i) = _
    unfold hereP
    rw [ht]
theorem deep_r0 (w : Nat) {n i p c : Nat} {t : Tk} (ht : ts[i]? = some t) (hp : t.at_ = (p : Int)) : Dp ts en w n 0 i p c := by
  intro ns hns
  refine ⟨fun hr => by omega, fun _ => ⟨(p : Int), ?_, Int.le_refl _, fun h => by omega, by simp⟩⟩
  show Except.error (401, hereP ts en i) = _
  unfold hereP
  rw [ht]
  show Except.error (401, t.at_) = _
  rw [hp]
theorem put_ok (x : Nd) {st : PS} (h : st.ns.length < 512) : putP ts en x st = .ok (st.ns.length, ⟨st.i, st.ns ++ [x]⟩) := by
  unfold putP; rw [if_neg (by omega)]
theorem want_ok {i : Nat} {ns : List Nd} {t : Tk} {u : List UInt8} (ht : ts[i]? = some t) (hk : t.kind = 2 ∨ t.kind = 3) (hu : t.text = u) : wantP ts en u ⟨i, ns⟩ = .ok ⟨i + 1, ns⟩ := by
  unfold wantP
  rw [if_pos (by rw [isP_tok ht hk, hu]; simp)]
theorem name_go {i : Nat} {ns : List Nd} {t : Tk} (ht : ts[i]? = some t) (hk : t.kind = 0) : nameP ts en ⟨i, ns⟩ = .ok (bs t.text, ⟨i + 1, ns⟩) := by
  unfold nameP
  simp only [ht]
  rw [if_pos hk]
/-- an inner name or number. -/
theorem expr_atom {r i : Nat} {ns : List Nd} {t : Tk} (ht : ts[i]? = some t) (hk : t.kind = 0 ∨ t.kind = 1) (hs : StopAt ts (i + 1)) (hl : ns.length < 512) : ∃ x, exprP ts en (r + 1) ⟨i, ns⟩ = .ok (ns.length, ⟨i + 1, ns ++ [x]⟩) := open_atom ht hk hs hl
theorem deep_br {n r i p c : Nat} (h : ts.drop i = tD 0 (n + 1) p c) (hc : n + 1 ≤ c) (ih : Dp ts en 0 n r (i + 1) (p + 1) c) : Dp ts en 0 (n + 1) (r + 1) i p c := by
  intro ns hns
  have ht : ts[i]? = some ⟨3, sgOpen, 0, (p : Int)⟩ := by have := drop_get (k := 0) h; exact this
  have hi : ∀ u, isP ts i u = (sgOpen == u) := isP_tok ht (.inr rfl)
  have hf : firstP ts en (exprP ts en r) ⟨i, ns⟩ = (exprP ts en r ⟨i + 1, ns⟩ >>= fun p => wantP ts en sgShut p.2 >>= fun s => .ok (p.1, s)) := by
    rw [brk_first ht rfl rfl, brk_at ht rfl rfl]
  obtain ⟨h1, h2⟩ := ih ns (by omega)
  refine ⟨fun hr => ?_, fun hr => ?_⟩
  · obtain ⟨a, st, he, hl, q, hq⟩ := h1 (by omega)
    rw [he] at hf
    obtain ⟨k, hk⟩ : ∃ k, c - n = k + 1 := ⟨c - n - 1, by omega⟩
    have hq : ts.drop st.i = kD (c - n) q := by simpa using hq
    rw [hk] at hq
    have hw : wantP ts en sgShut ⟨st.i, st.ns⟩ = .ok ⟨st.i + 1, st.ns⟩ := want_ok (en := en) (ns := st.ns) (u := sgShut) (t := ⟨3, sgShut, 0, (q : Int)⟩) (by have := drop_get (k := 0) hq; exact this) (.inr rfl) rfl
    have hd : ts.drop (st.i + 1) = kD k (q + 1) := drop_on hq rfl
    refine ⟨a, ⟨st.i + 1, st.ns⟩, ?_, by dsimp only; omega, q + 1, ?_⟩
    · show openP ts en (exprP ts en r) ⟨i, ns⟩ = _
      refine open_stop (by rw [hi]; decide) (by rw [hi]; decide) (by rw [hi]; decide) ?_ (stop_kd hd)
      rw [hf]
      show (wantP ts en sgShut ⟨st.i, st.ns⟩ >>= fun s => .ok (a, s)) = _
      rw [hw]
      rfl
    · rw [if_pos rfl, show c - (n + 1) = k by omega]; exact hd
  · obtain ⟨q, he, hq0, hq1, hq2⟩ := h2 (by omega)
    rw [he] at hf
    refine ⟨q, ?_, by omega, fun _ => by omega, by simp only [uL, Nat.one_mul] at hq2 ⊢; omega⟩
    show openP ts en (exprP ts en r) ⟨i, ns⟩ = _
    refine open_first (by rw [hi]; decide) (by rw [hi]; decide) (by rw [hi]; decide) ?_
    rw [hf]
    rfl
theorem deep_fun {n r i p : Nat} (h : ts.drop i = tD 1 (n + 1) p 0) (ih : Dp ts en 1 n r (i + 3) (p + 9) 0) : Dp ts en 1 (n + 1) (r + 1) i p 0 := by
  intro ns hns
  have t0 : ts[i]? = some ⟨2, kwFun, 0, (p : Int)⟩ := by have := drop_get (k := 0) h; exact this
  have t1 : ts[i + 1]? = some ⟨0, [120], 0, ((p + 4 : Nat) : Int)⟩ := drop_get (k := 1) h
  have t2 : ts[i + 2]? = some ⟨3, sgArrow, 0, ((p + 6 : Nat) : Int)⟩ := drop_get (k := 2) h
  have hi : ∀ u, isP ts i u = (kwFun == u) := isP_tok t0 (.inl rfl)
  have n1 := name_go (en := en) (ns := ns) t1 rfl
  have n2 := want_ok (en := en) (ns := ns) (u := sgArrow) t2 (.inr rfl) rfl
  have e0 : exprP ts en (r + 1) ⟨i, ns⟩ = (exprP ts en r ⟨i + 3, ns⟩ >>= fun y => putP ts en ⟨3, (y.1 : Nat), 0, 0, 0, ba0, bs [120], ba0, ba0, hereP ts en i⟩ y.2) := by
    show openP ts en (exprP ts en r) ⟨i, ns⟩ = _
    unfold openP
    rw [if_pos (by rw [hi]; decide)]
    unfold funP
    rw [n1]
    show (wantP ts en sgArrow ⟨i + 2, ns⟩ >>= _) = _
    rw [n2]
    rfl
  obtain ⟨h1, h2⟩ := ih ns (by omega)
  refine ⟨fun hr => ?_, fun hr => ?_⟩
  · obtain ⟨a, st, he, hl, q, hq⟩ := h1 (by omega)
    rw [he] at e0
    refine ⟨st.ns.length, ⟨st.i, st.ns ++ [⟨3, (a : Nat), 0, 0, 0, ba0, bs [120], ba0, ba0, hereP ts en i⟩]⟩, ?_, by simp only [List.length_append, List.length_singleton]; omega, q, by simpa using hq⟩
    rw [e0]
    exact put_ok _ (by dsimp only; omega)
  · obtain ⟨q, he, hq0, hq1, hq2⟩ := h2 (by omega)
    rw [he] at e0
    exact ⟨q, by rw [e0]; rfl, by omega, fun _ => by omega, by simp only [uL] at hq2 ⊢; omega⟩
theorem deep_if {n r i p : Nat} (h : ts.drop i = tD 2 (n + 1) p 0) (ih : Dp ts en 2 n r (i + 5) (p + 17) 0) : Dp ts en 2 (n + 1) (r + 1) i p 0 := by
  intro ns hns
  have t0 : ts[i]? = some ⟨2, kwIf, 0, (p : Int)⟩ := by have := drop_get (k := 0) h; exact this
  have t1 : ts[i + 1]? = some ⟨0, [97], 0, ((p + 3 : Nat) : Int)⟩ := drop_get (k := 1) h
  have t2 : ts[i + 2]? = some ⟨2, kwThen, 0, ((p + 5 : Nat) : Int)⟩ := drop_get (k := 2) h
  have t3 : ts[i + 3]? = some ⟨0, [98], 0, ((p + 10 : Nat) : Int)⟩ := drop_get (k := 3) h
  have t4 : ts[i + 4]? = some ⟨2, kwElse, 0, ((p + 12 : Nat) : Int)⟩ := drop_get (k := 4) h
  have hi : ∀ u, isP ts i u = (kwIf == u) := isP_tok t0 (.inl rfl)
  have e0 : exprP ts en (r + 1) ⟨i, ns⟩ = ifP ts en (exprP ts en r) (hereP ts en i) ⟨i + 1, ns⟩ := by
    show openP ts en (exprP ts en r) ⟨i, ns⟩ = _
    unfold openP
    rw [if_neg (by rw [hi]; decide), if_neg (by rw [hi]; decide), if_pos (by rw [hi]; decide)]
  cases r with
  | zero =>
    refine ⟨fun hr => by omega, fun _ => ⟨((p + 3 : Nat) : Int), ?_, by omega, fun _ => by omega, by simp only [uL]; omega⟩⟩
    rw [e0]
    unfold ifP
    show ((Except.error (401, hereP ts en (i + 1)) : Except PE (Nat × PS)) >>= _) = _
    unfold hereP
    rw [t1]
    rfl
  | succ r =>
    obtain ⟨x, hx⟩ := expr_atom (en := en) (r := r) (ns := ns) t1 (.inl rfl) (stop_tok t2 (.inl rfl) (by simp)) (by omega)
    obtain ⟨y, hy⟩ := expr_atom (en := en) (r := r) (ns := ns ++ [x]) t3 (.inl rfl) (stop_tok t4 (.inl rfl) (by simp)) (by simp only [List.length_append, List.length_singleton]; omega)
    have w1 := want_ok (en := en) (ns := ns ++ [x]) (u := kwThen) t2 (.inl rfl) rfl
    have w2 := want_ok (en := en) (ns := ns ++ [x] ++ [y]) (u := kwElse) t4 (.inl rfl) rfl
    obtain ⟨h1, h2⟩ := ih (ns ++ [x] ++ [y]) (by simp only [List.length_append, List.length_singleton]; omega)
    have e1 : exprP ts en (r + 1 + 1) ⟨i, ns⟩ = (exprP ts en (r + 1) ⟨i + 5, ns ++ [x] ++ [y]⟩ >>= fun z => putP ts en ⟨7, (ns.length : Nat), ((ns ++ [x]).length : Nat), (z.1 : Nat), 0, ba0, ba0, ba0, ba0, hereP ts en i⟩ z.2) := by
      rw [e0]
      unfold ifP
      rw [hx]
      show (wantP ts en kwThen ⟨i + 2, ns ++ [x]⟩ >>= _) = _
      rw [w1]
      show (exprP ts en (r + 1) ⟨i + 3, ns ++ [x]⟩ >>= _) = _
      rw [hy]
      show (wantP ts en kwElse ⟨i + 4, ns ++ [x] ++ [y]⟩ >>= _) = _
      rw [w2]
      rfl
    refine ⟨fun hr => ?_, fun hr => ?_⟩
    · obtain ⟨a, st, he, hl, q, hq⟩ := h1 (by omega)
      rw [he] at e1
      simp only [List.length_append, List.length_singleton] at hl
      refine ⟨st.ns.length, ⟨st.i, st.ns ++ [⟨7, (ns.length : Nat), ((ns ++ [x]).length : Nat), (a : Nat), 0, ba0, ba0, ba0, ba0, hereP ts en i⟩]⟩, ?_, by simp only [List.length_append, List.length_singleton]; omega, q, by simpa using hq⟩
      rw [e1]
      exact put_ok _ (by dsimp only; omega)
    · obtain ⟨q, he, hq0, hq1, hq2⟩ := h2 (by omega)
      rw [he] at e1
      exact ⟨q, by rw [e1]; rfl, by omega, fun _ => by omega, by simp only [uL] at hq2 ⊢; omega⟩
theorem deep_let {n r i p : Nat} (h : ts.drop i = tD 3 (n + 1) p 0) (ih : Dp ts en 3 n r (i + 5) (p + 13) 0) : Dp ts en 3 (n + 1) (r + 1) i p 0 := by
  intro ns hns
  have t0 : ts[i]? = some ⟨2, kwLet, 0, (p : Int)⟩ := by have := drop_get (k := 0) h; exact this
  have t1 : ts[i + 1]? = some ⟨0, [120], 0, ((p + 4 : Nat) : Int)⟩ := drop_get (k := 1) h
  have t2 : ts[i + 2]? = some ⟨3, sgEq, 0, ((p + 6 : Nat) : Int)⟩ := drop_get (k := 2) h
  have t3 : ts[i + 3]? = some ⟨1, [], 1, ((p + 8 : Nat) : Int)⟩ := drop_get (k := 3) h
  have t4 : ts[i + 4]? = some ⟨2, kwIn, 0, ((p + 10 : Nat) : Int)⟩ := drop_get (k := 4) h
  have hi : ∀ u, isP ts i u = (kwLet == u) := isP_tok t0 (.inl rfl)
  have n1 := name_go (en := en) (ns := ns) t1 rfl
  have w1 := want_ok (en := en) (ns := ns) (u := sgEq) t2 (.inr rfl) rfl
  have e0 : exprP ts en (r + 1) ⟨i, ns⟩ = (exprP ts en r ⟨i + 3, ns⟩ >>= fun y => wantP ts en kwIn y.2 >>= fun s => exprP ts en r s >>= fun z => putP ts en ⟨5, (y.1 : Nat), (z.1 : Nat), 0, 0, ba0, bs [120], ba0, ba0, hereP ts en i⟩ z.2) := by
    show openP ts en (exprP ts en r) ⟨i, ns⟩ = _
    unfold openP
    rw [if_neg (by rw [hi]; decide), if_pos (by rw [hi]; decide), if_neg (by rw [isP_not t1 (.inl rfl)]; decide)]
    unfold letP
    rw [n1]
    show (wantP ts en sgEq ⟨i + 2, ns⟩ >>= _) = _
    rw [w1]
    rfl
  cases r with
  | zero =>
    refine ⟨fun hr => by omega, fun _ => ⟨((p + 8 : Nat) : Int), ?_, by omega, fun _ => by omega, by simp only [uL]; omega⟩⟩
    rw [e0]
    show ((Except.error (401, hereP ts en (i + 3)) : Except PE (Nat × PS)) >>= _) = _
    unfold hereP
    rw [t3]
    rfl
  | succ r =>
    obtain ⟨x, hx⟩ := expr_atom (en := en) (r := r) (ns := ns) t3 (.inr rfl) (stop_tok t4 (.inl rfl) (by simp)) (by omega)
    have w2 := want_ok (en := en) (ns := ns ++ [x]) (u := kwIn) t4 (.inl rfl) rfl
    obtain ⟨h1, h2⟩ := ih (ns ++ [x]) (by simp only [List.length_append, List.length_singleton]; omega)
    have e1 : exprP ts en (r + 1 + 1) ⟨i, ns⟩ = (exprP ts en (r + 1) ⟨i + 5, ns ++ [x]⟩ >>= fun z => putP ts en ⟨5, (ns.length : Nat), (z.1 : Nat), 0, 0, ba0, bs [120], ba0, ba0, hereP ts en i⟩ z.2) := by
      rw [e0, hx]
      show (wantP ts en kwIn ⟨i + 4, ns ++ [x]⟩ >>= _) = _
      rw [w2]
      rfl
    refine ⟨fun hr => ?_, fun hr => ?_⟩
    · obtain ⟨a, st, he, hl, q, hq⟩ := h1 (by omega)
      rw [he] at e1
      simp only [List.length_append, List.length_singleton] at hl
      refine ⟨st.ns.length, ⟨st.i, st.ns ++ [⟨5, (ns.length : Nat), (a : Nat), 0, 0, ba0, bs [120], ba0, ba0, hereP ts en i⟩]⟩, ?_, by simp only [List.length_append, List.length_singleton]; omega, q, by simpa using hq⟩
      rw [e1]
      exact put_ok _ (by dsimp only; omega)
    · obtain ⟨q, he, hq0, hq1, hq2⟩ := h2 (by omega)
      rw [he] at e1
      exact ⟨q, by rw [e1]; rfl, by omega, fun _ => by omega, by simp only [uL] at hq2 ⊢; omega⟩
theorem deep_at0 : ∀ (n r i p c : Nat), n ≤ c → ts.drop i = tD 0 n p c → Dp ts en 0 n r i p c
  | 0, r, i, p, c, hc, h => deep_0 0 h
  | n + 1, 0, i, p, c, hc, h => deep_r0 0 (by have := drop_get (k := 0) h; exact this) rfl
  | n + 1, r + 1, i, p, c, hc, h => deep_br h hc (deep_at0 n r (i + 1) (p + 1) c (by omega) (drop_on h rfl))
theorem deep_at1 : ∀ (n r i p : Nat), ts.drop i = tD 1 n p 0 → Dp ts en 1 n r i p 0
  | 0, r, i, p, h => deep_0 1 h
  | n + 1, 0, i, p, h => deep_r0 1 (by have := drop_get (k := 0) h; exact this) rfl
  | n + 1, r + 1, i, p, h => deep_fun h (deep_at1 n r (i + 3) (p + 9) (drop_on h rfl))
theorem deep_at2 : ∀ (n r i p : Nat), ts.drop i = tD 2 n p 0 → Dp ts en 2 n r i p 0
  | 0, r, i, p, h => deep_0 2 h
  | n + 1, 0, i, p, h => deep_r0 2 (by have := drop_get (k := 0) h; exact this) rfl
  | n + 1, r + 1, i, p, h => deep_if h (deep_at2 n r (i + 5) (p + 17) (drop_on h rfl))
theorem deep_at3 : ∀ (n r i p : Nat), ts.drop i = tD 3 n p 0 → Dp ts en 3 n r i p 0
  | 0, r, i, p, h => deep_0 3 h
  | n + 1, 0, i, p, h => deep_r0 3 (by have := drop_get (k := 0) h; exact this) rfl
  | n + 1, r + 1, i, p, h => deep_let h (deep_at3 n r (i + 5) (p + 13) (drop_on h rfl))
theorem deep_at (w : Nat) (hw : w < 4) (n : Nat) (h : ts = tD w n 0 (if w = 0 then n else 0)) : Dp ts en w n 40 0 0 (if w = 0 then n else 0) := by
  match w, hw with
  | 0, _ => exact deep_at0 n 40 0 0 n (Nat.le_refl _) (by rw [h]; rfl)
  | 1, _ => exact deep_at1 n 40 0 0 (by rw [h]; rfl)
  | 2, _ => exact deep_at2 n 40 0 0 (by rw [h]; rfl)
  | 3, _ => exact deep_at3 n 40 0 0 (by rw [h]; rfl)
theorem deep_head (w : Nat) (hw : w < 4) (n c : Nat) : isP (tD w n 0 c) 0 kwOp = false := by
  match n, w, hw with
  | 0, w, _ => rfl
  | n + 1, 0, _ => rfl
  | n + 1, 1, _ => rfl
  | n + 1, 2, _ => rfl
  | n + 1, 3, _ => rfl
end
theorem parse_deep (w : Nat) (hw : w < 4) (n : Nat) (hn : n ≤ 63) : (n < 40 → ∃ ns, parseV (bs (sD w n ++ eD w n)) = .ok ([], ns)) ∧ (40 ≤ n → ∃ q : Int, parseV (bs (sD w n ++ eD w n)) = .error (401, q) ∧ 0 < q ∧ q ≤ ((bs (sD w n)).size : Int)) := by
  have e : parseV (bs (sD w n ++ eD w n)) = progP (tD w n 0 (if w = 0 then n else 0)) ((bs (sD w n ++ eD w n)).size : Int) := by
    unfold parseV; rw [lexR_deep w n hn]; rfl
  have hsz : (bs (sD w n)).size = uL w * n := by rw [bs_sizeL, sD_eq, rD_len]
  rw [e, hsz]
  generalize ((bs (sD w n ++ eD w n)).size : Int) = en
  obtain ⟨h1, h2⟩ := deep_at (en := en) w hw n rfl [] (by simp only [List.length_nil]; omega)
  have ho := deep_head w hw n (if w = 0 then n else 0)
  have hp : progP (tD w n 0 (if w = 0 then n else 0)) en = (exprP (tD w n 0 (if w = 0 then n else 0)) en 40 ⟨0, []⟩ >>= fun y => if y.2.i < (tD w n 0 (if w = 0 then n else 0)).length then .error (403, hereP (tD w n 0 (if w = 0 then n else 0)) en y.2.i) else .ok ([], y.2.ns)) := by
    unfold progP
    rw [declLoop, if_neg (by dsimp only; rw [ho]; decide)]
    rfl
  rw [hp]
  refine ⟨fun h => ?_, fun h => ?_⟩
  · obtain ⟨a, st, he, _, q, hq⟩ := h1 h
    have hq : (tD w n 0 (if w = 0 then n else 0)).drop st.i = [] := by
      rw [hq, Nat.sub_self]; rfl
    have hl := List.drop_eq_nil_iff.1 hq
    refine ⟨st.ns, ?_⟩
    rw [he]
    show (if st.i < _ then _ else _) = _
    rw [if_neg (by omega)]
  · obtain ⟨q, he, _, hq1, hq2⟩ := h2 h
    refine ⟨q, by rw [he]; rfl, by have := hq1 (by omega); omega, ?_⟩
    have := Nat.mul_le_mul_left (uL w) h
    omega
end Go.Proofs.YtnhfbbognjdnpaaDoor
