/- ShowForms holds for every two numbers. No condition but that the listed package variables hold what the program's text lays. -/
import Derived.Test.YtidlljookjicpaaDoorPwP
import Derived.Test.YtidlljookjicpaaDoorPrg
import Derived.Test.YtidlljookjicpaaDoorPwH
import Derived.Test.YtidlljookjicpaaDoorAid
import Derived.Test.YtidlljookjicpaaDoorCards
import Derived.Test.YtidlljookjicpaaDoorTie
import Derived.Test.YtidlljookjicpaaDoorOpn
import Derived.Test.YtidlljookjicpaaDoorHan
import Derived.WalkKit
import Derived.ProofKit
import Derived.Deep.DeepHandedRow
namespace Go.Proofs.YtidlljookjicpaaDoor.showForms
open Go.ChangeShapes Go.WideShapes Go.ChangeAt Go.RowKit
open Go.ChangeMaps (open_string shut_string)
set_option linter.unusedVariables false
set_option linter.unusedSimpArgs false

theorem tabs {W : World} (h : laidMetH Tryd.prog Rows.showFormsRow.laid W) : Hid (errTy W ∧ TabW W) := mixed_of h (.tail _ (.tail _ (.tail _ (.head _)))) (.tail _ (.tail _ (.head _)))
/- A chain of functions, or of operations that are done: plain. -/
def i0 : Nd := ⟨1, 0, 0, 0, 0, ⟨#[]⟩, ⟨#[]⟩, ⟨#[]⟩, ⟨#[]⟩, 0⟩
def cx (d : Bool) (i : Nat) : Nd := if d then ⟨9, (i : Int), 0, 0, 0, ⟨#[97]⟩, ⟨#[]⟩, ⟨#[]⟩, ⟨#[]⟩, 0⟩ else ⟨3, (i : Int), 0, 0, 0, ⟨#[]⟩, ⟨#[120]⟩, ⟨#[]⟩, ⟨#[]⟩, 0⟩
def cN (d : Bool) : Nat → List Nd
  | 0 => [i0]
  | n + 1 => cN d n ++ [cx d n]
def cT (d : Bool) : Nat → PT
  | 0 => .int 0
  | n + 1 => if d then .ac ⟨#[97]⟩ (cT d n) else .fn ⟨#[120]⟩ (cT d n)
theorem cN_len (d : Bool) (n : Nat) : (cN d n).length = n + 1 := by
  induction n with
  | zero => rfl
  | succ n ih => simp only [cN, List.length_append, ih, List.length_cons, List.length_nil]
theorem getD_app (l m : List Nd) (j : Nat) : (l ++ m).getD j nd0 = if j < l.length then l.getD j nd0 else m.getD (j - l.length) nd0 := by
  rw [List.getD_eq_getElem?_getD, List.getElem?_append]
  split <;> rw [List.getD_eq_getElem?_getD]
theorem cN_0 (d : Bool) (n : Nat) : (cN d n).getD 0 nd0 = i0 := by
  induction n with
  | zero => rfl
  | succ n ih => unfold cN; rw [getD_app, if_pos (by rw [cN_len]; omega)]; exact ih
theorem cN_s (d : Bool) (n i : Nat) (h : i < n) : (cN d n).getD (i + 1) nd0 = cx d i := by
  induction n with
  | zero => omega
  | succ n ih =>
    unfold cN; rw [getD_app, cN_len]
    by_cases hi : i < n
    · rw [if_pos (by omega)]; exact ih hi
    · obtain rfl : i = n := by omega
      rw [if_neg (by omega), show i + 1 - (i + 1) = 0 by omega]; rfl
theorem cN_k0 (d : Bool) (n : Nat) : ksN (cN d n) 0 = [] := by unfold ksN; rw [cN_0]; rfl
theorem cN_ks (d : Bool) (n i : Nat) (h : i < n) : ksN (cN d n) (i + 1) = [(i : Int)] := by unfold ksN; rw [cN_s d n i h]; cases d <;> rfl
theorem cN_bg (d : Bool) (n : Nat) : ∀ i, i ≤ n → bg (ksN (cN d n)) i = 0 := by
  intro i
  induction i with
  | zero => intro _; exact bg_nil _ _ (cN_k0 d n)
  | succ i ih =>
    intro hi
    rw [bg_eq, cN_ks d n i (by omega)]
    show bgK _ [(i : Int)] _ = 0
    unfold bgK
    rw [if_pos (by omega), show (((i + 1 : Nat) : Int) - 1).toNat = i by omega, ih (by omega), if_neg (by omega)]
    rfl
theorem i0_ok : okC true i0 = true := by decide +kernel
theorem cx_ok (d : Bool) (i : Nat) (h : i ≤ 1000) : okC true (cx d i) = true := by
  unfold okC cx
  cases d
  · simp only [plainC, numB, namedB, namesL]
    simp; decide
  · simp only [plainC, numB, namedB, namesL]
    simp; decide
theorem cN_ok (d : Bool) (n : Nat) (h : n ≤ 1000) : (cN d n).all (okC true) = true := by
  induction n with
  | zero => unfold cN; simp [i0_ok]
  | succ n ih => unfold cN; rw [List.all_append, ih (by omega)]; simp [cx_ok d n (by omega)]
theorem cN_may (d : Bool) (n : Nat) (h : n ≤ 100) : mayV [] (cN d n) = true := by
  unfold mayV
  rw [tree_c]; unfold treeC
  rw [cN_ok d n (by omega), cN_len, decide_eq_true (by omega), show n + 1 - 1 = n by omega, cN_bg d n n (Nat.le_refl _)]; rfl
theorem cT_ok (d : Bool) (n : Nat) : (cT d n).ok := by
  induction n with
  | zero => exact ⟨by decide, by decide⟩
  | succ n ih =>
    unfold cT
    cases d
    · exact ⟨by decide, ih⟩
    · exact ⟨by decide, ih⟩
theorem cT_sz (d : Bool) (n : Nat) : (cT d n).sz = n + 1 := by
  induction n with
  | zero => rfl
  | succ n ih => unfold cT; cases d <;> (show (cT _ n).sz + 1 = _; rw [ih])
theorem cT_fl (d : Bool) (n : Nat) : (cN d n).map bare0 = (cT d n).fl 0 := by
  induction n with
  | zero => rfl
  | succ n ih =>
    have hs := cT_sz d n
    unfold cN cT
    rw [List.map_append, ih]
    cases d
    · show _ = (cT false n).fl 0 ++ [⟨3, (0 + (cT false n).sz - 1 : Nat), 0, 0, 0, ba0, ⟨#[120]⟩, ba0, ba0, 0⟩]
      rw [hs, show 0 + (n + 1) - 1 = n by omega]; rfl
    · show _ = (cT true n).fl 0 ++ [⟨9, (0 + (cT true n).sz - 1 : Nat), 0, 0, 0, ⟨#[97]⟩, ba0, ba0, ba0, 0⟩]
      rw [hs, show 0 + (n + 1) - 1 = n by omega]; rfl
theorem cT_T (d : Bool) (n : Nat) (h : n ≤ 100) : MayT [] (cN d n) (cT d n) := mayT_of (cT_ok d n) (fun o ho => by cases ho) (by decide) (by rw [cT_sz]; omega) (cT_fl d n)
theorem cT_atm (d : Bool) (n : Nat) : (cT d (n + 1)).atm = false := by unfold cT; cases d <;> rfl
theorem cT_ins (d : Bool) (n : Nat) : (cT d n).ins = if d then n - 1 else n := by
  induction n with
  | zero => cases d <;> rfl
  | succ n ih =>
    cases d
    · show (cT false n).ins + 1 = _
      rw [ih]; rfl
    · show (if (cT true n).atm then (cT true n).ins else (cT true n).ins + 1) = _
      rw [ih]
      cases n with
      | zero => rfl
      | succ n => rw [cT_atm]; simp
theorem cT_tx (d : Bool) (n : Nat) : (cT d n).tx.length ≤ n * 9 + 1 := by
  induction n with
  | zero =>
    have h : Lib.itoa (0 : Int) = [48] := itoa_dig 0 (by decide)
    show (Lib.itoa 0).length ≤ _
    rw [h]; decide
  | succ n ih =>
    unfold cT
    cases d
    · simp only [Bool.false_eq_true, if_false, PT.tx, List.length_append, List.length_cons, List.length_nil]
      show 0 + 1 + 1 + 1 + 1 + 1 + 4 + (cT false n).tx.length ≤ _
      omega
    · have := brS_len (cT true n).atm (cT true n).tx
      simp only [if_true, PT.tx, List.length_append, List.length_cons, List.length_nil]
      show 3 + 1 + 1 + (brS (cT true n).atm (cT true n).tx).length ≤ _
      omega
/-- how deep. -/
def dpN (d : Bool) (n : Nat) : Nat := if d && decide (1 ≤ n) then n else n + 1
theorem pr_chain (d : Bool) (n : Nat) (h : n ≤ 63) : (dpN d n ≤ 40 → ∃ l, prV [] (cN d n) (cT d n) = some l ∧ l ≠ []) ∧ (40 < dpN d n → prV [] (cN d n) (cT d n) = none) := by
  have h1 := cT_ins d n
  have h2 := cT_tx d n
  have hp : prV [] (cN d n) (cT d n) = outV [] (cT d n) := by unfold prV; rw [cN_may d n (by omega), if_pos rfl]
  have hi : (cT d n).ins + 1 = dpN d n := by
    rw [h1]; unfold dpN
    cases d
    · rfl
    · cases n with
      | zero => rfl
      | succ n => simp
  rw [hp]
  unfold outV
  rw [hi]
  refine ⟨fun hd => ?_, fun hd => ?_⟩
  · have hl : (opsT [] ++ (cT d n).tx).length ≤ 4096 := by show (cT d n).tx.length ≤ _; omega
    rw [if_pos ⟨hd, hl⟩]
    exact ⟨_, rfl, (cT d n).tx_ne (cT_ok d n)⟩
  · rw [if_neg (by omega)]
theorem cN_sz (d : Bool) (n : Nat) : ∀ t ∈ cN d n, NdSz t := by
  induction n with
  | zero => intro t ht; simp only [cN, List.mem_cons, List.not_mem_nil, or_false] at ht; subst ht; unfold NdSz; decide
  | succ n ih =>
    intro t ht
    simp only [cN, List.mem_append, List.mem_cons, List.not_mem_nil, or_false] at ht
    rcases ht with ht | rfl
    · exact ih t ht
    · cases d
      · show NdSz (⟨3, (n : Int), 0, 0, 0, ⟨#[]⟩, ⟨#[120]⟩, ⟨#[]⟩, ⟨#[]⟩, 0⟩ : Nd)
        exact ⟨(by decide : (⟨#[]⟩ : ByteArray).size ≤ _), (by decide : (⟨#[120]⟩ : ByteArray).size ≤ _), (by decide : (⟨#[]⟩ : ByteArray).size ≤ _), (by decide : (⟨#[]⟩ : ByteArray).size ≤ _)⟩
      · show NdSz (⟨9, (n : Int), 0, 0, 0, ⟨#[97]⟩, ⟨#[]⟩, ⟨#[]⟩, ⟨#[]⟩, 0⟩ : Nd)
        exact ⟨(by decide : (⟨#[97]⟩ : ByteArray).size ≤ _), (by decide : (⟨#[]⟩ : ByteArray).size ≤ _), (by decide : (⟨#[]⟩ : ByteArray).size ≤ _), (by decide : (⟨#[]⟩ : ByteArray).size ≤ _)⟩
/-- a slice that was laid as a literal is the call's own. -/
theorem own_lit {B : Nat} (W : World) (arr : Array Value) (ts : List Nd) (h : arr.toList = ndL ts) (n : Nat) (hn : n = ts.length) (hB : B ≤ W.heap.size) (hs : n ≤ 1099511627776) : OwnN B (W.alloc (.cells arr 35)) (.slice (some ⟨W.heap.size, 0, none⟩) n n) ts := by
  subst hn
  have hl : arr.toList.length = ts.length * 10 := by rw [h, ndL_len]
  refine ⟨ndL_len _, .inr ⟨W.heap.size, ts.length, arr, rfl, hB, by show (W.heap.push _)[W.heap.size]? = _; simp, Nat.le_refl _, by unfold maxLen; omega, by simpa using hl, ?_⟩⟩
  rw [← hl, List.take_length, h]
theorem tMay_many (a a2 : Option Addr) (n c n2 c2 : Nat) (h4 : 4 < n) (w : World) :
    Calls Tryd.prog 10 #[.agg #[.slice a n c, .slice a2 n2 c2]] w fun e w' => e = .returned (.bool false) ∧ Below w.heap.size w w' := by
  have h4' : (4 : Int) < (n : Int) := by omega
  go_enter Tryd.func10, Tryd.ntmps10
  go_wp2_with fail
  go_ret
  exact ⟨rfl, by (repeat' (first | with_reducible exact Below.refl _ _ | with_reducible assumption | with_reducible apply Below.setCell | with_reducible apply Below.alloc | with_reducible apply Below.drew | with_reducible apply below_drewN | with_reducible exact Nat.le_refl _ | (simp; done) | (simp; omega) | omega | exact Nat.le_refl _))⟩
theorem Print_many (a a2 : Option Addr) (n c n2 c2 : Nat) (h4 : 4 < n) (w : World) :
    Calls Tryd.prog 6 #[.agg #[.slice a n c, .slice a2 n2 c2]] w fun e w' => e = .returned (.tuple #[.string ⟨#[]⟩, .int .i64 500]) ∧ Below w.heap.size w w' := by
  have kM := Lib.hid fun (W : World) => tMay_many a a2 n c n2 c2 h4 W
  clear h4
  go_enter Tryd.func6, Tryd.ntmps6
  go_wp2_with fail
  refine (kM.out _).mono ?_
  rintro e w1 ⟨rfl, hb1⟩
  have hB := Lib.hid (belT (show Below w.heap.size w _ from by (repeat' (first | with_reducible exact Below.refl _ _ | with_reducible assumption | with_reducible apply Below.setCell | with_reducible apply Below.alloc | with_reducible apply Below.drew | with_reducible apply below_drewN | with_reducible exact Nat.le_refl _ | (simp; done) | (simp; omega) | omega | exact Nat.le_refl _))) hb1)
  clear hb1
  go_wp2_with fail
  go_ret2
  exact ⟨rfl, hB.out⟩
theorem fo_make (c : Nat) (hc : c ≤ 100000) (W : World) : (Instr.makeSlice 22 (.int .i64 c) (.int .i64 c)).run Tryd.prog W = .ok (.slice (some ⟨W.heap.size, 0, none⟩) c c) (W.alloc (.cells (madeCells (Value.agg #[.string ByteArray.empty, .int .i64 0, .int .i64 0]).cells (c * 3)) 38)) := by
  obtain ⟨i0, hi, hz0, hz1, hz2⟩ := info_parts infoOr
  have h := run_make (P := Tryd.prog) W 22 38 i0 _ Tryd.underlying22 hi hz0 .i64 .i64 (c : Int) (c : Int) (by omega) (by omega) (by rw [hz2]; omega) (by omega)
  rw [h, hz1]; simp
set_option maxRecDepth 100000 in
set_option maxHeartbeats 4000000 in
theorem walk (a0 a1 : Int) (w : World) (b0 : -9223372036854775808 ≤ a0 ∧ a0 ≤ 9223372036854775807) (b1 : -9223372036854775808 ≤ a1 ∧ a1 ≤ 9223372036854775807) (hgt : Hid (errTy w ∧ TabW w)) :
    Calls Tryd.prog 4 #[.int .i64 a0, .int .i64 a1] w fun e w' => e = .returned (.bool true) ∧ Below w.heap.size w w' := by
  have hg := Lib.hid hgt.out.1
  have hTb := Lib.hid hgt.out.2
  clear hgt
  obtain ⟨q, hq0, hq1⟩ : ∃ q : Nat, a1 % 64 = (q : Int) ∧ q < 64 := ⟨(a1 % 64).toNat, by omega, by omega⟩
  have ha : bits .and .i64 a1 63 = (q : Int) := by rw [and63]; exact hq0
  obtain ⟨d, hd⟩ : ∃ d : Bool, (bits .and .i64 a0 1 == 1) = d := ⟨_, rfl⟩
  have hTab := Lib.hid fun (W : World) (hb : Below w.heap.size w W) => tab_keep hTb.out hb (Nat.le_refl _)
  have hEr := Lib.hid fun (W : World) (hb : Below w.heap.size w W) => errTy_below hg.out hb
  have kA := Lib.hid (awake5_any w hg hTb)
  have kP := Lib.hid fun (a : Option Addr) (c : Nat) (W : World) (hN : Hid (NArg W a (q + 1) (cN d q))) (hb : Below w.heap.size w W) => Print_any none a 0 0 (q + 1) c [] (cN d q) (cT d q) W (Lib.hid ⟨rfl, .inl rfl⟩) (Lib.hid (by simp)) (by omega) hN (Lib.hid (cN_sz d q)) (by omega) (Lib.hid (hEr.out _ hb)) (Lib.hid (hTab.out _ hb)) fun _ => cT_T d q (by omega)
  have hC := Lib.hid (pr_chain d q (by omega))
  generalize prV [] (cN d q) (cT d q) = R at kP hC
  have hq1 : (q : Int) < 64 := by omega
  clear hq0
  go_enter Tryd.func4, Tryd.ntmps4
  go_wp2_with fail
  refine kA.out.mono ?_
  rintro e w1 ⟨rfl, hb1⟩
  have hB1 := Lib.hid hb1
  clear hb1 kA
  have hw1s := hB1.out.size
  go_wp2_with fail
  have hown0 := Lib.hid (own_lit (B := w.heap.size) w1 #[.int .i64 1, .int .i64 0, .int .i64 0, .int .i64 0, .int .i64 0, .string ⟨#[]⟩, .string ⟨#[]⟩, .string ⟨#[]⟩, .string ⟨#[]⟩, .int .i64 0] (cN d 0) rfl 1 rfl hw1s (by omega))
  have hB0 := Lib.hid (show Below w.heap.size w (w1.alloc (.cells #[.int .i64 1, .int .i64 0, .int .i64 0, .int .i64 0, .int .i64 0, .string ⟨#[]⟩, .string ⟨#[]⟩, .string ⟨#[]⟩, .string ⟨#[]⟩, .int .i64 0] 35)) from hB1.out.alloc hw1s _)
  go_loopw [5, 7] (fun pv iv wr => ∃ j : Nat, j ≤ q ∧ iv = .int .i64 ((j : Int) + 1) ∧ Below w.heap.size w wr ∧ Hid (OwnN w.heap.size wr pv (cN d j))) (fun _ iv _ => q + 1 - (intOf iv).toNat)
  case atStart => exact ⟨0, by omega, rfl, hB0.out, hown0⟩
  case round =>
    obtain ⟨j, hj, rfl, hbw, hown⟩ := hrel
    have hws := hbw.size
    by_cases hlt : j < q
    · have hlt' : (j : Int) < (q : Int) := by omega
      have hj0 : (0 : Int) ≤ (j : Int) := by omega
      have hlj := Lib.hid (cN_len d j)
      obtain ⟨g, cp, rfl, hg0⟩ : ∃ g cp, _ = Value.slice (some ⟨g, 0, none⟩) (j + 1) cp ∧ True := by
        rcases hown.out.cases with ⟨_, h⟩ | ⟨g, cp, h1, h2, h3, h4, h5, _⟩
        · have := hlj.out; rw [h] at this; simp at this
        · rw [hlj.out] at h1; exact ⟨g, cp, h1, trivial⟩
      have hltq : (j : Int) + 1 < 1 + (q : Int) := by omega
      cases d
      · go_upto_region 11 with fail
        have hX := bxn_lit wr (⟨3, (j : Int), 0, 0, 0, ⟨#[]⟩, ⟨#[120]⟩, ⟨#[]⟩, ⟨#[]⟩, 0⟩ : Nd)
        have hbX := below_alc wr (.cells #[.int .i64 3, .int .i64 (j : Int), .int .i64 0, .int .i64 0, .int .i64 0, .string ⟨#[]⟩, .string ⟨#[120]⟩, .string ⟨#[]⟩, .string ⟨#[]⟩, .int .i64 0] 35)
        dsimp only at hX
        generalize wr.alloc (.cells #[.int .i64 3, .int .i64 (j : Int), .int .i64 0, .int .i64 0, .int .i64 0, .string ⟨#[]⟩, .string ⟨#[120]⟩, .string ⟨#[]⟩, .string ⟨#[]⟩, .int .i64 0] 35) = X at hX hbX ⊢
        obtain ⟨q0, q1, q2, q3, q4, q5, q6, q7, q8, q9⟩ := hX.cells
        dsimp only at q0 q1 q2 q3 q4 q5 q6 q7 q8 q9
        have hz := hX.lt
        have hwX : w.heap.size ≤ X.heap.size := by have := hbX.size; omega
        have hbX := Lib.hid hbX
        clear hX
        go_wp2_with (at_builtin; refine op_nd rfl (.tmp 37) (.tmp 39) X w.heap.size hwX _ (cN false j) [cx false j] _ rfl rfl 1 rfl rfl rfl (hown.out.below hbX.out) (by have := hlj.out; simp; omega) ?_; intro v' w4 hown4 hb4 _)
        have hB4 := Lib.hid (hbw.trans ((hbX.out.mono hws).trans hb4))
        have hown4' := Lib.hid hown4
        clear hown4 hb4
        go_wp2_with fail
        go_roundw
        case rel => exact ⟨j + 1, by omega, by go_num, hB4.out, hown4'⟩
        case measure => simp [intOf]; omega
      · go_upto_region 11 with fail
        have hX := bxn_lit wr (⟨9, (j : Int), 0, 0, 0, ⟨#[97]⟩, ⟨#[]⟩, ⟨#[]⟩, ⟨#[]⟩, 0⟩ : Nd)
        have hbX := below_alc wr (.cells #[.int .i64 9, .int .i64 (j : Int), .int .i64 0, .int .i64 0, .int .i64 0, .string ⟨#[97]⟩, .string ⟨#[]⟩, .string ⟨#[]⟩, .string ⟨#[]⟩, .int .i64 0] 35)
        dsimp only at hX
        generalize wr.alloc (.cells #[.int .i64 9, .int .i64 (j : Int), .int .i64 0, .int .i64 0, .int .i64 0, .string ⟨#[97]⟩, .string ⟨#[]⟩, .string ⟨#[]⟩, .string ⟨#[]⟩, .int .i64 0] 35) = X at hX hbX ⊢
        obtain ⟨q0, q1, q2, q3, q4, q5, q6, q7, q8, q9⟩ := hX.cells
        dsimp only at q0 q1 q2 q3 q4 q5 q6 q7 q8 q9
        have hz := hX.lt
        have hwX : w.heap.size ≤ X.heap.size := by have := hbX.size; omega
        have hbX := Lib.hid hbX
        clear hX
        go_wp2_with (at_builtin; refine op_nd rfl (.tmp 37) (.tmp 39) X w.heap.size hwX _ (cN true j) [cx true j] _ rfl rfl 1 rfl rfl rfl (hown.out.below hbX.out) (by have := hlj.out; simp; omega) ?_; intro v' w4 hown4 hb4 _)
        have hB4 := Lib.hid (hbw.trans ((hbX.out.mono hws).trans hb4))
        have hown4' := Lib.hid hown4
        clear hown4 hb4
        go_wp2_with fail
        go_roundw
        case rel => exact ⟨j + 1, by omega, by go_num, hB4.out, hown4'⟩
        case measure => simp [intOf]; omega
    · obtain rfl : j = q := by omega
      have hlq := Lib.hid (cN_len d j)
      obtain ⟨g, cp, rfl, hgs, hsl⟩ : ∃ g cp, _ = Value.slice (some ⟨g, 0, none⟩) (j + 1) cp ∧ g < wr.heap.size ∧ NdSl wr g 0 (cN d j) := by
        rcases hown.out.cases with ⟨_, h⟩ | ⟨g, cp, h1, h2, h3, h4, h5, _⟩
        · have := hlq.out; rw [h] at this; simp at this
        · rw [hlq.out] at h1; exact ⟨g, cp, h1, h3, h5⟩
      have hN : Hid (NArg wr (some ⟨g, 0, none⟩) (j + 1) (cN d j)) := Lib.hid ⟨hlq.out.symm, .inr ⟨g, 0, rfl, hsl, hgs⟩⟩
      have hbw' := Lib.hid hbw
      have kM := Lib.hid fun (a a2 : Option Addr) (c n2 c2 : Nat) (W : World) => Print_many a a2 (j + 5) c n2 c2 (by omega) W
      clear hown hsl hbw
      have hltq : ¬ ((j : Int) + 1 < 1 + (j : Int)) := by omega
      go_wp2_with fail
      refine (kP.out _ _ _ hN hbw'.out).mono ?_
      rintro e w4 ⟨rfl, hb4⟩
      have hB4 := Lib.hid (belT hbw'.out hb4)
      clear hb4 hN kP
      have hmk := Lib.hid fun (W : World) => (show (Instr.makeSlice 22 (.int .i64 (4 + (1 + (j : Int)))) (.int .i64 (4 + (1 + (j : Int))))).run Tryd.prog W = .ok (.slice (some ⟨W.heap.size, 0, none⟩) (j + 5) (j + 5)) (W.alloc (.cells (madeCells (Value.agg #[.string ByteArray.empty, .int .i64 0, .int .i64 0]).cells ((j + 5) * 3)) 38)) from by
        have := fo_make (j + 5) (by omega) W
        rwa [show ((j + 5 : Nat) : Int) = 4 + (1 + (j : Int)) by omega] at this)
      have hj64 : j < 64 := by omega
      clear hltq hlt hj hgs hws ha hq1 hown0 hB0 hw1s
      cases d
      · have hdp : dpN false j = j + 1 := rfl
        by_cases h40 : dpN false j ≤ 40
        · obtain ⟨l, rfl, hne⟩ := hC.out.1 h40
          simp only [show prS (some l) = bs l from rfl, show prE (some l) = 0 from rfl]
          obtain ⟨x, hx0, hx1⟩ : ∃ x, bs l = x ∧ (x.toList == []) = false := ⟨bs l, rfl, beq_eq_false_iff_ne.2 (by rw [ByteArray.toList_eq]; exact hne)⟩
          rw [hx0]
          have hx2 : ¬ x.toList = [] := by simpa using hx1
          clear hx0 hne hC
          have hle : (1 : Int) + (j : Int) ≤ 40 := by omega
          clear hdp h40
          have hmk := hmk.out
          go_wp2_with fail
          refine (kM.out _ _ _ _ _ _).mono ?_
          rintro e w5 ⟨rfl, hb5⟩
          have hB5 := Lib.hid (belT hB4.out (belT (show Below w4.heap.size w4 _ from by (repeat' (first | with_reducible exact Below.refl _ _ | with_reducible assumption | with_reducible apply Below.setCell | with_reducible apply Below.alloc | with_reducible apply Below.drew | with_reducible apply below_drewN | with_reducible exact Nat.le_refl _ | (simp; done) | (simp; omega) | omega | exact Nat.le_refl _))) hb5))
          clear hb5 hmk
          go_wp2_with ((go_at_call 7; refine (num_any _ _ (by omega) (by omega)).mono ?_; rintro e w' ⟨rfl, rfl⟩))
          go_ret
          first
          | exact ⟨rfl, hB5.out⟩
          | exact ⟨by show Ending.returned (.bool (!decide _)) = _; rw [decide_eq_false (by omega)]; rfl, hB5.out⟩
        · obtain rfl := hC.out.2 (by omega)
          simp only [show prS none = ⟨#[]⟩ from rfl, show prE none = 500 from rfl]
          clear hC
          have hle : ¬ (1 : Int) + (j : Int) ≤ 40 := by omega
          clear hdp h40
          have hmk := hmk.out
          go_wp2_with fail
          refine (kM.out _ _ _ _ _ _).mono ?_
          rintro e w5 ⟨rfl, hb5⟩
          have hB5 := Lib.hid (belT hB4.out (belT (show Below w4.heap.size w4 _ from by (repeat' (first | with_reducible exact Below.refl _ _ | with_reducible assumption | with_reducible apply Below.setCell | with_reducible apply Below.alloc | with_reducible apply Below.drew | with_reducible apply below_drewN | with_reducible exact Nat.le_refl _ | (simp; done) | (simp; omega) | omega | exact Nat.le_refl _))) hb5))
          clear hb5 hmk
          go_wp2_with ((go_at_call 7; refine (num_any _ _ (by omega) (by omega)).mono ?_; rintro e w' ⟨rfl, rfl⟩))
          go_ret
          first
          | exact ⟨rfl, hB5.out⟩
          | exact ⟨by show Ending.returned (.bool (!decide _)) = _; rw [decide_eq_false (by omega)]; rfl, hB5.out⟩
      · by_cases hj0 : j = 0
        · subst hj0
          have h40 : dpN true 0 ≤ 40 := by decide
          obtain ⟨l, rfl, hne⟩ := hC.out.1 h40
          simp only [show prS (some l) = bs l from rfl, show prE (some l) = 0 from rfl]
          obtain ⟨x, hx0, hx1⟩ : ∃ x, bs l = x ∧ (x.toList == []) = false := ⟨bs l, rfl, beq_eq_false_iff_ne.2 (by rw [ByteArray.toList_eq]; exact hne)⟩
          rw [hx0]
          have hx2 : ¬ x.toList = [] := by simpa using hx1
          clear hx0 hne hC
          clear h40
          have hmk : ∀ (W : World), (Instr.makeSlice 22 (.int .i64 5) (.int .i64 5)).run Tryd.prog W = .ok (.slice (some ⟨W.heap.size, 0, none⟩) 5 5) (W.alloc (.cells (madeCells (Value.agg #[.string ByteArray.empty, .int .i64 0, .int .i64 0]).cells (5 * 3)) 38)) := fun W => fo_make 5 (by omega) W
          have kM := Lib.hid fun (a a2 : Option Addr) (c n2 c2 : Nat) (W : World) => (show Calls Tryd.prog 6 #[.agg #[.slice a 5 c, .slice a2 n2 c2]] W _ from kM.out a a2 c n2 c2 W)
          go_wp2_with fail
          refine (kM.out _ _ _ _ _ _).mono ?_
          rintro e w5 ⟨rfl, hb5⟩
          have hB5 := Lib.hid (belT hB4.out (belT (show Below w4.heap.size w4 _ from by (repeat' (first | with_reducible exact Below.refl _ _ | with_reducible assumption | with_reducible apply Below.setCell | with_reducible apply Below.alloc | with_reducible apply Below.drew | with_reducible apply below_drewN | with_reducible exact Nat.le_refl _ | (simp; done) | (simp; omega) | omega | exact Nat.le_refl _))) hb5))
          clear hb5 hmk
          go_wp2_with ((go_at_call 7; refine (num_any _ _ (by omega) (by omega)).mono ?_; rintro e w' ⟨rfl, rfl⟩))
          go_ret
          first
          | exact ⟨rfl, hB5.out⟩
          | exact ⟨by show Ending.returned (.bool (!decide _)) = _; rw [decide_eq_false (by omega)]; rfl, hB5.out⟩
        · have hdp : dpN true j = j := by unfold dpN; rw [decide_eq_true (by omega)]; rfl
          have hg1 : (1 : Int) < 1 + (j : Int) := by omega
          by_cases h40 : dpN true j ≤ 40
          · obtain ⟨l, rfl, hne⟩ := hC.out.1 h40
            simp only [show prS (some l) = bs l from rfl, show prE (some l) = 0 from rfl]
            obtain ⟨x, hx0, hx1⟩ : ∃ x, bs l = x ∧ (x.toList == []) = false := ⟨bs l, rfl, beq_eq_false_iff_ne.2 (by rw [ByteArray.toList_eq]; exact hne)⟩
            rw [hx0]
            have hx2 : ¬ x.toList = [] := by simpa using hx1
            clear hx0 hne hC
            have hle : (j : Int) ≤ 40 := by omega
            have hle2 : (1 : Int) + (j : Int) - 1 ≤ 40 := by omega
            clear hdp h40 hj0
            have hmk := hmk.out
            go_wp2_with fail
            refine (kM.out _ _ _ _ _ _).mono ?_
            rintro e w5 ⟨rfl, hb5⟩
            have hB5 := Lib.hid (belT hB4.out (belT (show Below w4.heap.size w4 _ from by (repeat' (first | with_reducible exact Below.refl _ _ | with_reducible assumption | with_reducible apply Below.setCell | with_reducible apply Below.alloc | with_reducible apply Below.drew | with_reducible apply below_drewN | with_reducible exact Nat.le_refl _ | (simp; done) | (simp; omega) | omega | exact Nat.le_refl _))) hb5))
            clear hb5 hmk
            go_wp2_with ((go_at_call 7; refine (num_any _ _ (by omega) (by omega)).mono ?_; rintro e w' ⟨rfl, rfl⟩))
            go_ret
            first
            | exact ⟨rfl, hB5.out⟩
            | exact ⟨by show Ending.returned (.bool (!decide _)) = _; rw [decide_eq_false (by omega)]; rfl, hB5.out⟩
          · obtain rfl := hC.out.2 (by omega)
            simp only [show prS none = ⟨#[]⟩ from rfl, show prE none = 500 from rfl]
            clear hC
            have hle : ¬ (j : Int) ≤ 40 := by omega
            have hle2 : ¬ (1 : Int) + (j : Int) - 1 ≤ 40 := by omega
            clear hdp h40 hj0
            have hmk := hmk.out
            go_wp2_with fail
            refine (kM.out _ _ _ _ _ _).mono ?_
            rintro e w5 ⟨rfl, hb5⟩
            have hB5 := Lib.hid (belT hB4.out (belT (show Below w4.heap.size w4 _ from by (repeat' (first | with_reducible exact Below.refl _ _ | with_reducible assumption | with_reducible apply Below.setCell | with_reducible apply Below.alloc | with_reducible apply Below.drew | with_reducible apply below_drewN | with_reducible exact Nat.le_refl _ | (simp; done) | (simp; omega) | omega | exact Nat.le_refl _))) hb5))
            clear hb5 hmk
            go_wp2_with ((go_at_call 7; refine (num_any _ _ (by omega) (by omega)).mono ?_; rintro e w' ⟨rfl, rfl⟩))
            go_ret
            first
            | exact ⟨rfl, hB5.out⟩
            | exact ⟨by show Ending.returned (.bool (!decide _)) = _; rw [decide_eq_false (by omega)]; rfl, hB5.out⟩
theorem own : ownKnob Tryd.prog.godebug = none := by kernel_rfl
theorem laidOut : laidOutB Tryd.prog = true := by kernel_rfl
set_option maxRecDepth 100000 in
theorem contract (H : Type) (enc : TypeId × Value → H) (W : World) (base : Nat) (args : Array Value) (ds gs : List (DataW H)) (before : List MemPlace)
    (hval0 : ∀ (j : Nat) t v, Tryd.f4.params[j]? = some t → args[j]? = some v → Value.okWide Tryd.prog W .any base t v)
    (hW : DataW.Whole enc Tryd.prog Tryd.f4.params.toList Rows.showFormsSpec.vars false W args.toList ds gs before)
    (hsz0 : (DataW.weightsEach Tryd.prog (Tryd.f4.params.toList ++ Rows.showFormsSpec.plain.varTypes Tryd.prog) (ds ++ gs)).all (· ≤ reachBytes) = true)
    (hL : laidMetH Tryd.prog Rows.showFormsRow.laid W)
    : Calls Tryd.prog 4 args W fun e W' => ∃ v, e = .returned v ∧ Rows.showFormsSpec.post enc Tryd.prog Tryd.f4 false true false false W args v W' := by
  have hval : ∀ (j : Nat) t v, Tryd.f4.params[j]? = some t → args[j]? = some v → Value.okWide Tryd.prog W .any base t v := hval0
  have hsz : (DataW.weightsEach Tryd.prog (Tryd.f4.params.toList ++ Rows.showFormsSpec.plain.varTypes Tryd.prog) (ds ++ gs)).all (· ≤ reachBytes) = true := hsz0
  have hW' := hW
  obtain ⟨p, q, hA0, hV, rfl, hfz, hnd⟩ := hW
  have hA : DataW.TrodAll enc Tryd.prog W 0 (fun _ => true) true Tryd.f4.params.toList args.toList ds p := hA0
  rw [Tryd.params4] at hA hval hsz
  obtain ⟨v0, vs0, d0, ds0, p0, q0, hargs, rfl, rfl, h0, r0⟩ := trodAll_cons hA
  obtain ⟨v1, vs1, d1, ds1, p1, q1, rfl, rfl, rfl, h1, r1⟩ := trodAll_cons r0
  obtain ⟨rfl, rfl, rfl⟩ := trodAll_nil r1
  obtain rfl : args = #[v0, v1] := by cases args; simp_all
  obtain ⟨rfl, rfl⟩ := trodVars_none hV
  have k0 := h0
  have lt0 : ∀ x ∈ p0, x.block < W.heap.size := by obtain ⟨m, hm⟩ := k0; exact DataW.trod_lt m _ _ _ hm
  obtain ⟨a0, rfl, rfl, rfl, m0⟩ := open_int Tryd.underlying3 (hval 0 3 v0 rfl rfl) h0
  have k1 := h1
  have lt1 : ∀ x ∈ p1, x.block < W.heap.size := by obtain ⟨m, hm⟩ := k1; exact DataW.trod_lt m _ _ _ hm
  obtain ⟨a1, rfl, rfl, rfl, m1⟩ := open_int Tryd.underlying3 (hval 1 3 v1 rfl rfl) h1
  clear hA0 hval0
  refine (walk a0 a1 W (bd_i64 m0) (bd_i64 m1) (tabs hL)).mono fun e W' ⟨he, bel⟩ => ?_
  subst he
  exact ⟨_, rfl, _, _, _, [], _, [], hW', trodAll_mk1 (shut_bool Tryd.underlying4 _), (trodAll_cons_mk (Below.trod laidOut (by kernel_rfl) (of_decide_eq_true (by kernel_rfl)) k0 bel lt0) (trodAll_cons_mk (Below.trod laidOut (by kernel_rfl) (of_decide_eq_true (by kernel_rfl)) k1 bel lt1) trodAll_mk0)), rfl, bel.frame _, fun h => by cases h⟩
noncomputable def mixWorld (os : Os) : World := { World.holding Tryd.prog os ⟨#[], #[], []⟩ with heap := (layAll Tryd.prog Rows.showFormsRow.laid (World.holding Tryd.prog os ⟨#[], #[], []⟩).heap).modify 0 fun | .cells _ t frozen => .cells #[.iface 111 (.agg #[.pointer (some ⟨4, 47, none⟩)])] t frozen | o => o }
theorem laid_met (os : Os) : laidMetH Tryd.prog Rows.showFormsRow.laid ((mixWorld os).forCall (fun _ _ => 0) ⟨#[], #[.int .i64 0, .int .i64 0], []⟩).memory := laidMetH_of_parts (laidMet_of_run' 8 (by kernel_rfl) (by kernel_rfl)) (by kernel_rfl)
theorem reads (os : Os) {H : Type} (enc : TypeId × Value → H) : ∃ places, DataW.whole enc Tryd.prog ((mixWorld os).forCall (fun _ _ => 0) ⟨#[], #[.int .i64 0, .int .i64 0], []⟩).memory Tryd.f4.params.toList Rows.showFormsSpec.vars false #[(.int .i64 0 : Value), (.int .i64 0 : Value)].toList 8 = some ([.lit (.int .i64 0), .lit (.int .i64 0)], [], places) := ⟨[], by kernel_rfl⟩
set_option maxRecDepth 100000 in
theorem lifted (os : Os) (started : os.Started) (H : Type) (enc : TypeId × Value → H) (F : Stop.Interp) :
    ReturnsInHanded {} Tryd.checked os 4 .any ((OpenSpec.ofChange Rows.showFormsSpec).preRow enc Tryd.prog Tryd.f4 Rows.showFormsRow.domain false Rows.showFormsRow.laid) (((OpenSpec.ofChange Rows.showFormsSpec).at F).post enc Tryd.prog Tryd.f4 false true false false) := by
  obtain ⟨places, hx⟩ := reads os enc
  refine returnsInHanded_of_row (C := Tryd.checked) (s := (OpenSpec.ofChange Rows.showFormsSpec)) own started (by kernel_rfl) Tryd.func4
    (witness_row_at (enc := enc) (C := Tryd.checked) false (mixWorld os) #[.int .i64 0, .int .i64 0] rfl (by kernel_rfl) (by kernel_rfl) (by kernel_rfl)
      (OpenSpec.preRow_of_cond 8 hx (by kernel_rfl) (fun k hk => by cases hk) (by kernel_rfl) (laid_met os))) ?_
  intro W base args ds gs before hval hW _ hcnd hsz hL _ _
  exact contract H enc W base args ds gs before hval hW hsz  hL
theorem said : Rows.ShowFormsSaid :=
  OpenClaim.holds_of_cond 4 Tryd.f4 rfl rfl rfl rfl rfl rfl rfl ⟨rfl, rfl, rfl, rfl, rfl⟩ rfl rfl rfl rfl rfl (by kernel_rfl) Tryd.func4 (by kernel_rfl)
    (of_decide_eq_true (by kernel_rfl)) (by unfold Func.isWrapper; first | (rw [if_pos (by decide +kernel)]; kernel_rfl) | (rw [if_neg (by decide +kernel)]; exact ⟨rfl, rfl⟩))
    (fun os started H enc _ F => by rw [OpenClaim.pre_eq_preRow]; exact lifted os started H enc F)
theorem plain (f : FuncId) (fn : Func) (hf : Tryd.pinned.checked.prog.funcNamed "trammel/trammellaw5.ShowForms" = some f) (hfn : Tryd.pinned.checked.prog.funcs[f]? = some fn) :
    true = Tryd.pinned.checked.prog.looks [] ∧ ∀ (j : Nat) t, fn.params[j]? = some t → Tryd.pinned.checked.prog.wantsStandIn t = false := by
  obtain rfl : f = 4 := Option.some.inj ((show Tryd.prog.funcNamed "trammel/trammellaw5.ShowForms" = some 4 by kernel_rfl).symm.trans hf) |>.symm
  obtain rfl : fn = Tryd.f4 := (Option.some.inj (Tryd.func4.symm.trans hfn)).symm
  refine ⟨by kernel_rfl, fun j t ht => ?_⟩
  rw [Tryd.params4] at ht
  have hm := Array.mem_of_getElem? ht
  have hm2 : t ∈ ([3] : List Nat) := by simpa using hm
  simp only [List.mem_cons, List.not_mem_nil, or_false] at hm2
  subst hm2; exact (show Tryd.prog.wantsStandIn 3 = false by kernel_rfl)
theorem proved : Rows.ShowFormsCardSaid :=
  Claim7.holds_tied_plain_at .later [] _ _ _ _ said (fun _ h => by cases h) (by kernel_rfl) (fun _ h => by cases h) showForms_row_tie rfl ⟨rfl, rfl⟩ (by kernel_rfl) rfl plain (by kernel_rfl)
end Go.Proofs.YtidlljookjicpaaDoor.showForms
