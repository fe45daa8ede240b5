/- ShowTexts holds for every number. No condition but that the listed package variables hold what the program's text lays. Written by gen_lst.py. -/
import Derived.Test.YtidlljookjicpaaGreatDoorPpA
import Derived.Test.YtidlljookjicpaaGreatDoorPwP
import Derived.Test.YtidlljookjicpaaGreatDoorPwH
import Derived.Test.YtidlljookjicpaaGreatDoorAid
import Derived.Test.YtidlljookjicpaaGreatDoorCards
import Derived.Test.YtidlljookjicpaaGreatDoorTie
import Derived.Test.YtidlljookjicpaaGreatDoorOpn
import Derived.Test.YtidlljookjicpaaGreatDoorHan
import Derived.WalkKit
import Derived.ProofKit
import Derived.Deep.DeepHandedRow
namespace Go.Proofs.YtidlljookjicpaaGreatDoor.showTexts
open Go.ChangeShapes Go.WideShapes Go.ChangeAt Go.RowKit
open Go.ChangeMaps (open_string shut_string)
set_option linter.unusedVariables false
set_option linter.unusedSimpArgs false

theorem tabs {W : World} (h : laidMetH Tryz.prog Rows.showTextsRow.laid W) : Hid (errTy W ∧ TabW W) := mixed_of h (.tail _ (.tail _ (.tail _ (.head _)))) (.tail _ (.tail _ (.head _)))
theorem i1 : Lib.itoa 1 = [49] := itoa_dig 1 (by decide)
theorem i2 : Lib.itoa 2 = [50] := itoa_dig 2 (by decide)
theorem i3 : Lib.itoa 3 = [51] := itoa_dig 3 (by decide)
theorem i4 : Lib.itoa 4 = [52] := itoa_dig 4 (by decide)
theorem i12 : Lib.itoa 12 = [49, 50] := by
  rw [show Lib.itoa (12 : Int) = Lib.decDigits 12 from itoa_nat 12, Lib.decDigits, dif_neg (by decide), Lib.decDigits, dif_pos (by decide)]; rfl
def txS : List (List UInt8) := [[120], [49, 50], [116, 114, 117, 101], [102, 97, 108, 115, 101], [102, 117, 110, 32, 120, 32, 45, 62, 32, 120], [108, 101, 116, 32, 120, 32, 61, 32, 49, 32, 105, 110, 32, 120, 32, 43, 32, 49], [108, 101, 116, 32, 114, 101, 99, 32, 102, 32, 120, 32, 61, 32, 102, 32, 120, 32, 105, 110, 32, 102], [105, 102, 32, 97, 32, 116, 104, 101, 110, 32, 98, 32, 101, 108, 115, 101, 32, 99], [102, 32, 120], [102, 32, 40, 103, 32, 120, 41], [40, 102, 32, 120, 41, 32, 121], [49, 32, 43, 32, 50], [40, 49, 32, 43, 32, 50, 41, 32, 42, 32, 51], [49, 32, 45, 32, 40, 50, 32, 45, 32, 51, 41], [100, 111, 32, 97, 32, 120], [100, 111, 32, 97, 32, 40, 120, 32, 43, 32, 49, 41], [104, 97, 110, 100, 108, 101, 32, 100, 111, 32, 97, 32, 49, 32, 119, 105, 116, 104, 32, 97, 32, 120, 32, 107, 32, 45, 62, 32, 107, 32, 120, 32, 114, 101, 116, 117, 114, 110, 32, 121, 32, 45, 62, 32, 121, 32, 101, 110, 100], [111, 112, 32, 97, 32, 58, 32, 105, 110, 116, 32, 45, 62, 32, 98, 111, 111, 108, 59, 32, 100, 111, 32, 97, 32, 49], [40, 102, 117, 110, 32, 120, 32, 45, 62, 32, 120, 41, 32, 49], [49, 32, 43, 32, 104, 97, 110, 100, 108, 101, 32, 50, 32, 119, 105, 116, 104, 32, 97, 32, 120, 32, 107, 32, 45, 62, 32, 51, 32, 114, 101, 116, 117, 114, 110, 32, 121, 32, 45, 62, 32, 121, 32, 101, 110, 100], [40, 49, 32, 61, 61, 32, 50, 41, 32, 61, 61, 32, 40, 51, 32, 60, 32, 52, 41], [102, 117, 110, 32, 120, 32, 45, 62, 32, 108, 101, 116, 32, 121, 32, 61, 32, 120, 32, 105, 110, 32, 121]]
/-- the m-th text is a tree's. -/
structure TxIs (m : Nat) (os : List Or) (T : PT) : Prop where
  tx : opsT os ++ T.tx = txS.getD m []
  ok : T.ok
  oo : ∀ o ∈ os, orOk o
  o4 : os.length ≤ 4
  sz : T.sz ≤ 512
  ins : T.ins + 1 ≤ 40
theorem tx0 : TxIs 0 [] (.var ⟨#[120]⟩) := ⟨by simp only [PT.tx, PT.atm, brS, i1, i2, i3, i4, i12]; decide, by simp only [PT.ok]; decide, (fun o ho => by cases ho), by decide, by decide, by decide⟩
theorem tx1 : TxIs 1 [] (.int 12) := ⟨by simp only [PT.tx, PT.atm, brS, i1, i2, i3, i4, i12]; decide, by simp only [PT.ok]; decide, (fun o ho => by cases ho), by decide, by decide, by decide⟩
theorem tx2 : TxIs 2 [] (.bol 1) := ⟨by simp only [PT.tx, PT.atm, brS, i1, i2, i3, i4, i12]; decide, by simp only [PT.ok]; decide, (fun o ho => by cases ho), by decide, by decide, by decide⟩
theorem tx3 : TxIs 3 [] (.bol 0) := ⟨by simp only [PT.tx, PT.atm, brS, i1, i2, i3, i4, i12]; decide, by simp only [PT.ok]; decide, (fun o ho => by cases ho), by decide, by decide, by decide⟩
theorem tx4 : TxIs 4 [] (.fn ⟨#[120]⟩ (.var ⟨#[120]⟩)) := ⟨by simp only [PT.tx, PT.atm, brS, i1, i2, i3, i4, i12]; decide, by simp only [PT.ok]; decide, (fun o ho => by cases ho), by decide, by decide, by decide⟩
theorem tx5 : TxIs 5 [] (.lt ⟨#[120]⟩ (.int 1) (.pr 0 (.var ⟨#[120]⟩) (.int 1))) := ⟨by simp only [PT.tx, PT.atm, brS, i1, i2, i3, i4, i12]; decide, by simp only [PT.ok]; decide, (fun o ho => by cases ho), by decide, by decide, by decide⟩
theorem tx6 : TxIs 6 [] (.rc ⟨#[102]⟩ ⟨#[120]⟩ (.app (.var ⟨#[102]⟩) (.var ⟨#[120]⟩)) (.var ⟨#[102]⟩)) := ⟨by simp only [PT.tx, PT.atm, brS, i1, i2, i3, i4, i12]; decide, by simp only [PT.ok]; decide, (fun o ho => by cases ho), by decide, by decide, by decide⟩
theorem tx7 : TxIs 7 [] (.cd (.var ⟨#[97]⟩) (.var ⟨#[98]⟩) (.var ⟨#[99]⟩)) := ⟨by simp only [PT.tx, PT.atm, brS, i1, i2, i3, i4, i12]; decide, by simp only [PT.ok]; decide, (fun o ho => by cases ho), by decide, by decide, by decide⟩
theorem tx8 : TxIs 8 [] (.app (.var ⟨#[102]⟩) (.var ⟨#[120]⟩)) := ⟨by simp only [PT.tx, PT.atm, brS, i1, i2, i3, i4, i12]; decide, by simp only [PT.ok]; decide, (fun o ho => by cases ho), by decide, by decide, by decide⟩
theorem tx9 : TxIs 9 [] (.app (.var ⟨#[102]⟩) (.app (.var ⟨#[103]⟩) (.var ⟨#[120]⟩))) := ⟨by simp only [PT.tx, PT.atm, brS, i1, i2, i3, i4, i12]; decide, by simp only [PT.ok]; decide, (fun o ho => by cases ho), by decide, by decide, by decide⟩
theorem tx10 : TxIs 10 [] (.app (.app (.var ⟨#[102]⟩) (.var ⟨#[120]⟩)) (.var ⟨#[121]⟩)) := ⟨by simp only [PT.tx, PT.atm, brS, i1, i2, i3, i4, i12]; decide, by simp only [PT.ok]; decide, (fun o ho => by cases ho), by decide, by decide, by decide⟩
theorem tx11 : TxIs 11 [] (.pr 0 (.int 1) (.int 2)) := ⟨by simp only [PT.tx, PT.atm, brS, i1, i2, i3, i4, i12]; decide, by simp only [PT.ok]; decide, (fun o ho => by cases ho), by decide, by decide, by decide⟩
theorem tx12 : TxIs 12 [] (.pr 2 (.pr 0 (.int 1) (.int 2)) (.int 3)) := ⟨by simp only [PT.tx, PT.atm, brS, i1, i2, i3, i4, i12]; decide, by simp only [PT.ok]; decide, (fun o ho => by cases ho), by decide, by decide, by decide⟩
theorem tx13 : TxIs 13 [] (.pr 1 (.int 1) (.pr 1 (.int 2) (.int 3))) := ⟨by simp only [PT.tx, PT.atm, brS, i1, i2, i3, i4, i12]; decide, by simp only [PT.ok]; decide, (fun o ho => by cases ho), by decide, by decide, by decide⟩
theorem tx14 : TxIs 14 [] (.ac ⟨#[97]⟩ (.var ⟨#[120]⟩)) := ⟨by simp only [PT.tx, PT.atm, brS, i1, i2, i3, i4, i12]; decide, by simp only [PT.ok]; decide, (fun o ho => by cases ho), by decide, by decide, by decide⟩
theorem tx15 : TxIs 15 [] (.ac ⟨#[97]⟩ (.pr 0 (.var ⟨#[120]⟩) (.int 1))) := ⟨by simp only [PT.tx, PT.atm, brS, i1, i2, i3, i4, i12]; decide, by simp only [PT.ok]; decide, (fun o ho => by cases ho), by decide, by decide, by decide⟩
theorem tx16 : TxIs 16 [] (.hn ⟨#[97]⟩ ⟨#[120]⟩ ⟨#[107]⟩ ⟨#[121]⟩ (.ac ⟨#[97]⟩ (.int 1)) (.app (.var ⟨#[107]⟩) (.var ⟨#[120]⟩)) (.var ⟨#[121]⟩)) := ⟨by simp only [PT.tx, PT.atm, brS, i1, i2, i3, i4, i12]; decide, by simp only [PT.ok]; decide, (fun o ho => by cases ho), by decide, by decide, by decide⟩
theorem tx17 : TxIs 17 [⟨⟨#[97]⟩, 0, 1⟩] (.ac ⟨#[97]⟩ (.int 1)) := ⟨by simp only [PT.tx, PT.atm, brS, i1, i2, i3, i4, i12]; decide, by simp only [PT.ok]; decide, (fun o ho => by rcases List.mem_singleton.1 ho with rfl; exact ⟨by decide, .inl rfl, .inr rfl⟩), by decide, by decide, by decide⟩
theorem tx18 : TxIs 18 [] (.app (.fn ⟨#[120]⟩ (.var ⟨#[120]⟩)) (.int 1)) := ⟨by simp only [PT.tx, PT.atm, brS, i1, i2, i3, i4, i12]; decide, by simp only [PT.ok]; decide, (fun o ho => by cases ho), by decide, by decide, by decide⟩
theorem tx19 : TxIs 19 [] (.pr 0 (.int 1) (.hn ⟨#[97]⟩ ⟨#[120]⟩ ⟨#[107]⟩ ⟨#[121]⟩ (.int 2) (.int 3) (.var ⟨#[121]⟩))) := ⟨by simp only [PT.tx, PT.atm, brS, i1, i2, i3, i4, i12]; decide, by simp only [PT.ok]; decide, (fun o ho => by cases ho), by decide, by decide, by decide⟩
theorem tx20 : TxIs 20 [] (.pr 4 (.pr 4 (.int 1) (.int 2)) (.pr 5 (.int 3) (.int 4))) := ⟨by simp only [PT.tx, PT.atm, brS, i1, i2, i3, i4, i12]; decide, by simp only [PT.ok]; decide, (fun o ho => by cases ho), by decide, by decide, by decide⟩
theorem tx21 : TxIs 21 [] (.fn ⟨#[120]⟩ (.lt ⟨#[121]⟩ (.var ⟨#[120]⟩) (.var ⟨#[121]⟩))) := ⟨by simp only [PT.tx, PT.atm, brS, i1, i2, i3, i4, i12]; decide, by simp only [PT.ok]; decide, (fun o ho => by cases ho), by decide, by decide, by decide⟩
theorem tx_all (m : Nat) (hm : m < 22) : ∃ os T, TxIs m os T := by
  have hcs : m = 0 ∨ m = 1 ∨ m = 2 ∨ m = 3 ∨ m = 4 ∨ m = 5 ∨ m = 6 ∨ m = 7 ∨ m = 8 ∨ m = 9 ∨ m = 10 ∨ m = 11 ∨ m = 12 ∨ m = 13 ∨ m = 14 ∨ m = 15 ∨ m = 16 ∨ m = 17 ∨ m = 18 ∨ m = 19 ∨ m = 20 ∨ m = 21 := (by omega)
  rcases hcs with rfl | rfl | rfl | rfl | rfl | rfl | rfl | rfl | rfl | rfl | rfl | rfl | rfl | rfl | rfl | rfl | rfl | rfl | rfl | rfl | rfl | rfl
  · exact ⟨_, _, tx0⟩
  · exact ⟨_, _, tx1⟩
  · exact ⟨_, _, tx2⟩
  · exact ⟨_, _, tx3⟩
  · exact ⟨_, _, tx4⟩
  · exact ⟨_, _, tx5⟩
  · exact ⟨_, _, tx6⟩
  · exact ⟨_, _, tx7⟩
  · exact ⟨_, _, tx8⟩
  · exact ⟨_, _, tx9⟩
  · exact ⟨_, _, tx10⟩
  · exact ⟨_, _, tx11⟩
  · exact ⟨_, _, tx12⟩
  · exact ⟨_, _, tx13⟩
  · exact ⟨_, _, tx14⟩
  · exact ⟨_, _, tx15⟩
  · exact ⟨_, _, tx16⟩
  · exact ⟨_, _, tx17⟩
  · exact ⟨_, _, tx18⟩
  · exact ⟨_, _, tx19⟩
  · exact ⟨_, _, tx20⟩
  · exact ⟨_, _, tx21⟩
theorem len_all : ∀ m < 22, (txS.getD m []).length ≤ 100 := by decide
theorem facts (m : Nat) (hm : m < 22) : ∃ os ns T, parseV (bs (txS.getD m [])) = .ok (os, ns) ∧ MayT os ns T ∧ prV os ns T = some (txS.getD m []) ∧ (bs (txS.getD m [])).size ≤ 100 := by
  obtain ⟨os, T, h⟩ := tx_all m hm
  have hl := len_all m hm
  have hl2 : (opsT os ++ T.tx).length ≤ 4096 := by rw [h.tx]; omega
  obtain ⟨toks, e1, e2⟩ := text_lex h.oo h.ok hl2
  obtain ⟨fl, f1, f2, f3⟩ := prog_rd (en := ((bs (opsT os ++ T.tx)).size : Int)) h.oo h.ok e1 h.ins h.sz h.o4
  have hp : parseV (bs (opsT os ++ T.tx)) = .ok (os, fl) := by unfold parseV; rw [e2, if_pos rfl, f3]
  refine ⟨os, fl, T, by rw [← h.tx]; exact hp, mayT_of h.ok h.oo h.o4 h.sz f1, ?_, by rw [bs_sizeL]; exact hl⟩
  unfold prV outV
  rw [(parse_k hp).may, if_pos rfl, if_pos ⟨h.ins, hl2⟩, h.tx]
set_option maxRecDepth 100000 in
set_option maxHeartbeats 4000000 in
theorem walk (a0 : Int) (w : World) (b0 : -9223372036854775808 ≤ a0 ∧ a0 ≤ 9223372036854775807) (hgt : Hid (errTy w ∧ TabW w)) :
    Calls Tryz.prog 6 #[.int .i64 a0] w fun e w' => e = .returned (.bool true) ∧ Below w.heap.size w w' := by
  have hg := Lib.hid hgt.out.1
  have hTb := Lib.hid hgt.out.2
  clear hgt
  obtain ⟨mi, hm0, hm1, he⟩ := umod_int a0 22 (by omega) (by omega)
  obtain ⟨m, rfl⟩ := Int.eq_ofNat_of_zero_le hm0
  have hm : m < 22 := by omega
  obtain ⟨os, ns, T, h1, h2, h3, hsz⟩ := facts m hm
  have hK := Lib.hid (parse_k h1)
  have h1 := Lib.hid h1; have h2 := Lib.hid h2; have h3 := Lib.hid h3
  obtain ⟨x, hX⟩ : ∃ x, bs (txS.getD m []) = x := ⟨_, rfl⟩
  rw [hX] at hsz
  have hXH := Lib.hid hX
  clear hX
  have hTab := Lib.hid fun (W : World) (hb : Below w.heap.size w W) => tab_keep hTb.out hb (Nat.le_refl _)
  have hEr := Lib.hid fun (W : World) (hb : Below w.heap.size w W) => errTy_below hg.out hb
  have kA := Lib.hid (awake5_any w hg hTb)
  have kP := Lib.hid fun (W : World) (hb : Below w.heap.size w W) => Parse_any x W (by omega) (Lib.hid (hEr.out _ hb))
  go_enter Tryz.func6, Tryz.ntmps6
  go_wp2_with fail
  refine kA.out.mono ?_
  rintro e w1 ⟨rfl, hb1⟩
  have hB1 := Lib.hid hb1
  clear kA hb1
  have hc : (w1.alloc (.cells #[.string ⟨#[120]⟩, .string ⟨#[49, 50]⟩, .string ⟨#[116, 114, 117, 101]⟩, .string ⟨#[102, 97, 108, 115, 101]⟩, .string ⟨#[102, 117, 110, 32, 120, 32, 45, 62, 32, 120]⟩, .string ⟨#[108, 101, 116, 32, 120, 32, 61, 32, 49, 32, 105, 110, 32, 120, 32, 43, 32, 49]⟩, .string ⟨#[108, 101, 116, 32, 114, 101, 99, 32, 102, 32, 120, 32, 61, 32, 102, 32, 120, 32, 105, 110, 32, 102]⟩, .string ⟨#[105, 102, 32, 97, 32, 116, 104, 101, 110, 32, 98, 32, 101, 108, 115, 101, 32, 99]⟩, .string ⟨#[102, 32, 120]⟩, .string ⟨#[102, 32, 40, 103, 32, 120, 41]⟩, .string ⟨#[40, 102, 32, 120, 41, 32, 121]⟩, .string ⟨#[49, 32, 43, 32, 50]⟩, .string ⟨#[40, 49, 32, 43, 32, 50, 41, 32, 42, 32, 51]⟩, .string ⟨#[49, 32, 45, 32, 40, 50, 32, 45, 32, 51, 41]⟩, .string ⟨#[100, 111, 32, 97, 32, 120]⟩, .string ⟨#[100, 111, 32, 97, 32, 40, 120, 32, 43, 32, 49, 41]⟩, .string ⟨#[104, 97, 110, 100, 108, 101, 32, 100, 111, 32, 97, 32, 49, 32, 119, 105, 116, 104, 32, 97, 32, 120, 32, 107, 32, 45, 62, 32, 107, 32, 120, 32, 114, 101, 116, 117, 114, 110, 32, 121, 32, 45, 62, 32, 121, 32, 101, 110, 100]⟩, .string ⟨#[111, 112, 32, 97, 32, 58, 32, 105, 110, 116, 32, 45, 62, 32, 98, 111, 111, 108, 59, 32, 100, 111, 32, 97, 32, 49]⟩, .string ⟨#[40, 102, 117, 110, 32, 120, 32, 45, 62, 32, 120, 41, 32, 49]⟩, .string ⟨#[49, 32, 43, 32, 104, 97, 110, 100, 108, 101, 32, 50, 32, 119, 105, 116, 104, 32, 97, 32, 120, 32, 107, 32, 45, 62, 32, 51, 32, 114, 101, 116, 117, 114, 110, 32, 121, 32, 45, 62, 32, 121, 32, 101, 110, 100]⟩, .string ⟨#[40, 49, 32, 61, 61, 32, 50, 41, 32, 61, 61, 32, 40, 51, 32, 60, 32, 52, 41]⟩, .string ⟨#[102, 117, 110, 32, 120, 32, 45, 62, 32, 108, 101, 116, 32, 121, 32, 61, 32, 120, 32, 105, 110, 32, 121]⟩] 9)).cell? ⟨w1.heap.size, m, none⟩ = some (.string x) := by
    rw [World.cell?_alloc_at _ _ _ _ (by rfl), ← hXH.out]
    have hcs : m = 0 ∨ m = 1 ∨ m = 2 ∨ m = 3 ∨ m = 4 ∨ m = 5 ∨ m = 6 ∨ m = 7 ∨ m = 8 ∨ m = 9 ∨ m = 10 ∨ m = 11 ∨ m = 12 ∨ m = 13 ∨ m = 14 ∨ m = 15 ∨ m = 16 ∨ m = 17 ∨ m = 18 ∨ m = 19 ∨ m = 20 ∨ m = 21 := (by omega); rcases hcs with rfl | rfl | rfl | rfl | rfl | rfl | rfl | rfl | rfl | rfl | rfl | rfl | rfl | rfl | rfl | rfl | rfl | rfl | rfl | rfl | rfl | rfl <;> rfl
  have hb2 := Lib.hid (below_alc w1 (.cells #[.string ⟨#[120]⟩, .string ⟨#[49, 50]⟩, .string ⟨#[116, 114, 117, 101]⟩, .string ⟨#[102, 97, 108, 115, 101]⟩, .string ⟨#[102, 117, 110, 32, 120, 32, 45, 62, 32, 120]⟩, .string ⟨#[108, 101, 116, 32, 120, 32, 61, 32, 49, 32, 105, 110, 32, 120, 32, 43, 32, 49]⟩, .string ⟨#[108, 101, 116, 32, 114, 101, 99, 32, 102, 32, 120, 32, 61, 32, 102, 32, 120, 32, 105, 110, 32, 102]⟩, .string ⟨#[105, 102, 32, 97, 32, 116, 104, 101, 110, 32, 98, 32, 101, 108, 115, 101, 32, 99]⟩, .string ⟨#[102, 32, 120]⟩, .string ⟨#[102, 32, 40, 103, 32, 120, 41]⟩, .string ⟨#[40, 102, 32, 120, 41, 32, 121]⟩, .string ⟨#[49, 32, 43, 32, 50]⟩, .string ⟨#[40, 49, 32, 43, 32, 50, 41, 32, 42, 32, 51]⟩, .string ⟨#[49, 32, 45, 32, 40, 50, 32, 45, 32, 51, 41]⟩, .string ⟨#[100, 111, 32, 97, 32, 120]⟩, .string ⟨#[100, 111, 32, 97, 32, 40, 120, 32, 43, 32, 49, 41]⟩, .string ⟨#[104, 97, 110, 100, 108, 101, 32, 100, 111, 32, 97, 32, 49, 32, 119, 105, 116, 104, 32, 97, 32, 120, 32, 107, 32, 45, 62, 32, 107, 32, 120, 32, 114, 101, 116, 117, 114, 110, 32, 121, 32, 45, 62, 32, 121, 32, 101, 110, 100]⟩, .string ⟨#[111, 112, 32, 97, 32, 58, 32, 105, 110, 116, 32, 45, 62, 32, 98, 111, 111, 108, 59, 32, 100, 111, 32, 97, 32, 49]⟩, .string ⟨#[40, 102, 117, 110, 32, 120, 32, 45, 62, 32, 120, 41, 32, 49]⟩, .string ⟨#[49, 32, 43, 32, 104, 97, 110, 100, 108, 101, 32, 50, 32, 119, 105, 116, 104, 32, 97, 32, 120, 32, 107, 32, 45, 62, 32, 51, 32, 114, 101, 116, 117, 114, 110, 32, 121, 32, 45, 62, 32, 121, 32, 101, 110, 100]⟩, .string ⟨#[40, 49, 32, 61, 61, 32, 50, 41, 32, 61, 61, 32, 40, 51, 32, 60, 32, 52, 41]⟩, .string ⟨#[102, 117, 110, 32, 120, 32, 45, 62, 32, 108, 101, 116, 32, 121, 32, 61, 32, 120, 32, 105, 110, 32, 121]⟩] 9))
  go_upto_region 4 with fail
  generalize w1.alloc (.cells #[.string ⟨#[120]⟩, .string ⟨#[49, 50]⟩, .string ⟨#[116, 114, 117, 101]⟩, .string ⟨#[102, 97, 108, 115, 101]⟩, .string ⟨#[102, 117, 110, 32, 120, 32, 45, 62, 32, 120]⟩, .string ⟨#[108, 101, 116, 32, 120, 32, 61, 32, 49, 32, 105, 110, 32, 120, 32, 43, 32, 49]⟩, .string ⟨#[108, 101, 116, 32, 114, 101, 99, 32, 102, 32, 120, 32, 61, 32, 102, 32, 120, 32, 105, 110, 32, 102]⟩, .string ⟨#[105, 102, 32, 97, 32, 116, 104, 101, 110, 32, 98, 32, 101, 108, 115, 101, 32, 99]⟩, .string ⟨#[102, 32, 120]⟩, .string ⟨#[102, 32, 40, 103, 32, 120, 41]⟩, .string ⟨#[40, 102, 32, 120, 41, 32, 121]⟩, .string ⟨#[49, 32, 43, 32, 50]⟩, .string ⟨#[40, 49, 32, 43, 32, 50, 41, 32, 42, 32, 51]⟩, .string ⟨#[49, 32, 45, 32, 40, 50, 32, 45, 32, 51, 41]⟩, .string ⟨#[100, 111, 32, 97, 32, 120]⟩, .string ⟨#[100, 111, 32, 97, 32, 40, 120, 32, 43, 32, 49, 41]⟩, .string ⟨#[104, 97, 110, 100, 108, 101, 32, 100, 111, 32, 97, 32, 49, 32, 119, 105, 116, 104, 32, 97, 32, 120, 32, 107, 32, 45, 62, 32, 107, 32, 120, 32, 114, 101, 116, 117, 114, 110, 32, 121, 32, 45, 62, 32, 121, 32, 101, 110, 100]⟩, .string ⟨#[111, 112, 32, 97, 32, 58, 32, 105, 110, 116, 32, 45, 62, 32, 98, 111, 111, 108, 59, 32, 100, 111, 32, 97, 32, 49]⟩, .string ⟨#[40, 102, 117, 110, 32, 120, 32, 45, 62, 32, 120, 41, 32, 49]⟩, .string ⟨#[49, 32, 43, 32, 104, 97, 110, 100, 108, 101, 32, 50, 32, 119, 105, 116, 104, 32, 97, 32, 120, 32, 107, 32, 45, 62, 32, 51, 32, 114, 101, 116, 117, 114, 110, 32, 121, 32, 45, 62, 32, 121, 32, 101, 110, 100]⟩, .string ⟨#[40, 49, 32, 61, 61, 32, 50, 41, 32, 61, 61, 32, 40, 51, 32, 60, 32, 52, 41]⟩, .string ⟨#[102, 117, 110, 32, 120, 32, 45, 62, 32, 108, 101, 116, 32, 121, 32, 61, 32, 120, 32, 105, 110, 32, 121]⟩] 9) = w2 at hc hb2 ⊢
  have hB2 := Lib.hid (belT hB1.out hb2.out)
  clear hb2
  have hmi : (m : Int) < 22 := by omega
  go_wp2_with fail
  refine (kP.out _ hB2.out).mono ?_
  intro e w3 hpost
  obtain ⟨qa, qc, qa2, qc2, rfl, hb3, ho3, hn3⟩ := prp_ok hpost (by rw [← hXH.out]; exact h1.out)
  have hO3 := Lib.hid (show OArg w3 qa os.length os from ho3.arg)
  have hN3 := Lib.hid (show NArg w3 qa2 ns.length ns from hn3.arg)
  have hB3 := Lib.hid (belT hB2.out hb3)
  clear hpost ho3 hn3 hb3 kP hc
  have zo : os.length ≤ 4 := hK.out.ol
  have zn : ns.length ≤ 512 := hK.out.l1
  go_wp2_with fail
  have hb4 := Lib.hid (below_alc w3 (.cells #[.slice qa os.length qc, .slice qa2 ns.length qc2] 25))
  generalize w3.alloc (.cells #[.slice qa os.length qc, .slice qa2 ns.length qc2] 25) = w4 at hb4 ⊢
  have hO4 := Lib.hid (hO3.out.below hb4.out)
  have hN4 := Lib.hid (hN3.out.below hb4.out)
  have hB4 := Lib.hid (belT hB3.out hb4.out)
  have k2 := Lib.hid (Print_any qa qa2 os.length qc ns.length qc2 os ns T w4 hO4 (Lib.hid hK.out.oz) (by omega) hN4 (Lib.hid hK.out.sz) (by omega) (Lib.hid (hEr.out _ hB4.out)) (Lib.hid (hTab.out _ hB4.out)) fun _ => h2.out)
  rw [h3.out] at k2
  simp only [prS, prE, hXH.out] at k2
  have k2 := Lib.hid (show Calls Tryz.prog 9 #[.agg #[.slice qa os.length qc, .slice qa2 ns.length qc2]] w4 (fun e w' => e = .returned (.tuple #[.string x, .int .i64 0]) ∧ Below w4.heap.size w4 w') from k2.out)
  refine k2.out.mono ?_
  rintro e w5 ⟨rfl, hb5⟩
  have hB5 := Lib.hid (belT hB4.out hb5)
  clear hb5 k2
  have hxx : (x.toList == x.toList) = true := beq_self_eq_true _
  go_wp2_with ((go_at_call 11; refine (num_any _ _ (by omega) (by omega)).mono ?_; rintro e w' ⟨rfl, rfl⟩))
  go_ret
  exact ⟨rfl, hB5.out⟩
theorem own : ownKnob Tryz.prog.godebug = none := by kernel_rfl
theorem laidOut : laidOutB Tryz.prog = true := by kernel_rfl
set_option maxRecDepth 100000 in
theorem contract (H : Type) (enc : TypeId × Value → H) (W : World) (base : Nat) (args : Array Value) (ds gs : List (DataW H)) (before : List MemPlace)
    (hval0 : ∀ (j : Nat) t v, Tryz.f6.params[j]? = some t → args[j]? = some v → Value.okWide Tryz.prog W .any base t v)
    (hW : DataW.Whole enc Tryz.prog Tryz.f6.params.toList Rows.showTextsSpec.vars false W args.toList ds gs before)
    (hsz0 : (DataW.weightsEach Tryz.prog (Tryz.f6.params.toList ++ Rows.showTextsSpec.plain.varTypes Tryz.prog) (ds ++ gs)).all (· ≤ reachBytes) = true)
    (hL : laidMetH Tryz.prog Rows.showTextsRow.laid W)
    : Calls Tryz.prog 6 args W fun e W' => ∃ v, e = .returned v ∧ Rows.showTextsSpec.post enc Tryz.prog Tryz.f6 false true false false W args v W' := by
  have hval : ∀ (j : Nat) t v, Tryz.f6.params[j]? = some t → args[j]? = some v → Value.okWide Tryz.prog W .any base t v := hval0
  have hsz : (DataW.weightsEach Tryz.prog (Tryz.f6.params.toList ++ Rows.showTextsSpec.plain.varTypes Tryz.prog) (ds ++ gs)).all (· ≤ reachBytes) = true := hsz0
  have hW' := hW
  obtain ⟨p, q, hA0, hV, rfl, hfz, hnd⟩ := hW
  have hA : DataW.TrodAll enc Tryz.prog W 0 (fun _ => true) true Tryz.f6.params.toList args.toList ds p := hA0
  rw [Tryz.params6] at hA hval hsz
  obtain ⟨v0, vs0, d0, ds0, p0, q0, hargs, rfl, rfl, h0, r0⟩ := trodAll_cons hA
  obtain ⟨rfl, rfl, rfl⟩ := trodAll_nil r0
  obtain rfl : args = #[v0] := by cases args; simp_all
  obtain ⟨rfl, rfl⟩ := trodVars_none hV
  have k0 := h0
  have lt0 : ∀ x ∈ p0, x.block < W.heap.size := by obtain ⟨m, hm⟩ := k0; exact DataW.trod_lt m _ _ _ hm
  obtain ⟨a0, rfl, rfl, rfl, m0⟩ := open_int Tryz.underlying3 (hval 0 3 v0 rfl rfl) h0
  clear hA0 hval0
  refine (walk a0 W (bd_i64 m0) (tabs hL)).mono fun e W' ⟨he, bel⟩ => ?_
  subst he
  exact ⟨_, rfl, _, _, _, [], _, [], hW', trodAll_mk1 (shut_bool Tryz.underlying4 _), (trodAll_cons_mk (Below.trod laidOut (by kernel_rfl) (of_decide_eq_true (by kernel_rfl)) k0 bel lt0) trodAll_mk0), rfl, bel.frame _, fun h => by cases h⟩
noncomputable def mixWorld (os : Os) : World := { World.holding Tryz.prog os ⟨#[], #[], []⟩ with heap := (layAll Tryz.prog Rows.showTextsRow.laid (World.holding Tryz.prog os ⟨#[], #[], []⟩).heap).modify 0 fun | .cells _ t frozen => .cells #[.iface 138 (.agg #[.pointer (some ⟨4, 61, none⟩)])] t frozen | o => o }
theorem laid_met (os : Os) : laidMetH Tryz.prog Rows.showTextsRow.laid ((mixWorld os).forCall (fun _ _ => 0) ⟨#[], #[.int .i64 0], []⟩).memory := laidMetH_of_parts (laidMet_of_run' 8 (by kernel_rfl) (by kernel_rfl)) (by kernel_rfl)
theorem reads (os : Os) {H : Type} (enc : TypeId × Value → H) : ∃ places, DataW.whole enc Tryz.prog ((mixWorld os).forCall (fun _ _ => 0) ⟨#[], #[.int .i64 0], []⟩).memory Tryz.f6.params.toList Rows.showTextsSpec.vars false #[(.int .i64 0 : Value)].toList 8 = some ([.lit (.int .i64 0)], [], places) := ⟨[], by kernel_rfl⟩
set_option maxRecDepth 100000 in
theorem lifted (os : Os) (started : os.Started) (H : Type) (enc : TypeId × Value → H) (F : Stop.Interp) :
    ReturnsInHanded {} Tryz.checked os 6 .any ((OpenSpec.ofChange Rows.showTextsSpec).preRow enc Tryz.prog Tryz.f6 Rows.showTextsRow.domain false Rows.showTextsRow.laid) (((OpenSpec.ofChange Rows.showTextsSpec).at F).post enc Tryz.prog Tryz.f6 false true false false) := by
  obtain ⟨places, hx⟩ := reads os enc
  refine returnsInHanded_of_row (C := Tryz.checked) (s := (OpenSpec.ofChange Rows.showTextsSpec)) own started (by kernel_rfl) Tryz.func6
    (witness_row_at (enc := enc) (C := Tryz.checked) false (mixWorld os) #[.int .i64 0] rfl (by kernel_rfl) (by kernel_rfl) (by kernel_rfl)
      (OpenSpec.preRow_of_cond 8 hx (by kernel_rfl) (fun k hk => by cases hk) (by kernel_rfl) (laid_met os))) ?_
  intro W base args ds gs before hval hW _ hcnd hsz hL _ _
  exact contract H enc W base args ds gs before hval hW hsz  hL
theorem said : Rows.ShowTextsSaid :=
  OpenClaim.holds_of_cond 6 Tryz.f6 rfl rfl rfl rfl rfl rfl rfl ⟨rfl, rfl, rfl, rfl, rfl⟩ rfl rfl rfl rfl rfl (by kernel_rfl) Tryz.func6 (by kernel_rfl)
    (of_decide_eq_true (by kernel_rfl)) (by unfold Func.isWrapper; first | (rw [if_pos (by decide +kernel)]; kernel_rfl) | (rw [if_neg (by decide +kernel)]; exact ⟨rfl, rfl⟩))
    (fun os started H enc _ F => by rw [OpenClaim.pre_eq_preRow]; exact lifted os started H enc F)
theorem plain (f : FuncId) (fn : Func) (hf : Tryz.pinned.checked.prog.funcNamed "trammel/trammellaw5.ShowTexts" = some f) (hfn : Tryz.pinned.checked.prog.funcs[f]? = some fn) :
    true = Tryz.pinned.checked.prog.looks [] ∧ ∀ (j : Nat) t, fn.params[j]? = some t → Tryz.pinned.checked.prog.wantsStandIn t = false := by
  obtain rfl : f = 6 := Option.some.inj ((show Tryz.prog.funcNamed "trammel/trammellaw5.ShowTexts" = some 6 by kernel_rfl).symm.trans hf) |>.symm
  obtain rfl : fn = Tryz.f6 := (Option.some.inj (Tryz.func6.symm.trans hfn)).symm
  refine ⟨by kernel_rfl, fun j t ht => ?_⟩
  rw [Tryz.params6] at ht
  have hm := Array.mem_of_getElem? ht
  have hm2 : t ∈ ([3] : List Nat) := by simpa using hm
  simp only [List.mem_cons, List.not_mem_nil, or_false] at hm2
  subst hm2; exact (show Tryz.prog.wantsStandIn 3 = false by kernel_rfl)
theorem proved : Rows.ShowTextsCardSaid :=
  Claim7.holds_tied_plain_at .later [] _ _ _ _ said (fun _ h => by cases h) (by kernel_rfl) (fun _ h => by cases h) showTexts_row_tie rfl ⟨rfl, rfl⟩ (by kernel_rfl) rfl plain (by kernel_rfl)
end Go.Proofs.YtidlljookjicpaaGreatDoor.showTexts
