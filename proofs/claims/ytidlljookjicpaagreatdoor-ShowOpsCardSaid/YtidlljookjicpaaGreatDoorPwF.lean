/- The program's printer of a part: a name, a number, a truth value. -/
import Derived.Test.YtidlljookjicpaaGreatDoorPwE
/- The program's printer of a part: a name, a number, a truth value. -/
namespace Go.Proofs.YtidlljookjicpaaGreatDoor
open Go.RowKit
set_option linter.unusedVariables false
set_option linter.unusedSimpArgs false

theorem ndO_leaf {T : PT} (hT : T.ins = 0) (o : Nat) (R : Option (List UInt8)) (ho : o ≤ 40) : ndO T o R = wrO T.tx R := by
  cases R with
  | none => rfl
  | some l => show (if o + T.ins ≤ 40 then some (l ++ T.tx) else none) = some (l ++ T.tx); rw [hT, if_pos (by omega)]
theorem fmtBoolI_any (x : Bool) (w : World) : Calls Tryz.prog 92 #[.bool x] w fun e w' => e = .returned (.string (if x then ⟨#[116, 114, 117, 101]⟩ else ⟨#[102, 97, 108, 115, 101]⟩)) ∧ w = w' := by
  cases x
  all_goals
    go_enter Tryz.func92, Tryz.ntmps92
    go_wp2_with fail
    go_ret
    exact ⟨rfl, rfl⟩
theorem fmtBool_any (x : Bool) (w : World) : Calls Tryz.prog 69 #[.bool x] w fun e w' => e = .returned (.string (if x then ⟨#[116, 114, 117, 101]⟩ else ⟨#[102, 97, 108, 115, 101]⟩)) ∧ w = w' := by
  have k := fmtBoolI_any x
  cases x
  all_goals
    go_enter Tryz.func69, Tryz.ntmps69
    go_wp2_with fail
    refine (k _).mono ?_
    rintro e w' ⟨rfl, rfl⟩
    go_wp2_with fail
    go_ret
    exact ⟨rfl, rfl⟩
set_option maxRecDepth 100000 in
set_option maxHeartbeats 8000000 in
theorem nd_var {w0 : World} {G b off cp : Nat} {ts : List Nd} {nm : ByteArray} (hT : (PT.var nm).ok) : NdP w0 G b off cp ts (PT.var nm) := by
  intro i o w R m hA hi ho hm h
  obtain ⟨p, hg⟩ := hA
  rw [hg]
  dsimp only
  simp only [PT.sz] at hm
  have z_nm := sz_nm hT
  clear hT
  have hlt := h.out.lt
  have hGn : w.heap.size ≠ G := by omega
  have hEq := Lib.hid (ndO_leaf (T := PT.var nm) rfl o R ho)
  generalize ndO (PT.var nm) o R = R9 at hEq ⊢
  clear hg
  go_enter Tryz.func45, Tryz.ntmps45
  go_wp2_with fail
  have hW0 : Below w.heap.size w (w.alloc (.cells #[.int .i64 0, .int .i64 0, .int .i64 0, .int .i64 0, .int .i64 0, .string nm, .string ⟨#[]⟩, .string ⟨#[]⟩, .string ⟨#[]⟩, .int .i64 p] 50)) := below_alc _ _
  have hX := bxn_lit w (⟨0, 0, 0, 0, 0, nm, ⟨#[]⟩, ⟨#[]⟩, ⟨#[]⟩, p⟩ : Nd)
  dsimp only at hX
  generalize w.alloc (.cells #[.int .i64 0, .int .i64 0, .int .i64 0, .int .i64 0, .int .i64 0, .string nm, .string ⟨#[]⟩, .string ⟨#[]⟩, .string ⟨#[]⟩, .int .i64 p] 50) = wA at hW0 hX ⊢
  have hX := Lib.hid hX
  have hS := Lib.hid (h.out.below hW0)
  have hb := Lib.hid (show BarP w0.heap.size G w wA from Bar.of_below hW0)

  clear hW0
  have kS := Lib.hid fun (W : World) (hW : Below wA.heap.size wA W) => (show Calls Tryz.prog 22 #[.pointer (some ⟨G, 0, none⟩), .string (nm)] W (fun e w' => e = .returned (.tuple #[.int .i64 (nm).size, .nilIface]) ∧ StP w0 G b off cp ts w' (wrO (nm.data.toList) R) (m + 30) ∧ BarP w0.heap.size G wA w') from (stp_write (nm) W (Lib.hid (hS.out.below hW)) (by omega)).mono fun e w' ⟨he, h1, h2⟩ => ⟨he, StP.mono h1 (by omega), barP_next hW h2⟩)
  have hz := hX.out.lt
  obtain ⟨q0, q1, q2, q3, q4, q5, q6, q7, q8, q9⟩ := hX.out.cells
  dsimp only at q0 q1 q2 q3 q4 q5 q6 q7 q8 q9
  go_wp2_with fail
  go_region_with (go_at_call 22; refine (kS.out _ (by first | exact Below.refl _ _ | exact (Below.refl _ _).drew | exact ((Below.refl _ _).drew).drew)).mono ?_; rintro e w1 ⟨rfl, hS, hb2⟩)
  clear q0 q1 q2 q3 q4 q5 q6 q7 q8 q9 kS
  have hS := Lib.hid hS
  have hX := Lib.hid (hX.out.bar hb2 hGn)
  have hb := Lib.hid (hb.out.trans hb2)
  clear hb2
  have hz := hX.out.lt
  obtain ⟨q0, q1, q2, q3, q4, q5, q6, q7, q8, q9⟩ := hX.out.cells
  dsimp only at q0 q1 q2 q3 q4 q5 q6 q7 q8 q9
  go_wp2_with fail
  go_end0
  exact ⟨rfl, by rw [hEq.out]; exact hS.out.mono (by show m + 30 ≤ m + (1 * 150 - 50); omega), hb.out⟩
set_option maxRecDepth 100000 in
set_option maxHeartbeats 8000000 in
theorem nd_int {w0 : World} {G b off cp : Nat} {ts : List Nd} {n : Int} (hTb : Hid (TabW w0)) (hT : (PT.int n).ok) : NdP w0 G b off cp ts (PT.int n) := by
  intro i o w R m hA hi ho hm h
  obtain ⟨p, hg⟩ := hA
  rw [hg]
  dsimp only
  simp only [PT.sz] at hm
  have hsz : (bs (Lib.itoa n)).size ≤ 30 := by have := itoa_l30 hT.1 hT.2; simpa [bs, ByteArray.size] using this
  have hn0 := hT.1
  have hn1 := hT.2
  clear hT
  have hlt := h.out.lt
  have hGn : w.heap.size ≠ G := by omega
  have hEq := Lib.hid (ndO_leaf (T := PT.int n) rfl o R ho)
  generalize ndO (PT.int n) o R = R9 at hEq ⊢
  clear hg
  go_enter Tryz.func45, Tryz.ntmps45
  go_wp2_with fail
  have hW0 : Below w.heap.size w (w.alloc (.cells #[.int .i64 1, .int .i64 0, .int .i64 0, .int .i64 0, .int .i64 n, .string ⟨#[]⟩, .string ⟨#[]⟩, .string ⟨#[]⟩, .string ⟨#[]⟩, .int .i64 p] 50)) := below_alc _ _
  have hX := bxn_lit w (⟨1, 0, 0, 0, n, ⟨#[]⟩, ⟨#[]⟩, ⟨#[]⟩, ⟨#[]⟩, p⟩ : Nd)
  dsimp only at hX
  generalize w.alloc (.cells #[.int .i64 1, .int .i64 0, .int .i64 0, .int .i64 0, .int .i64 n, .string ⟨#[]⟩, .string ⟨#[]⟩, .string ⟨#[]⟩, .string ⟨#[]⟩, .int .i64 p] 50) = wA at hW0 hX ⊢
  have hX := Lib.hid hX
  have hS := Lib.hid (h.out.below hW0)
  have hb := Lib.hid (show BarP w0.heap.size G w wA from Bar.of_below hW0)
  have kI := Lib.hid fun (W : World) (hW : Below wA.heap.size wA W) => (show Calls Tryz.prog 68 #[.int .i64 n] W (fun e w' => e = .returned (.string (bs (Lib.itoa n))) ∧ Below wA.heap.size wA w') from (itoa_any n W (by omega) (by omega) (Lib.hid (tab_keep hTb.out (belT (hS.out).1 hW) (Nat.le_refl _)))).mono fun e w' ⟨he, h1⟩ => ⟨he, belT hW h1⟩)
  clear hW0
  have kS := Lib.hid fun (W : World) (hW : Below wA.heap.size wA W) => (show Calls Tryz.prog 22 #[.pointer (some ⟨G, 0, none⟩), .string (bs (Lib.itoa n))] W (fun e w' => e = .returned (.tuple #[.int .i64 (bs (Lib.itoa n)).size, .nilIface]) ∧ StP w0 G b off cp ts w' (wrO (Lib.itoa n) R) (m + 30) ∧ BarP w0.heap.size G wA w') from (stp_write (bs (Lib.itoa n)) W (Lib.hid (hS.out.below hW)) (by omega)).mono fun e w' ⟨he, h1, h2⟩ => ⟨he, StP.mono h1 (by omega), barP_next hW h2⟩)
  have hz := hX.out.lt
  obtain ⟨q0, q1, q2, q3, q4, q5, q6, q7, q8, q9⟩ := hX.out.cells
  dsimp only at q0 q1 q2 q3 q4 q5 q6 q7 q8 q9
  go_wp2_with fail
  go_region_with (first | (go_at_call 68; refine (kI.out _ (by first | exact Below.refl _ _ | exact (Below.refl _ _).drew | exact ((Below.refl _ _).drew).drew)).mono ?_; rintro e wI ⟨rfl, hbI⟩) | (go_at_call 22; refine (kS.out _ (by first | exact hbI | exact hbI.drew)).mono ?_; rintro e w1 ⟨rfl, hS, hb2⟩))
  clear q0 q1 q2 q3 q4 q5 q6 q7 q8 q9 kS
  have hS := Lib.hid hS
  have hX := Lib.hid (hX.out.bar hb2 hGn)
  have hb := Lib.hid (hb.out.trans hb2)
  clear hb2
  have hz := hX.out.lt
  obtain ⟨q0, q1, q2, q3, q4, q5, q6, q7, q8, q9⟩ := hX.out.cells
  dsimp only at q0 q1 q2 q3 q4 q5 q6 q7 q8 q9
  go_wp2_with fail
  go_end0
  exact ⟨rfl, by rw [hEq.out]; exact hS.out.mono (by show m + 30 ≤ m + (1 * 150 - 50); omega), hb.out⟩
set_option maxRecDepth 100000 in
set_option maxHeartbeats 8000000 in
theorem nd_bol0 {w0 : World} {G b off cp : Nat} {ts : List Nd} (hT : (PT.bol 0).ok) : NdP w0 G b off cp ts (PT.bol 0) := by
  intro i o w R m hA hi ho hm h
  obtain ⟨p, hg⟩ := hA
  rw [hg]
  dsimp only
  simp only [PT.sz] at hm
  have hsz : (⟨#[102, 97, 108, 115, 101]⟩ : ByteArray).size ≤ 30 := by decide
  clear hT
  have hlt := h.out.lt
  have hGn : w.heap.size ≠ G := by omega
  have hEq := Lib.hid (ndO_leaf (T := PT.bol 0) rfl o R ho)
  generalize ndO (PT.bol 0) o R = R9 at hEq ⊢
  clear hg
  go_enter Tryz.func45, Tryz.ntmps45
  go_wp2_with fail
  have hW0 : Below w.heap.size w (w.alloc (.cells #[.int .i64 2, .int .i64 0, .int .i64 0, .int .i64 0, .int .i64 0, .string ⟨#[]⟩, .string ⟨#[]⟩, .string ⟨#[]⟩, .string ⟨#[]⟩, .int .i64 p] 50)) := below_alc _ _
  have hX := bxn_lit w (⟨2, 0, 0, 0, 0, ⟨#[]⟩, ⟨#[]⟩, ⟨#[]⟩, ⟨#[]⟩, p⟩ : Nd)
  dsimp only at hX
  generalize w.alloc (.cells #[.int .i64 2, .int .i64 0, .int .i64 0, .int .i64 0, .int .i64 0, .string ⟨#[]⟩, .string ⟨#[]⟩, .string ⟨#[]⟩, .string ⟨#[]⟩, .int .i64 p] 50) = wA at hW0 hX ⊢
  have hX := Lib.hid hX
  have hS := Lib.hid (h.out.below hW0)
  have hb := Lib.hid (show BarP w0.heap.size G w wA from Bar.of_below hW0)

  clear hW0
  have kS := Lib.hid fun (W : World) (hW : Below wA.heap.size wA W) => (show Calls Tryz.prog 22 #[.pointer (some ⟨G, 0, none⟩), .string ((⟨#[102, 97, 108, 115, 101]⟩ : ByteArray))] W (fun e w' => e = .returned (.tuple #[.int .i64 ((⟨#[102, 97, 108, 115, 101]⟩ : ByteArray)).size, .nilIface]) ∧ StP w0 G b off cp ts w' (wrO ([102, 97, 108, 115, 101]) R) (m + 30) ∧ BarP w0.heap.size G wA w') from (stp_write ((⟨#[102, 97, 108, 115, 101]⟩ : ByteArray)) W (Lib.hid (hS.out.below hW)) (by omega)).mono fun e w' ⟨he, h1, h2⟩ => ⟨he, StP.mono h1 (by omega), barP_next hW h2⟩)
  have hz := hX.out.lt
  obtain ⟨q0, q1, q2, q3, q4, q5, q6, q7, q8, q9⟩ := hX.out.cells
  dsimp only at q0 q1 q2 q3 q4 q5 q6 q7 q8 q9
  go_wp2_with fail
  go_region_with (first | (go_at_call 69; refine (fmtBool_any _ _).mono ?_; rintro e wI ⟨rfl, rfl⟩) | (go_at_call 22; refine (kS.out _ (by first | exact Below.refl _ _ | exact (Below.refl _ _).drew | exact ((Below.refl _ _).drew).drew)).mono ?_; rintro e w1 ⟨rfl, hS, hb2⟩))
  clear q0 q1 q2 q3 q4 q5 q6 q7 q8 q9 kS
  have hS := Lib.hid hS
  have hX := Lib.hid (hX.out.bar hb2 hGn)
  have hb := Lib.hid (hb.out.trans hb2)
  clear hb2
  have hz := hX.out.lt
  obtain ⟨q0, q1, q2, q3, q4, q5, q6, q7, q8, q9⟩ := hX.out.cells
  dsimp only at q0 q1 q2 q3 q4 q5 q6 q7 q8 q9
  go_wp2_with fail
  go_end0
  exact ⟨rfl, by rw [hEq.out]; exact hS.out.mono (by show m + 30 ≤ m + (1 * 150 - 50); omega), hb.out⟩
set_option maxRecDepth 100000 in
set_option maxHeartbeats 8000000 in
theorem nd_bol1 {w0 : World} {G b off cp : Nat} {ts : List Nd} (hT : (PT.bol 1).ok) : NdP w0 G b off cp ts (PT.bol 1) := by
  intro i o w R m hA hi ho hm h
  obtain ⟨p, hg⟩ := hA
  rw [hg]
  dsimp only
  simp only [PT.sz] at hm
  have hsz : (⟨#[116, 114, 117, 101]⟩ : ByteArray).size ≤ 30 := by decide
  clear hT
  have hlt := h.out.lt
  have hGn : w.heap.size ≠ G := by omega
  have hEq := Lib.hid (ndO_leaf (T := PT.bol 1) rfl o R ho)
  generalize ndO (PT.bol 1) o R = R9 at hEq ⊢
  clear hg
  go_enter Tryz.func45, Tryz.ntmps45
  go_wp2_with fail
  have hW0 : Below w.heap.size w (w.alloc (.cells #[.int .i64 2, .int .i64 0, .int .i64 0, .int .i64 0, .int .i64 1, .string ⟨#[]⟩, .string ⟨#[]⟩, .string ⟨#[]⟩, .string ⟨#[]⟩, .int .i64 p] 50)) := below_alc _ _
  have hX := bxn_lit w (⟨2, 0, 0, 0, 1, ⟨#[]⟩, ⟨#[]⟩, ⟨#[]⟩, ⟨#[]⟩, p⟩ : Nd)
  dsimp only at hX
  generalize w.alloc (.cells #[.int .i64 2, .int .i64 0, .int .i64 0, .int .i64 0, .int .i64 1, .string ⟨#[]⟩, .string ⟨#[]⟩, .string ⟨#[]⟩, .string ⟨#[]⟩, .int .i64 p] 50) = wA at hW0 hX ⊢
  have hX := Lib.hid hX
  have hS := Lib.hid (h.out.below hW0)
  have hb := Lib.hid (show BarP w0.heap.size G w wA from Bar.of_below hW0)

  clear hW0
  have kS := Lib.hid fun (W : World) (hW : Below wA.heap.size wA W) => (show Calls Tryz.prog 22 #[.pointer (some ⟨G, 0, none⟩), .string ((⟨#[116, 114, 117, 101]⟩ : ByteArray))] W (fun e w' => e = .returned (.tuple #[.int .i64 ((⟨#[116, 114, 117, 101]⟩ : ByteArray)).size, .nilIface]) ∧ StP w0 G b off cp ts w' (wrO ([116, 114, 117, 101]) R) (m + 30) ∧ BarP w0.heap.size G wA w') from (stp_write ((⟨#[116, 114, 117, 101]⟩ : ByteArray)) W (Lib.hid (hS.out.below hW)) (by omega)).mono fun e w' ⟨he, h1, h2⟩ => ⟨he, StP.mono h1 (by omega), barP_next hW h2⟩)
  have hz := hX.out.lt
  obtain ⟨q0, q1, q2, q3, q4, q5, q6, q7, q8, q9⟩ := hX.out.cells
  dsimp only at q0 q1 q2 q3 q4 q5 q6 q7 q8 q9
  go_wp2_with fail
  go_region_with (first | (go_at_call 69; refine (fmtBool_any _ _).mono ?_; rintro e wI ⟨rfl, rfl⟩) | (go_at_call 22; refine (kS.out _ (by first | exact Below.refl _ _ | exact (Below.refl _ _).drew | exact ((Below.refl _ _).drew).drew)).mono ?_; rintro e w1 ⟨rfl, hS, hb2⟩))
  clear q0 q1 q2 q3 q4 q5 q6 q7 q8 q9 kS
  have hS := Lib.hid hS
  have hX := Lib.hid (hX.out.bar hb2 hGn)
  have hb := Lib.hid (hb.out.trans hb2)
  clear hb2
  have hz := hX.out.lt
  obtain ⟨q0, q1, q2, q3, q4, q5, q6, q7, q8, q9⟩ := hX.out.cells
  dsimp only at q0 q1 q2 q3 q4 q5 q6 q7 q8 q9
  go_wp2_with fail
  go_end0
  exact ⟨rfl, by rw [hEq.out]; exact hS.out.mono (by show m + 30 ≤ m + (1 * 150 - 50); omega), hb.out⟩
theorem nd_bol {w0 : World} {G b off cp : Nat} {ts : List Nd} {n : Int} (hT : (PT.bol n).ok) : NdP w0 G b off cp ts (PT.bol n) := by
  rcases (show n = 0 ∨ n = 1 from hT) with rfl | rfl
  · exact nd_bol0 hT
  · exact nd_bol1 hT
end Go.Proofs.YtidlljookjicpaaGreatDoor

/- The program's printer of a part: fn. Written by gen_she.py. -/
namespace Go.Proofs.YtidlljookjicpaaGreatDoor
open Go.RowKit
set_option linter.unusedVariables false
set_option linter.unusedSimpArgs false

theorem ndO_fn {x : ByteArray} {A : PT} (o : Nat) (R : Option (List UInt8)) : ndO (PT.fn x A) o R = (exO A o (wrO ([102, 117, 110, 32] ++ x.data.toList ++ [32, 45, 62, 32]) R)) := by
  cases R with
  | none => rfl
  | some l =>
    have hi : (PT.fn x A).ins = (A.ins + 1) := rfl
    by_cases h0 : o + A.ins + 1 ≤ 40
    · have h : o + (PT.fn x A).ins ≤ 40 := by rw [hi]; omega
      simp [ndO, exO, opO, wrO, h, h0, PT.tx]
    · have h : ¬ o + (PT.fn x A).ins ≤ 40 := by rw [hi]; omega
      simp [ndO, exO, opO, wrO, h, h0]
set_option maxRecDepth 100000 in
set_option maxHeartbeats 8000000 in
theorem nd_fn {w0 : World} {G b off cp : Nat} {ts : List Nd} (hl : ts.length ≤ 512) {x : ByteArray} {A : PT} (hT : (PT.fn x A).ok) (kA : ExP w0 G b off cp ts A) : NdP w0 G b off cp ts (PT.fn x A) := by
  intro i o w R m hA hi ho hm h
  obtain ⟨j, p, hq0, hg, hA⟩ := hA
  rw [hg]
  dsimp only
  simp only [PT.sz] at hm
  have zA := A.sz1
  have z_x := sz_nm hT.1
  have hlt := h.out.lt
  have hGn : w.heap.size ≠ G := by omega
  have hEq := Lib.hid (ndO_fn o R : ndO (PT.fn x A) o R = _)
  have hmT : Hid (∀ v, v ≤ m + (A.sz) * 150 + 100 → v ≤ m + ((PT.fn x A).sz * 150 - 50)) := Lib.hid (by intro v hv; simp only [PT.sz]; omega)
  generalize ndO (PT.fn x A) o R = R9 at hEq ⊢
  generalize m + ((PT.fn x A).sz * 150 - 50) = m9 at hmT ⊢
  have l_j : j < ts.length := by omega
  clear hT hg hq0
  go_enter Tryz.func45, Tryz.ntmps45
  go_wp2_with fail
  have hW0 : Below w.heap.size w (w.alloc (.cells #[.int .i64 3, .int .i64 (j : Nat), .int .i64 0, .int .i64 0, .int .i64 0, .string ⟨#[]⟩, .string x, .string ⟨#[]⟩, .string ⟨#[]⟩, .int .i64 p] 50)) := below_alc _ _
  have hX := bxn_lit w (⟨3, (j : Nat), 0, 0, 0, ⟨#[]⟩, x, ⟨#[]⟩, ⟨#[]⟩, p⟩ : Nd)
  dsimp only at hX
  generalize w.alloc (.cells #[.int .i64 3, .int .i64 (j : Nat), .int .i64 0, .int .i64 0, .int .i64 0, .string ⟨#[]⟩, .string x, .string ⟨#[]⟩, .string ⟨#[]⟩, .int .i64 p] 50) = wA at hW0 hX ⊢
  have hX := Lib.hid hX
  have hS := Lib.hid (h.out.below hW0)
  have hb := Lib.hid (show BarP w0.heap.size G w wA from Bar.of_below hW0)
  clear hW0
  have kS := Lib.hid fun (W : World) (hW : Below wA.heap.size wA W) => (show Calls Tryz.prog 22 #[.pointer (some ⟨G, 0, none⟩), .string ((((⟨#[102, 117, 110, 32]⟩ : ByteArray) ++ x) ++ (⟨#[32, 45, 62, 32]⟩ : ByteArray)))] W (fun e w' => e = .returned (.tuple #[.int .i64 ((((⟨#[102, 117, 110, 32]⟩ : ByteArray) ++ x) ++ (⟨#[32, 45, 62, 32]⟩ : ByteArray))).size, .nilIface]) ∧ StP w0 G b off cp ts w' (wrO ([102, 117, 110, 32] ++ x.data.toList ++ [32, 45, 62, 32]) R) (m + (4 + x.size + 4)) ∧ BarP w0.heap.size G wA w') from (stp_write ((((⟨#[102, 117, 110, 32]⟩ : ByteArray) ++ x) ++ (⟨#[32, 45, 62, 32]⟩ : ByteArray))) W (Lib.hid (hS.out.below hW)) (by first | omega | (simp only [ByteArray.size_append, (show (⟨#[102, 117, 110, 32]⟩ : ByteArray).size = 4 from rfl), (show (⟨#[32, 45, 62, 32]⟩ : ByteArray).size = 4 from rfl)]; omega))).mono fun e w' ⟨he, h1, h2⟩ => ⟨he, wr_cast h1 (by first | rfl | simp) (by first | omega | (simp only [ByteArray.size_append, (show (⟨#[102, 117, 110, 32]⟩ : ByteArray).size = 4 from rfl), (show (⟨#[32, 45, 62, 32]⟩ : ByteArray).size = 4 from rfl)]; omega)), barP_next hW h2⟩)
  have hz := hX.out.lt
  obtain ⟨q0, q1, q2, q3, q4, q5, q6, q7, q8, q9⟩ := hX.out.cells
  dsimp only at q0 q1 q2 q3 q4 q5 q6 q7 q8 q9
  go_wp2_with fail
  first
  | (refine (kS.out _ (Below.refl _ _)).mono ?_; rintro e w1 ⟨rfl, hS, hb2⟩)
  | (go_region_with (go_at_call 22; refine (kS.out _ (by first | exact Below.refl _ _ | exact (Below.refl _ _).drew | exact ((Below.refl _ _).drew).drew)).mono ?_; rintro e w1 ⟨rfl, hS, hb2⟩))
  clear q0 q1 q2 q3 q4 q5 q6 q7 q8 q9 kS
  have hS := Lib.hid hS
  have hX := Lib.hid (hX.out.bar hb2 hGn)
  have hb := Lib.hid (hb.out.trans hb2)
  clear hb2
  have kS := Lib.hid fun (W : World) (hW : Below w1.heap.size w1 W) => (show Calls Tryz.prog 24 #[.pointer (some ⟨G, 0, none⟩), .int .i64 (j : Int), .int .i64 (o : Int)] W (fun e w' => e = .returned (.tuple #[]) ∧ StP w0 G b off cp ts w' (exO A o (wrO ([102, 117, 110, 32] ++ x.data.toList ++ [32, 45, 62, 32]) R)) ((m + (4 + x.size + 4)) + (A.sz * 150 - 50)) ∧ BarP w0.heap.size G w1 w') from (kA j o W (wrO ([102, 117, 110, 32] ++ x.data.toList ++ [32, 45, 62, 32]) R) (m + (4 + x.size + 4)) hA (by omega) ho (by omega) (Lib.hid (hS.out.below hW))).mono fun e w' ⟨he, h1, h2⟩ => ⟨he, h1, barP_next hW h2⟩)
  have hz := hX.out.lt
  obtain ⟨q0, q1, q2, q3, q4, q5, q6, q7, q8, q9⟩ := hX.out.cells
  dsimp only at q0 q1 q2 q3 q4 q5 q6 q7 q8 q9
  go_wp2_with fail
  first
  | (refine (kS.out _ (Below.refl _ _)).mono ?_; rintro e w2 ⟨rfl, hS, hb2⟩)
  | (go_region_with (go_at_call 24; refine (kS.out _ (by first | exact Below.refl _ _ | exact (Below.refl _ _).drew | exact ((Below.refl _ _).drew).drew)).mono ?_; rintro e w2 ⟨rfl, hS, hb2⟩))
  clear q0 q1 q2 q3 q4 q5 q6 q7 q8 q9 kS
  have hS := Lib.hid hS
  have hX := Lib.hid (hX.out.bar hb2 hGn)
  have hb := Lib.hid (hb.out.trans hb2)
  clear hb2
  have hz := hX.out.lt
  obtain ⟨q0, q1, q2, q3, q4, q5, q6, q7, q8, q9⟩ := hX.out.cells
  dsimp only at q0 q1 q2 q3 q4 q5 q6 q7 q8 q9
  go_wp2_with fail
  go_end0
  exact ⟨rfl, by rw [hEq.out]; exact hS.out.mono (hmT.out _ (by omega)), hb.out⟩
end Go.Proofs.YtidlljookjicpaaGreatDoor

/- The program's printer of a part: app. Written by gen_she.py. -/
namespace Go.Proofs.YtidlljookjicpaaGreatDoor
open Go.RowKit
set_option linter.unusedVariables false
set_option linter.unusedSimpArgs false

theorem ndO_app {A C : PT} (o : Nat) (R : Option (List UInt8)) : ndO (PT.app A C) o R = (opO C o (wrO ([32]) (opO A o R))) := by
  cases R with
  | none => rfl
  | some l =>
    have hi : (PT.app A C).ins = max (sdD A) (sdD C) := rfl
    by_cases h0 : o + sdD A ≤ 40
    · by_cases h1 : o + sdD C ≤ 40
      · have h : o + (PT.app A C).ins ≤ 40 := by rw [hi]; omega
        simp [ndO, exO, opO, wrO, h, h0, h1, PT.tx]
      · have h : ¬ o + (PT.app A C).ins ≤ 40 := by rw [hi]; omega
        simp [ndO, exO, opO, wrO, h, h0, h1]
    · by_cases h1 : o + sdD C ≤ 40
      · have h : ¬ o + (PT.app A C).ins ≤ 40 := by rw [hi]; omega
        simp [ndO, exO, opO, wrO, h, h0, h1]
      · have h : ¬ o + (PT.app A C).ins ≤ 40 := by rw [hi]; omega
        simp [ndO, exO, opO, wrO, h, h0, h1]
set_option maxRecDepth 100000 in
set_option maxHeartbeats 8000000 in
theorem nd_app {w0 : World} {G b off cp : Nat} {ts : List Nd} (hl : ts.length ≤ 512) {A C : PT} (hT : (PT.app A C).ok) (kA : OpP w0 G b off cp ts A) (kC : OpP w0 G b off cp ts C) : NdP w0 G b off cp ts (PT.app A C) := by
  intro i o w R m hA hi ho hm h
  obtain ⟨j, k, p, hq0, hq1, hg, hA, hC⟩ := hA
  rw [hg]
  dsimp only
  simp only [PT.sz] at hm
  have zA := A.sz1
  have zC := C.sz1
  have hlt := h.out.lt
  have hGn : w.heap.size ≠ G := by omega
  have hEq := Lib.hid (ndO_app o R : ndO (PT.app A C) o R = _)
  have hmT : Hid (∀ v, v ≤ m + (A.sz + C.sz) * 150 + 100 → v ≤ m + ((PT.app A C).sz * 150 - 50)) := Lib.hid (by intro v hv; simp only [PT.sz]; omega)
  generalize ndO (PT.app A C) o R = R9 at hEq ⊢
  generalize m + ((PT.app A C).sz * 150 - 50) = m9 at hmT ⊢
  have l_j : j < ts.length := by omega
  have l_k : k < ts.length := by omega
  clear hT hg hq0 hq1
  go_enter Tryz.func45, Tryz.ntmps45
  go_wp2_with fail
  have hW0 : Below w.heap.size w (w.alloc (.cells #[.int .i64 4, .int .i64 (j : Nat), .int .i64 (k : Nat), .int .i64 0, .int .i64 0, .string ⟨#[]⟩, .string ⟨#[]⟩, .string ⟨#[]⟩, .string ⟨#[]⟩, .int .i64 p] 50)) := below_alc _ _
  have hX := bxn_lit w (⟨4, (j : Nat), (k : Nat), 0, 0, ⟨#[]⟩, ⟨#[]⟩, ⟨#[]⟩, ⟨#[]⟩, p⟩ : Nd)
  dsimp only at hX
  generalize w.alloc (.cells #[.int .i64 4, .int .i64 (j : Nat), .int .i64 (k : Nat), .int .i64 0, .int .i64 0, .string ⟨#[]⟩, .string ⟨#[]⟩, .string ⟨#[]⟩, .string ⟨#[]⟩, .int .i64 p] 50) = wA at hW0 hX ⊢
  have hX := Lib.hid hX
  have hS := Lib.hid (h.out.below hW0)
  have hb := Lib.hid (show BarP w0.heap.size G w wA from Bar.of_below hW0)
  clear hW0
  have kS := Lib.hid fun (W : World) (hW : Below wA.heap.size wA W) => (show Calls Tryz.prog 70 #[.pointer (some ⟨G, 0, none⟩), .int .i64 (j : Int), .int .i64 (o : Int)] W (fun e w' => e = .returned (.tuple #[]) ∧ StP w0 G b off cp ts w' (opO A o R) (m + (A.sz * 150 - 40)) ∧ BarP w0.heap.size G wA w') from (kA j o W R m hA (by omega) ho (by omega) (Lib.hid (hS.out.below hW))).mono fun e w' ⟨he, h1, h2⟩ => ⟨he, h1, barP_next hW h2⟩)
  have hz := hX.out.lt
  obtain ⟨q0, q1, q2, q3, q4, q5, q6, q7, q8, q9⟩ := hX.out.cells
  dsimp only at q0 q1 q2 q3 q4 q5 q6 q7 q8 q9
  go_wp2_with fail
  first
  | (refine (kS.out _ (Below.refl _ _)).mono ?_; rintro e w1 ⟨rfl, hS, hb2⟩)
  | (go_region_with (go_at_call 70; refine (kS.out _ (by first | exact Below.refl _ _ | exact (Below.refl _ _).drew | exact ((Below.refl _ _).drew).drew)).mono ?_; rintro e w1 ⟨rfl, hS, hb2⟩))
  clear q0 q1 q2 q3 q4 q5 q6 q7 q8 q9 kS
  have hS := Lib.hid hS
  have hX := Lib.hid (hX.out.bar hb2 hGn)
  have hb := Lib.hid (hb.out.trans hb2)
  clear hb2
  have kS := Lib.hid fun (W : World) (hW : Below w1.heap.size w1 W) => (show Calls Tryz.prog 22 #[.pointer (some ⟨G, 0, none⟩), .string ((⟨#[32]⟩ : ByteArray))] W (fun e w' => e = .returned (.tuple #[.int .i64 ((⟨#[32]⟩ : ByteArray)).size, .nilIface]) ∧ StP w0 G b off cp ts w' (wrO ([32]) (opO A o R)) ((m + (A.sz * 150 - 40)) + (1)) ∧ BarP w0.heap.size G w1 w') from (stp_write ((⟨#[32]⟩ : ByteArray)) W (Lib.hid (hS.out.below hW)) (by first | omega | (simp only [ByteArray.size_append, (show (⟨#[32]⟩ : ByteArray).size = 1 from rfl)]; omega))).mono fun e w' ⟨he, h1, h2⟩ => ⟨he, wr_cast h1 (by first | rfl | simp) (by first | omega | (simp only [ByteArray.size_append, (show (⟨#[32]⟩ : ByteArray).size = 1 from rfl)]; omega)), barP_next hW h2⟩)
  have hz := hX.out.lt
  obtain ⟨q0, q1, q2, q3, q4, q5, q6, q7, q8, q9⟩ := hX.out.cells
  dsimp only at q0 q1 q2 q3 q4 q5 q6 q7 q8 q9
  go_wp2_with fail
  first
  | (refine (kS.out _ (Below.refl _ _)).mono ?_; rintro e w2 ⟨rfl, hS, hb2⟩)
  | (go_region_with (go_at_call 22; refine (kS.out _ (by first | exact Below.refl _ _ | exact (Below.refl _ _).drew | exact ((Below.refl _ _).drew).drew)).mono ?_; rintro e w2 ⟨rfl, hS, hb2⟩))
  clear q0 q1 q2 q3 q4 q5 q6 q7 q8 q9 kS
  have hS := Lib.hid hS
  have hX := Lib.hid (hX.out.bar hb2 hGn)
  have hb := Lib.hid (hb.out.trans hb2)
  clear hb2
  have kS := Lib.hid fun (W : World) (hW : Below w2.heap.size w2 W) => (show Calls Tryz.prog 70 #[.pointer (some ⟨G, 0, none⟩), .int .i64 (k : Int), .int .i64 (o : Int)] W (fun e w' => e = .returned (.tuple #[]) ∧ StP w0 G b off cp ts w' (opO C o (wrO ([32]) (opO A o R))) (((m + (A.sz * 150 - 40)) + (1)) + (C.sz * 150 - 40)) ∧ BarP w0.heap.size G w2 w') from (kC k o W (wrO ([32]) (opO A o R)) ((m + (A.sz * 150 - 40)) + (1)) hC (by omega) ho (by omega) (Lib.hid (hS.out.below hW))).mono fun e w' ⟨he, h1, h2⟩ => ⟨he, h1, barP_next hW h2⟩)
  have hz := hX.out.lt
  obtain ⟨q0, q1, q2, q3, q4, q5, q6, q7, q8, q9⟩ := hX.out.cells
  dsimp only at q0 q1 q2 q3 q4 q5 q6 q7 q8 q9
  go_wp2_with fail
  first
  | (refine (kS.out _ (Below.refl _ _)).mono ?_; rintro e w3 ⟨rfl, hS, hb2⟩)
  | (go_region_with (go_at_call 70; refine (kS.out _ (by first | exact Below.refl _ _ | exact (Below.refl _ _).drew | exact ((Below.refl _ _).drew).drew)).mono ?_; rintro e w3 ⟨rfl, hS, hb2⟩))
  clear q0 q1 q2 q3 q4 q5 q6 q7 q8 q9 kS
  have hS := Lib.hid hS
  have hX := Lib.hid (hX.out.bar hb2 hGn)
  have hb := Lib.hid (hb.out.trans hb2)
  clear hb2
  have hz := hX.out.lt
  obtain ⟨q0, q1, q2, q3, q4, q5, q6, q7, q8, q9⟩ := hX.out.cells
  dsimp only at q0 q1 q2 q3 q4 q5 q6 q7 q8 q9
  go_wp2_with fail
  go_end0
  exact ⟨rfl, by rw [hEq.out]; exact hS.out.mono (hmT.out _ (by omega)), hb.out⟩
end Go.Proofs.YtidlljookjicpaaGreatDoor

/- The program's printer of a part: lt. Written by gen_she.py. -/
namespace Go.Proofs.YtidlljookjicpaaGreatDoor
open Go.RowKit
set_option linter.unusedVariables false
set_option linter.unusedSimpArgs false

theorem ndO_lt {x : ByteArray} {A C : PT} (o : Nat) (R : Option (List UInt8)) : ndO (PT.lt x A C) o R = (exO C o (wrO ([32, 105, 110, 32]) (exO A o (wrO ([108, 101, 116, 32] ++ x.data.toList ++ [32, 61, 32]) R)))) := by
  cases R with
  | none => rfl
  | some l =>
    have hi : (PT.lt x A C).ins = max ((A.ins + 1)) ((C.ins + 1)) := rfl
    by_cases h0 : o + A.ins + 1 ≤ 40
    · by_cases h1 : o + C.ins + 1 ≤ 40
      · have h : o + (PT.lt x A C).ins ≤ 40 := by rw [hi]; omega
        simp [ndO, exO, opO, wrO, h, h0, h1, PT.tx]
      · have h : ¬ o + (PT.lt x A C).ins ≤ 40 := by rw [hi]; omega
        simp [ndO, exO, opO, wrO, h, h0, h1]
    · by_cases h1 : o + C.ins + 1 ≤ 40
      · have h : ¬ o + (PT.lt x A C).ins ≤ 40 := by rw [hi]; omega
        simp [ndO, exO, opO, wrO, h, h0, h1]
      · have h : ¬ o + (PT.lt x A C).ins ≤ 40 := by rw [hi]; omega
        simp [ndO, exO, opO, wrO, h, h0, h1]
set_option maxRecDepth 100000 in
set_option maxHeartbeats 8000000 in
theorem nd_lt {w0 : World} {G b off cp : Nat} {ts : List Nd} (hl : ts.length ≤ 512) {x : ByteArray} {A C : PT} (hT : (PT.lt x A C).ok) (kA : ExP w0 G b off cp ts A) (kC : ExP w0 G b off cp ts C) : NdP w0 G b off cp ts (PT.lt x A C) := by
  intro i o w R m hA hi ho hm h
  obtain ⟨j, k, p, hq0, hq1, hg, hA, hC⟩ := hA
  rw [hg]
  dsimp only
  simp only [PT.sz] at hm
  have zA := A.sz1
  have zC := C.sz1
  have z_x := sz_nm hT.1
  have hlt := h.out.lt
  have hGn : w.heap.size ≠ G := by omega
  have hEq := Lib.hid (ndO_lt o R : ndO (PT.lt x A C) o R = _)
  have hmT : Hid (∀ v, v ≤ m + (A.sz + C.sz) * 150 + 100 → v ≤ m + ((PT.lt x A C).sz * 150 - 50)) := Lib.hid (by intro v hv; simp only [PT.sz]; omega)
  generalize ndO (PT.lt x A C) o R = R9 at hEq ⊢
  generalize m + ((PT.lt x A C).sz * 150 - 50) = m9 at hmT ⊢
  have l_j : j < ts.length := by omega
  have l_k : k < ts.length := by omega
  clear hT hg hq0 hq1
  go_enter Tryz.func45, Tryz.ntmps45
  go_wp2_with fail
  have hW0 : Below w.heap.size w (w.alloc (.cells #[.int .i64 5, .int .i64 (j : Nat), .int .i64 (k : Nat), .int .i64 0, .int .i64 0, .string ⟨#[]⟩, .string x, .string ⟨#[]⟩, .string ⟨#[]⟩, .int .i64 p] 50)) := below_alc _ _
  have hX := bxn_lit w (⟨5, (j : Nat), (k : Nat), 0, 0, ⟨#[]⟩, x, ⟨#[]⟩, ⟨#[]⟩, p⟩ : Nd)
  dsimp only at hX
  generalize w.alloc (.cells #[.int .i64 5, .int .i64 (j : Nat), .int .i64 (k : Nat), .int .i64 0, .int .i64 0, .string ⟨#[]⟩, .string x, .string ⟨#[]⟩, .string ⟨#[]⟩, .int .i64 p] 50) = wA at hW0 hX ⊢
  have hX := Lib.hid hX
  have hS := Lib.hid (h.out.below hW0)
  have hb := Lib.hid (show BarP w0.heap.size G w wA from Bar.of_below hW0)
  clear hW0
  have kS := Lib.hid fun (W : World) (hW : Below wA.heap.size wA W) => (show Calls Tryz.prog 71 #[.pointer (some ⟨G, 0, none⟩), .int .i64 (o : Int), .string ((((⟨#[108, 101, 116, 32]⟩ : ByteArray) ++ x) ++ (⟨#[32, 61, 32]⟩ : ByteArray))), .int .i64 (j : Int), .string ((⟨#[32, 105, 110, 32]⟩ : ByteArray)), .int .i64 (k : Int)] W (fun e w' => e = .returned (.tuple #[]) ∧ StP w0 G b off cp ts w' (exO C o (wrO ([32, 105, 110, 32]) (exO A o (wrO ([108, 101, 116, 32] ++ x.data.toList ++ [32, 61, 32]) R)))) (m + (4 + x.size + 3) + (4) + (A.sz * 150 - 50) + (C.sz * 150 - 50)) ∧ BarP w0.heap.size G wA w') from (exprs_of kA kC j k o ((((⟨#[108, 101, 116, 32]⟩ : ByteArray) ++ x) ++ (⟨#[32, 61, 32]⟩ : ByteArray))) ((⟨#[32, 105, 110, 32]⟩ : ByteArray)) W R m hA hC (by omega) (by omega) ho (by first | omega | (simp only [ByteArray.size_append, (show (⟨#[108, 101, 116, 32]⟩ : ByteArray).size = 4 from rfl), (show (⟨#[32, 61, 32]⟩ : ByteArray).size = 3 from rfl), (show (⟨#[32, 105, 110, 32]⟩ : ByteArray).size = 4 from rfl)]; omega)) (Lib.hid (hS.out.below hW))).mono fun e w' ⟨he, h1, h2⟩ => ⟨he, ex_cast h1 (by first | rfl | simp) (by first | rfl | simp) (by first | omega | (simp only [ByteArray.size_append, (show (⟨#[108, 101, 116, 32]⟩ : ByteArray).size = 4 from rfl), (show (⟨#[32, 61, 32]⟩ : ByteArray).size = 3 from rfl), (show (⟨#[32, 105, 110, 32]⟩ : ByteArray).size = 4 from rfl)]; omega)), barP_next hW h2⟩)
  have hz := hX.out.lt
  obtain ⟨q0, q1, q2, q3, q4, q5, q6, q7, q8, q9⟩ := hX.out.cells
  dsimp only at q0 q1 q2 q3 q4 q5 q6 q7 q8 q9
  go_wp2_with fail
  first
  | (refine (kS.out _ (Below.refl _ _)).mono ?_; rintro e w1 ⟨rfl, hS, hb2⟩)
  | (go_region_with (go_at_call 71; refine (kS.out _ (by first | exact Below.refl _ _ | exact (Below.refl _ _).drew | exact ((Below.refl _ _).drew).drew)).mono ?_; rintro e w1 ⟨rfl, hS, hb2⟩))
  clear q0 q1 q2 q3 q4 q5 q6 q7 q8 q9 kS
  have hS := Lib.hid hS
  have hX := Lib.hid (hX.out.bar hb2 hGn)
  have hb := Lib.hid (hb.out.trans hb2)
  clear hb2
  have hz := hX.out.lt
  obtain ⟨q0, q1, q2, q3, q4, q5, q6, q7, q8, q9⟩ := hX.out.cells
  dsimp only at q0 q1 q2 q3 q4 q5 q6 q7 q8 q9
  go_wp2_with fail
  go_end0
  exact ⟨rfl, by rw [hEq.out]; exact hS.out.mono (hmT.out _ (by omega)), hb.out⟩
end Go.Proofs.YtidlljookjicpaaGreatDoor

/- The program's printer of a part: rc. Written by gen_she.py. -/
namespace Go.Proofs.YtidlljookjicpaaGreatDoor
open Go.RowKit
set_option linter.unusedVariables false
set_option linter.unusedSimpArgs false

theorem ndO_rc {x y : ByteArray} {A C : PT} (o : Nat) (R : Option (List UInt8)) : ndO (PT.rc x y A C) o R = (exO C o (wrO ([32, 105, 110, 32]) (exO A o (wrO ([108, 101, 116, 32] ++ [114, 101, 99, 32] ++ x.data.toList ++ [32] ++ y.data.toList ++ [32, 61, 32]) R)))) := by
  cases R with
  | none => rfl
  | some l =>
    have hi : (PT.rc x y A C).ins = max ((A.ins + 1)) ((C.ins + 1)) := rfl
    by_cases h0 : o + A.ins + 1 ≤ 40
    · by_cases h1 : o + C.ins + 1 ≤ 40
      · have h : o + (PT.rc x y A C).ins ≤ 40 := by rw [hi]; omega
        simp [ndO, exO, opO, wrO, h, h0, h1, PT.tx]
      · have h : ¬ o + (PT.rc x y A C).ins ≤ 40 := by rw [hi]; omega
        simp [ndO, exO, opO, wrO, h, h0, h1]
    · by_cases h1 : o + C.ins + 1 ≤ 40
      · have h : ¬ o + (PT.rc x y A C).ins ≤ 40 := by rw [hi]; omega
        simp [ndO, exO, opO, wrO, h, h0, h1]
      · have h : ¬ o + (PT.rc x y A C).ins ≤ 40 := by rw [hi]; omega
        simp [ndO, exO, opO, wrO, h, h0, h1]
set_option maxRecDepth 100000 in
set_option maxHeartbeats 8000000 in
theorem nd_rc {w0 : World} {G b off cp : Nat} {ts : List Nd} (hl : ts.length ≤ 512) {x y : ByteArray} {A C : PT} (hT : (PT.rc x y A C).ok) (kA : ExP w0 G b off cp ts A) (kC : ExP w0 G b off cp ts C) : NdP w0 G b off cp ts (PT.rc x y A C) := by
  intro i o w R m hA hi ho hm h
  obtain ⟨j, k, p, hq0, hq1, hg, hA, hC⟩ := hA
  rw [hg]
  dsimp only
  simp only [PT.sz] at hm
  have zA := A.sz1
  have zC := C.sz1
  have z_x := sz_nm hT.1.1
  have z_y := sz_nm hT.1.2
  have hlt := h.out.lt
  have hGn : w.heap.size ≠ G := by omega
  have hEq := Lib.hid (ndO_rc o R : ndO (PT.rc x y A C) o R = _)
  have hmT : Hid (∀ v, v ≤ m + (A.sz + C.sz) * 150 + 100 → v ≤ m + ((PT.rc x y A C).sz * 150 - 50)) := Lib.hid (by intro v hv; simp only [PT.sz]; omega)
  generalize ndO (PT.rc x y A C) o R = R9 at hEq ⊢
  generalize m + ((PT.rc x y A C).sz * 150 - 50) = m9 at hmT ⊢
  have l_j : j < ts.length := by omega
  have l_k : k < ts.length := by omega
  clear hT hg hq0 hq1
  go_enter Tryz.func45, Tryz.ntmps45
  go_wp2_with fail
  have hW0 : Below w.heap.size w (w.alloc (.cells #[.int .i64 6, .int .i64 (j : Nat), .int .i64 (k : Nat), .int .i64 0, .int .i64 0, .string ⟨#[]⟩, .string x, .string y, .string ⟨#[]⟩, .int .i64 p] 50)) := below_alc _ _
  have hX := bxn_lit w (⟨6, (j : Nat), (k : Nat), 0, 0, ⟨#[]⟩, x, y, ⟨#[]⟩, p⟩ : Nd)
  dsimp only at hX
  generalize w.alloc (.cells #[.int .i64 6, .int .i64 (j : Nat), .int .i64 (k : Nat), .int .i64 0, .int .i64 0, .string ⟨#[]⟩, .string x, .string y, .string ⟨#[]⟩, .int .i64 p] 50) = wA at hW0 hX ⊢
  have hX := Lib.hid hX
  have hS := Lib.hid (h.out.below hW0)
  have hb := Lib.hid (show BarP w0.heap.size G w wA from Bar.of_below hW0)
  clear hW0
  have kS := Lib.hid fun (W : World) (hW : Below wA.heap.size wA W) => (show Calls Tryz.prog 71 #[.pointer (some ⟨G, 0, none⟩), .int .i64 (o : Int), .string (((⟨#[108, 101, 116, 32]⟩ : ByteArray) ++ ((((⟨#[114, 101, 99, 32]⟩ : ByteArray) ++ x) ++ (⟨#[32]⟩ : ByteArray)) ++ y)) ++ (⟨#[32, 61, 32]⟩ : ByteArray)), .int .i64 (j : Int), .string ((⟨#[32, 105, 110, 32]⟩ : ByteArray)), .int .i64 (k : Int)] W (fun e w' => e = .returned (.tuple #[]) ∧ StP w0 G b off cp ts w' (exO C o (wrO ([32, 105, 110, 32]) (exO A o (wrO ([108, 101, 116, 32] ++ [114, 101, 99, 32] ++ x.data.toList ++ [32] ++ y.data.toList ++ [32, 61, 32]) R)))) (m + (4 + 4 + x.size + 1 + y.size + 3) + (4) + (A.sz * 150 - 50) + (C.sz * 150 - 50)) ∧ BarP w0.heap.size G wA w') from (exprs_of kA kC j k o (((⟨#[108, 101, 116, 32]⟩ : ByteArray) ++ ((((⟨#[114, 101, 99, 32]⟩ : ByteArray) ++ x) ++ (⟨#[32]⟩ : ByteArray)) ++ y)) ++ (⟨#[32, 61, 32]⟩ : ByteArray)) ((⟨#[32, 105, 110, 32]⟩ : ByteArray)) W R m hA hC (by omega) (by omega) ho (by first | omega | (simp only [ByteArray.size_append, (show (⟨#[108, 101, 116, 32]⟩ : ByteArray).size = 4 from rfl), (show (⟨#[114, 101, 99, 32]⟩ : ByteArray).size = 4 from rfl), (show (⟨#[32]⟩ : ByteArray).size = 1 from rfl), (show (⟨#[32, 61, 32]⟩ : ByteArray).size = 3 from rfl), (show (⟨#[32, 105, 110, 32]⟩ : ByteArray).size = 4 from rfl)]; omega)) (Lib.hid (hS.out.below hW))).mono fun e w' ⟨he, h1, h2⟩ => ⟨he, ex_cast h1 (by first | rfl | simp) (by first | rfl | simp) (by first | omega | (simp only [ByteArray.size_append, (show (⟨#[108, 101, 116, 32]⟩ : ByteArray).size = 4 from rfl), (show (⟨#[114, 101, 99, 32]⟩ : ByteArray).size = 4 from rfl), (show (⟨#[32]⟩ : ByteArray).size = 1 from rfl), (show (⟨#[32, 61, 32]⟩ : ByteArray).size = 3 from rfl), (show (⟨#[32, 105, 110, 32]⟩ : ByteArray).size = 4 from rfl)]; omega)), barP_next hW h2⟩)
  have hz := hX.out.lt
  obtain ⟨q0, q1, q2, q3, q4, q5, q6, q7, q8, q9⟩ := hX.out.cells
  dsimp only at q0 q1 q2 q3 q4 q5 q6 q7 q8 q9
  go_wp2_with fail
  first
  | (refine (kS.out _ (Below.refl _ _)).mono ?_; rintro e w1 ⟨rfl, hS, hb2⟩)
  | (go_region_with (go_at_call 71; refine (kS.out _ (by first | exact Below.refl _ _ | exact (Below.refl _ _).drew | exact ((Below.refl _ _).drew).drew)).mono ?_; rintro e w1 ⟨rfl, hS, hb2⟩))
  clear q0 q1 q2 q3 q4 q5 q6 q7 q8 q9 kS
  have hS := Lib.hid hS
  have hX := Lib.hid (hX.out.bar hb2 hGn)
  have hb := Lib.hid (hb.out.trans hb2)
  clear hb2
  have hz := hX.out.lt
  obtain ⟨q0, q1, q2, q3, q4, q5, q6, q7, q8, q9⟩ := hX.out.cells
  dsimp only at q0 q1 q2 q3 q4 q5 q6 q7 q8 q9
  go_wp2_with fail
  go_end0
  exact ⟨rfl, by rw [hEq.out]; exact hS.out.mono (hmT.out _ (by omega)), hb.out⟩
end Go.Proofs.YtidlljookjicpaaGreatDoor

/- The program's printer of a part: cd. Written by gen_she.py. -/
namespace Go.Proofs.YtidlljookjicpaaGreatDoor
open Go.RowKit
set_option linter.unusedVariables false
set_option linter.unusedSimpArgs false

theorem ndO_cd {A C D : PT} (o : Nat) (R : Option (List UInt8)) : ndO (PT.cd A C D) o R = (exO D o (wrO ([32, 101, 108, 115, 101, 32]) (exO C o (wrO ([32, 116, 104, 101, 110, 32]) (exO A o (wrO ([105, 102, 32]) R)))))) := by
  cases R with
  | none => rfl
  | some l =>
    have hi : (PT.cd A C D).ins = max (max ((A.ins + 1)) ((C.ins + 1))) ((D.ins + 1)) := rfl
    by_cases h0 : o + A.ins + 1 ≤ 40
    · by_cases h1 : o + C.ins + 1 ≤ 40
      · by_cases h2 : o + D.ins + 1 ≤ 40
        · have h : o + (PT.cd A C D).ins ≤ 40 := by rw [hi]; omega
          simp [ndO, exO, opO, wrO, h, h0, h1, h2, PT.tx]
        · have h : ¬ o + (PT.cd A C D).ins ≤ 40 := by rw [hi]; omega
          simp [ndO, exO, opO, wrO, h, h0, h1, h2]
      · by_cases h2 : o + D.ins + 1 ≤ 40
        · have h : ¬ o + (PT.cd A C D).ins ≤ 40 := by rw [hi]; omega
          simp [ndO, exO, opO, wrO, h, h0, h1, h2]
        · have h : ¬ o + (PT.cd A C D).ins ≤ 40 := by rw [hi]; omega
          simp [ndO, exO, opO, wrO, h, h0, h1, h2]
    · by_cases h1 : o + C.ins + 1 ≤ 40
      · by_cases h2 : o + D.ins + 1 ≤ 40
        · have h : ¬ o + (PT.cd A C D).ins ≤ 40 := by rw [hi]; omega
          simp [ndO, exO, opO, wrO, h, h0, h1, h2]
        · have h : ¬ o + (PT.cd A C D).ins ≤ 40 := by rw [hi]; omega
          simp [ndO, exO, opO, wrO, h, h0, h1, h2]
      · by_cases h2 : o + D.ins + 1 ≤ 40
        · have h : ¬ o + (PT.cd A C D).ins ≤ 40 := by rw [hi]; omega
          simp [ndO, exO, opO, wrO, h, h0, h1, h2]
        · have h : ¬ o + (PT.cd A C D).ins ≤ 40 := by rw [hi]; omega
          simp [ndO, exO, opO, wrO, h, h0, h1, h2]
set_option maxRecDepth 100000 in
set_option maxHeartbeats 8000000 in
theorem nd_cd {w0 : World} {G b off cp : Nat} {ts : List Nd} (hl : ts.length ≤ 512) {A C D : PT} (hT : (PT.cd A C D).ok) (kA : ExP w0 G b off cp ts A) (kC : ExP w0 G b off cp ts C) (kD : ExP w0 G b off cp ts D) : NdP w0 G b off cp ts (PT.cd A C D) := by
  intro i o w R m hA hi ho hm h
  obtain ⟨j, k, q, p, hq0, hq1, hq2, hg, hA, hC, hD⟩ := hA
  rw [hg]
  dsimp only
  simp only [PT.sz] at hm
  have zA := A.sz1
  have zC := C.sz1
  have zD := D.sz1
  have hlt := h.out.lt
  have hGn : w.heap.size ≠ G := by omega
  have hEq := Lib.hid (ndO_cd o R : ndO (PT.cd A C D) o R = _)
  have hmT : Hid (∀ v, v ≤ m + (A.sz + C.sz + D.sz) * 150 + 100 → v ≤ m + ((PT.cd A C D).sz * 150 - 50)) := Lib.hid (by intro v hv; simp only [PT.sz]; omega)
  generalize ndO (PT.cd A C D) o R = R9 at hEq ⊢
  generalize m + ((PT.cd A C D).sz * 150 - 50) = m9 at hmT ⊢
  have l_j : j < ts.length := by omega
  have l_k : k < ts.length := by omega
  have l_q : q < ts.length := by omega
  clear hT hg hq0 hq1 hq2
  go_enter Tryz.func45, Tryz.ntmps45
  go_wp2_with fail
  have hW0 : Below w.heap.size w (w.alloc (.cells #[.int .i64 7, .int .i64 (j : Nat), .int .i64 (k : Nat), .int .i64 (q : Nat), .int .i64 0, .string ⟨#[]⟩, .string ⟨#[]⟩, .string ⟨#[]⟩, .string ⟨#[]⟩, .int .i64 p] 50)) := below_alc _ _
  have hX := bxn_lit w (⟨7, (j : Nat), (k : Nat), (q : Nat), 0, ⟨#[]⟩, ⟨#[]⟩, ⟨#[]⟩, ⟨#[]⟩, p⟩ : Nd)
  dsimp only at hX
  generalize w.alloc (.cells #[.int .i64 7, .int .i64 (j : Nat), .int .i64 (k : Nat), .int .i64 (q : Nat), .int .i64 0, .string ⟨#[]⟩, .string ⟨#[]⟩, .string ⟨#[]⟩, .string ⟨#[]⟩, .int .i64 p] 50) = wA at hW0 hX ⊢
  have hX := Lib.hid hX
  have hS := Lib.hid (h.out.below hW0)
  have hb := Lib.hid (show BarP w0.heap.size G w wA from Bar.of_below hW0)
  clear hW0
  have kS := Lib.hid fun (W : World) (hW : Below wA.heap.size wA W) => (show Calls Tryz.prog 71 #[.pointer (some ⟨G, 0, none⟩), .int .i64 (o : Int), .string ((⟨#[105, 102, 32]⟩ : ByteArray)), .int .i64 (j : Int), .string ((⟨#[32, 116, 104, 101, 110, 32]⟩ : ByteArray)), .int .i64 (k : Int)] W (fun e w' => e = .returned (.tuple #[]) ∧ StP w0 G b off cp ts w' (exO C o (wrO ([32, 116, 104, 101, 110, 32]) (exO A o (wrO ([105, 102, 32]) R)))) (m + (3) + (6) + (A.sz * 150 - 50) + (C.sz * 150 - 50)) ∧ BarP w0.heap.size G wA w') from (exprs_of kA kC j k o ((⟨#[105, 102, 32]⟩ : ByteArray)) ((⟨#[32, 116, 104, 101, 110, 32]⟩ : ByteArray)) W R m hA hC (by omega) (by omega) ho (by first | omega | (simp only [ByteArray.size_append, (show (⟨#[105, 102, 32]⟩ : ByteArray).size = 3 from rfl), (show (⟨#[32, 116, 104, 101, 110, 32]⟩ : ByteArray).size = 6 from rfl)]; omega)) (Lib.hid (hS.out.below hW))).mono fun e w' ⟨he, h1, h2⟩ => ⟨he, ex_cast h1 (by first | rfl | simp) (by first | rfl | simp) (by first | omega | (simp only [ByteArray.size_append, (show (⟨#[105, 102, 32]⟩ : ByteArray).size = 3 from rfl), (show (⟨#[32, 116, 104, 101, 110, 32]⟩ : ByteArray).size = 6 from rfl)]; omega)), barP_next hW h2⟩)
  have hz := hX.out.lt
  obtain ⟨q0, q1, q2, q3, q4, q5, q6, q7, q8, q9⟩ := hX.out.cells
  dsimp only at q0 q1 q2 q3 q4 q5 q6 q7 q8 q9
  go_wp2_with fail
  first
  | (refine (kS.out _ (Below.refl _ _)).mono ?_; rintro e w1 ⟨rfl, hS, hb2⟩)
  | (go_region_with (go_at_call 71; refine (kS.out _ (by first | exact Below.refl _ _ | exact (Below.refl _ _).drew | exact ((Below.refl _ _).drew).drew)).mono ?_; rintro e w1 ⟨rfl, hS, hb2⟩))
  clear q0 q1 q2 q3 q4 q5 q6 q7 q8 q9 kS
  have hS := Lib.hid hS
  have hX := Lib.hid (hX.out.bar hb2 hGn)
  have hb := Lib.hid (hb.out.trans hb2)
  clear hb2
  have kS := Lib.hid fun (W : World) (hW : Below w1.heap.size w1 W) => (show Calls Tryz.prog 22 #[.pointer (some ⟨G, 0, none⟩), .string ((⟨#[32, 101, 108, 115, 101, 32]⟩ : ByteArray))] W (fun e w' => e = .returned (.tuple #[.int .i64 ((⟨#[32, 101, 108, 115, 101, 32]⟩ : ByteArray)).size, .nilIface]) ∧ StP w0 G b off cp ts w' (wrO ([32, 101, 108, 115, 101, 32]) (exO C o (wrO ([32, 116, 104, 101, 110, 32]) (exO A o (wrO ([105, 102, 32]) R))))) ((m + (3) + (6) + (A.sz * 150 - 50) + (C.sz * 150 - 50)) + (6)) ∧ BarP w0.heap.size G w1 w') from (stp_write ((⟨#[32, 101, 108, 115, 101, 32]⟩ : ByteArray)) W (Lib.hid (hS.out.below hW)) (by first | omega | (simp only [ByteArray.size_append, (show (⟨#[32, 101, 108, 115, 101, 32]⟩ : ByteArray).size = 6 from rfl)]; omega))).mono fun e w' ⟨he, h1, h2⟩ => ⟨he, wr_cast h1 (by first | rfl | simp) (by first | omega | (simp only [ByteArray.size_append, (show (⟨#[32, 101, 108, 115, 101, 32]⟩ : ByteArray).size = 6 from rfl)]; omega)), barP_next hW h2⟩)
  have hz := hX.out.lt
  obtain ⟨q0, q1, q2, q3, q4, q5, q6, q7, q8, q9⟩ := hX.out.cells
  dsimp only at q0 q1 q2 q3 q4 q5 q6 q7 q8 q9
  go_wp2_with fail
  first
  | (refine (kS.out _ (Below.refl _ _)).mono ?_; rintro e w2 ⟨rfl, hS, hb2⟩)
  | (go_region_with (go_at_call 22; refine (kS.out _ (by first | exact Below.refl _ _ | exact (Below.refl _ _).drew | exact ((Below.refl _ _).drew).drew)).mono ?_; rintro e w2 ⟨rfl, hS, hb2⟩))
  clear q0 q1 q2 q3 q4 q5 q6 q7 q8 q9 kS
  have hS := Lib.hid hS
  have hX := Lib.hid (hX.out.bar hb2 hGn)
  have hb := Lib.hid (hb.out.trans hb2)
  clear hb2
  have kS := Lib.hid fun (W : World) (hW : Below w2.heap.size w2 W) => (show Calls Tryz.prog 24 #[.pointer (some ⟨G, 0, none⟩), .int .i64 (q : Int), .int .i64 (o : Int)] W (fun e w' => e = .returned (.tuple #[]) ∧ StP w0 G b off cp ts w' (exO D o (wrO ([32, 101, 108, 115, 101, 32]) (exO C o (wrO ([32, 116, 104, 101, 110, 32]) (exO A o (wrO ([105, 102, 32]) R)))))) (((m + (3) + (6) + (A.sz * 150 - 50) + (C.sz * 150 - 50)) + (6)) + (D.sz * 150 - 50)) ∧ BarP w0.heap.size G w2 w') from (kD q o W (wrO ([32, 101, 108, 115, 101, 32]) (exO C o (wrO ([32, 116, 104, 101, 110, 32]) (exO A o (wrO ([105, 102, 32]) R))))) ((m + (3) + (6) + (A.sz * 150 - 50) + (C.sz * 150 - 50)) + (6)) hD (by omega) ho (by omega) (Lib.hid (hS.out.below hW))).mono fun e w' ⟨he, h1, h2⟩ => ⟨he, h1, barP_next hW h2⟩)
  have hz := hX.out.lt
  obtain ⟨q0, q1, q2, q3, q4, q5, q6, q7, q8, q9⟩ := hX.out.cells
  dsimp only at q0 q1 q2 q3 q4 q5 q6 q7 q8 q9
  go_wp2_with fail
  first
  | (refine (kS.out _ (Below.refl _ _)).mono ?_; rintro e w3 ⟨rfl, hS, hb2⟩)
  | (go_region_with (go_at_call 24; refine (kS.out _ (by first | exact Below.refl _ _ | exact (Below.refl _ _).drew | exact ((Below.refl _ _).drew).drew)).mono ?_; rintro e w3 ⟨rfl, hS, hb2⟩))
  clear q0 q1 q2 q3 q4 q5 q6 q7 q8 q9 kS
  have hS := Lib.hid hS
  have hX := Lib.hid (hX.out.bar hb2 hGn)
  have hb := Lib.hid (hb.out.trans hb2)
  clear hb2
  have hz := hX.out.lt
  obtain ⟨q0, q1, q2, q3, q4, q5, q6, q7, q8, q9⟩ := hX.out.cells
  dsimp only at q0 q1 q2 q3 q4 q5 q6 q7 q8 q9
  go_wp2_with fail
  go_end0
  exact ⟨rfl, by rw [hEq.out]; exact hS.out.mono (hmT.out _ (by omega)), hb.out⟩
end Go.Proofs.YtidlljookjicpaaGreatDoor

/- The program's printer of a part: pr. Written by gen_she.py. -/
namespace Go.Proofs.YtidlljookjicpaaGreatDoor
open Go.RowKit
set_option linter.unusedVariables false
set_option linter.unusedSimpArgs false

theorem ndO_pr {n : Int} {A C : PT} (o : Nat) (R : Option (List UInt8)) : ndO (PT.pr n A C) o R = (opO C o (wrO (sgT n) (opO A o R))) := by
  cases R with
  | none => rfl
  | some l =>
    have hi : (PT.pr n A C).ins = max (sdD A) (sdD C) := rfl
    by_cases h0 : o + sdD A ≤ 40
    · by_cases h1 : o + sdD C ≤ 40
      · have h : o + (PT.pr n A C).ins ≤ 40 := by rw [hi]; omega
        simp [ndO, exO, opO, wrO, h, h0, h1, PT.tx]
      · have h : ¬ o + (PT.pr n A C).ins ≤ 40 := by rw [hi]; omega
        simp [ndO, exO, opO, wrO, h, h0, h1]
    · by_cases h1 : o + sdD C ≤ 40
      · have h : ¬ o + (PT.pr n A C).ins ≤ 40 := by rw [hi]; omega
        simp [ndO, exO, opO, wrO, h, h0, h1]
      · have h : ¬ o + (PT.pr n A C).ins ≤ 40 := by rw [hi]; omega
        simp [ndO, exO, opO, wrO, h, h0, h1]
set_option maxRecDepth 100000 in
set_option maxHeartbeats 8000000 in
theorem nd_pr {w0 : World} {G b off cp : Nat} {ts : List Nd} (hl : ts.length ≤ 512) {n : Int} {A C : PT} (hT : (PT.pr n A C).ok) (kA : OpP w0 G b off cp ts A) (kC : OpP w0 G b off cp ts C) : NdP w0 G b off cp ts (PT.pr n A C) := by
  intro i o w R m hA hi ho hm h
  obtain ⟨j, k, p, hq0, hq1, hg, hA, hC⟩ := hA
  rw [hg]
  dsimp only
  simp only [PT.sz] at hm
  have zA := A.sz1
  have zC := C.sz1
  have hlt := h.out.lt
  have hGn : w.heap.size ≠ G := by omega
  have hEq := Lib.hid (ndO_pr o R : ndO (PT.pr n A C) o R = _)
  have hmT : Hid (∀ v, v ≤ m + (A.sz + C.sz) * 150 + 100 → v ≤ m + ((PT.pr n A C).sz * 150 - 50)) := Lib.hid (by intro v hv; simp only [PT.sz]; omega)
  generalize ndO (PT.pr n A C) o R = R9 at hEq ⊢
  generalize m + ((PT.pr n A C).sz * 150 - 50) = m9 at hmT ⊢
  obtain ⟨n0, n5⟩ := hT.1
  have hsg := sgT_len n
  have l_j : j < ts.length := by omega
  have l_k : k < ts.length := by omega
  clear hT hg hq0 hq1
  go_enter Tryz.func45, Tryz.ntmps45
  go_wp2_with fail
  have hW0 : Below w.heap.size w (w.alloc (.cells #[.int .i64 8, .int .i64 (j : Nat), .int .i64 (k : Nat), .int .i64 0, .int .i64 n, .string ⟨#[]⟩, .string ⟨#[]⟩, .string ⟨#[]⟩, .string ⟨#[]⟩, .int .i64 p] 50)) := below_alc _ _
  have hX := bxn_lit w (⟨8, (j : Nat), (k : Nat), 0, n, ⟨#[]⟩, ⟨#[]⟩, ⟨#[]⟩, ⟨#[]⟩, p⟩ : Nd)
  dsimp only at hX
  generalize w.alloc (.cells #[.int .i64 8, .int .i64 (j : Nat), .int .i64 (k : Nat), .int .i64 0, .int .i64 n, .string ⟨#[]⟩, .string ⟨#[]⟩, .string ⟨#[]⟩, .string ⟨#[]⟩, .int .i64 p] 50) = wA at hW0 hX ⊢
  have hX := Lib.hid hX
  have hS := Lib.hid (h.out.below hW0)
  have hb := Lib.hid (show BarP w0.heap.size G w wA from Bar.of_below hW0)
  clear hW0
  have kS := Lib.hid fun (W : World) (hW : Below wA.heap.size wA W) => (show Calls Tryz.prog 70 #[.pointer (some ⟨G, 0, none⟩), .int .i64 (j : Int), .int .i64 (o : Int)] W (fun e w' => e = .returned (.tuple #[]) ∧ StP w0 G b off cp ts w' (opO A o R) (m + (A.sz * 150 - 40)) ∧ BarP w0.heap.size G wA w') from (kA j o W R m hA (by omega) ho (by omega) (Lib.hid (hS.out.below hW))).mono fun e w' ⟨he, h1, h2⟩ => ⟨he, h1, barP_next hW h2⟩)
  have hz := hX.out.lt
  obtain ⟨q0, q1, q2, q3, q4, q5, q6, q7, q8, q9⟩ := hX.out.cells
  dsimp only at q0 q1 q2 q3 q4 q5 q6 q7 q8 q9
  go_wp2_with fail
  first
  | (refine (kS.out _ (Below.refl _ _)).mono ?_; rintro e w1 ⟨rfl, hS, hb2⟩)
  | (go_region_with (go_at_call 70; refine (kS.out _ (by first | exact Below.refl _ _ | exact (Below.refl _ _).drew | exact ((Below.refl _ _).drew).drew)).mono ?_; rintro e w1 ⟨rfl, hS, hb2⟩))
  clear q0 q1 q2 q3 q4 q5 q6 q7 q8 q9 kS
  have hS := Lib.hid hS
  have hX := Lib.hid (hX.out.bar hb2 hGn)
  have hb := Lib.hid (hb.out.trans hb2)
  clear hb2
  have kS := Lib.hid fun (W : World) (hW : Below w1.heap.size w1 W) => (show Calls Tryz.prog 22 #[.pointer (some ⟨G, 0, none⟩), .string (bs (sgT n))] W (fun e w' => e = .returned (.tuple #[.int .i64 (bs (sgT n)).size, .nilIface]) ∧ StP w0 G b off cp ts w' (wrO (sgT n) (opO A o R)) ((m + (A.sz * 150 - 40)) + 4) ∧ BarP w0.heap.size G w1 w') from (stp_write (bs (sgT n)) W (Lib.hid (hS.out.below hW)) (by rw [bs_size]; omega)).mono fun e w' ⟨he, h1, h2⟩ => ⟨he, wr_cast h1 rfl (by rw [bs_size]; omega), barP_next hW h2⟩)
  have hz := hX.out.lt
  obtain ⟨q0, q1, q2, q3, q4, q5, q6, q7, q8, q9⟩ := hX.out.cells
  dsimp only at q0 q1 q2 q3 q4 q5 q6 q7 q8 q9
  go_wp2_with fail
  go_region_with (first | (go_at_call 72; refine (sgn_any n _ n0 n5).mono ?_; rintro e w22 ⟨rfl, rfl⟩) | (go_at_call 22; refine (kS.out _ (by first | exact Below.refl _ _ | exact (Below.refl _ _).drew | exact ((Below.refl _ _).drew).drew)).mono ?_; rintro e w2 ⟨rfl, hS, hb2⟩))
  clear q0 q1 q2 q3 q4 q5 q6 q7 q8 q9 kS
  have hS := Lib.hid hS
  have hX := Lib.hid (hX.out.bar hb2 hGn)
  have hb := Lib.hid (hb.out.trans hb2)
  clear hb2
  have kS := Lib.hid fun (W : World) (hW : Below w2.heap.size w2 W) => (show Calls Tryz.prog 70 #[.pointer (some ⟨G, 0, none⟩), .int .i64 (k : Int), .int .i64 (o : Int)] W (fun e w' => e = .returned (.tuple #[]) ∧ StP w0 G b off cp ts w' (opO C o (wrO (sgT n) (opO A o R))) (((m + (A.sz * 150 - 40)) + 4) + (C.sz * 150 - 40)) ∧ BarP w0.heap.size G w2 w') from (kC k o W (wrO (sgT n) (opO A o R)) ((m + (A.sz * 150 - 40)) + 4) hC (by omega) ho (by omega) (Lib.hid (hS.out.below hW))).mono fun e w' ⟨he, h1, h2⟩ => ⟨he, h1, barP_next hW h2⟩)
  have hz := hX.out.lt
  obtain ⟨q0, q1, q2, q3, q4, q5, q6, q7, q8, q9⟩ := hX.out.cells
  dsimp only at q0 q1 q2 q3 q4 q5 q6 q7 q8 q9
  go_wp2_with fail
  first
  | (refine (kS.out _ (Below.refl _ _)).mono ?_; rintro e w3 ⟨rfl, hS, hb2⟩)
  | (go_region_with (go_at_call 70; refine (kS.out _ (by first | exact Below.refl _ _ | exact (Below.refl _ _).drew | exact ((Below.refl _ _).drew).drew)).mono ?_; rintro e w3 ⟨rfl, hS, hb2⟩))
  clear q0 q1 q2 q3 q4 q5 q6 q7 q8 q9 kS
  have hS := Lib.hid hS
  have hX := Lib.hid (hX.out.bar hb2 hGn)
  have hb := Lib.hid (hb.out.trans hb2)
  clear hb2
  have hz := hX.out.lt
  obtain ⟨q0, q1, q2, q3, q4, q5, q6, q7, q8, q9⟩ := hX.out.cells
  dsimp only at q0 q1 q2 q3 q4 q5 q6 q7 q8 q9
  go_wp2_with fail
  go_end0
  exact ⟨rfl, by rw [hEq.out]; exact hS.out.mono (hmT.out _ (by omega)), hb.out⟩
end Go.Proofs.YtidlljookjicpaaGreatDoor

/- The program's printer of a part: ac. Written by gen_she.py. -/
namespace Go.Proofs.YtidlljookjicpaaGreatDoor
open Go.RowKit
set_option linter.unusedVariables false
set_option linter.unusedSimpArgs false

theorem ndO_ac {nm : ByteArray} {A : PT} (o : Nat) (R : Option (List UInt8)) : ndO (PT.ac nm A) o R = (opO A o (wrO ([100, 111, 32] ++ nm.data.toList ++ [32]) R)) := by
  cases R with
  | none => rfl
  | some l =>
    have hi : (PT.ac nm A).ins = sdD A := rfl
    by_cases h0 : o + sdD A ≤ 40
    · have h : o + (PT.ac nm A).ins ≤ 40 := by rw [hi]; omega
      simp [ndO, exO, opO, wrO, h, h0, PT.tx]
    · have h : ¬ o + (PT.ac nm A).ins ≤ 40 := by rw [hi]; omega
      simp [ndO, exO, opO, wrO, h, h0]
set_option maxRecDepth 100000 in
set_option maxHeartbeats 8000000 in
theorem nd_ac {w0 : World} {G b off cp : Nat} {ts : List Nd} (hl : ts.length ≤ 512) {nm : ByteArray} {A : PT} (hT : (PT.ac nm A).ok) (kA : OpP w0 G b off cp ts A) : NdP w0 G b off cp ts (PT.ac nm A) := by
  intro i o w R m hA hi ho hm h
  obtain ⟨j, p, hq0, hg, hA⟩ := hA
  rw [hg]
  dsimp only
  simp only [PT.sz] at hm
  have zA := A.sz1
  have z_nm := sz_nm hT.1
  have hlt := h.out.lt
  have hGn : w.heap.size ≠ G := by omega
  have hEq := Lib.hid (ndO_ac o R : ndO (PT.ac nm A) o R = _)
  have hmT : Hid (∀ v, v ≤ m + (A.sz) * 150 + 100 → v ≤ m + ((PT.ac nm A).sz * 150 - 50)) := Lib.hid (by intro v hv; simp only [PT.sz]; omega)
  generalize ndO (PT.ac nm A) o R = R9 at hEq ⊢
  generalize m + ((PT.ac nm A).sz * 150 - 50) = m9 at hmT ⊢
  have l_j : j < ts.length := by omega
  clear hT hg hq0
  go_enter Tryz.func45, Tryz.ntmps45
  go_wp2_with fail
  have hW0 : Below w.heap.size w (w.alloc (.cells #[.int .i64 9, .int .i64 (j : Nat), .int .i64 0, .int .i64 0, .int .i64 0, .string nm, .string ⟨#[]⟩, .string ⟨#[]⟩, .string ⟨#[]⟩, .int .i64 p] 50)) := below_alc _ _
  have hX := bxn_lit w (⟨9, (j : Nat), 0, 0, 0, nm, ⟨#[]⟩, ⟨#[]⟩, ⟨#[]⟩, p⟩ : Nd)
  dsimp only at hX
  generalize w.alloc (.cells #[.int .i64 9, .int .i64 (j : Nat), .int .i64 0, .int .i64 0, .int .i64 0, .string nm, .string ⟨#[]⟩, .string ⟨#[]⟩, .string ⟨#[]⟩, .int .i64 p] 50) = wA at hW0 hX ⊢
  have hX := Lib.hid hX
  have hS := Lib.hid (h.out.below hW0)
  have hb := Lib.hid (show BarP w0.heap.size G w wA from Bar.of_below hW0)
  clear hW0
  have kS := Lib.hid fun (W : World) (hW : Below wA.heap.size wA W) => (show Calls Tryz.prog 22 #[.pointer (some ⟨G, 0, none⟩), .string ((((⟨#[100, 111, 32]⟩ : ByteArray) ++ nm) ++ (⟨#[32]⟩ : ByteArray)))] W (fun e w' => e = .returned (.tuple #[.int .i64 ((((⟨#[100, 111, 32]⟩ : ByteArray) ++ nm) ++ (⟨#[32]⟩ : ByteArray))).size, .nilIface]) ∧ StP w0 G b off cp ts w' (wrO ([100, 111, 32] ++ nm.data.toList ++ [32]) R) (m + (3 + nm.size + 1)) ∧ BarP w0.heap.size G wA w') from (stp_write ((((⟨#[100, 111, 32]⟩ : ByteArray) ++ nm) ++ (⟨#[32]⟩ : ByteArray))) W (Lib.hid (hS.out.below hW)) (by first | omega | (simp only [ByteArray.size_append, (show (⟨#[100, 111, 32]⟩ : ByteArray).size = 3 from rfl), (show (⟨#[32]⟩ : ByteArray).size = 1 from rfl)]; omega))).mono fun e w' ⟨he, h1, h2⟩ => ⟨he, wr_cast h1 (by first | rfl | simp) (by first | omega | (simp only [ByteArray.size_append, (show (⟨#[100, 111, 32]⟩ : ByteArray).size = 3 from rfl), (show (⟨#[32]⟩ : ByteArray).size = 1 from rfl)]; omega)), barP_next hW h2⟩)
  have hz := hX.out.lt
  obtain ⟨q0, q1, q2, q3, q4, q5, q6, q7, q8, q9⟩ := hX.out.cells
  dsimp only at q0 q1 q2 q3 q4 q5 q6 q7 q8 q9
  go_wp2_with fail
  first
  | (refine (kS.out _ (Below.refl _ _)).mono ?_; rintro e w1 ⟨rfl, hS, hb2⟩)
  | (go_region_with (go_at_call 22; refine (kS.out _ (by first | exact Below.refl _ _ | exact (Below.refl _ _).drew | exact ((Below.refl _ _).drew).drew)).mono ?_; rintro e w1 ⟨rfl, hS, hb2⟩))
  clear q0 q1 q2 q3 q4 q5 q6 q7 q8 q9 kS
  have hS := Lib.hid hS
  have hX := Lib.hid (hX.out.bar hb2 hGn)
  have hb := Lib.hid (hb.out.trans hb2)
  clear hb2
  have kS := Lib.hid fun (W : World) (hW : Below w1.heap.size w1 W) => (show Calls Tryz.prog 70 #[.pointer (some ⟨G, 0, none⟩), .int .i64 (j : Int), .int .i64 (o : Int)] W (fun e w' => e = .returned (.tuple #[]) ∧ StP w0 G b off cp ts w' (opO A o (wrO ([100, 111, 32] ++ nm.data.toList ++ [32]) R)) ((m + (3 + nm.size + 1)) + (A.sz * 150 - 40)) ∧ BarP w0.heap.size G w1 w') from (kA j o W (wrO ([100, 111, 32] ++ nm.data.toList ++ [32]) R) (m + (3 + nm.size + 1)) hA (by omega) ho (by omega) (Lib.hid (hS.out.below hW))).mono fun e w' ⟨he, h1, h2⟩ => ⟨he, h1, barP_next hW h2⟩)
  have hz := hX.out.lt
  obtain ⟨q0, q1, q2, q3, q4, q5, q6, q7, q8, q9⟩ := hX.out.cells
  dsimp only at q0 q1 q2 q3 q4 q5 q6 q7 q8 q9
  go_wp2_with fail
  first
  | (refine (kS.out _ (Below.refl _ _)).mono ?_; rintro e w2 ⟨rfl, hS, hb2⟩)
  | (go_region_with (go_at_call 70; refine (kS.out _ (by first | exact Below.refl _ _ | exact (Below.refl _ _).drew | exact ((Below.refl _ _).drew).drew)).mono ?_; rintro e w2 ⟨rfl, hS, hb2⟩))
  clear q0 q1 q2 q3 q4 q5 q6 q7 q8 q9 kS
  have hS := Lib.hid hS
  have hX := Lib.hid (hX.out.bar hb2 hGn)
  have hb := Lib.hid (hb.out.trans hb2)
  clear hb2
  have hz := hX.out.lt
  obtain ⟨q0, q1, q2, q3, q4, q5, q6, q7, q8, q9⟩ := hX.out.cells
  dsimp only at q0 q1 q2 q3 q4 q5 q6 q7 q8 q9
  go_wp2_with fail
  go_end0
  exact ⟨rfl, by rw [hEq.out]; exact hS.out.mono (hmT.out _ (by omega)), hb.out⟩
end Go.Proofs.YtidlljookjicpaaGreatDoor

/- The program's printer of a part: hn. Written by gen_she.py. -/
namespace Go.Proofs.YtidlljookjicpaaGreatDoor
open Go.RowKit
set_option linter.unusedVariables false
set_option linter.unusedSimpArgs false

theorem ndO_hn {nm x y z : ByteArray} {A C D : PT} (o : Nat) (R : Option (List UInt8)) : ndO (PT.hn nm x y z A C D) o R = (wrO ([32, 101, 110, 100]) (exO D o (wrO ([32, 114, 101, 116, 117, 114, 110, 32] ++ z.data.toList ++ [32, 45, 62, 32]) (exO C o (wrO ([32, 119, 105, 116, 104, 32] ++ nm.data.toList ++ [32] ++ x.data.toList ++ [32] ++ y.data.toList ++ [32, 45, 62, 32]) (exO A o (wrO ([104, 97, 110, 100, 108, 101, 32]) R))))))) := by
  cases R with
  | none => rfl
  | some l =>
    have hi : (PT.hn nm x y z A C D).ins = max (max ((A.ins + 1)) ((C.ins + 1))) ((D.ins + 1)) := rfl
    by_cases h0 : o + A.ins + 1 ≤ 40
    · by_cases h1 : o + C.ins + 1 ≤ 40
      · by_cases h2 : o + D.ins + 1 ≤ 40
        · have h : o + (PT.hn nm x y z A C D).ins ≤ 40 := by rw [hi]; omega
          simp [ndO, exO, opO, wrO, h, h0, h1, h2, PT.tx]
        · have h : ¬ o + (PT.hn nm x y z A C D).ins ≤ 40 := by rw [hi]; omega
          simp [ndO, exO, opO, wrO, h, h0, h1, h2]
      · by_cases h2 : o + D.ins + 1 ≤ 40
        · have h : ¬ o + (PT.hn nm x y z A C D).ins ≤ 40 := by rw [hi]; omega
          simp [ndO, exO, opO, wrO, h, h0, h1, h2]
        · have h : ¬ o + (PT.hn nm x y z A C D).ins ≤ 40 := by rw [hi]; omega
          simp [ndO, exO, opO, wrO, h, h0, h1, h2]
    · by_cases h1 : o + C.ins + 1 ≤ 40
      · by_cases h2 : o + D.ins + 1 ≤ 40
        · have h : ¬ o + (PT.hn nm x y z A C D).ins ≤ 40 := by rw [hi]; omega
          simp [ndO, exO, opO, wrO, h, h0, h1, h2]
        · have h : ¬ o + (PT.hn nm x y z A C D).ins ≤ 40 := by rw [hi]; omega
          simp [ndO, exO, opO, wrO, h, h0, h1, h2]
      · by_cases h2 : o + D.ins + 1 ≤ 40
        · have h : ¬ o + (PT.hn nm x y z A C D).ins ≤ 40 := by rw [hi]; omega
          simp [ndO, exO, opO, wrO, h, h0, h1, h2]
        · have h : ¬ o + (PT.hn nm x y z A C D).ins ≤ 40 := by rw [hi]; omega
          simp [ndO, exO, opO, wrO, h, h0, h1, h2]
set_option maxRecDepth 100000 in
set_option maxHeartbeats 8000000 in
theorem nd_hn {w0 : World} {G b off cp : Nat} {ts : List Nd} (hl : ts.length ≤ 512) {nm x y z : ByteArray} {A C D : PT} (hT : (PT.hn nm x y z A C D).ok) (kA : ExP w0 G b off cp ts A) (kC : ExP w0 G b off cp ts C) (kD : ExP w0 G b off cp ts D) : NdP w0 G b off cp ts (PT.hn nm x y z A C D) := by
  intro i o w R m hA hi ho hm h
  obtain ⟨j, k, q, p, hq0, hq1, hq2, hg, hA, hC, hD⟩ := hA
  rw [hg]
  dsimp only
  simp only [PT.sz] at hm
  have zA := A.sz1
  have zC := C.sz1
  have zD := D.sz1
  have z_nm := sz_nm hT.1.1
  have z_x := sz_nm hT.1.2.1
  have z_y := sz_nm hT.1.2.2.1
  have z_z := sz_nm hT.1.2.2.2
  have hlt := h.out.lt
  have hGn : w.heap.size ≠ G := by omega
  have hEq := Lib.hid (ndO_hn o R : ndO (PT.hn nm x y z A C D) o R = _)
  have hmT : Hid (∀ v, v ≤ m + (A.sz + C.sz + D.sz) * 150 + 100 → v ≤ m + ((PT.hn nm x y z A C D).sz * 150 - 50)) := Lib.hid (by intro v hv; simp only [PT.sz]; omega)
  generalize ndO (PT.hn nm x y z A C D) o R = R9 at hEq ⊢
  generalize m + ((PT.hn nm x y z A C D).sz * 150 - 50) = m9 at hmT ⊢
  have l_j : j < ts.length := by omega
  have l_k : k < ts.length := by omega
  have l_q : q < ts.length := by omega
  clear hT hg hq0 hq1 hq2
  go_enter Tryz.func45, Tryz.ntmps45
  go_wp2_with fail
  have hW0 : Below w.heap.size w (w.alloc (.cells #[.int .i64 10, .int .i64 (j : Nat), .int .i64 (k : Nat), .int .i64 (q : Nat), .int .i64 0, .string nm, .string x, .string y, .string z, .int .i64 p] 50)) := below_alc _ _
  have hX := bxn_lit w (⟨10, (j : Nat), (k : Nat), (q : Nat), 0, nm, x, y, z, p⟩ : Nd)
  dsimp only at hX
  generalize w.alloc (.cells #[.int .i64 10, .int .i64 (j : Nat), .int .i64 (k : Nat), .int .i64 (q : Nat), .int .i64 0, .string nm, .string x, .string y, .string z, .int .i64 p] 50) = wA at hW0 hX ⊢
  have hX := Lib.hid hX
  have hS := Lib.hid (h.out.below hW0)
  have hb := Lib.hid (show BarP w0.heap.size G w wA from Bar.of_below hW0)
  clear hW0
  have kS := Lib.hid fun (W : World) (hW : Below wA.heap.size wA W) => (show Calls Tryz.prog 71 #[.pointer (some ⟨G, 0, none⟩), .int .i64 (o : Int), .string ((⟨#[104, 97, 110, 100, 108, 101, 32]⟩ : ByteArray)), .int .i64 (j : Int), .string ((((((((⟨#[32, 119, 105, 116, 104, 32]⟩ : ByteArray) ++ nm) ++ (⟨#[32]⟩ : ByteArray)) ++ x) ++ (⟨#[32]⟩ : ByteArray)) ++ y) ++ (⟨#[32, 45, 62, 32]⟩ : ByteArray))), .int .i64 (k : Int)] W (fun e w' => e = .returned (.tuple #[]) ∧ StP w0 G b off cp ts w' (exO C o (wrO ([32, 119, 105, 116, 104, 32] ++ nm.data.toList ++ [32] ++ x.data.toList ++ [32] ++ y.data.toList ++ [32, 45, 62, 32]) (exO A o (wrO ([104, 97, 110, 100, 108, 101, 32]) R)))) (m + (7) + (6 + nm.size + 1 + x.size + 1 + y.size + 4) + (A.sz * 150 - 50) + (C.sz * 150 - 50)) ∧ BarP w0.heap.size G wA w') from (exprs_of kA kC j k o ((⟨#[104, 97, 110, 100, 108, 101, 32]⟩ : ByteArray)) ((((((((⟨#[32, 119, 105, 116, 104, 32]⟩ : ByteArray) ++ nm) ++ (⟨#[32]⟩ : ByteArray)) ++ x) ++ (⟨#[32]⟩ : ByteArray)) ++ y) ++ (⟨#[32, 45, 62, 32]⟩ : ByteArray))) W R m hA hC (by omega) (by omega) ho (by first | omega | (simp only [ByteArray.size_append, (show (⟨#[104, 97, 110, 100, 108, 101, 32]⟩ : ByteArray).size = 7 from rfl), (show (⟨#[32, 119, 105, 116, 104, 32]⟩ : ByteArray).size = 6 from rfl), (show (⟨#[32]⟩ : ByteArray).size = 1 from rfl), (show (⟨#[32, 45, 62, 32]⟩ : ByteArray).size = 4 from rfl)]; omega)) (Lib.hid (hS.out.below hW))).mono fun e w' ⟨he, h1, h2⟩ => ⟨he, ex_cast h1 (by first | rfl | simp) (by first | rfl | simp) (by first | omega | (simp only [ByteArray.size_append, (show (⟨#[104, 97, 110, 100, 108, 101, 32]⟩ : ByteArray).size = 7 from rfl), (show (⟨#[32, 119, 105, 116, 104, 32]⟩ : ByteArray).size = 6 from rfl), (show (⟨#[32]⟩ : ByteArray).size = 1 from rfl), (show (⟨#[32, 45, 62, 32]⟩ : ByteArray).size = 4 from rfl)]; omega)), barP_next hW h2⟩)
  have hz := hX.out.lt
  obtain ⟨q0, q1, q2, q3, q4, q5, q6, q7, q8, q9⟩ := hX.out.cells
  dsimp only at q0 q1 q2 q3 q4 q5 q6 q7 q8 q9
  go_wp2_with fail
  first
  | (refine (kS.out _ (Below.refl _ _)).mono ?_; rintro e w1 ⟨rfl, hS, hb2⟩)
  | (go_region_with (go_at_call 71; refine (kS.out _ (by first | exact Below.refl _ _ | exact (Below.refl _ _).drew | exact ((Below.refl _ _).drew).drew)).mono ?_; rintro e w1 ⟨rfl, hS, hb2⟩))
  clear q0 q1 q2 q3 q4 q5 q6 q7 q8 q9 kS
  have hS := Lib.hid hS
  have hX := Lib.hid (hX.out.bar hb2 hGn)
  have hb := Lib.hid (hb.out.trans hb2)
  clear hb2
  have kS := Lib.hid fun (W : World) (hW : Below w1.heap.size w1 W) => (show Calls Tryz.prog 22 #[.pointer (some ⟨G, 0, none⟩), .string ((((⟨#[32, 114, 101, 116, 117, 114, 110, 32]⟩ : ByteArray) ++ z) ++ (⟨#[32, 45, 62, 32]⟩ : ByteArray)))] W (fun e w' => e = .returned (.tuple #[.int .i64 ((((⟨#[32, 114, 101, 116, 117, 114, 110, 32]⟩ : ByteArray) ++ z) ++ (⟨#[32, 45, 62, 32]⟩ : ByteArray))).size, .nilIface]) ∧ StP w0 G b off cp ts w' (wrO ([32, 114, 101, 116, 117, 114, 110, 32] ++ z.data.toList ++ [32, 45, 62, 32]) (exO C o (wrO ([32, 119, 105, 116, 104, 32] ++ nm.data.toList ++ [32] ++ x.data.toList ++ [32] ++ y.data.toList ++ [32, 45, 62, 32]) (exO A o (wrO ([104, 97, 110, 100, 108, 101, 32]) R))))) ((m + (7) + (6 + nm.size + 1 + x.size + 1 + y.size + 4) + (A.sz * 150 - 50) + (C.sz * 150 - 50)) + (8 + z.size + 4)) ∧ BarP w0.heap.size G w1 w') from (stp_write ((((⟨#[32, 114, 101, 116, 117, 114, 110, 32]⟩ : ByteArray) ++ z) ++ (⟨#[32, 45, 62, 32]⟩ : ByteArray))) W (Lib.hid (hS.out.below hW)) (by first | omega | (simp only [ByteArray.size_append, (show (⟨#[32, 114, 101, 116, 117, 114, 110, 32]⟩ : ByteArray).size = 8 from rfl), (show (⟨#[32, 45, 62, 32]⟩ : ByteArray).size = 4 from rfl)]; omega))).mono fun e w' ⟨he, h1, h2⟩ => ⟨he, wr_cast h1 (by first | rfl | simp) (by first | omega | (simp only [ByteArray.size_append, (show (⟨#[32, 114, 101, 116, 117, 114, 110, 32]⟩ : ByteArray).size = 8 from rfl), (show (⟨#[32, 45, 62, 32]⟩ : ByteArray).size = 4 from rfl)]; omega)), barP_next hW h2⟩)
  have hz := hX.out.lt
  obtain ⟨q0, q1, q2, q3, q4, q5, q6, q7, q8, q9⟩ := hX.out.cells
  dsimp only at q0 q1 q2 q3 q4 q5 q6 q7 q8 q9
  go_wp2_with fail
  first
  | (refine (kS.out _ (Below.refl _ _)).mono ?_; rintro e w2 ⟨rfl, hS, hb2⟩)
  | (go_region_with (go_at_call 22; refine (kS.out _ (by first | exact Below.refl _ _ | exact (Below.refl _ _).drew | exact ((Below.refl _ _).drew).drew)).mono ?_; rintro e w2 ⟨rfl, hS, hb2⟩))
  clear q0 q1 q2 q3 q4 q5 q6 q7 q8 q9 kS
  have hS := Lib.hid hS
  have hX := Lib.hid (hX.out.bar hb2 hGn)
  have hb := Lib.hid (hb.out.trans hb2)
  clear hb2
  have kS := Lib.hid fun (W : World) (hW : Below w2.heap.size w2 W) => (show Calls Tryz.prog 24 #[.pointer (some ⟨G, 0, none⟩), .int .i64 (q : Int), .int .i64 (o : Int)] W (fun e w' => e = .returned (.tuple #[]) ∧ StP w0 G b off cp ts w' (exO D o (wrO ([32, 114, 101, 116, 117, 114, 110, 32] ++ z.data.toList ++ [32, 45, 62, 32]) (exO C o (wrO ([32, 119, 105, 116, 104, 32] ++ nm.data.toList ++ [32] ++ x.data.toList ++ [32] ++ y.data.toList ++ [32, 45, 62, 32]) (exO A o (wrO ([104, 97, 110, 100, 108, 101, 32]) R)))))) (((m + (7) + (6 + nm.size + 1 + x.size + 1 + y.size + 4) + (A.sz * 150 - 50) + (C.sz * 150 - 50)) + (8 + z.size + 4)) + (D.sz * 150 - 50)) ∧ BarP w0.heap.size G w2 w') from (kD q o W (wrO ([32, 114, 101, 116, 117, 114, 110, 32] ++ z.data.toList ++ [32, 45, 62, 32]) (exO C o (wrO ([32, 119, 105, 116, 104, 32] ++ nm.data.toList ++ [32] ++ x.data.toList ++ [32] ++ y.data.toList ++ [32, 45, 62, 32]) (exO A o (wrO ([104, 97, 110, 100, 108, 101, 32]) R))))) ((m + (7) + (6 + nm.size + 1 + x.size + 1 + y.size + 4) + (A.sz * 150 - 50) + (C.sz * 150 - 50)) + (8 + z.size + 4)) hD (by omega) ho (by omega) (Lib.hid (hS.out.below hW))).mono fun e w' ⟨he, h1, h2⟩ => ⟨he, h1, barP_next hW h2⟩)
  have hz := hX.out.lt
  obtain ⟨q0, q1, q2, q3, q4, q5, q6, q7, q8, q9⟩ := hX.out.cells
  dsimp only at q0 q1 q2 q3 q4 q5 q6 q7 q8 q9
  go_wp2_with fail
  first
  | (refine (kS.out _ (Below.refl _ _)).mono ?_; rintro e w3 ⟨rfl, hS, hb2⟩)
  | (go_region_with (go_at_call 24; refine (kS.out _ (by first | exact Below.refl _ _ | exact (Below.refl _ _).drew | exact ((Below.refl _ _).drew).drew)).mono ?_; rintro e w3 ⟨rfl, hS, hb2⟩))
  clear q0 q1 q2 q3 q4 q5 q6 q7 q8 q9 kS
  have hS := Lib.hid hS
  have hX := Lib.hid (hX.out.bar hb2 hGn)
  have hb := Lib.hid (hb.out.trans hb2)
  clear hb2
  have kS := Lib.hid fun (W : World) (hW : Below w3.heap.size w3 W) => (show Calls Tryz.prog 22 #[.pointer (some ⟨G, 0, none⟩), .string ((⟨#[32, 101, 110, 100]⟩ : ByteArray))] W (fun e w' => e = .returned (.tuple #[.int .i64 ((⟨#[32, 101, 110, 100]⟩ : ByteArray)).size, .nilIface]) ∧ StP w0 G b off cp ts w' (wrO ([32, 101, 110, 100]) (exO D o (wrO ([32, 114, 101, 116, 117, 114, 110, 32] ++ z.data.toList ++ [32, 45, 62, 32]) (exO C o (wrO ([32, 119, 105, 116, 104, 32] ++ nm.data.toList ++ [32] ++ x.data.toList ++ [32] ++ y.data.toList ++ [32, 45, 62, 32]) (exO A o (wrO ([104, 97, 110, 100, 108, 101, 32]) R))))))) ((((m + (7) + (6 + nm.size + 1 + x.size + 1 + y.size + 4) + (A.sz * 150 - 50) + (C.sz * 150 - 50)) + (8 + z.size + 4)) + (D.sz * 150 - 50)) + (4)) ∧ BarP w0.heap.size G w3 w') from (stp_write ((⟨#[32, 101, 110, 100]⟩ : ByteArray)) W (Lib.hid (hS.out.below hW)) (by first | omega | (simp only [ByteArray.size_append, (show (⟨#[32, 101, 110, 100]⟩ : ByteArray).size = 4 from rfl)]; omega))).mono fun e w' ⟨he, h1, h2⟩ => ⟨he, wr_cast h1 (by first | rfl | simp) (by first | omega | (simp only [ByteArray.size_append, (show (⟨#[32, 101, 110, 100]⟩ : ByteArray).size = 4 from rfl)]; omega)), barP_next hW h2⟩)
  have hz := hX.out.lt
  obtain ⟨q0, q1, q2, q3, q4, q5, q6, q7, q8, q9⟩ := hX.out.cells
  dsimp only at q0 q1 q2 q3 q4 q5 q6 q7 q8 q9
  go_wp2_with fail
  first
  | (refine (kS.out _ (Below.refl _ _)).mono ?_; rintro e w4 ⟨rfl, hS, hb2⟩)
  | (go_region_with (go_at_call 22; refine (kS.out _ (by first | exact Below.refl _ _ | exact (Below.refl _ _).drew | exact ((Below.refl _ _).drew).drew)).mono ?_; rintro e w4 ⟨rfl, hS, hb2⟩))
  clear q0 q1 q2 q3 q4 q5 q6 q7 q8 q9 kS
  have hS := Lib.hid hS
  have hX := Lib.hid (hX.out.bar hb2 hGn)
  have hb := Lib.hid (hb.out.trans hb2)
  clear hb2
  have hz := hX.out.lt
  obtain ⟨q0, q1, q2, q3, q4, q5, q6, q7, q8, q9⟩ := hX.out.cells
  dsimp only at q0 q1 q2 q3 q4 q5 q6 q7 q8 q9
  go_wp2_with fail
  go_end0
  exact ⟨rfl, by rw [hEq.out]; exact hS.out.mono (hmT.out _ (by omega)), hb.out⟩
end Go.Proofs.YtidlljookjicpaaGreatDoor
