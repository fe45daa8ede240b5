/- The program's printer of a part. Written by gen_she.py. -/
import Derived.Test.YtidlljookjicpaaGreatDoorPwS
import Derived.Test.YtidlljookjicpaaGreatDoorPwB
import Derived.Test.YtidlljookjicpaaGreatDoorTbw
import Derived.Deep.RegionWith
namespace Go.Proofs.YtidlljookjicpaaGreatDoor
open Go.RowKit
set_option linter.unusedVariables false
set_option linter.unusedSimpArgs false

def NdP (w0 : World) (G b off cp : Nat) (ts : List Nd) (T : PT) : Prop := ∀ (i o : Nat) (w : World) (R : Option (List UInt8)) (m : Nat), T.At ts i → i < ts.length → o ≤ 40 → m + T.sz * 150 ≤ 1000000 → Hid (StP w0 G b off cp ts w R m) →
  Calls Tryz.prog 45 #[.pointer (some ⟨G, 0, none⟩), .agg #[.int .i64 (ts.getD i nd0).k, .int .i64 (ts.getD i nd0).a, .int .i64 (ts.getD i nd0).b, .int .i64 (ts.getD i nd0).c, .int .i64 (ts.getD i nd0).n, .string (ts.getD i nd0).nm, .string (ts.getD i nd0).x, .string (ts.getD i nd0).y, .string (ts.getD i nd0).z, .int .i64 (ts.getD i nd0).p], .int .i64 (o : Int)] w fun e w' => e = .returned (.tuple #[]) ∧ StP w0 G b off cp ts w' (ndO T o R) (m + (T.sz * 150 - 50)) ∧ BarP w0.heap.size G w w'
def ExP (w0 : World) (G b off cp : Nat) (ts : List Nd) (T : PT) : Prop := ∀ (i o : Nat) (w : World) (R : Option (List UInt8)) (m : Nat), T.At ts i → i < ts.length → o ≤ 40 → m + T.sz * 150 ≤ 1000000 → Hid (StP w0 G b off cp ts w R m) →
  Calls Tryz.prog 24 #[.pointer (some ⟨G, 0, none⟩), .int .i64 (i : Int), .int .i64 (o : Int)] w fun e w' => e = .returned (.tuple #[]) ∧ StP w0 G b off cp ts w' (exO T o R) (m + (T.sz * 150 - 50)) ∧ BarP w0.heap.size G w w'
def OpP (w0 : World) (G b off cp : Nat) (ts : List Nd) (T : PT) : Prop := ∀ (i o : Nat) (w : World) (R : Option (List UInt8)) (m : Nat), T.At ts i → i < ts.length → o ≤ 40 → m + 10 + T.sz * 150 ≤ 1000000 → Hid (StP w0 G b off cp ts w R m) →
  Calls Tryz.prog 70 #[.pointer (some ⟨G, 0, none⟩), .int .i64 (i : Int), .int .i64 (o : Int)] w fun e w' => e = .returned (.tuple #[]) ∧ StP w0 G b off cp ts w' (opO T o R) (m + (T.sz * 150 - 40)) ∧ BarP w0.heap.size G w w'
theorem exO_40 (T : PT) (R : Option (List UInt8)) : exO T 40 R = none := by
  cases R with
  | none => rfl
  | some l => show (if 40 + T.ins + 1 ≤ 40 then some (l ++ T.tx) else none) = none; rw [if_neg (by omega)]
theorem exO_lt (T : PT) (o : Nat) (R : Option (List UInt8)) : exO T o R = ndO T (o + 1) R := by
  cases R with
  | none => rfl
  | some l =>
    show (if o + T.ins + 1 ≤ 40 then some (l ++ T.tx) else none) = (if o + 1 + T.ins ≤ 40 then some (l ++ T.tx) else none)
    rw [show o + T.ins + 1 = o + 1 + T.ins by omega]
theorem opO_atm {T : PT} (h : T.atm = true) (o : Nat) (R : Option (List UInt8)) : opO T o R = ndO T o R := by
  unfold opO ndO sdD brS; rw [h]; rfl
theorem opO_bra {T : PT} (h : T.atm = false) (o : Nat) (R : Option (List UInt8)) : opO T o R = wrO [41] (exO T o (wrO [40] R)) := by
  unfold opO exO sdD brS wrO; rw [h]
  cases R with
  | none => rfl
  | some l =>
    show (if o + (T.ins + 1) ≤ 40 then some (l ++ (40 :: (T.tx ++ [41]))) else none) = Option.map (· ++ [41]) (if o + T.ins + 1 ≤ 40 then some (l ++ [40] ++ T.tx) else none)
    by_cases h : o + T.ins + 1 ≤ 40
    · rw [if_pos h, if_pos (by omega)]; simp
    · rw [if_neg h, if_neg (by omega)]; rfl
set_option maxRecDepth 100000 in
set_option maxHeartbeats 2000000 in
theorem ex_of {w0 : World} {G b off cp : Nat} {ts : List Nd} (hl : ts.length ≤ 512) (hn0 : Hid (NdSl w0 b off ts)) (hb0 : b < w0.heap.size) {T : PT} (hN : NdP w0 G b off cp ts T) : ExP w0 G b off cp ts T := by
  intro i o w R m hA hi ho hm h
  have hsz := hA.sz
  have hlt := h.out.lt
  have kN := Lib.hid fun (W : World) (hW : Hid (StP w0 G b off cp ts W R m)) (h1 : o + 1 ≤ 40) => hN i (o + 1) W R m hA hi h1 (by omega) hW
  obtain ⟨hB, l, td, h1, h2, h3⟩ := h.out
  obtain ⟨c0, c1, c2, c3, c4⟩ := h1.cells
  have hz := c4 3
  have hd := Lib.hid (h1.deep (.bool true))
  have h1 := Lib.hid h1
  obtain ⟨e0, e1, e2, e3, e4, e5, e6, e7, e8, e9⟩ := hn0.out.below hB hb0 i hi
  have hX := exO_lt T o R
  have h40 := exO_40 T R
  generalize exO T o R = R1 at hX ⊢
  generalize ts.getD i nd0 = t at kN e0 e1 e2 e3 e4 e5 e6 e7 e8 e9
  have hii : (i : Int) < (ts.length : Int) := by omega
  have hi0 : (0 : Int) ≤ (i : Int) := by omega
  have hB' := Lib.hid hB
  have hX := Lib.hid hX
  clear hA c4 hN hB
  by_cases ho40 : o = 40
  · subst ho40
    have hR : Hid (R1 = none) := Lib.hid (hX.out.trans ((exO_lt T 40 R).symm.trans h40))
    clear h40 kN e0 e1 e2 e3 e4 e5 e6 e7 e8 e9
    go_enter Tryz.func24, Tryz.ntmps24
    go_wp2_with fail
    go_end0
    exact ⟨rfl, ⟨hB'.out.setCell hlt.2.1 _, l, true, hd.out, by omega, .inr ⟨hR.out, rfl⟩⟩, Bar.set _ _ ⟨hlt.2.1, .inl rfl⟩⟩
  · have hoi : (o : Int) ≠ 40 := by omega
    have ho1 : o + 1 ≤ 40 := by omega
    clear h40
    rcases h3 with ⟨hR, rfl⟩ | ⟨hR, rfl⟩
    · have hR := Lib.hid hR
      go_enter Tryz.func24, Tryz.ntmps24
      go_wp2_with fail
      refine (kN.out _ h ho1).mono ?_
      rintro e w1 ⟨rfl, hS, hb⟩
      have hS := Lib.hid hS
      have hb := Lib.hid hb
      go_wp2_with fail
      go_end0
      exact ⟨rfl, by rw [hX.out]; exact hS.out, hb.out⟩
    · have hR := Lib.hid hR
      go_enter Tryz.func24, Tryz.ntmps24
      go_wp2_with fail
      go_end0
      refine ⟨rfl, ⟨hB'.out, l, true, h1.out, by omega, .inr ⟨?_, rfl⟩⟩, Bar.refl _ _⟩
      rw [hX.out, hR.out]; rfl
set_option maxRecDepth 100000 in
set_option maxHeartbeats 2000000 in
theorem op_of {w0 : World} {G b off cp : Nat} {ts : List Nd} (hl : ts.length ≤ 512) (hn0 : Hid (NdSl w0 b off ts)) (hb0 : b < w0.heap.size) {T : PT} (hN : NdP w0 G b off cp ts T) (hE : ExP w0 G b off cp ts T) : OpP w0 G b off cp ts T := by
  intro i o w R m hA hi ho hm h
  have hsz := hA.sz
  have hs1 := T.sz1
  have hlt := h.out.lt
  have hk := hA.k
  have kN := Lib.hid fun (W : World) (hW : Hid (StP w0 G b off cp ts W R m)) => hN i o W R m hA hi ho (by omega) hW
  have kE := Lib.hid fun (W : World) (R' : Option (List UInt8)) (hW : Hid (StP w0 G b off cp ts W R' (m + 1))) => hE i o W R' (m + 1) hA hi ho (by omega) hW
  obtain ⟨hB, l, td, h1, h2, h3⟩ := h.out
  obtain ⟨c0, c1, c2, c3, c4⟩ := h1.cells
  obtain ⟨e0, e1, e2, e3, e4, e5, e6, e7, e8, e9⟩ := hn0.out.below hB hb0 i hi
  generalize ts.getD i nd0 = t at kN e0 e1 e2 e3 e4 e5 e6 e7 e8 e9 hk
  have hii : (i : Int) < (ts.length : Int) := by omega
  have hi0 : (0 : Int) ≤ (i : Int) := by omega
  have hB' := Lib.hid hB
  clear hA c4 hN hE hB h1 h2 h3
  have hoA := Lib.hid fun (ha : T.atm = true) => opO_atm ha o R
  have hoB := Lib.hid fun (ha : T.atm = false) => opO_bra ha o R
  generalize opO T o R = R1 at hoA hoB ⊢
  rcases hk with ⟨ha, hk | hk | hk | hk⟩ | ⟨ha, hk | hk | hk | hk | hk | hk | hk⟩
  iterate 4
    focus
      rw [hk] at e0 kN
      have hoA := Lib.hid (hoA.out ha)
      clear hk ha kE hoB
      go_enter Tryz.func70, Tryz.ntmps70
      go_wp2_with fail
      refine (kN.out _ (Lib.hid (h.out.below (by (repeat' (first | with_reducible exact Below.refl _ _ | with_reducible assumption | with_reducible apply Below.setCell | with_reducible apply Below.alloc | with_reducible apply Below.drew | with_reducible apply below_drewN | with_reducible exact Nat.le_refl _ | (simp; done) | (simp; omega) | omega | exact Nat.le_refl _)))))).mono ?_
      rintro e w1 ⟨rfl, hS, hb⟩
      have hS := Lib.hid hS
      have hb := Lib.hid (barP_next (show Below w.heap.size w _ from by (repeat' (first | with_reducible exact Below.refl _ _ | with_reducible assumption | with_reducible apply Below.setCell | with_reducible apply Below.alloc | with_reducible apply Below.drew | with_reducible apply below_drewN | with_reducible exact Nat.le_refl _ | (simp; done) | (simp; omega) | omega | exact Nat.le_refl _))) hb)
      go_wp2_with fail
      go_end0
      exact ⟨rfl, by rw [hoA.out]; exact hS.out.mono (by omega), hb.out⟩
  all_goals
    rw [hk] at e0
    have hoB := Lib.hid (hoB.out ha)
    clear hk ha kN hoA
    go_enter Tryz.func70, Tryz.ntmps70
    go_wp2_with fail
    refine (stp_write ⟨#[40]⟩ _ (Lib.hid (h.out.below (by (repeat' (first | with_reducible exact Below.refl _ _ | with_reducible assumption | with_reducible apply Below.setCell | with_reducible apply Below.alloc | with_reducible apply Below.drew | with_reducible apply below_drewN | with_reducible exact Nat.le_refl _ | (simp; done) | (simp; omega) | omega | exact Nat.le_refl _))))) (by show m + 1 ≤ _; omega)).mono ?_
    rintro e w1 ⟨rfl, hS, hb⟩
    have hS := Lib.hid (show StP w0 G b off cp ts w1 (wrO [40] R) (m + 1) from hS)
    have hb := Lib.hid (barP_next (show Below w.heap.size w _ from by (repeat' (first | with_reducible exact Below.refl _ _ | with_reducible assumption | with_reducible apply Below.setCell | with_reducible apply Below.alloc | with_reducible apply Below.drew | with_reducible apply below_drewN | with_reducible exact Nat.le_refl _ | (simp; done) | (simp; omega) | omega | exact Nat.le_refl _))) hb)
    go_wp2_with fail
    refine (kE.out _ _ hS).mono ?_
    rintro e w2 ⟨rfl, hS, hb2⟩
    have hS := Lib.hid hS
    have hb := Lib.hid (hb.out.trans hb2)
    clear hb2
    go_wp2_with fail
    refine (stp_write ⟨#[41]⟩ _ hS (by show _ + 1 ≤ _; omega)).mono ?_
    rintro e w3 ⟨rfl, hS, hb2⟩
    have hS := Lib.hid (show StP w0 G b off cp ts w3 (wrO [41] (exO T o (wrO [40] R))) (m + 1 + (T.sz * 150 - 50) + 1) from hS)
    have hb := Lib.hid (hb.out.trans hb2)
    clear hb2
    go_wp2_with fail
    go_end0
    exact ⟨rfl, by rw [hoB.out]; exact hS.out.mono (by omega), hb.out⟩

theorem wr_cast {w0 : World} {G b off cp : Nat} {ts : List Nd} {w : World} {R : Option (List UInt8)} {m m' : Nat} {l l' : List UInt8} (h : StP w0 G b off cp ts w (wrO l R) m) (e : l = l') (hm : m ≤ m') : StP w0 G b off cp ts w (wrO l' R) m' := e ▸ h.mono hm
theorem ex_cast {w0 : World} {G b off cp : Nat} {ts : List Nd} {w : World} {A C : PT} {o : Nat} {R : Option (List UInt8)} {m m' : Nat} {l1 l1' l2 l2' : List UInt8} (h : StP w0 G b off cp ts w (exO C o (wrO l2 (exO A o (wrO l1 R)))) m) (e1 : l1 = l1') (e2 : l2 = l2') (hm : m ≤ m') : StP w0 G b off cp ts w (exO C o (wrO l2' (exO A o (wrO l1' R)))) m' := e1 ▸ e2 ▸ h.mono hm
set_option maxRecDepth 100000 in
set_option maxHeartbeats 4000000 in
theorem exprs_of {w0 : World} {G b off cp : Nat} {ts : List Nd} {A C : PT} (hA : ExP w0 G b off cp ts A) (hC : ExP w0 G b off cp ts C) (j k o : Nat) (s1 s2 : ByteArray) (w : World) (R : Option (List UInt8)) (m : Nat) (h1 : A.At ts j) (h2 : C.At ts k) (hj : j < ts.length) (hk : k < ts.length) (ho : o ≤ 40) (hm : m + s1.size + s2.size + A.sz * 150 + C.sz * 150 ≤ 1000000) (h : Hid (StP w0 G b off cp ts w R m)) :
    Calls Tryz.prog 71 #[.pointer (some ⟨G, 0, none⟩), .int .i64 (o : Int), .string s1, .int .i64 (j : Int), .string s2, .int .i64 (k : Int)] w fun e w' => e = .returned (.tuple #[]) ∧ StP w0 G b off cp ts w' (exO C o (wrO s2.data.toList (exO A o (wrO s1.data.toList R)))) (m + s1.size + s2.size + (A.sz * 150 - 50) + (C.sz * 150 - 50)) ∧ BarP w0.heap.size G w w' := by
  have g1 := A.sz1
  have g2 := C.sz1
  have kA := Lib.hid fun (W : World) (R' : Option (List UInt8)) (hW : Hid (StP w0 G b off cp ts W R' (m + s1.size))) => hA j o W R' (m + s1.size) h1 hj ho (by omega) hW
  have kC := Lib.hid fun (W : World) (R' : Option (List UInt8)) (hW : Hid (StP w0 G b off cp ts W R' (m + s1.size + (A.sz * 150 - 50) + s2.size))) => hC k o W R' (m + s1.size + (A.sz * 150 - 50) + s2.size) h2 hk ho (by omega) hW
  clear hA hC h1 h2
  go_enter Tryz.func71, Tryz.ntmps71
  go_wp2_with fail
  refine (stp_write s1 _ h (by omega)).mono ?_
  rintro e w1 ⟨rfl, hS, hb⟩
  have hS := Lib.hid hS
  have hb := Lib.hid hb
  go_wp2_with fail
  refine (kA.out _ _ hS).mono ?_
  rintro e w2 ⟨rfl, hS, hb2⟩
  have hS := Lib.hid hS
  have hb := Lib.hid (hb.out.trans hb2)
  clear hb2
  go_wp2_with fail
  refine (stp_write s2 _ hS (by omega)).mono ?_
  rintro e w3 ⟨rfl, hS, hb2⟩
  have hS := Lib.hid hS
  have hb := Lib.hid (hb.out.trans hb2)
  clear hb2
  go_wp2_with fail
  refine (kC.out _ _ hS).mono ?_
  rintro e w4 ⟨rfl, hS, hb2⟩
  have hS := Lib.hid hS
  have hb := Lib.hid (hb.out.trans hb2)
  clear hb2
  go_wp2_with fail
  go_end0
  exact ⟨rfl, hS.out.mono (by omega), hb.out⟩
theorem sgn_any (n : Int) (w : World) (h0 : 0 ≤ n) (h1 : n ≤ 5) : Calls Tryz.prog 72 #[.int .i64 n] w fun e w' => e = .returned (.string (bs (sgT n))) ∧ w = w' := by
  have hn : n = 0 ∨ n = 1 ∨ n = 2 ∨ n = 3 ∨ n = 4 ∨ n = 5 := by omega
  clear h0 h1
  rcases hn with rfl | rfl | rfl | rfl | rfl | rfl
  all_goals
    go_enter Tryz.func72, Tryz.ntmps72
    go_wp2_with fail
    go_ret
    exact ⟨rfl, rfl⟩
end Go.Proofs.YtidlljookjicpaaGreatDoor
