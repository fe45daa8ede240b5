/- The program's tidier: put. -/
import Derived.Test.YthpcbgljbpmafaaGreatDoorU41
set_option maxRecDepth 100000
set_option maxHeartbeats 8000000
namespace Go.Proofs.YthpcbgljbpmafaaGreatDoor
open Go.RowKit
set_option linter.unusedVariables false
set_option linter.unusedSimpArgs false
theorem TdW.box {B G : Nat} {sv : Value} {ts : List Nd} {w : World} {mv : Value} {m : List Nd} {b : Nat} {t : Nd} (h : TdW B G sv ts w mv m) (hx : NdBox G w mv b t) (hB : B ≤ b) (o : Nat) (v : Value) : TdW B G sv ts (w.setCell ⟨b, o, none⟩ v) mv m :=
 h.bar (Bar.set (S := fun k => k = b) ⟨b, o, none⟩ v rfl) (fun e => hx.gb e.symm) (fun k hk _ e => by omega) (fun k hk e => hx.ob (e ▸ hk))
theorem Stp.box {G b : Nat} {w w1 : World} {mv mv1 : Value} (h : Stp G w mv w1 mv1) (hb : w.heap.size ≤ b) (o : Nat) (v : Value) : Stp G w mv (w1.setCell ⟨b, o, none⟩ v) mv1 :=
 ⟨h.1.trans (Bar.set (S := fun k => k = b) ⟨b, o, none⟩ v rfl) fun k hk e => by omega, h.2⟩
theorem ndbox_lit {B G : Nat} {sv : Value} {ts : List Nd} {w W : World} {mv : Value} {m : List Nd} {t : Nd} (h : TdW B G sv ts w mv m) (hW : w.alloc (.cells #[.int .i64 t.k, .int .i64 t.a, .int .i64 t.b, .int .i64 t.c, .int .i64 t.n, .string t.nm, .string t.x, .string t.y, .string t.z, .int .i64 t.p] 45) = W) :
  NdBox G W mv w.heap.size t ∧ TdW B G sv ts W mv m ∧ Stp G w mv W mv ∧ B ≤ w.heap.size := by
 obtain ⟨⟨y0, y1, y2, y3, y4, y5, y6, y7, y8, y9⟩, hb0, hs0⟩ := nd_box w W t hW
 refine ⟨⟨y0, y1, y2, y3, y4, y5, y6, y7, y8, y9, fun o => ?_, ?_, fun e => ?_, hs0, ?_⟩, h.below hb0, Stp.below hb0, h.bl⟩
 ·rw [← hW]; simp [go_sem]
 ·have := h.gB; have := h.bl; omega
 ·have := (own_lt h.own _ e).2; omega
 ·rw [← hW]; exact TyAt.new _ _ _
def TdP (B G : Nat) (sv : Value) (ts : List Nd) (j : Nat) : Prop := ∀ W mv1 m1, Hid (TdW B G sv ts W mv1 m1) → Hid (IntOk m1) → (m1.length : Int) + (j + 1 - bg (ksN ts) j) ≤ 512 → Calls Tryz.prog 22 #[.pointer (some ⟨G, 0, none⟩), .int .i64 j] W (TdN B G sv ts W mv1 (td ts j m1))
theorem tput0 (B G : Nat) (sv : Value) (ts : List Nd) (i : Nat) (w : World) (mv : Value) (m : List Nd) (a b c : Int) (n : Int) (nm u y z : ByteArray) (at_ : Int) (hx : ts.getD i nd0 = ⟨0, a, b, c, n, nm, u, y, z, at_⟩) (hi : i < ts.length) (h : Hid (TdW B G sv ts w mv m)) (hn : Hid (IntOk m)) (hlen : Hid (Tre ts)) (hbd : m.length < 512)  :
  Calls Tryz.prog 22 #[.pointer (some ⟨G, 0, none⟩), .int .i64 i] w (TdN B G sv ts w mv (m ++ [⟨0, a, b, c, n, nm, u, y, z, at_⟩])) := by
 obtain ⟨T, off, cp, rfl, hTB, hTG, hTs, hS⟩ := h.out.ni
 obtain ⟨e0, e1, e2, e3, e4, e5, e6, e7, e8, e9⟩ := hS i hi
 rw [hx] at e0 e1 e2 e3 e4 e5 e6 e7 e8 e9
 simp only at e0 e1 e2 e3 e4 e5 e6 e7 e8 e9
 have hsv := h.out.cn
 have hGl : G < w.heap.size := by have := h.out.gB; have := h.out.bl; omega
 have hi1 : (i : Int) < (ts.length : Int) := by omega
 have hi0 : (0 : Int) ≤ (i : Int) := by omega
 clear hS hx hi
 go_enter Tryz.func22, Tryz.ntmps22
 go_wp2_with fail
 obtain ⟨W0, hW0⟩ : ∃ W, w.alloc (.cells #[.int .i64 0, .int .i64 a, .int .i64 b, .int .i64 c, .int .i64 n, .string nm, .string u, .string y, .string z, .int .i64 at_] 45) = W := ⟨_, rfl⟩
 obtain ⟨hX, h2, hst, hBb⟩ := ndbox_lit (t := ⟨0, a, b, c, n, nm, u, y, z, at_⟩) h.out hW0
 rw [hW0]
 clear hW0 hsv hGl e0 e1 e2 e3 e4 e5 e6 e7 e8 e9
 have hX := Lib.hid hX
 have h2 := Lib.hid h2
 have hst := Lib.hid hst
 refine (tadd_any B G _ ts _ mv m ⟨0, a, b, c, n, nm, u, y, z, at_⟩ h2 (by omega)).mono ?_
 rintro e w2 ⟨rfl, mv', k1, k2⟩
 have k1 := Lib.hid k1
 have k3 := Lib.hid (hst.out.trans k2)
 go_wp2_with fail
 go_ret
 exact ⟨rfl, mv', k1.out, k3.out⟩
theorem tput1 (B G : Nat) (sv : Value) (ts : List Nd) (i : Nat) (w : World) (mv : Value) (m : List Nd) (a b c : Int) (n : Int) (nm u y z : ByteArray) (at_ : Int) (hx : ts.getD i nd0 = ⟨1, a, b, c, n, nm, u, y, z, at_⟩) (hi : i < ts.length) (h : Hid (TdW B G sv ts w mv m)) (hn : Hid (IntOk m)) (hlen : Hid (Tre ts)) (hbd : m.length < 512)  :
  Calls Tryz.prog 22 #[.pointer (some ⟨G, 0, none⟩), .int .i64 i] w (TdN B G sv ts w mv (m ++ [⟨1, a, b, c, n, nm, u, y, z, at_⟩])) := by
 obtain ⟨T, off, cp, rfl, hTB, hTG, hTs, hS⟩ := h.out.ni
 obtain ⟨e0, e1, e2, e3, e4, e5, e6, e7, e8, e9⟩ := hS i hi
 rw [hx] at e0 e1 e2 e3 e4 e5 e6 e7 e8 e9
 simp only at e0 e1 e2 e3 e4 e5 e6 e7 e8 e9
 have hsv := h.out.cn
 have hGl : G < w.heap.size := by have := h.out.gB; have := h.out.bl; omega
 have hi1 : (i : Int) < (ts.length : Int) := by omega
 have hi0 : (0 : Int) ≤ (i : Int) := by omega
 clear hS hx hi
 go_enter Tryz.func22, Tryz.ntmps22
 go_wp2_with fail
 obtain ⟨W0, hW0⟩ : ∃ W, w.alloc (.cells #[.int .i64 1, .int .i64 a, .int .i64 b, .int .i64 c, .int .i64 n, .string nm, .string u, .string y, .string z, .int .i64 at_] 45) = W := ⟨_, rfl⟩
 obtain ⟨hX, h2, hst, hBb⟩ := ndbox_lit (t := ⟨1, a, b, c, n, nm, u, y, z, at_⟩) h.out hW0
 rw [hW0]
 clear hW0 hsv hGl e0 e1 e2 e3 e4 e5 e6 e7 e8 e9
 have hX := Lib.hid hX
 have h2 := Lib.hid h2
 have hst := Lib.hid hst
 refine (tadd_any B G _ ts _ mv m ⟨1, a, b, c, n, nm, u, y, z, at_⟩ h2 (by omega)).mono ?_
 rintro e w2 ⟨rfl, mv', k1, k2⟩
 have k1 := Lib.hid k1
 have k3 := Lib.hid (hst.out.trans k2)
 go_wp2_with fail
 go_ret
 exact ⟨rfl, mv', k1.out, k3.out⟩
theorem tput2 (B G : Nat) (sv : Value) (ts : List Nd) (i : Nat) (w : World) (mv : Value) (m : List Nd) (a b c : Int) (n : Int) (nm u y z : ByteArray) (at_ : Int) (hx : ts.getD i nd0 = ⟨2, a, b, c, n, nm, u, y, z, at_⟩) (hi : i < ts.length) (h : Hid (TdW B G sv ts w mv m)) (hn : Hid (IntOk m)) (hlen : Hid (Tre ts)) (hbd : m.length < 512)  :
  Calls Tryz.prog 22 #[.pointer (some ⟨G, 0, none⟩), .int .i64 i] w (TdN B G sv ts w mv (m ++ [⟨2, a, b, c, n, nm, u, y, z, at_⟩])) := by
 obtain ⟨T, off, cp, rfl, hTB, hTG, hTs, hS⟩ := h.out.ni
 obtain ⟨e0, e1, e2, e3, e4, e5, e6, e7, e8, e9⟩ := hS i hi
 rw [hx] at e0 e1 e2 e3 e4 e5 e6 e7 e8 e9
 simp only at e0 e1 e2 e3 e4 e5 e6 e7 e8 e9
 have hsv := h.out.cn
 have hGl : G < w.heap.size := by have := h.out.gB; have := h.out.bl; omega
 have hi1 : (i : Int) < (ts.length : Int) := by omega
 have hi0 : (0 : Int) ≤ (i : Int) := by omega
 clear hS hx hi
 go_enter Tryz.func22, Tryz.ntmps22
 go_wp2_with fail
 obtain ⟨W0, hW0⟩ : ∃ W, w.alloc (.cells #[.int .i64 2, .int .i64 a, .int .i64 b, .int .i64 c, .int .i64 n, .string nm, .string u, .string y, .string z, .int .i64 at_] 45) = W := ⟨_, rfl⟩
 obtain ⟨hX, h2, hst, hBb⟩ := ndbox_lit (t := ⟨2, a, b, c, n, nm, u, y, z, at_⟩) h.out hW0
 rw [hW0]
 clear hW0 hsv hGl e0 e1 e2 e3 e4 e5 e6 e7 e8 e9
 have hX := Lib.hid hX
 have h2 := Lib.hid h2
 have hst := Lib.hid hst
 refine (tadd_any B G _ ts _ mv m ⟨2, a, b, c, n, nm, u, y, z, at_⟩ h2 (by omega)).mono ?_
 rintro e w2 ⟨rfl, mv', k1, k2⟩
 have k1 := Lib.hid k1
 have k3 := Lib.hid (hst.out.trans k2)
 go_wp2_with fail
 go_ret
 exact ⟨rfl, mv', k1.out, k3.out⟩
open Go.RowKit
theorem tput3 (B G : Nat) (sv : Value) (ts : List Nd) (i : Nat) (w : World) (mv : Value) (m : List Nd) (a : Nat) (b c : Int) (n : Int) (nm u y z : ByteArray) (at_ : Int) (hx : ts.getD i nd0 = ⟨3, a, b, c, n, nm, u, y, z, at_⟩) (hi : i < ts.length) (h : Hid (TdW B G sv ts w mv m)) (hn : Hid (IntOk m)) (hlen : Hid (Tre ts)) (ka : Hid (TdP B G sv ts a)) (hba : (m.length : Int) + (a + 1 - bg (ksN ts) a) ≤ 512) (hbl : (td ts a m).length < 600)  :
  Calls Tryz.prog 22 #[.pointer (some ⟨G, 0, none⟩), .int .i64 i] w (TdN B G sv ts w mv (td ts a m ++ [⟨3, lstI (td ts a m), b, c, n, nm, u, y, z, at_⟩])) := by
 obtain ⟨T, off, cp, rfl, hTB, hTG, hTs, hS⟩ := h.out.ni
 obtain ⟨e0, e1, e2, e3, e4, e5, e6, e7, e8, e9⟩ := hS i hi
 rw [hx] at e0 e1 e2 e3 e4 e5 e6 e7 e8 e9
 simp only at e0 e1 e2 e3 e4 e5 e6 e7 e8 e9
 have hsv := h.out.cn
 have hGl : G < w.heap.size := by have := h.out.gB; have := h.out.bl; omega
 have hi1 : (i : Int) < (ts.length : Int) := by omega
 have hi0 : (0 : Int) ≤ (i : Int) := by omega
 clear hS hx hi
 go_enter Tryz.func22, Tryz.ntmps22
 go_wp2_with fail
 obtain ⟨W0, hW0⟩ : ∃ W, w.alloc (.cells #[.int .i64 3, .int .i64 a, .int .i64 b, .int .i64 c, .int .i64 n, .string nm, .string u, .string y, .string z, .int .i64 at_] 45) = W := ⟨_, rfl⟩
 obtain ⟨hX, h2, hst, hBb⟩ := ndbox_lit (t := ⟨3, a, b, c, n, nm, u, y, z, at_⟩) h.out hW0
 rw [hW0]
 clear hW0 hsv hGl e0 e1 e2 e3 e4 e5 e6 e7 e8 e9
 have hX := Lib.hid hX
 have h2 := Lib.hid h2
 have hst := Lib.hid hst
 refine (ka.out _ _ _ h2 hn hba).mono ?_
 rintro e w1 ⟨rfl, mv1, k1, k2⟩
 have hX1 := Lib.hid (hX.out.step k2)
 have hh1 := Lib.hid k1
 have hst1 := Lib.hid (hst.out.trans k2)
 clear k1 k2
 obtain ⟨m1, hm1⟩ : ∃ r, td ts a m = r := ⟨_, rfl⟩
 rw [hm1] at hh1 hbl ⊢
 have g0 := hX1.out.c0; have g1 := hX1.out.c1; have g2 := hX1.out.c2; have g3 := hX1.out.c3; have g4 := hX1.out.c4; have g5 := hX1.out.c5; have g6 := hX1.out.c6; have g7 := hX1.out.c7; have g8 := hX1.out.c8; have g9 := hX1.out.c9; have gf := hX1.out.fz; have gl := hX1.out.lt
 simp only at g0 g1 g2 g3 g4 g5 g6 g7 g8 g9
 go_wp2_with fail
 obtain ⟨W1, hW1⟩ : ∃ W, w1.setCell ⟨w.heap.size, 1, none⟩ (.int .i64 (lstI m1)) = W := ⟨_, rfl⟩
 have hX1s := Lib.hid (hX1.out.set1 (lstI m1))
 have h21s := Lib.hid (hh1.out.box hX1.out hBb 1 (.int .i64 (lstI m1)))
 have hst1s := Lib.hid (hst1.out.box (Nat.le_refl _) 1 (.int .i64 (lstI m1)))
 rw [hW1] at hX1s h21s hst1s ⊢
 clear hW1 g0 g1 g2 g3 g4 g5 g6 g7 g8 g9 gf gl hX1 hh1 hst1
 refine (tadd_any B G _ ts _ mv1 m1 ⟨3, lstI m1, b, c, n, nm, u, y, z, at_⟩ h21s (by omega)).mono ?_
 rintro e wz ⟨rfl, mv', k1, k2⟩
 have k1 := Lib.hid k1
 have k3 := Lib.hid (hst1s.out.trans k2)
 go_wp2_with fail
 go_ret
 subst hm1
 exact ⟨rfl, mv', k1.out, k3.out⟩
theorem tput9 (B G : Nat) (sv : Value) (ts : List Nd) (i : Nat) (w : World) (mv : Value) (m : List Nd) (a : Nat) (b c : Int) (n : Int) (nm u y z : ByteArray) (at_ : Int) (hx : ts.getD i nd0 = ⟨9, a, b, c, n, nm, u, y, z, at_⟩) (hi : i < ts.length) (h : Hid (TdW B G sv ts w mv m)) (hn : Hid (IntOk m)) (hlen : Hid (Tre ts)) (ka : Hid (TdP B G sv ts a)) (hba : (m.length : Int) + (a + 1 - bg (ksN ts) a) ≤ 512) (hbl : (td ts a m).length < 600)  :
  Calls Tryz.prog 22 #[.pointer (some ⟨G, 0, none⟩), .int .i64 i] w (TdN B G sv ts w mv (td ts a m ++ [⟨9, lstI (td ts a m), b, c, n, nm, u, y, z, at_⟩])) := by
 obtain ⟨T, off, cp, rfl, hTB, hTG, hTs, hS⟩ := h.out.ni
 obtain ⟨e0, e1, e2, e3, e4, e5, e6, e7, e8, e9⟩ := hS i hi
 rw [hx] at e0 e1 e2 e3 e4 e5 e6 e7 e8 e9
 simp only at e0 e1 e2 e3 e4 e5 e6 e7 e8 e9
 have hsv := h.out.cn
 have hGl : G < w.heap.size := by have := h.out.gB; have := h.out.bl; omega
 have hi1 : (i : Int) < (ts.length : Int) := by omega
 have hi0 : (0 : Int) ≤ (i : Int) := by omega
 clear hS hx hi
 go_enter Tryz.func22, Tryz.ntmps22
 go_wp2_with fail
 obtain ⟨W0, hW0⟩ : ∃ W, w.alloc (.cells #[.int .i64 9, .int .i64 a, .int .i64 b, .int .i64 c, .int .i64 n, .string nm, .string u, .string y, .string z, .int .i64 at_] 45) = W := ⟨_, rfl⟩
 obtain ⟨hX, h2, hst, hBb⟩ := ndbox_lit (t := ⟨9, a, b, c, n, nm, u, y, z, at_⟩) h.out hW0
 rw [hW0]
 clear hW0 hsv hGl e0 e1 e2 e3 e4 e5 e6 e7 e8 e9
 have hX := Lib.hid hX
 have h2 := Lib.hid h2
 have hst := Lib.hid hst
 refine (ka.out _ _ _ h2 hn hba).mono ?_
 rintro e w1 ⟨rfl, mv1, k1, k2⟩
 have hX1 := Lib.hid (hX.out.step k2)
 have hh1 := Lib.hid k1
 have hst1 := Lib.hid (hst.out.trans k2)
 clear k1 k2
 obtain ⟨m1, hm1⟩ : ∃ r, td ts a m = r := ⟨_, rfl⟩
 rw [hm1] at hh1 hbl ⊢
 have g0 := hX1.out.c0; have g1 := hX1.out.c1; have g2 := hX1.out.c2; have g3 := hX1.out.c3; have g4 := hX1.out.c4; have g5 := hX1.out.c5; have g6 := hX1.out.c6; have g7 := hX1.out.c7; have g8 := hX1.out.c8; have g9 := hX1.out.c9; have gf := hX1.out.fz; have gl := hX1.out.lt
 simp only at g0 g1 g2 g3 g4 g5 g6 g7 g8 g9
 go_wp2_with fail
 obtain ⟨W1, hW1⟩ : ∃ W, w1.setCell ⟨w.heap.size, 1, none⟩ (.int .i64 (lstI m1)) = W := ⟨_, rfl⟩
 have hX1s := Lib.hid (hX1.out.set1 (lstI m1))
 have h21s := Lib.hid (hh1.out.box hX1.out hBb 1 (.int .i64 (lstI m1)))
 have hst1s := Lib.hid (hst1.out.box (Nat.le_refl _) 1 (.int .i64 (lstI m1)))
 rw [hW1] at hX1s h21s hst1s ⊢
 clear hW1 g0 g1 g2 g3 g4 g5 g6 g7 g8 g9 gf gl hX1 hh1 hst1
 refine (tadd_any B G _ ts _ mv1 m1 ⟨9, lstI m1, b, c, n, nm, u, y, z, at_⟩ h21s (by omega)).mono ?_
 rintro e wz ⟨rfl, mv', k1, k2⟩
 have k1 := Lib.hid k1
 have k3 := Lib.hid (hst1s.out.trans k2)
 go_wp2_with fail
 go_ret
 subst hm1
 exact ⟨rfl, mv', k1.out, k3.out⟩
theorem tput4 (B G : Nat) (sv : Value) (ts : List Nd) (i : Nat) (w : World) (mv : Value) (m : List Nd) (a b : Nat) (c : Int) (n : Int) (nm u y z : ByteArray) (at_ : Int) (hx : ts.getD i nd0 = ⟨4, a, b, c, n, nm, u, y, z, at_⟩) (hi : i < ts.length) (h : Hid (TdW B G sv ts w mv m)) (hn : Hid (IntOk m)) (hlen : Hid (Tre ts)) (ka : Hid (TdP B G sv ts a)) (hba : (m.length : Int) + (a + 1 - bg (ksN ts) a) ≤ 512) (kb : Hid (TdP B G sv ts b)) (hia : Hid (IntOk (td ts a m))) (hbb : ((td ts a m).length : Int) + (b + 1 - bg (ksN ts) b) ≤ 512) (hbl : (td ts b (td ts a m)).length < 600)  :
  Calls Tryz.prog 22 #[.pointer (some ⟨G, 0, none⟩), .int .i64 i] w (TdN B G sv ts w mv (td ts b (td ts a m) ++ [⟨4, lstI (td ts a m), lstI (td ts b (td ts a m)), c, n, nm, u, y, z, at_⟩])) := by
 obtain ⟨T, off, cp, rfl, hTB, hTG, hTs, hS⟩ := h.out.ni
 obtain ⟨e0, e1, e2, e3, e4, e5, e6, e7, e8, e9⟩ := hS i hi
 rw [hx] at e0 e1 e2 e3 e4 e5 e6 e7 e8 e9
 simp only at e0 e1 e2 e3 e4 e5 e6 e7 e8 e9
 have hsv := h.out.cn
 have hGl : G < w.heap.size := by have := h.out.gB; have := h.out.bl; omega
 have hi1 : (i : Int) < (ts.length : Int) := by omega
 have hi0 : (0 : Int) ≤ (i : Int) := by omega
 clear hS hx hi
 go_enter Tryz.func22, Tryz.ntmps22
 go_wp2_with fail
 obtain ⟨W0, hW0⟩ : ∃ W, w.alloc (.cells #[.int .i64 4, .int .i64 a, .int .i64 b, .int .i64 c, .int .i64 n, .string nm, .string u, .string y, .string z, .int .i64 at_] 45) = W := ⟨_, rfl⟩
 obtain ⟨hX, h2, hst, hBb⟩ := ndbox_lit (t := ⟨4, a, b, c, n, nm, u, y, z, at_⟩) h.out hW0
 rw [hW0]
 clear hW0 hsv hGl e0 e1 e2 e3 e4 e5 e6 e7 e8 e9
 have hX := Lib.hid hX
 have h2 := Lib.hid h2
 have hst := Lib.hid hst
 refine (ka.out _ _ _ h2 hn hba).mono ?_
 rintro e w1 ⟨rfl, mv1, k1, k2⟩
 have hX1 := Lib.hid (hX.out.step k2)
 have hh1 := Lib.hid k1
 have hst1 := Lib.hid (hst.out.trans k2)
 clear k1 k2
 obtain ⟨m1, hm1⟩ : ∃ r, td ts a m = r := ⟨_, rfl⟩
 rw [hm1] at hh1 hia hbb hbl ⊢
 have g0 := hX1.out.c0; have g1 := hX1.out.c1; have g2 := hX1.out.c2; have g3 := hX1.out.c3; have g4 := hX1.out.c4; have g5 := hX1.out.c5; have g6 := hX1.out.c6; have g7 := hX1.out.c7; have g8 := hX1.out.c8; have g9 := hX1.out.c9; have gf := hX1.out.fz; have gl := hX1.out.lt
 simp only at g0 g1 g2 g3 g4 g5 g6 g7 g8 g9
 go_wp2_with fail
 obtain ⟨W1, hW1⟩ : ∃ W, w1.setCell ⟨w.heap.size, 1, none⟩ (.int .i64 (lstI m1)) = W := ⟨_, rfl⟩
 have hX1s := Lib.hid (hX1.out.set1 (lstI m1))
 have h21s := Lib.hid (hh1.out.box hX1.out hBb 1 (.int .i64 (lstI m1)))
 have hst1s := Lib.hid (hst1.out.box (Nat.le_refl _) 1 (.int .i64 (lstI m1)))
 rw [hW1] at hX1s h21s hst1s ⊢
 clear hW1 g0 g1 g2 g3 g4 g5 g6 g7 g8 g9 gf gl hX1 hh1 hst1
 refine (kb.out _ _ _ h21s hia hbb).mono ?_
 rintro e w2 ⟨rfl, mv2, k1, k2⟩
 have hX2 := Lib.hid (hX1s.out.step k2)
 have hh2 := Lib.hid k1
 have hst2 := Lib.hid (hst1s.out.trans k2)
 clear k1 k2
 obtain ⟨m2, hm2⟩ : ∃ r, td ts b m1 = r := ⟨_, rfl⟩
 rw [hm2] at hh2 hbl ⊢
 have g0 := hX2.out.c0; have g1 := hX2.out.c1; have g2 := hX2.out.c2; have g3 := hX2.out.c3; have g4 := hX2.out.c4; have g5 := hX2.out.c5; have g6 := hX2.out.c6; have g7 := hX2.out.c7; have g8 := hX2.out.c8; have g9 := hX2.out.c9; have gf := hX2.out.fz; have gl := hX2.out.lt
 simp only at g0 g1 g2 g3 g4 g5 g6 g7 g8 g9
 go_wp2_with fail
 obtain ⟨W2, hW2⟩ : ∃ W, w2.setCell ⟨w.heap.size, 2, none⟩ (.int .i64 (lstI m2)) = W := ⟨_, rfl⟩
 have hX2s := Lib.hid (hX2.out.set2 (lstI m2))
 have h22s := Lib.hid (hh2.out.box hX2.out hBb 2 (.int .i64 (lstI m2)))
 have hst2s := Lib.hid (hst2.out.box (Nat.le_refl _) 2 (.int .i64 (lstI m2)))
 rw [hW2] at hX2s h22s hst2s ⊢
 clear hW2 g0 g1 g2 g3 g4 g5 g6 g7 g8 g9 gf gl hX2 hh2 hst2
 refine (tadd_any B G _ ts _ mv2 m2 ⟨4, lstI m1, lstI m2, c, n, nm, u, y, z, at_⟩ h22s (by omega)).mono ?_
 rintro e wz ⟨rfl, mv', k1, k2⟩
 have k1 := Lib.hid k1
 have k3 := Lib.hid (hst2s.out.trans k2)
 go_wp2_with fail
 go_ret
 subst hm2 hm1
 exact ⟨rfl, mv', k1.out, k3.out⟩
theorem tput5 (B G : Nat) (sv : Value) (ts : List Nd) (i : Nat) (w : World) (mv : Value) (m : List Nd) (a b : Nat) (c : Int) (n : Int) (nm u y z : ByteArray) (at_ : Int) (hx : ts.getD i nd0 = ⟨5, a, b, c, n, nm, u, y, z, at_⟩) (hi : i < ts.length) (h : Hid (TdW B G sv ts w mv m)) (hn : Hid (IntOk m)) (hlen : Hid (Tre ts)) (ka : Hid (TdP B G sv ts a)) (hba : (m.length : Int) + (a + 1 - bg (ksN ts) a) ≤ 512) (kb : Hid (TdP B G sv ts b)) (hia : Hid (IntOk (td ts a m))) (hbb : ((td ts a m).length : Int) + (b + 1 - bg (ksN ts) b) ≤ 512) (hbl : (td ts b (td ts a m)).length < 600)  :
  Calls Tryz.prog 22 #[.pointer (some ⟨G, 0, none⟩), .int .i64 i] w (TdN B G sv ts w mv (td ts b (td ts a m) ++ [⟨5, lstI (td ts a m), lstI (td ts b (td ts a m)), c, n, nm, u, y, z, at_⟩])) := by
 obtain ⟨T, off, cp, rfl, hTB, hTG, hTs, hS⟩ := h.out.ni
 obtain ⟨e0, e1, e2, e3, e4, e5, e6, e7, e8, e9⟩ := hS i hi
 rw [hx] at e0 e1 e2 e3 e4 e5 e6 e7 e8 e9
 simp only at e0 e1 e2 e3 e4 e5 e6 e7 e8 e9
 have hsv := h.out.cn
 have hGl : G < w.heap.size := by have := h.out.gB; have := h.out.bl; omega
 have hi1 : (i : Int) < (ts.length : Int) := by omega
 have hi0 : (0 : Int) ≤ (i : Int) := by omega
 clear hS hx hi
 go_enter Tryz.func22, Tryz.ntmps22
 go_wp2_with fail
 obtain ⟨W0, hW0⟩ : ∃ W, w.alloc (.cells #[.int .i64 5, .int .i64 a, .int .i64 b, .int .i64 c, .int .i64 n, .string nm, .string u, .string y, .string z, .int .i64 at_] 45) = W := ⟨_, rfl⟩
 obtain ⟨hX, h2, hst, hBb⟩ := ndbox_lit (t := ⟨5, a, b, c, n, nm, u, y, z, at_⟩) h.out hW0
 rw [hW0]
 clear hW0 hsv hGl e0 e1 e2 e3 e4 e5 e6 e7 e8 e9
 have hX := Lib.hid hX
 have h2 := Lib.hid h2
 have hst := Lib.hid hst
 refine (ka.out _ _ _ h2 hn hba).mono ?_
 rintro e w1 ⟨rfl, mv1, k1, k2⟩
 have hX1 := Lib.hid (hX.out.step k2)
 have hh1 := Lib.hid k1
 have hst1 := Lib.hid (hst.out.trans k2)
 clear k1 k2
 obtain ⟨m1, hm1⟩ : ∃ r, td ts a m = r := ⟨_, rfl⟩
 rw [hm1] at hh1 hia hbb hbl ⊢
 have g0 := hX1.out.c0; have g1 := hX1.out.c1; have g2 := hX1.out.c2; have g3 := hX1.out.c3; have g4 := hX1.out.c4; have g5 := hX1.out.c5; have g6 := hX1.out.c6; have g7 := hX1.out.c7; have g8 := hX1.out.c8; have g9 := hX1.out.c9; have gf := hX1.out.fz; have gl := hX1.out.lt
 simp only at g0 g1 g2 g3 g4 g5 g6 g7 g8 g9
 go_wp2_with fail
 obtain ⟨W1, hW1⟩ : ∃ W, w1.setCell ⟨w.heap.size, 1, none⟩ (.int .i64 (lstI m1)) = W := ⟨_, rfl⟩
 have hX1s := Lib.hid (hX1.out.set1 (lstI m1))
 have h21s := Lib.hid (hh1.out.box hX1.out hBb 1 (.int .i64 (lstI m1)))
 have hst1s := Lib.hid (hst1.out.box (Nat.le_refl _) 1 (.int .i64 (lstI m1)))
 rw [hW1] at hX1s h21s hst1s ⊢
 clear hW1 g0 g1 g2 g3 g4 g5 g6 g7 g8 g9 gf gl hX1 hh1 hst1
 refine (kb.out _ _ _ h21s hia hbb).mono ?_
 rintro e w2 ⟨rfl, mv2, k1, k2⟩
 have hX2 := Lib.hid (hX1s.out.step k2)
 have hh2 := Lib.hid k1
 have hst2 := Lib.hid (hst1s.out.trans k2)
 clear k1 k2
 obtain ⟨m2, hm2⟩ : ∃ r, td ts b m1 = r := ⟨_, rfl⟩
 rw [hm2] at hh2 hbl ⊢
 have g0 := hX2.out.c0; have g1 := hX2.out.c1; have g2 := hX2.out.c2; have g3 := hX2.out.c3; have g4 := hX2.out.c4; have g5 := hX2.out.c5; have g6 := hX2.out.c6; have g7 := hX2.out.c7; have g8 := hX2.out.c8; have g9 := hX2.out.c9; have gf := hX2.out.fz; have gl := hX2.out.lt
 simp only at g0 g1 g2 g3 g4 g5 g6 g7 g8 g9
 go_wp2_with fail
 obtain ⟨W2, hW2⟩ : ∃ W, w2.setCell ⟨w.heap.size, 2, none⟩ (.int .i64 (lstI m2)) = W := ⟨_, rfl⟩
 have hX2s := Lib.hid (hX2.out.set2 (lstI m2))
 have h22s := Lib.hid (hh2.out.box hX2.out hBb 2 (.int .i64 (lstI m2)))
 have hst2s := Lib.hid (hst2.out.box (Nat.le_refl _) 2 (.int .i64 (lstI m2)))
 rw [hW2] at hX2s h22s hst2s ⊢
 clear hW2 g0 g1 g2 g3 g4 g5 g6 g7 g8 g9 gf gl hX2 hh2 hst2
 refine (tadd_any B G _ ts _ mv2 m2 ⟨5, lstI m1, lstI m2, c, n, nm, u, y, z, at_⟩ h22s (by omega)).mono ?_
 rintro e wz ⟨rfl, mv', k1, k2⟩
 have k1 := Lib.hid k1
 have k3 := Lib.hid (hst2s.out.trans k2)
 go_wp2_with fail
 go_ret
 subst hm2 hm1
 exact ⟨rfl, mv', k1.out, k3.out⟩
theorem tput6 (B G : Nat) (sv : Value) (ts : List Nd) (i : Nat) (w : World) (mv : Value) (m : List Nd) (a b : Nat) (c : Int) (n : Int) (nm u y z : ByteArray) (at_ : Int) (hx : ts.getD i nd0 = ⟨6, a, b, c, n, nm, u, y, z, at_⟩) (hi : i < ts.length) (h : Hid (TdW B G sv ts w mv m)) (hn : Hid (IntOk m)) (hlen : Hid (Tre ts)) (ka : Hid (TdP B G sv ts a)) (hba : (m.length : Int) + (a + 1 - bg (ksN ts) a) ≤ 512) (kb : Hid (TdP B G sv ts b)) (hia : Hid (IntOk (td ts a m))) (hbb : ((td ts a m).length : Int) + (b + 1 - bg (ksN ts) b) ≤ 512) (hbl : (td ts b (td ts a m)).length < 600)  :
  Calls Tryz.prog 22 #[.pointer (some ⟨G, 0, none⟩), .int .i64 i] w (TdN B G sv ts w mv (td ts b (td ts a m) ++ [⟨6, lstI (td ts a m), lstI (td ts b (td ts a m)), c, n, nm, u, y, z, at_⟩])) := by
 obtain ⟨T, off, cp, rfl, hTB, hTG, hTs, hS⟩ := h.out.ni
 obtain ⟨e0, e1, e2, e3, e4, e5, e6, e7, e8, e9⟩ := hS i hi
 rw [hx] at e0 e1 e2 e3 e4 e5 e6 e7 e8 e9
 simp only at e0 e1 e2 e3 e4 e5 e6 e7 e8 e9
 have hsv := h.out.cn
 have hGl : G < w.heap.size := by have := h.out.gB; have := h.out.bl; omega
 have hi1 : (i : Int) < (ts.length : Int) := by omega
 have hi0 : (0 : Int) ≤ (i : Int) := by omega
 clear hS hx hi
 go_enter Tryz.func22, Tryz.ntmps22
 go_wp2_with fail
 obtain ⟨W0, hW0⟩ : ∃ W, w.alloc (.cells #[.int .i64 6, .int .i64 a, .int .i64 b, .int .i64 c, .int .i64 n, .string nm, .string u, .string y, .string z, .int .i64 at_] 45) = W := ⟨_, rfl⟩
 obtain ⟨hX, h2, hst, hBb⟩ := ndbox_lit (t := ⟨6, a, b, c, n, nm, u, y, z, at_⟩) h.out hW0
 rw [hW0]
 clear hW0 hsv hGl e0 e1 e2 e3 e4 e5 e6 e7 e8 e9
 have hX := Lib.hid hX
 have h2 := Lib.hid h2
 have hst := Lib.hid hst
 refine (ka.out _ _ _ h2 hn hba).mono ?_
 rintro e w1 ⟨rfl, mv1, k1, k2⟩
 have hX1 := Lib.hid (hX.out.step k2)
 have hh1 := Lib.hid k1
 have hst1 := Lib.hid (hst.out.trans k2)
 clear k1 k2
 obtain ⟨m1, hm1⟩ : ∃ r, td ts a m = r := ⟨_, rfl⟩
 rw [hm1] at hh1 hia hbb hbl ⊢
 have g0 := hX1.out.c0; have g1 := hX1.out.c1; have g2 := hX1.out.c2; have g3 := hX1.out.c3; have g4 := hX1.out.c4; have g5 := hX1.out.c5; have g6 := hX1.out.c6; have g7 := hX1.out.c7; have g8 := hX1.out.c8; have g9 := hX1.out.c9; have gf := hX1.out.fz; have gl := hX1.out.lt
 simp only at g0 g1 g2 g3 g4 g5 g6 g7 g8 g9
 go_wp2_with fail
 obtain ⟨W1, hW1⟩ : ∃ W, w1.setCell ⟨w.heap.size, 1, none⟩ (.int .i64 (lstI m1)) = W := ⟨_, rfl⟩
 have hX1s := Lib.hid (hX1.out.set1 (lstI m1))
 have h21s := Lib.hid (hh1.out.box hX1.out hBb 1 (.int .i64 (lstI m1)))
 have hst1s := Lib.hid (hst1.out.box (Nat.le_refl _) 1 (.int .i64 (lstI m1)))
 rw [hW1] at hX1s h21s hst1s ⊢
 clear hW1 g0 g1 g2 g3 g4 g5 g6 g7 g8 g9 gf gl hX1 hh1 hst1
 refine (kb.out _ _ _ h21s hia hbb).mono ?_
 rintro e w2 ⟨rfl, mv2, k1, k2⟩
 have hX2 := Lib.hid (hX1s.out.step k2)
 have hh2 := Lib.hid k1
 have hst2 := Lib.hid (hst1s.out.trans k2)
 clear k1 k2
 obtain ⟨m2, hm2⟩ : ∃ r, td ts b m1 = r := ⟨_, rfl⟩
 rw [hm2] at hh2 hbl ⊢
 have g0 := hX2.out.c0; have g1 := hX2.out.c1; have g2 := hX2.out.c2; have g3 := hX2.out.c3; have g4 := hX2.out.c4; have g5 := hX2.out.c5; have g6 := hX2.out.c6; have g7 := hX2.out.c7; have g8 := hX2.out.c8; have g9 := hX2.out.c9; have gf := hX2.out.fz; have gl := hX2.out.lt
 simp only at g0 g1 g2 g3 g4 g5 g6 g7 g8 g9
 go_wp2_with fail
 obtain ⟨W2, hW2⟩ : ∃ W, w2.setCell ⟨w.heap.size, 2, none⟩ (.int .i64 (lstI m2)) = W := ⟨_, rfl⟩
 have hX2s := Lib.hid (hX2.out.set2 (lstI m2))
 have h22s := Lib.hid (hh2.out.box hX2.out hBb 2 (.int .i64 (lstI m2)))
 have hst2s := Lib.hid (hst2.out.box (Nat.le_refl _) 2 (.int .i64 (lstI m2)))
 rw [hW2] at hX2s h22s hst2s ⊢
 clear hW2 g0 g1 g2 g3 g4 g5 g6 g7 g8 g9 gf gl hX2 hh2 hst2
 refine (tadd_any B G _ ts _ mv2 m2 ⟨6, lstI m1, lstI m2, c, n, nm, u, y, z, at_⟩ h22s (by omega)).mono ?_
 rintro e wz ⟨rfl, mv', k1, k2⟩
 have k1 := Lib.hid k1
 have k3 := Lib.hid (hst2s.out.trans k2)
 go_wp2_with fail
 go_ret
 subst hm2 hm1
 exact ⟨rfl, mv', k1.out, k3.out⟩
theorem tput10 (B G : Nat) (sv : Value) (ts : List Nd) (i : Nat) (w : World) (mv : Value) (m : List Nd) (a b c : Nat) (n : Int) (nm u y z : ByteArray) (at_ : Int) (hx : ts.getD i nd0 = ⟨10, a, b, c, n, nm, u, y, z, at_⟩) (hi : i < ts.length) (h : Hid (TdW B G sv ts w mv m)) (hn : Hid (IntOk m)) (hlen : Hid (Tre ts)) (ka : Hid (TdP B G sv ts a)) (hba : (m.length : Int) + (a + 1 - bg (ksN ts) a) ≤ 512) (kb : Hid (TdP B G sv ts b)) (hia : Hid (IntOk (td ts a m))) (hbb : ((td ts a m).length : Int) + (b + 1 - bg (ksN ts) b) ≤ 512) (kc : Hid (TdP B G sv ts c)) (hib : Hid (IntOk (td ts b (td ts a m)))) (hbc : ((td ts b (td ts a m)).length : Int) + (c + 1 - bg (ksN ts) c) ≤ 512) (hbl : (td ts c (td ts b (td ts a m))).length < 600)  :
  Calls Tryz.prog 22 #[.pointer (some ⟨G, 0, none⟩), .int .i64 i] w (TdN B G sv ts w mv (td ts c (td ts b (td ts a m)) ++ [⟨10, lstI (td ts a m), lstI (td ts b (td ts a m)), lstI (td ts c (td ts b (td ts a m))), n, nm, u, y, z, at_⟩])) := by
 obtain ⟨T, off, cp, rfl, hTB, hTG, hTs, hS⟩ := h.out.ni
 obtain ⟨e0, e1, e2, e3, e4, e5, e6, e7, e8, e9⟩ := hS i hi
 rw [hx] at e0 e1 e2 e3 e4 e5 e6 e7 e8 e9
 simp only at e0 e1 e2 e3 e4 e5 e6 e7 e8 e9
 have hsv := h.out.cn
 have hGl : G < w.heap.size := by have := h.out.gB; have := h.out.bl; omega
 have hi1 : (i : Int) < (ts.length : Int) := by omega
 have hi0 : (0 : Int) ≤ (i : Int) := by omega
 clear hS hx hi
 go_enter Tryz.func22, Tryz.ntmps22
 go_wp2_with fail
 obtain ⟨W0, hW0⟩ : ∃ W, w.alloc (.cells #[.int .i64 10, .int .i64 a, .int .i64 b, .int .i64 c, .int .i64 n, .string nm, .string u, .string y, .string z, .int .i64 at_] 45) = W := ⟨_, rfl⟩
 obtain ⟨hX, h2, hst, hBb⟩ := ndbox_lit (t := ⟨10, a, b, c, n, nm, u, y, z, at_⟩) h.out hW0
 rw [hW0]
 clear hW0 hsv hGl e0 e1 e2 e3 e4 e5 e6 e7 e8 e9
 have hX := Lib.hid hX
 have h2 := Lib.hid h2
 have hst := Lib.hid hst
 refine (ka.out _ _ _ h2 hn hba).mono ?_
 rintro e w1 ⟨rfl, mv1, k1, k2⟩
 have hX1 := Lib.hid (hX.out.step k2)
 have hh1 := Lib.hid k1
 have hst1 := Lib.hid (hst.out.trans k2)
 clear k1 k2
 obtain ⟨m1, hm1⟩ : ∃ r, td ts a m = r := ⟨_, rfl⟩
 rw [hm1] at hh1 hia hbb hib hbc hbl ⊢
 have g0 := hX1.out.c0; have g1 := hX1.out.c1; have g2 := hX1.out.c2; have g3 := hX1.out.c3; have g4 := hX1.out.c4; have g5 := hX1.out.c5; have g6 := hX1.out.c6; have g7 := hX1.out.c7; have g8 := hX1.out.c8; have g9 := hX1.out.c9; have gf := hX1.out.fz; have gl := hX1.out.lt
 simp only at g0 g1 g2 g3 g4 g5 g6 g7 g8 g9
 go_wp2_with fail
 obtain ⟨W1, hW1⟩ : ∃ W, w1.setCell ⟨w.heap.size, 1, none⟩ (.int .i64 (lstI m1)) = W := ⟨_, rfl⟩
 have hX1s := Lib.hid (hX1.out.set1 (lstI m1))
 have h21s := Lib.hid (hh1.out.box hX1.out hBb 1 (.int .i64 (lstI m1)))
 have hst1s := Lib.hid (hst1.out.box (Nat.le_refl _) 1 (.int .i64 (lstI m1)))
 rw [hW1] at hX1s h21s hst1s ⊢
 clear hW1 g0 g1 g2 g3 g4 g5 g6 g7 g8 g9 gf gl hX1 hh1 hst1
 refine (kb.out _ _ _ h21s hia hbb).mono ?_
 rintro e w2 ⟨rfl, mv2, k1, k2⟩
 have hX2 := Lib.hid (hX1s.out.step k2)
 have hh2 := Lib.hid k1
 have hst2 := Lib.hid (hst1s.out.trans k2)
 clear k1 k2
 obtain ⟨m2, hm2⟩ : ∃ r, td ts b m1 = r := ⟨_, rfl⟩
 rw [hm2] at hh2 hib hbc hbl ⊢
 have g0 := hX2.out.c0; have g1 := hX2.out.c1; have g2 := hX2.out.c2; have g3 := hX2.out.c3; have g4 := hX2.out.c4; have g5 := hX2.out.c5; have g6 := hX2.out.c6; have g7 := hX2.out.c7; have g8 := hX2.out.c8; have g9 := hX2.out.c9; have gf := hX2.out.fz; have gl := hX2.out.lt
 simp only at g0 g1 g2 g3 g4 g5 g6 g7 g8 g9
 go_wp2_with fail
 obtain ⟨W2, hW2⟩ : ∃ W, w2.setCell ⟨w.heap.size, 2, none⟩ (.int .i64 (lstI m2)) = W := ⟨_, rfl⟩
 have hX2s := Lib.hid (hX2.out.set2 (lstI m2))
 have h22s := Lib.hid (hh2.out.box hX2.out hBb 2 (.int .i64 (lstI m2)))
 have hst2s := Lib.hid (hst2.out.box (Nat.le_refl _) 2 (.int .i64 (lstI m2)))
 rw [hW2] at hX2s h22s hst2s ⊢
 clear hW2 g0 g1 g2 g3 g4 g5 g6 g7 g8 g9 gf gl hX2 hh2 hst2
 refine (kc.out _ _ _ h22s hib hbc).mono ?_
 rintro e w3 ⟨rfl, mv3, k1, k2⟩
 have hX3 := Lib.hid (hX2s.out.step k2)
 have hh3 := Lib.hid k1
 have hst3 := Lib.hid (hst2s.out.trans k2)
 clear k1 k2
 obtain ⟨m3, hm3⟩ : ∃ r, td ts c m2 = r := ⟨_, rfl⟩
 rw [hm3] at hh3 hbl ⊢
 have g0 := hX3.out.c0; have g1 := hX3.out.c1; have g2 := hX3.out.c2; have g3 := hX3.out.c3; have g4 := hX3.out.c4; have g5 := hX3.out.c5; have g6 := hX3.out.c6; have g7 := hX3.out.c7; have g8 := hX3.out.c8; have g9 := hX3.out.c9; have gf := hX3.out.fz; have gl := hX3.out.lt
 simp only at g0 g1 g2 g3 g4 g5 g6 g7 g8 g9
 go_wp2_with fail
 obtain ⟨W3, hW3⟩ : ∃ W, w3.setCell ⟨w.heap.size, 3, none⟩ (.int .i64 (lstI m3)) = W := ⟨_, rfl⟩
 have hX3s := Lib.hid (hX3.out.set3 (lstI m3))
 have h23s := Lib.hid (hh3.out.box hX3.out hBb 3 (.int .i64 (lstI m3)))
 have hst3s := Lib.hid (hst3.out.box (Nat.le_refl _) 3 (.int .i64 (lstI m3)))
 rw [hW3] at hX3s h23s hst3s ⊢
 clear hW3 g0 g1 g2 g3 g4 g5 g6 g7 g8 g9 gf gl hX3 hh3 hst3
 refine (tadd_any B G _ ts _ mv3 m3 ⟨10, lstI m1, lstI m2, lstI m3, n, nm, u, y, z, at_⟩ h23s (by omega)).mono ?_
 rintro e wz ⟨rfl, mv', k1, k2⟩
 have k1 := Lib.hid k1
 have k3 := Lib.hid (hst3s.out.trans k2)
 go_wp2_with fail
 go_ret
 subst hm3 hm2 hm1
 exact ⟨rfl, mv', k1.out, k3.out⟩
end Go.Proofs.YthpcbgljbpmafaaGreatDoor
