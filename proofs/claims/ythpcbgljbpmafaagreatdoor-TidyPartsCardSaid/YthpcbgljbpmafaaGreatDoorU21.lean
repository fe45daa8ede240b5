/- The reference's fields at any node. -/
import Derived.Test.YthpcbgljbpmafaaGreatDoorU12
import Derived.Test.YthpcbgljbpmafaaGreatDoorU13
import Derived.Test.YthpcbgljbpmafaaGreatDoorU19
import Derived.Test.YthpcbgljbpmafaaGreatDoorU20
set_option maxRecDepth 100000
set_option maxHeartbeats 8000000
namespace Go.Proofs.YthpcbgljbpmafaaGreatDoor
open Go.RowKit
set_option linter.unusedVariables false
set_option linter.unusedSimpArgs false
theorem boundX (kd : Int) (hk : kd < 0 ∨ 10 < kd) (a b c nm at_ : Int) (s1 s2 s3 s4 : ByteArray) (v : Value) (w : World) :
  Calls Tryz.prog 86 #[.agg #[.int .i64 kd, .int .i64 a, .int .i64 b, .int .i64 c, .int .i64 nm, .string s1, .string s2, .string s3, .string s4, .int .i64 at_], v] w fun e w' => e = .returned (.bool true) ∧ Below w.heap.size w w' := by
 have b0 : (kd == 0) = false := beq_eq_false_iff_ne.2 (by omega)
 have b1 : (kd == 1) = false := beq_eq_false_iff_ne.2 (by omega)
 have b2 : (kd == 2) = false := beq_eq_false_iff_ne.2 (by omega)
 have b3 : (kd == 3) = false := beq_eq_false_iff_ne.2 (by omega)
 have b4 : (kd == 4) = false := beq_eq_false_iff_ne.2 (by omega)
 have b5 : (kd == 5) = false := beq_eq_false_iff_ne.2 (by omega)
 have b6 : (kd == 6) = false := beq_eq_false_iff_ne.2 (by omega)
 have b7 : (kd == 7) = false := beq_eq_false_iff_ne.2 (by omega)
 have b8 : (kd == 8) = false := beq_eq_false_iff_ne.2 (by omega)
 have b9 : (kd == 9) = false := beq_eq_false_iff_ne.2 (by omega)
 have b10 : (kd == 10) = false := beq_eq_false_iff_ne.2 (by omega)
 clear hk
 go_enter Tryz.func86, Tryz.ntmps86
 go_wp2_with fail
 go_ret
 exact ⟨rfl, by (repeat' (first | (with_reducible first | exact bR _ _ | assumption | apply bS | apply bA | apply bD | apply bN | exact bL _) | (simp; done) | (simp; omega) | omega | exact bL _))⟩
theorem okF_X (named : Bool) (kd : Int) (hk : kd < 0 ∨ 10 < kd) (a b c nm at_ : Int) (s1 s2 s3 s4 : ByteArray) : okF named kd a b c nm s1 s2 s3 s4 at_ = false := by
 unfold okF plainB
 rw [if_neg (by omega), if_neg (by omega), if_neg (by omega), if_neg (by omega), if_neg (by omega), if_neg (by omega), if_neg (by omega), if_neg (by omega), if_neg (by omega)]
 rw [show decide (kd = 10) = false from decide_eq_false (by omega)]; simp
theorem kidsI_X (kd : Int) (hk : kd < 0 ∨ 10 < kd) : kidsI kd = -1 := by
 unfold kidsI
 (repeat' rw [if_neg (by omega)])
theorem fieldsX (named : Bool) (kd : Int) (hk : kd < 0 ∨ 10 < kd) (a b c nm at_ : Int) (s1 s2 s3 s4 : ByteArray) (w : World) :
  Calls Tryz.prog 63 #[.agg #[.int .i64 kd, .int .i64 a, .int .i64 b, .int .i64 c, .int .i64 nm, .string s1, .string s2, .string s3, .string s4, .int .i64 at_], .bool named] w fun e w' => e = .returned (.bool (okF named kd a b c nm s1 s2 s3 s4 at_)) ∧ Below w.heap.size w w' := by
 rw [okF_X named kd hk]
 have kK := Lib.hid fun (W : World) => kids_any kd W
 rw [kidsI_X kd hk] at kK
 have kB := Lib.hid fun (v : Value) (W : World) => boundX kd hk a b c nm at_ s1 s2 s3 s4 v W
 have b0 : (kd == 0) = false := beq_eq_false_iff_ne.2 (by omega)
 have b1 : (kd == 1) = false := beq_eq_false_iff_ne.2 (by omega)
 have b2 : (kd == 2) = false := beq_eq_false_iff_ne.2 (by omega)
 have b3 : (kd == 3) = false := beq_eq_false_iff_ne.2 (by omega)
 have b4 : (kd == 4) = false := beq_eq_false_iff_ne.2 (by omega)
 have b5 : (kd == 5) = false := beq_eq_false_iff_ne.2 (by omega)
 have b6 : (kd == 6) = false := beq_eq_false_iff_ne.2 (by omega)
 have b7 : (kd == 7) = false := beq_eq_false_iff_ne.2 (by omega)
 have b8 : (kd == 8) = false := beq_eq_false_iff_ne.2 (by omega)
 have b9 : (kd == 9) = false := beq_eq_false_iff_ne.2 (by omega)
 have b10 : (kd == 10) = false := beq_eq_false_iff_ne.2 (by omega)
 clear hk
 cases named
 all_goals
  go_enter Tryz.func63, Tryz.ntmps63
  go_wp2_with fail
  refine (kK.out _).mono ?_
  rintro e w1 ⟨rfl, hb1⟩
  have hB1 := Lib.hid (belT (show Below w.heap.size w _ from by (repeat' (first | (with_reducible first | exact bR _ _ | assumption | apply bS | apply bA | apply bD | apply bN | exact bL _) | (simp; done) | (simp; omega) | omega | exact bL _))) hb1)
  have q0 : w1.cell? ⟨w.heap.size, 0, none⟩ = some (.int .i64 kd) := carry hb1 (by first | (simp; done) | (simp; omega)) (by simp)
  have q1 : w1.cell? ⟨w.heap.size, 1, none⟩ = some (.int .i64 a) := carry hb1 (by first | (simp; done) | (simp; omega)) (by simp)
  have q2 : w1.cell? ⟨w.heap.size, 2, none⟩ = some (.int .i64 b) := carry hb1 (by first | (simp; done) | (simp; omega)) (by simp)
  have q3 : w1.cell? ⟨w.heap.size, 3, none⟩ = some (.int .i64 c) := carry hb1 (by first | (simp; done) | (simp; omega)) (by simp)
  have q4 : w1.cell? ⟨w.heap.size, 4, none⟩ = some (.int .i64 nm) := carry hb1 (by first | (simp; done) | (simp; omega)) (by simp)
  have q5 : w1.cell? ⟨w.heap.size, 5, none⟩ = some (.string s1) := carry hb1 (by first | (simp; done) | (simp; omega)) (by simp)
  have q6 : w1.cell? ⟨w.heap.size, 6, none⟩ = some (.string s2) := carry hb1 (by first | (simp; done) | (simp; omega)) (by simp)
  have q7 : w1.cell? ⟨w.heap.size, 7, none⟩ = some (.string s3) := carry hb1 (by first | (simp; done) | (simp; omega)) (by simp)
  have q8 : w1.cell? ⟨w.heap.size, 8, none⟩ = some (.string s4) := carry hb1 (by first | (simp; done) | (simp; omega)) (by simp)
  have q9 : w1.cell? ⟨w.heap.size, 9, none⟩ = some (.int .i64 at_) := carry hb1 (by first | (simp; done) | (simp; omega)) (by simp)
  have hs1 : w.heap.size + 1 < w1.heap.size := by have := hb1.size; (try simp at this); omega
  clear hb1
  go_wp2_with fail
 ·go_ret
  exact ⟨rfl, hB1.out⟩
 ·refine (kB.out _ _).mono ?_
  rintro e w2 ⟨rfl, hb2⟩
  have hB2 := Lib.hid (belT hB1.out hb2)
  clear hb2
  go_wp2_with fail
  go_ret
  exact ⟨rfl, hB2.out⟩
theorem fields_any (named : Bool) (kd : Int) (a b c nm at_ : Int) (s1 s2 s3 s4 : ByteArray) (w : World) (hz : s1.size ≤ 1125899906842624 ∧ s2.size ≤ 1125899906842624 ∧ s3.size ≤ 1125899906842624 ∧ s4.size ≤ 1125899906842624) :
  Calls Tryz.prog 63 #[.agg #[.int .i64 kd, .int .i64 a, .int .i64 b, .int .i64 c, .int .i64 nm, .string s1, .string s2, .string s3, .string s4, .int .i64 at_], .bool named] w fun e w' => e = .returned (.bool (okF named kd a b c nm s1 s2 s3 s4 at_)) ∧ Below w.heap.size w w' := by
 by_cases hk : kd < 0 ∨ 10 < kd
 ·exact fieldsX named kd hk a b c nm at_ s1 s2 s3 s4 w
 have h11 : kd = 0 ∨ kd = 1 ∨ kd = 2 ∨ kd = 3 ∨ kd = 4 ∨ kd = 5 ∨ kd = 6 ∨ kd = 7 ∨ kd = 8 ∨ kd = 9 ∨ kd = 10 := by omega
 rcases h11 with rfl | rfl | rfl | rfl | rfl | rfl | rfl | rfl | rfl | rfl | rfl <;> cases named
 ·exact fields0r a b c nm at_ s1 s2 s3 s4 w hz
 ·exact fields0n a b c nm at_ s1 s2 s3 s4 w hz
 ·exact fields1r a b c nm at_ s1 s2 s3 s4 w hz
 ·exact fields1n a b c nm at_ s1 s2 s3 s4 w hz
 ·exact fields2r a b c nm at_ s1 s2 s3 s4 w hz
 ·exact fields2n a b c nm at_ s1 s2 s3 s4 w hz
 ·exact fields3r a b c nm at_ s1 s2 s3 s4 w hz
 ·exact fields3n a b c nm at_ s1 s2 s3 s4 w hz
 ·exact fields4r a b c nm at_ s1 s2 s3 s4 w hz
 ·exact fields4n a b c nm at_ s1 s2 s3 s4 w hz
 ·exact fields5r a b c nm at_ s1 s2 s3 s4 w hz
 ·exact fields5n a b c nm at_ s1 s2 s3 s4 w hz
 ·exact fields6r a b c nm at_ s1 s2 s3 s4 w hz
 ·exact fields6n a b c nm at_ s1 s2 s3 s4 w hz
 ·exact fields7r a b c nm at_ s1 s2 s3 s4 w hz
 ·exact fields7n a b c nm at_ s1 s2 s3 s4 w hz
 ·exact fields8r a b c nm at_ s1 s2 s3 s4 w hz
 ·exact fields8n a b c nm at_ s1 s2 s3 s4 w hz
 ·exact fields9r a b c nm at_ s1 s2 s3 s4 w hz
 ·exact fields9n a b c nm at_ s1 s2 s3 s4 w hz
 ·exact fields10r a b c nm at_ s1 s2 s3 s4 w hz
 ·exact fields10n a b c nm at_ s1 s2 s3 s4 w hz
open Go.RowKit
def okNm (named : Bool) (t : Nd) : Bool := if named then namedB t.k t.n (namesL t.k t.nm t.x t.y t.z) else resB (namesL t.k t.nm t.x t.y t.z)
theorem okNd_F (named : Bool) (t : Nd) : okNd (okNm named) t = (okF named t.k t.a t.b t.c t.n t.nm t.x t.y t.z t.p && numB t.k t.n) := by
 unfold okNd okF okNm
 cases plainB t.k t.a t.b t.c t.n t.nm t.x t.y t.z <;> cases decide (0 ≤ t.p) <;> cases decide (t.p ≤ 4096) <;> cases numB t.k t.n <;> simp
theorem kNamed : Hid (∀ (t : Nd) (W : World), NdSz t → errTy W → Calls Tryz.prog 76 #[.agg #[.int .i64 t.k, .int .i64 t.a, .int .i64 t.b, .int .i64 t.c, .int .i64 t.n, .string t.nm, .string t.x, .string t.y, .string t.z, .int .i64 t.p]] W fun e w' => e = .returned (.bool (okNm true t)) ∧ Below W.heap.size W w') :=
 Lib.hid fun t W hz hg => named_any t.k t.a t.b t.c t.n t.p t.nm t.x t.y t.z W hz hg
theorem kRes : Hid (∀ (t : Nd) (W : World), NdSz t → errTy W → Calls Tryz.prog 79 #[.agg #[.int .i64 t.k, .int .i64 t.a, .int .i64 t.b, .int .i64 t.c, .int .i64 t.n, .string t.nm, .string t.x, .string t.y, .string t.z, .int .i64 t.p]] W fun e w' => e = .returned (.bool (okNm false t)) ∧ Below W.heap.size W w') :=
 Lib.hid fun t W hz hg => resolved_any t.k t.a t.b t.c t.n t.p t.nm t.x t.y t.z W
theorem cfNamed (xs : Array Value) (W : World) : (callFunc 76 xs).run Tryz.prog W = .ok (.enter 76 xs) W := by kernel_rfl
theorem cfRes (xs : Array Value) (W : World) : (callFunc 79 xs).run Tryz.prog W = .ok (.enter 79 xs) W := by kernel_rfl
theorem treeV_nil (ok : Nd → Bool) : treeV ok [] = false := treeV_len ok [] (.inl rfl)
theorem isTreeN_any (a : Option Addr) (n c : Nat) (ts : List Nd) (w : World) (h : Hid (NArg w a n ts)) (hsz : Hid (∀ t ∈ ts, NdSz t)) (hl : n ≤ 140737488351232) (hg : Hid (errTy w)) :
  Calls Tryz.prog 75 #[.slice a n c, .func (.func 76) #[] #[]] w fun e w' => e = .returned (.bool (treeV (okNm true) ts)) ∧ Below w.heap.size w w' := by
 obtain ⟨rfl, rfl | ⟨b, off, rfl, h1, h2⟩⟩ := h.out
 ·rw [treeV_nil]; exact tree_nil _ a c w
 ·exact isTree_any _ _ (Lib.hid cfNamed) kNamed b off c ts w (Lib.hid h1) hsz h2 hl hg
theorem isTreeR_any (a : Option Addr) (n c : Nat) (ts : List Nd) (w : World) (h : Hid (NArg w a n ts)) (hsz : Hid (∀ t ∈ ts, NdSz t)) (hl : n ≤ 140737488351232) (hg : Hid (errTy w)) :
  Calls Tryz.prog 75 #[.slice a n c, .func (.func 79) #[] #[]] w fun e w' => e = .returned (.bool (treeV (okNm false) ts)) ∧ Below w.heap.size w w' := by
 obtain ⟨rfl, rfl | ⟨b, off, rfl, h1, h2⟩⟩ := h.out
 ·rw [treeV_nil]; exact tree_nil _ a c w
 ·exact isTree_any _ _ (Lib.hid cfRes) kRes b off c ts w (Lib.hid h1) hsz h2 hl hg
theorem shaped_nil (nmd : Bool) (p : Option Addr) (c : Nat) (w : World) :
  Calls Tryz.prog 42 #[.slice p 0 c, .bool nmd] w fun e w' => e = .returned (.bool false) ∧ Below w.heap.size w w' := by
 go_enter Tryz.func42, Tryz.ntmps42
 go_wp2_with fail
 go_ret
 exact ⟨rfl, by (repeat' (first | (with_reducible first | exact bR _ _ | assumption | apply bS | apply bA | apply bD | apply bN | exact bL _) | (simp; done) | (simp; omega) | omega | exact bL _))⟩
theorem shaped_sl (nmd : Bool) (b off cp : Nat) (ts : List Nd) (w : World) (h : Hid (NdSl w b off ts)) (hsz : Hid (∀ t ∈ ts, NdSz t)) (hbs : b < w.heap.size) (hl : ts.length ≤ 140737488351232) :
  Calls Tryz.prog 42 #[.slice (some ⟨b, off, none⟩) ts.length cp, .bool nmd] w fun e w' => e = .returned (.bool (treeV (okNm nmd) ts)) ∧ Below w.heap.size w w' := by
 by_cases h0 : ts.length = 0
 ·have hv := Lib.hid (treeV_len (okNm nmd) ts (.inl h0))
  have h0' : (ts.length : Int) < 1 := by omega
  have h0'' := Lib.hid h0; clear h0
  go_enter Tryz.func42, Tryz.ntmps42
  go_wp2_with fail
  go_ret
  exact ⟨ret_b hv.out.symm, by (repeat' (first | (with_reducible first | exact bR _ _ | assumption | apply bS | apply bA | apply bD | apply bN | exact bL _) | (simp; done) | (simp; omega) | omega | exact bL _))⟩
 have h0' : ¬ (ts.length : Int) < 1 := by omega
 by_cases h1 : 512 < ts.length
 ·have hv := Lib.hid (treeV_len (okNm nmd) ts (.inr h1))
  have h1' : (512 : Int) < (ts.length : Int) := by omega
  go_enter Tryz.func42, Tryz.ntmps42
  go_wp2_with fail
  go_ret
  exact ⟨ret_b hv.out.symm, by (repeat' (first | (with_reducible first | exact bR _ _ | assumption | apply bS | apply bA | apply bD | apply bN | exact bL _) | (simp; done) | (simp; omega) | omega | exact bL _))⟩
 have h1' : ¬ (512 : Int) < (ts.length : Int) := by omega
 have hfin : Hid (∀ j, j < ts.length → okNd (okNm nmd) (ts.getD j nd0) = false → treeV (okNm nmd) ts = false) := Lib.hid (treeV_node (okNm nmd) ts)
 have hokv : Hid (ts.all (okNd (okNm nmd)) = true → treeV (okNm nmd) ts = (decide (0 < ts.length) && decide (bg (ksN ts) (ts.length - 1) = 0))) := Lib.hid (treeV_ok (okNm nmd) ts (by omega) (by omega))
 go_enter Tryz.func42, Tryz.ntmps42
 go_wp2_with fail
 go_loopw [5] (fun i wr => ∃ j : Nat, j ≤ ts.length ∧ i = .int .i64 j ∧ Below w.heap.size w wr ∧ Hid ((ts.take j).all (okNd (okNm nmd)) = true)) (fun i _ => ts.length - (intOf i).toNat)
 case atStart => exact ⟨0, by omega, rfl, by (repeat' (first | (with_reducible first | exact bR _ _ | assumption | apply bS | apply bA | apply bD | apply bN | exact bL _) | (simp; done) | (simp; omega) | omega | exact bL _)), Lib.hid rfl⟩
 case round =>
  obtain ⟨j, hj, rfl, hbw, hall⟩ := hrel
  by_cases hlt : j < ts.length
  ·have hT := (h.out j hlt).below hbw hbs
   have htk : Hid ((ts.take (j + 1)).all (okNd (okNm nmd)) = ((ts.take j).all (okNd (okNm nmd)) && okNd (okNm nmd) (ts.getD j nd0))) := Lib.hid (allT_take ts nd0 (okNd (okNm nmd)) j hlt)
   have hfj : Hid (okNd (okNm nmd) (ts.getD j nd0) = false → treeV (okNm nmd) ts = false) := Lib.hid (hfin.out j hlt)
   have hsj : Hid (NdSz (ts.getD j nd0)) := Lib.hid (hsz.out _ (getN_mem hlt))
   generalize ts.getD j nd0 = t at hT htk hfj hsj
   have kF := Lib.hid fun (W : World) => fields_any nmd t.k t.a t.b t.c t.n t.p t.nm t.x t.y t.z W hsj.out
   have kN := Lib.hid fun (W : World) => nums_any t.k t.a t.b t.c t.n t.p t.nm t.x t.y t.z W
   have hok := Lib.hid (okNd_F nmd t)
   generalize okF nmd t.k t.a t.b t.c t.n t.nm t.x t.y t.z t.p = bf at kF hok
   generalize numB t.k t.n = bn at kN hok
   obtain ⟨e0, e1, e2, e3, e4, e5, e6, e7, e8, e9⟩ := hT
   have hbr : b < wr.heap.size := by have := hbw.size; omega
   have hlt' : (j : Int) < (ts.length : Int) := by omega
   have hj0 : (0 : Int) ≤ (j : Int) := by omega
   go_wp2_with fail
   refine (kF.out _).mono ?_
   rintro e w1 ⟨rfl, hb1⟩
   have hbw1 := Lib.hid (belT hbw hb1)
   have d0 := carry hb1 hbr e0
   have d1 := carry hb1 hbr e1
   have d2 := carry hb1 hbr e2
   have d3 := carry hb1 hbr e3
   have d4 := carry hb1 hbr e4
   have d5 := carry hb1 hbr e5
   have d6 := carry hb1 hbr e6
   have d7 := carry hb1 hbr e7
   have d8 := carry hb1 hbr e8
   have d9 := carry hb1 hbr e9
   clear hb1 e0 e1 e2 e3 e4 e5 e6 e7 e8 e9
   cases bf
   ·have hf := Lib.hid (hfj.out (by rw [hok.out]; rfl))
    go_wp2_with fail
    go_ret
    exact ⟨ret_b hf.out.symm, hbw1.out⟩
   go_wp2_with fail
   refine (kN.out _).mono ?_
   rintro e w2 ⟨rfl, hb2⟩
   have hbw2 := Lib.hid (belT hbw1.out hb2)
   clear hb2 d0 d1 d2 d3 d4 d5 d6 d7 d8 d9
   cases bn
   ·have hf := Lib.hid (hfj.out (by rw [hok.out]; rfl))
    go_wp2_with fail
    go_ret
    exact ⟨ret_b hf.out.symm, hbw2.out⟩
   go_wp2_with fail
   go_round
   case rel => exact ⟨j + 1, by omega, by go_num, hbw2.out, Lib.hid (by rw [htk.out, hall.out, hok.out]; rfl)⟩
   case measure => simp [intOf]; omega
  ·have hval : Hid (treeV (okNm nmd) ts = (decide (0 < ts.length) && decide (bg (ksN ts) (ts.length - 1) = 0))) := Lib.hid (hokv.out (by have := hall.out; rwa [List.take_of_length_le (by omega)] at this))
   have kB := Lib.hid fun (W : World) (hW : Hid (NdSl W b off ts)) (hbW : b < W.heap.size) => (show Calls Tryz.prog 65 #[.slice (some ⟨b, off, none⟩) ts.length cp, .int .i64 ((ts.length : Int) - 1)] W fun e w' => e = .returned (.int .i64 (bg (ksN ts) (ts.length - 1))) ∧ Below W.heap.size W w' from by
    rw [show (ts.length : Int) - 1 = ((ts.length - 1 : Nat) : Int) by omega]
    exact rbegin_any b off cp ts hl ts.length (ts.length - 1) W (by omega) (by omega) hW hbW)
   obtain ⟨R, hR⟩ : ∃ r, bg (ksN ts) (ts.length - 1) = r := ⟨_, rfl⟩
   rw [hR] at kB hval
   have hjl : ¬ (j : Int) < (ts.length : Int) := by omega
   clear hR
   go_wp2_with fail
   refine (kB.out _ (Lib.hid (h.out.below hbw hbs)) (by have := hbw.size; omega)).mono ?_
   rintro e w1 ⟨rfl, hb1⟩
   have hbw1 := Lib.hid (belT hbw hb1)
   clear hb1
   go_wp2_with fail
   go_ret
   exact ⟨ret_b (by rw [hval.out, decide_eq_true (by omega : 0 < ts.length), Bool.true_and, Bool.eq_iff_iff]; simp), hbw1.out⟩
theorem shaped_any (nmd : Bool) (a : Option Addr) (n c : Nat) (ts : List Nd) (w : World) (h : Hid (NArg w a n ts)) (hsz : Hid (∀ t ∈ ts, NdSz t)) (hl : n ≤ 140737488351232) :
  Calls Tryz.prog 42 #[.slice a n c, .bool nmd] w fun e w' => e = .returned (.bool (treeV (okNm nmd) ts)) ∧ Below w.heap.size w w' := by
 obtain ⟨rfl, rfl | ⟨b, off, rfl, h1, h2⟩⟩ := h.out
 ·rw [treeV_nil]; exact shaped_nil nmd a c w
 ·exact shaped_sl nmd b off c ts w (Lib.hid h1) hsz h2 hl
open Go.RowKit
def anyV (ts : List Nd) : Bool := treeV (okNm true) ts || treeV (okNm false) ts
def hasV (ts : List Nd) (at_ : Int) : Bool := decide (0 ≤ at_ ∧ at_ < ts.length) && anyV ts
def depV (ts : List Nd) (at_ : Int) : Int × Int := if hasV ts at_ then (dp (ksN ts) at_.toNat, 0) else (0, 300)
theorem anyV_wf {ts : List Nd} (h : anyV ts = true) : ts.length ≤ 512 ∧ 0 < ts.length ∧ bg (ksN ts) (ts.length - 1) = 0 ∧ ∀ m, m < ts.length → 0 ≤ bg (ksN ts) m := by
 unfold anyV treeV at h
 simp only [Bool.or_eq_true, Bool.and_eq_true, decide_eq_true_eq] at h
 have hb : bg (ksN ts) (ts.length - 1) = 0 := by rcases h with ⟨_, h⟩ | ⟨_, h⟩ <;> exact h
 have hl : 1 ≤ ts.length ∧ ts.length ≤ 512 := by rcases h with ⟨⟨h, _⟩, _⟩ | ⟨⟨h, _⟩, _⟩ <;> exact h
 exact ⟨hl.2, by omega, hb, fun m hm => bg_all hb m (by omega)⟩
theorem has_any (a : Option Addr) (n c : Nat) (ts : List Nd) (at_ : Int) (w : World) (h : Hid (NArg w a n ts)) (hsz : Hid (∀ t ∈ ts, NdSz t)) (hl : n ≤ 140737488351232) (hg : Hid (errTy w)) :
  Calls Tryz.prog 57 #[.slice a n c, .int .i64 at_] w fun e w' => e = .returned (.bool (hasV ts at_)) ∧ Below w.heap.size w w' := by
 have hn := h.out.1
 by_cases h0 : at_ < 0
 ·have hv : Hid (hasV ts at_ = false) := Lib.hid (by unfold hasV; rw [decide_eq_false (by omega)]; rfl)
  clear hn
  go_enter Tryz.func57, Tryz.ntmps57
  go_wp2_with fail
  go_ret
  exact ⟨ret_b hv.out.symm, by (repeat' (first | (with_reducible first | exact bR _ _ | assumption | apply bS | apply bA | apply bD | apply bN | exact bL _) | (simp; done) | (simp; omega) | omega | exact bL _))⟩
 by_cases h1 : at_ < (n : Int)
 case neg =>
  have hv : Hid (hasV ts at_ = false) := Lib.hid (by unfold hasV; rw [decide_eq_false (by omega)]; rfl)
  clear hn
  go_enter Tryz.func57, Tryz.ntmps57
  go_wp2_with fail
  go_ret
  exact ⟨ret_b hv.out.symm, by (repeat' (first | (with_reducible first | exact bR _ _ | assumption | apply bS | apply bA | apply bD | apply bN | exact bL _) | (simp; done) | (simp; omega) | omega | exact bL _))⟩
 have hv : Hid (hasV ts at_ = (treeV (okNm true) ts || treeV (okNm false) ts)) := Lib.hid (by unfold hasV anyV; rw [decide_eq_true (by omega), Bool.true_and])
 have k1 := Lib.hid fun (W : World) (hW : Hid (NArg W a n ts)) (hg : Hid (errTy W)) => isTreeN_any a n c ts W hW hsz hl hg
 have k2 := Lib.hid fun (W : World) (hW : Hid (NArg W a n ts)) (hg : Hid (errTy W)) => isTreeR_any a n c ts W hW hsz hl hg
 rw [hv.out]
 clear hv hn
 generalize treeV (okNm true) ts = b1 at k1 ⊢
 generalize treeV (okNm false) ts = b2 at k2 ⊢
 go_enter Tryz.func57, Tryz.ntmps57
 go_wp2_with fail
 refine (k1.out _ h hg).mono ?_
 rintro e w1 ⟨rfl, hb1⟩
 have hb1' := Lib.hid hb1; clear hb1
 cases b1
 ·go_wp2_with fail
  refine (k2.out _ (Lib.hid (h.out.below hb1'.out)) (Lib.hid (errTy_below hg.out hb1'.out))).mono ?_
  rintro e w2 ⟨rfl, hb2⟩
  have hb2' := Lib.hid (belT hb1'.out hb2); clear hb2
  go_wp2_with fail
  go_ret
  exact ⟨ret_b (by simp), hb2'.out⟩
 ·go_wp2_with fail
  go_ret
  exact ⟨rfl, hb1'.out⟩
theorem depV_no {ts : List Nd} {at_ : Int} (h : hasV ts at_ = false) : depV ts at_ = (0, 300) := by unfold depV; rw [h]; rfl
theorem depV_yes {ts : List Nd} {at_ : Int} (h : hasV ts at_ = true) : depV ts at_ = (dp (ksN ts) at_.toNat, 0) := by unfold depV; rw [h]; rfl
theorem hasV_wf {ts : List Nd} {at_ : Int} (h : hasV ts at_ = true) : ∃ k : Nat, at_ = k ∧ k < ts.length ∧ ts.length ≤ 512 ∧ 0 ≤ bg (ksN ts) k ∧ ∀ m, m < ts.length → 0 ≤ bg (ksN ts) m := by
 unfold hasV at h
 simp only [Bool.and_eq_true, decide_eq_true_eq] at h
 obtain ⟨⟨h1, h2⟩, h3⟩ := h
 obtain ⟨h4, h5, h6, h7⟩ := anyV_wf h3
 obtain ⟨k, rfl⟩ := Int.eq_ofNat_of_zero_le h1
 exact ⟨k, rfl, by omega, h4, h7 k (by omega), h7⟩
theorem tDepth_any (a : Option Addr) (n c : Nat) (ts : List Nd) (at_ : Int) (w : World) (h : Hid (NArg w a n ts)) (hsz : Hid (∀ t ∈ ts, NdSz t)) (hl : n ≤ 140737488351232) (hg : Hid (errTy w)) :
  Calls Tryz.prog 36 #[.slice a n c, .int .i64 at_] w fun e w' => e = .returned (.tuple #[.int .i64 (depV ts at_).1, .int .i64 (depV ts at_).2]) ∧ Below w.heap.size w w' := by
 have k1 := Lib.hid fun (W : World) (hW : Hid (NArg W a n ts)) (hg : Hid (errTy W)) => has_any a n c ts at_ W hW hsz hl hg
 cases hh : hasV ts at_
 ·rw [depV_no hh]
  rw [hh] at k1
  clear hh
  go_enter Tryz.func36, Tryz.ntmps36
  go_wp2_with fail
  refine (k1.out _ h hg).mono ?_
  rintro e w1 ⟨rfl, hb1⟩
  have hb1' := Lib.hid hb1; clear hb1
  go_wp2_with fail
  go_ret2
  exact ⟨rfl, hb1'.out⟩
 ·obtain ⟨k, rfl, h1, h2, h3, _⟩ := hasV_wf hh
  rw [depV_yes hh]
  rw [hh] at k1
  obtain ⟨rfl, h4⟩ := h.out
  obtain ⟨b, off, rfl, h5, h6⟩ : ∃ b off, a = some ⟨b, off, none⟩ ∧ NdSl w b off ts ∧ b < w.heap.size := by
   rcases h4 with rfl | h4
   ·simp at h1
   ·exact h4
  have k2 := Lib.hid fun (W : World) (hW : Hid (NdSl W b off ts)) (hb : b < W.heap.size) => tdepth_any b off c ts h2 (k + 1) k W (by omega) h1 h3 hW hb
  have h5' := Lib.hid h5
  rw [Int.toNat_natCast]
  generalize dp (ksN ts) k = D at k2 ⊢
  clear h5 h3 hh h4
  go_enter Tryz.func36, Tryz.ntmps36
  go_wp2_with fail
  refine (k1.out _ h hg).mono ?_
  rintro e w1 ⟨rfl, hb1⟩
  have hb1' := Lib.hid hb1; clear hb1
  go_wp2_with fail
  refine (k2.out _ (Lib.hid (h5'.out.below hb1'.out h6)) (by have := hb1'.out.size; omega)).mono ?_
  rintro e w2 ⟨rfl, hb2⟩
  have hb2' := Lib.hid (belT hb1'.out hb2); clear hb2
  go_wp2_with fail
  go_ret2
  exact ⟨rfl, hb2'.out⟩
end Go.Proofs.YthpcbgljbpmafaaGreatDoor
