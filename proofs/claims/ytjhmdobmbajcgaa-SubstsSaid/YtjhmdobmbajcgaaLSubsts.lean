/- Substs holds for every row of binds, every type and every row. No condition. -/
import Derived.Test.YtjhmdobmbajcgaaRows
import Derived.WalkKit
import Derived.ProofKit
import Derived.OpenShut
import Derived.ShutString
import Derived.ChangeOld
import Derived.Below
import Derived.SizedLaws
import Derived.Carry
import Derived.Lib.SmallJoins
import Derived.Test.YtjhmdobmbajcgaaRcB
import Derived.Test.YtjhmdobmbajcgaaSbL
import Derived.Test.YtjhmdobmbajcgaaSbM
import Derived.Test.YtjhmdobmbajcgaaTyI
namespace Go.Proofs.Ytjhmdobmbajcgaa.substs
open Go.ChangeShapes Go.WideShapes Go.ChangeAt Go.RowKit
open Go.ChangeMaps (open_string shut_string)
set_option linter.unusedVariables false
set_option linter.unusedSimpArgs false

/-- behind the copies. -/
def Mid (W1 : World) (xs : List Bn) (ts : List Ty) (s7 s8 : Value) (W : World) : Prop :=
  ∃ a n c ys k ya yn yc, s7 = .slice a n c ∧ s8 = .pointer (some ⟨k, 0, none⟩) ∧ coreL ys = coreL xs ∧ BnArg W a n ys ∧ BoxAt W k (.slice ya yn yc) ∧ TyArg W ya yn ts ∧ Below W1.heap.size W1 W
theorem cbi_put {B k o : Nat} {w : World} {v x : Value} {xs ys : List Bn} (h : CbI B w v xs ys) (hk : k < B) : CbI B (w.setCell ⟨k, o, none⟩ x) v xs ys :=
  ⟨ownsRow_setCell_below h.1 hk x, h.2.1, fun y hy => ⟨ownsRow_setCell_below (h.2.2 y hy).1 hk x, (h.2.2 y hy).2⟩⟩
theorem mid1 {W1 w8 w9 : World} {B : Nat} {xs ys : List Bn} {ts : List Ty} {a : Option Addr} {n c : Nat} {ya : Option Addr} {yn yc : Nat} {T : TypeId} (hC : CbI B w8 (.slice a n c) xs ys) (hb : Below w8.heap.size w8 w9)
    (hT : OwnT w8.heap.size w9 (.slice ya yn yc) ts) (hB : Below W1.heap.size W1 w9) : Mid W1 xs ts (.slice a n c) (.pointer (some ⟨w9.heap.size, 0, none⟩)) (w9.alloc (.cells #[.slice ya yn yc] T)) :=
  ⟨a, n, c, ys, w9.heap.size, ya, yn, yc, rfl, rfl, hC.2.1, (hC.below hb).arg.alloc _, box_lit _ _ _ _ rfl, hT.arg.alloc _, belA _ hB⟩
theorem mid2 {W1 w8 w9 : World} {B : Nat} {o : Obj} {xs ys : List Bn} {ts : List Ty} {a : Option Addr} {n c : Nat} {ya : Option Addr} {yn yc : Nat} {v : Value} (hC : CbI B w8 (.slice a n c) xs ys) (hb : Below (w8.alloc o).heap.size (w8.alloc o) w9)
    (hT : OwnT (w8.alloc o).heap.size w9 (.slice ya yn yc) ts) (hk : w9.cell? ⟨w8.heap.size, 0, none⟩ = some v) (hk2 : w8.heap.size < w9.heap.size) (hB : Below W1.heap.size W1 w9) (hs : W1.heap.size ≤ w8.heap.size) : Mid W1 xs ts (.slice a n c) (.pointer (some ⟨w8.heap.size, 0, none⟩)) (w9.setCell ⟨w8.heap.size, 0, none⟩ (.slice ya yn yc)) := by
  have h1 : Below w8.heap.size w8 (w9.setCell ⟨w8.heap.size, 0, none⟩ (.slice ya yn yc)) := ((below_alc w8 o).trans (hb.mono (by simp))).setCell (Nat.le_refl _) _
  exact ⟨a, n, c, ys, w8.heap.size, ya, yn, yc, rfl, rfl, hC.2.1, (hC.below h1).arg, ⟨by simpa using hk2, setS hk⟩, (ownT_put hT (by simp)).arg, hB.setCell hs _⟩
theorem mid3 {W1 w8 w9 : World} {B : Nat} {xs ys : List Bn} {ts : List Ty} {a : Option Addr} {n c : Nat} {ya : Option Addr} {yn yc : Nat} {v : Value} (hC : CbI B w8 (.slice a n c) xs ys) (hB1 : W1.heap.size < B) (hb : Below w8.heap.size w8 w9)
    (hT : OwnT w8.heap.size w9 (.slice ya yn yc) ts) (hk : w9.cell? ⟨W1.heap.size, 0, none⟩ = some v) (hk1 : W1.heap.size < w8.heap.size) (hk2 : W1.heap.size < w9.heap.size) (hB : Below W1.heap.size W1 w9) : Mid W1 xs ts (.slice a n c) (.pointer (some ⟨W1.heap.size, 0, none⟩)) (w9.setCell ⟨W1.heap.size, 0, none⟩ (.slice ya yn yc)) :=
  ⟨a, n, c, ys, W1.heap.size, ya, yn, yc, rfl, rfl, hC.2.1, (cbi_put (hC.below hb) hB1).arg, ⟨by simpa using hk2, setS hk⟩, (ownT_put hT hk1).arg, hB.setCell (Nat.le_refl _) _⟩
set_option maxRecDepth 100000 in
set_option maxHeartbeats 8000000 in
theorem walk {H : Type} {enc : TypeId × Value → H} (p0 : Option Addr) (n0 c0 : Nat) (p1 : Option Addr) (n1 c1 : Nat) (r0 r1 r2 r3 r4 : Int) (w : World)
    (f0 : ∃ fuel y, DataW.trod enc Try.prog w 0 (fun _ => true) true fuel 22 [.slice p0 n0 c0] = some y ∧ ∀ x ∈ DataW.weights Try.prog 22 y.1, x ≤ reachBytes)
    (f1 : ∃ fuel y, DataW.trod enc Try.prog w 0 (fun _ => true) true fuel 23 [.slice p1 n1 c1] = some y ∧ ∀ x ∈ DataW.weights Try.prog 23 y.1, x ≤ reachBytes)
    (b0 : -9223372036854775808 ≤ r0 ∧ r0 ≤ 9223372036854775807) (b1 : -9223372036854775808 ≤ r1 ∧ r1 ≤ 9223372036854775807) (b2 : -9223372036854775808 ≤ r2 ∧ r2 ≤ 9223372036854775807) (b3 : -9223372036854775808 ≤ r3 ∧ r3 ≤ 9223372036854775807) (b4 : -9223372036854775808 ≤ r4 ∧ r4 ≤ 9223372036854775807) :
    Calls Try.prog 3 #[.slice p0 n0 c0, .agg #[.slice p1 n1 c1], .agg #[.int .i64 r0, .int .i64 r1, .int .i64 r2, .int .i64 r3, .int .i64 r4]] w fun e w' => e = .returned (.bool true) ∧ Below w.heap.size w w' := by
  obtain ⟨_, _, t, t'⟩ := f0
  obtain ⟨hl0, xs, hX, hXn⟩ := bs_open t t'
  clear t t'
  obtain ⟨_, _, t, t'⟩ := f1
  obtain ⟨hl1, ts, hT⟩ := ty_open t t'
  clear t t'
  have hX := Lib.hid hX
  have hT := Lib.hid hT
  have hXn := Lib.hid hXn
  go_enter Try.func3, Try.ntmps3
  go_upto_region 1 with fail
  obtain ⟨W1, hW1⟩ : ∃ W, (w.alloc (.cells #[.slice p1 n1 c1] 25)).alloc (.cells #[.int .i64 r0, .int .i64 r1, .int .i64 r2, .int .i64 r3, .int .i64 r4] 28) = W := ⟨_, rfl⟩
  have hP1 : BoxAt W1 w.heap.size (.slice p1 n1 c1) := by rw [← hW1]; exact BoxAt.alloc _ (box_lit _ _ _ _ rfl)
  have hR1 : Hid (RowAt W1 (w.heap.size + 1) ⟨r0, r1, r2, r3, r4⟩) := Lib.hid (by rw [← hW1]; exact row_lit _ _ _ ⟨r0, r1, r2, r3, r4⟩ (by simp))
  have hB1 : Hid (Below w.heap.size w W1) := Lib.hid (by rw [← hW1]; exact below_alc2 w _ _)
  have hz1 : w.heap.size + 1 < W1.heap.size := by rw [← hW1]; simp
  rw [hW1]
  clear hW1
  go_cut [7, 8] (fun s7 s8 W => Mid W1 xs ts s7 s8 W)
  case first =>
    have p0' : w.heap.size < W1.heap.size := hP1.1
    have hst : Hid (W1.cell? ⟨w.heap.size, 0, none⟩ = some (.slice p1 n1 c1) ∧ Below W1.heap.size W1 W1) := Lib.hid ⟨hP1.2, Below.refl _ _⟩
    have kC := Lib.hid fun (W : World) (hb : Below W1.heap.size W1 W) => copyBinds_any p0 n0 c0 xs W (Lib.hid (hX.out.below (hB1.out.trans (hb.mono (by have := hB1.out.size; omega))))) (by omega) hXn
    have kT := Lib.hid fun (W : World) (hb : Below W1.heap.size W1 W) => copyType_any p1 n1 c1 ts W (Lib.hid (hT.out.below (hB1.out.trans (hb.mono (by have := hB1.out.size; omega))))) hl1
    have hp0 := Lib.hid p0'
    clear p0'
    go_region_held3 (fun W => W.cell? ⟨w.heap.size, 0, none⟩ = some (.slice p1 n1 c1) ∧ Below W1.heap.size W1 W)
      (repeat (first | with_reducible exact hS9.out | with_reducible exact hS8.out | with_reducible exact hst.out | with_reducible refine st_alloc hp0.out _ ?_ | with_reducible refine st_drew hp0.out ?_ | with_reducible refine st_set hp0.out (by omega) ?_))
      ((first
        | (go_at_call 12; refine (kC.out _ (by repeat (first | with_reducible exact Below.refl _ _ | with_reducible refine Below.drew ?_ | with_reducible refine belA _ ?_))).mono ?_; rintro e w8 ⟨v8, ys, rfl, hC8, hb8⟩; obtain ⟨a8, n8, c8, rfl⟩ := ownB_sl hC8.1; have hS8 := Lib.hid (st_go hp0.out (by assumption) hb8); have hs8 := hS8.out.2.size; (try (with_reducible (have k1 := BoxFr.below (BoxFr.drew (boxfr_lit W1 25 W1.heap.size (.slice none 0 0) rfl)) hb8))); (try (with_reducible (have k1 := BoxFr.below (boxfr_lit W1 25 W1.heap.size (.slice none 0 0) rfl) hb8))))
        | (go_at_call 13; refine (kT.out _ (by repeat (first | with_reducible exact hS8.out.2 | with_reducible refine Below.drew ?_ | with_reducible refine belA _ ?_))).mono ?_; rintro e w9 ⟨v9, rfl, hv9, hb9⟩; obtain ⟨a9, n9, c9, rfl⟩ := ownT_sl hv9; have hS9 := Lib.hid (st_go hp0.out (by assumption) hb9); (try (with_reducible (have k9 := BoxFr.below k1 hb9))); (try (with_reducible (have k9 := BoxFr.below (BoxFr.drew k1) hb9))); (try (with_reducible (have k9 := BoxFr.below (boxfr_lit w8 25 w8.heap.size (.slice none 0 0) rfl) hb9))); (try (with_reducible (have k9 := BoxFr.below (BoxFr.drew (boxfr_lit w8 25 w8.heap.size (.slice none 0 0) rfl)) hb9))); (try (have k8 := k9; obtain ⟨⟨k91, k92⟩, k93⟩ := k8)))))
    all_goals (go_wp2_with fail; go_meet)
    · exact mid1 hC8 hb9 hv9 hS9.out.2
    · exact mid2 hC8 hb9 hv9 k92 k91 hS9.out.2 hs8
    · exact mid3 hC8 (by show W1.heap.size < (W1.heap.push _).size; simp) hb9 hv9 k92 k1.1.1 k91 hS9.out.2
  case rest =>
    obtain ⟨a, n, c, ys, k, ya, yn, yc, rfl, rfl, hco, hYS, hYB, hYT, hBc⟩ := hcut
    rename World => Wc
    have hco := Lib.hid hco
    have hB := Lib.hid (hB1.out.trans (hBc.mono (by have := hB1.out.size; omega)))
    have hXc := Lib.hid (hX.out.below hB.out)
    have hTc := Lib.hid (hT.out.below hB.out)
    have hPc := Lib.hid (hP1.below hBc)
    have hRc := Lib.hid (hR1.out.below hBc)
    have hYS := Lib.hid hYS
    have hYB := Lib.hid hYB
    have hYT := Lib.hid hYT
    have hnn : n = n0 := by
      have h1 := hYS.out.1
      have h2 := hXc.out.1
      have h3 := core_len hco.out
      omega
    have hyn : yn = n1 := by
      have h1 := hYT.out.1
      have h2 := hTc.out.1
      omega
    subst hnn hyn
    have hcT := subT_core hco.out ts
    have hcR := subR_core hco.out ⟨r0, r1, r2, r3, r4⟩
    obtain ⟨E, hE⟩ : ∃ e, subE xs ts = e := ⟨_, rfl⟩
    obtain ⟨S, hS⟩ : ∃ e, subT xs ts = e := ⟨_, rfl⟩
    obtain ⟨F, hF⟩ : ∃ e, subRE xs ⟨r0, r1, r2, r3, r4⟩ = e := ⟨_, rfl⟩
    obtain ⟨V, hV⟩ : ∃ e, subR xs ⟨r0, r1, r2, r3, r4⟩ = e := ⟨_, rfl⟩
    have hEb := subE_bd xs ts
    have hSl := subT_len xs ts
    have hFb := subRE_bd xs ⟨r0, r1, r2, r3, r4⟩
    have k2 := Lib.hid fun (W : World) (hb : Below Wc.heap.size Wc W) => subType_any a ya n c yn yc ys ts W (Lib.hid (hYS.out.below hb)) (Lib.hid (hYT.out.below hb)) (by omega) (by omega)
    have k3 := Lib.hid fun (W : World) (hb : Below Wc.heap.size Wc W) => rsubType_any p0 p1 n c0 yn c1 xs ts W (Lib.hid (hXc.out.below hb)) (Lib.hid (hTc.out.below hb)) (by omega) (by omega)
    have k4 := Lib.hid fun (W : World) (hb : Below Wc.heap.size Wc W) => subRow_any a n c ys ⟨r0, r1, r2, r3, r4⟩ W (Lib.hid (hYS.out.below hb)) (by omega)
    have k5 := Lib.hid fun (W : World) (hb : Below Wc.heap.size Wc W) => rsubRow_any p0 n c0 xs ⟨r0, r1, r2, r3, r4⟩ W (Lib.hid (hXc.out.below hb)) (by omega)
    have k6 := Lib.hid fun (W : World) (hb : Below Wc.heap.size Wc W) => sameBinds_any a p0 n n c c0 ys xs W (Lib.hid (hYS.out.below hb)) (Lib.hid (hXc.out.below hb)) hco (by omega)
    have k7 := Lib.hid fun (W : World) (hb : Below Wc.heap.size Wc W) => sameType_any ya p1 yn yn yc c1 ts ts W (Lib.hid (hYT.out.below hb)) (Lib.hid (hTc.out.below hb)) (by omega)
    rw [decide_eq_true rfl] at k7
    unfold SubPost at k2 k3
    unfold SubRPost at k4 k5
    rw [hcT.1, hcT.2, hE, hS] at k2
    rw [hE, hS] at k3
    rw [hcR.1, hcR.2, hF, hV] at k4
    rw [hF, hV] at k5
    rw [hE] at hEb
    rw [hS] at hSl
    rw [hF] at hFb
    unfold rwV at k4 k5
    have hrq := rwQ_same V.a V.b V.c V.d V.t
    have hin := fun (x0 x1 x2 x3 x4 y0 y1 y2 y3 y4 : Int) (W : World) => row_in 9997 x0 x1 x2 x3 x4 y0 y1 y2 y3 y4 W
    simp only [Nat.reduceAdd] at hin
    clear hE hS hF hV hcT hcR hBc hP1
    obtain ⟨y0, y1⟩ := hYB.out
    go_wp2_with fail
    refine (k2.out _ (Below.refl _ _)).mono ?_
    rintro e w2 ⟨v2, rfl, hv2, hb2⟩
    obtain ⟨a2, m2, d2, rfl⟩ := ownT_sl hv2
    have hv2 := Lib.hid hv2
    have hP2 := Lib.hid (hPc.out.below hb2)
    have hB2 := Lib.hid hb2
    clear hb2 y0 y1
    obtain ⟨q0, q1⟩ := hP2.out
    have q2 : w.heap.size < w2.heap.size + 1 := by omega
    go_wp2_with fail
    clear q0 q1 q2
    refine (k3.out _ (belA _ hB2.out)).mono ?_
    rintro e w3 ⟨v3, rfl, hv3, hb3⟩
    obtain ⟨a3, m3, d3, rfl⟩ := ownT_sl hv3
    have hA3 := Lib.hid (show BoxAt w3 w2.heap.size (.slice a2 m2 d2) from BoxAt.below (by exact box_lit _ _ _ _ rfl) hb3)
    have hv3 := Lib.hid hv3
    have hO3 := Lib.hid ((hv2.out.below (below_alc w2 _)).below hb3)
    have hB3 := Lib.hid (belT (belA _ hB2.out) hb3)
    have hR3 := Lib.hid (hRc.out.below hB3.out)
    clear hb3
    obtain ⟨x0, x1, x2, x3, x4, x5⟩ := hR3.out
    simp only [] at x1 x2 x3 x4 x5
    have x6 : w.heap.size + 1 < w3.heap.size + 1 := by omega
    go_wp2_with fail
    clear x0 x1 x2 x3 x4 x5 x6
    refine (k4.out _ (belA _ hB3.out)).mono ?_
    rintro e w4 ⟨rfl, hb4⟩
    have hA4 := Lib.hid ((hA3.out.alloc _).below hb4)
    have hD4 := Lib.hid (show BoxAt w4 w3.heap.size (.slice a3 m3 d3) from BoxAt.below (by exact box_lit _ _ _ _ rfl) hb4)
    have hv4 := Lib.hid ((hv3.out.below (below_alc w3 _)).below hb4)
    have hO4 := Lib.hid ((hO3.out.below (below_alc w3 _)).below hb4)
    have hB4 := Lib.hid (belT (belA _ hB3.out) hb4)
    have hR4 := Lib.hid (hRc.out.below hB4.out)
    clear hb4
    obtain ⟨x0, x1, x2, x3, x4, x5⟩ := hR4.out
    simp only [] at x1 x2 x3 x4 x5
    have x6 : w.heap.size + 1 < w4.heap.size + 1 := by omega
    go_wp2_with fail
    clear x0 x1 x2 x3 x4 x5 x6
    refine (k5.out _ (belA _ hB4.out)).mono ?_
    rintro e w5 ⟨rfl, hb5⟩
    have hA5 := Lib.hid ((hA4.out.alloc _).below hb5)
    have hD5 := Lib.hid ((hD4.out.alloc _).below hb5)
    have hG5 := Lib.hid (show RowAt w5 w4.heap.size V from RowAt.below (by exact row_lit _ _ _ V rfl) hb5)
    have hv5 := Lib.hid ((hv4.out.below (below_alc w4 _)).below hb5)
    have hO5 := Lib.hid ((hO4.out.below (below_alc w4 _)).below hb5)
    have hB5 := Lib.hid (belT (belA _ hB4.out) hb5)
    clear hb5
    obtain ⟨x0, x1⟩ := hA5.out
    obtain ⟨z0, z1⟩ := hD5.out
    have x2 : w2.heap.size < w5.heap.size + 1 := by omega
    have z2 : w3.heap.size < w5.heap.size + 1 := by omega
    go_wp2_with fail
    clear x0 x1 x2 z0 z1 z2
    refine (sameType_any _ _ _ _ _ _ S S _ (Lib.hid ((hO5.out.below (below_alc w5 _)).arg)) (Lib.hid ((hv5.out.below (below_alc w5 _)).arg)) (by have := hO5.out.arg.1; omega)).mono ?_
    rintro e w6 ⟨rfl, hb6⟩
    rw [decide_eq_true rfl]
    have hA6 := Lib.hid ((hA5.out.alloc _).below hb6)
    have hG6 := Lib.hid ((hG5.out.alloc _).below hb6)
    have hH6 := Lib.hid (show RowAt w6 w5.heap.size V from RowAt.below (by exact row_lit _ _ _ V rfl) hb6)
    have hO6 := Lib.hid ((hO5.out.below (below_alc w5 _)).below hb6)
    have hB6 := Lib.hid (belT (belA _ hB5.out) hb6)
    clear hb6
    obtain ⟨x0, x1⟩ := hA6.out
    obtain ⟨g0, g1, g2, g3, g4, g5⟩ := hG6.out
    obtain ⟨h0, h1, h2, h3, h4, h5⟩ := hH6.out
    go_wp2_with ((go_at_call 19; refine (num_any _ _ (by omega) (by omega)).mono ?_; rintro e w' ⟨rfl, rfl⟩))
    clear x0 x1 g0 g1 g2 g3 g4 g5 h0 h1 h2 h3 h4 h5
    refine (spoilType_any _ _ S _ hO6 (by omega)).mono ?_
    rintro e w7 ⟨rfl, hb7⟩
    have hB7 := Lib.hid (hB6.out.trans (hb7.below hB6.out.size fun k hk => (own_lt hv2.out k hk).1))
    have hP7 := Lib.hid (hPc.out.below hB7.out)
    have hY7 := Lib.hid (hYB.out.below hB7.out)
    clear hb7
    go_wp2_with fail
    refine (k6.out _ hB7.out).mono ?_
    rintro e w8 ⟨rfl, hb8⟩
    have hB8 := Lib.hid (belT hB7.out hb8)
    have hP8 := Lib.hid (hPc.out.below hB8.out)
    have hY8 := Lib.hid (hYB.out.below hB8.out)
    clear hb8
    obtain ⟨x0, x1⟩ := hP8.out
    obtain ⟨y0, y1⟩ := hY8.out
    go_wp2_with fail
    clear x0 x1 y0 y1
    refine (k7.out _ hB8.out).mono ?_
    rintro e w9 ⟨rfl, hb9⟩
    have hB9 := Lib.hid (belT hB8.out hb9)
    clear hb9
    go_wp2_with fail
    refine (awake9_any _).mono ?_
    rintro e w10 ⟨rfl, hb10⟩
    have hB10 := Lib.hid (belT hB9.out hb10)
    clear hb10
    go_wp2_with fail
    go_ret
    exact ⟨rfl, hB.out.trans (hB10.out.mono (by have := hB.out.size; omega))⟩
theorem own : ownKnob Try.prog.godebug = none := by kernel_rfl
theorem laidOut : laidOutB Try.prog = true := by kernel_rfl
set_option maxRecDepth 100000 in
theorem lifted (os : Os) (started : os.Started) (H : Type) (enc : TypeId × Value → H) :
    ReturnsInHanded {} Try.checked os 3 .any (Rows.substsSpec.pre6 enc Try.prog Try.f3 Rows.substsRow.domain false) (Rows.substsSpec.post enc Try.prog Try.f3 false true false false) := by
  refine returnsInHanded_of_change_sized (C := Try.checked) own started (by kernel_rfl) Try.func3
    (ChangeSpec.witness6 (enc := enc) (C := Try.checked) false ⟨#[], #[.slice none 0 0, .agg #[.slice none 0 0], .agg #[.int .i64 0, .int .i64 0, .int .i64 0, .int .i64 0, .int .i64 0]], []⟩ 8 (by kernel_rfl) (by kernel_rfl) (by kernel_rfl) (by kernel_rfl)) ?_
  intro W base args ds gs before hval0 hW hcnd hsz0 _
  have hval : ∀ (j : Nat) t v, Try.f3.params[j]? = some t → args[j]? = some v → Value.okWide Try.prog W .any base t v := hval0
  have hsz : (DataW.weightsEach Try.prog (Try.f3.params.toList ++ Rows.substsSpec.plain.varTypes Try.prog) (ds ++ gs)).all (· ≤ reachBytes) = true := hsz0
  have hW' := hW
  obtain ⟨p, q, hA0, hV, rfl, hfz, hnd⟩ := hW
  have hA : DataW.TrodAll enc Try.prog W 0 (fun _ => true) true Try.f3.params.toList args.toList ds p := hA0
  rw [Try.params3] at hA hval hsz
  obtain ⟨v0, vs0, d0, ds0, p0, q0, hargs, rfl, rfl, h0, r0⟩ := trodAll_cons hA
  obtain ⟨v1, vs1, d1, ds1, p1, q1, rfl, rfl, rfl, h1, r1⟩ := trodAll_cons r0
  obtain ⟨v2, vs2, d2, ds2, p2, q2, rfl, rfl, rfl, h2, r2⟩ := trodAll_cons r1
  obtain ⟨rfl, rfl, rfl⟩ := trodAll_nil r2
  obtain rfl : args = #[v0, v1, v2] := by cases args; simp_all
  obtain ⟨rfl, rfl⟩ := trodVars_none hV
  obtain ⟨a0, n0, c0, rfl⟩ := okWide_slice Try.underlying22 (hval 0 22 v0 rfl rfl)
  have k0 := h0
  have lt0 : ∀ x ∈ p0, x.block < W.heap.size := by obtain ⟨m, hm⟩ := k0; exact DataW.trod_lt m _ _ _ hm
  have f0 : ∃ fuel y, DataW.trod enc Try.prog W 0 (fun _ => true) true fuel 22 [.slice a0 n0 c0] = some y ∧ ∀ x ∈ DataW.weights Try.prog 22 y.1, x ≤ reachBytes := by obtain ⟨fu, hf⟩ := h0; exact ⟨fu, _, by simpa [Value.cells] using hf, sized_of hsz (j := 0) (t := 22) rfl rfl⟩
  have k1 := h1
  have lt1 : ∀ x ∈ p1, x.block < W.heap.size := by obtain ⟨m, hm⟩ := k1; exact DataW.trod_lt m _ _ _ hm
  obtain ⟨cs1, rfl, fit1⟩ := open_struct Try.underlying25 (f := 6) (by kernel_rfl : flat Try.prog 6 25 = some [.sl 23]) (hval 1 25 v1 rfl rfl) h1 (sized_of hsz (j := 1) (t := 25) rfl rfl)
  obtain ⟨_, cr1, rfl, ⟨a1, n1, c1, fu1, y1, rfl, f1, g1⟩, fitb1⟩ := fit_i fit1
  obtain rfl := fit_nil fitb1
  have k2 := h2
  have lt2 : ∀ x ∈ p2, x.block < W.heap.size := by obtain ⟨m, hm⟩ := k2; exact DataW.trod_lt m _ _ _ hm
  obtain ⟨cs2, rfl, fit2⟩ := open_struct Try.underlying28 (f := 6) (by kernel_rfl : flat Try.prog 6 28 = some [.i .i64, .i .i64, .i .i64, .i .i64, .i .i64]) (hval 2 28 v2 rfl rfl) h2 (sized_of hsz (j := 2) (t := 28) rfl rfl)
  obtain ⟨_, cr2_0, rfl, ⟨a2_0, rfl, b2_0⟩, fit2_0⟩ := fit_i fit2
  obtain ⟨_, cr2_1, rfl, ⟨a2_1, rfl, b2_1⟩, fit2_1⟩ := fit_i fit2_0
  obtain ⟨_, cr2_2, rfl, ⟨a2_2, rfl, b2_2⟩, fit2_2⟩ := fit_i fit2_1
  obtain ⟨_, cr2_3, rfl, ⟨a2_3, rfl, b2_3⟩, fit2_3⟩ := fit_i fit2_2
  obtain ⟨_, cr2_4, rfl, ⟨a2_4, rfl, b2_4⟩, fit2_4⟩ := fit_i fit2_3
  obtain rfl := fit_nil fit2_4
  clear hA0 hval0
  refine (walk a0 n0 c0 a1 n1 c1 a2_0 a2_1 a2_2 a2_3 a2_4 W f0 ⟨_, _, f1, g1⟩ (bd_i64 b2_0) (bd_i64 b2_1) (bd_i64 b2_2) (bd_i64 b2_3) (bd_i64 b2_4)).mono fun e W' ⟨he, bel⟩ => ?_
  subst he
  exact ⟨_, rfl, _, _, _, [], _, [], hW', trodAll_mk1 (shut_bool Try.underlying4 _), (trodAll_cons_mk (Below.trod laidOut (by kernel_rfl) (of_decide_eq_true (by kernel_rfl)) k0 bel lt0) (trodAll_cons_mk (Below.trod laidOut (by kernel_rfl) (of_decide_eq_true (by kernel_rfl)) k1 bel lt1) (trodAll_cons_mk (Below.trod laidOut (by kernel_rfl) (of_decide_eq_true (by kernel_rfl)) k2 bel lt2) trodAll_mk0))), rfl, bel.frame _, fun h => by cases h⟩
theorem over : Rows.substsRow.holds Try.pinned (OpenSpec.ofChange Rows.substsSpec) :=
  OpenClaim.holds_of_wide 3 Try.f3 rfl rfl rfl rfl rfl rfl rfl ⟨rfl, rfl, rfl, rfl, rfl⟩ rfl rfl rfl rfl rfl (by kernel_rfl) Try.func3 (by kernel_rfl)
    (of_decide_eq_true (by kernel_rfl)) (by unfold Func.isWrapper; first | (rw [if_pos (by decide +kernel)]; kernel_rfl) | (rw [if_neg (by decide +kernel)]; exact ⟨rfl, rfl⟩))
    (fun os started H enc _ => lifted os started H enc)
theorem proved : Rows.SubstsSaid := over
end Go.Proofs.Ytjhmdobmbajcgaa.substs
