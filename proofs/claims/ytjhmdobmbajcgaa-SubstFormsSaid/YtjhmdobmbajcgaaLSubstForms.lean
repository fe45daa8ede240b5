/- SubstForms holds for every two numbers. No condition. -/
import Derived.Test.YtjhmdobmbajcgaaRows
import Derived.WalkKit
import Derived.ProofKit
import Derived.OpenShut
import Derived.ShutString
import Derived.ChangeOld
import Derived.Below
import Derived.SizedLaws
import Derived.Carry
import Derived.Lib.SmallJoins
import Derived.Test.YtjhmdobmbajcgaaSbI
import Derived.Test.YtjhmdobmbajcgaaAid
import Derived.Deep.RegionHeld3
namespace Go.Proofs.Ytjhmdobmbajcgaa.substForms
open Go.ChangeShapes Go.WideShapes Go.ChangeAt Go.RowKit
open Go.ChangeMaps (open_string shut_string)
set_option linter.unusedVariables false
set_option linter.unusedSimpArgs false

def vT : List Ty := [⟨2, 1, 0, 0, 0, 0, 0, 0, 0⟩]
def rT : Rw := ⟨0, 0, 0, 0, 1⟩
def badB (m : Nat) (d : Int) (A : Option Addr) : Bn :=
  match m with
  | 0 => ⟨-(1 + d), false, A, 1, 1, vT, rw0⟩
  | 1 => ⟨4095 + (1 + d), false, A, 1, 1, vT, rw0⟩
  | 2 => ⟨1, false, none, 0, 0, [], rw0⟩
  | 3 => ⟨1, true, A, 1, 1, vT, rT⟩
  | 4 => ⟨1, false, A, 1, 1, vT, rT⟩
  | _ => ⟨1, true, none, 0, 0, [], ⟨0, 0, 0, 0, -1 - (1 + d)⟩⟩
theorem badB_no (m : Nat) (d : Int) (hd : 0 ≤ d ∧ d < 1024) (A : Option Addr) : (badB m d A).ok = false := by
  unfold badB Bn.ok
  split
  · rw [decide_eq_false (by simp only []; omega)]; rfl
  · rw [decide_eq_false (by simp only []; omega)]; rfl
  · kernel_rfl
  · simp
  · simp [rT, rwQ]
  · have : (⟨0, 0, 0, 0, -1 - (1 + d)⟩ : Rw).may = false := decide_eq_false (by simp only []; omega)
    simp [this]
def bsF (m : Nat) (d : Int) (A : Option Addr) : List Bn := [⟨7, false, A, 1, 1, vT, rw0⟩, badB m d A]
theorem bsF_no (m : Nat) (d : Int) (hd : 0 ≤ d ∧ d < 1024) (A : Option Addr) : bsV (bsF m d A) = false := bs_node _ 1 (by simp [bsF]) (badB_no m d hd A)
theorem bsF_e (m : Nat) (d : Int) (hd : 0 ≤ d ∧ d < 1024) (A : Option Addr) (ts : List Ty) : subE (bsF m d A) ts = 900 := by unfold subE; rw [bsF_no m d hd]; rfl
theorem bsF_r (m : Nat) (d : Int) (hd : 0 ≤ d ∧ d < 1024) (A : Option Addr) (r : Rw) : subRE (bsF m d A) r = 900 := by unfold subRE; rw [bsF_no m d hd]; rfl
theorem full_r : subRE [⟨1, true, none, 0, 0, [], ⟨0, 0, 32, 0, -1⟩⟩] ⟨0, 0, 1, 0, 1⟩ = 900 := by kernel_rfl
theorem umod2 (a K : Int) (h : 0 < K) (hk : K ≤ 9223372036854775807) : ∃ m : Int, 0 ≤ m ∧ m < K ∧ wrap64 ((IntKind.u64.wrap a).tmod K) = m ∧ IntKind.i64.wrap ((IntKind.u64.wrap a).tmod K) = m := by
  have hb := u64_bd a
  rw [Int.tmod_eq_emod_of_nonneg hb.1]
  have h1 := Int.emod_nonneg (IntKind.u64.wrap a) (b := K) (by omega)
  have h2 := Int.emod_lt_of_pos (IntKind.u64.wrap a) (b := K) (by omega)
  exact ⟨(IntKind.u64.wrap a) % K, h1, h2, IntWalk.wrap64_in _ (by omega), IntWalk.i64_in _ (by omega)⟩

theorem infoBn : (Try.prog.info? 49).map (fun i => (i.zero, i.size, i.bytes)) = some (some (.agg #[.int .i64 0, .bool false, .slice none 0 0, .int .i64 0, .int .i64 0, .int .i64 0, .int .i64 0, .int .i64 0]), 8, 80) := by kernel_rfl
def zB : Array Value := #[.int .i64 0, .bool false, .slice none 0 0, .int .i64 0, .int .i64 0, .int .i64 0, .int .i64 0, .int .i64 0]
theorem bs_make (c : Int) (N : Nat) (h0 : 0 ≤ c) (h1 : c ≤ 100000) (hN : c.toNat = N) (W : World) : (Instr.makeSlice 22 (.int .i64 c) (.int .i64 c)).run Try.prog W = .ok (.slice (some ⟨W.heap.size, 0, none⟩) N N) (W.alloc (.cells (madeCells zB (N * 8)) 49)) := by
  subst hN
  obtain ⟨i0, hi, hz0, hz1, hz2⟩ := info_parts infoBn
  have h := run_make (P := Try.prog) W 22 49 i0 _ Try.underlying22 hi hz0 .i64 .i64 c c h0 (by omega) (by rw [hz2]; omega) (by omega)
  rw [h, hz1]; rfl
theorem bs_made (N g : Nat) (W : World) (hgW : g = W.heap.size) : BnArg (W.alloc (.cells (madeCells zB (N * 8)) 49)) (some ⟨g, 0, none⟩) N (List.replicate N bn0) := by
  subst hgW
  have hg : ∀ i, (List.replicate N bn0).getD i bn0 = bn0 := fun i => by
    rw [List.getD_eq_getElem?_getD, List.getElem?_replicate]; split <;> rfl
  refine ⟨by simp, .inr ⟨W.heap.size, 0, rfl, fun i hi => ?_, by simp⟩⟩
  have hi : i < N := by simpa using hi
  have hc : ∀ k, k < 8 → (W.alloc (.cells (madeCells zB (N * 8)) 49)).cell? ⟨W.heap.size, 0 + i * 8 + k, none⟩ = some (zB[k]!) := by
    intro k hk
    rw [World.cell?_alloc_at _ _ _ _ rfl, Nat.zero_add]
    have h1 : (i * 8 + k) < N * 8 := by omega
    have h2 : (i * 8 + k) % 8 = k := by omega
    simp [madeCells, h1, zB, h2]
  rw [hg]
  exact ⟨⟨hc 0 (by omega), hc 1 (by omega), hc 2 (by omega), hc 3 (by omega), hc 4 (by omega), hc 5 (by omega), hc 6 (by omega), hc 7 (by omega)⟩, tyArg_nil _ _, by show (0 : Nat) ≤ 140737488351232; omega⟩
theorem many_e (N : Nat) (hN : 4096 < N) (ts : List Ty) : subE (List.replicate N bn0) ts = 900 := by unfold subE; rw [bs_len _ (by simpa using hN)]; rfl
theorem tyArg_set {w : World} {g n k o : Nat} {v : Value} {ts : List Ty} (h : TyArg w (some ⟨g, 0, none⟩) n ts) (hk : g < k) : TyArg (w.setCell ⟨k, o, none⟩ v) (some ⟨g, 0, none⟩) n ts := by
  obtain ⟨h1, h2 | ⟨b, off, h3, h4, h5⟩⟩ := h
  · exact ⟨h1, .inl h2⟩
  · injection h3 with h3; injection h3 with h6 h7 _; subst h6; subst h7
    exact ⟨h1, .inr ⟨_, _, rfl, h4.below ((Below.refl k w).setCell (Nat.le_refl _) v) hk, by simpa using h5⟩⟩
theorem box_set {w : World} {g k o : Nat} {v x : Value} (h : BoxAt w g x) (hk : g < k) : BoxAt (w.setCell ⟨k, o, none⟩ v) g x :=
  ⟨by simpa using h.1, (((Below.refl k w).setCell (p := ⟨k, o, none⟩) (Nat.le_refl _) v).cell (p := ⟨g, 0, none⟩) hk).trans h.2⟩
def BoxFr (w : World) (g : Nat) (v : Value) : Prop := BoxAt w g v ∧ w.frozen? ⟨g, 0, none⟩ = false
theorem BoxFr.below {w w' : World} {g : Nat} {v : Value} (h : BoxFr w g v) (hb : Below w.heap.size w w') : BoxFr w' g v := ⟨h.1.below hb, (hb.frozen (p := ⟨g, 0, none⟩) h.1.1).trans h.2⟩
theorem BoxFr.alloc {w : World} {g : Nat} {v : Value} (o : Obj) (h : BoxFr w g v) : BoxFr (w.alloc o) g v := h.below (below_alc w o)
theorem BoxFr.drew {w : World} {g : Nat} {v : Value} (h : BoxFr w g v) : BoxFr w.drew g v := h.below ((Below.refl _ _).drew)
theorem boxfr_lit (w : World) (T : TypeId) (g : Nat) (v : Value) (hg : g = w.heap.size) : BoxFr (w.alloc (.cells #[v] T)) g v := by
  refine ⟨box_lit w T g v hg, ?_⟩
  subst hg
  simp [go_sem]
theorem st_go {w4 W W' : World} {B1 : Nat} {v : Value} (h1 : B1 < w4.heap.size) (h : W.cell? ⟨B1, 0, none⟩ = some v ∧ Below w4.heap.size w4 W) (hb : Below W.heap.size W W') : W'.cell? ⟨B1, 0, none⟩ = some v ∧ Below w4.heap.size w4 W' :=
  ⟨carry hb (by have := h.2.size; omega) h.1, belT h.2 hb⟩
theorem st_alloc {w4 W : World} {B1 : Nat} {v : Value} (h1 : B1 < w4.heap.size) (o : Obj) (h : W.cell? ⟨B1, 0, none⟩ = some v ∧ Below w4.heap.size w4 W) : (W.alloc o).cell? ⟨B1, 0, none⟩ = some v ∧ Below w4.heap.size w4 (W.alloc o) := st_go h1 h (below_alc W o)
theorem st_drew {w4 W : World} {B1 : Nat} {v : Value} (h1 : B1 < w4.heap.size) (h : W.cell? ⟨B1, 0, none⟩ = some v ∧ Below w4.heap.size w4 W) : W.drew.cell? ⟨B1, 0, none⟩ = some v ∧ Below w4.heap.size w4 W.drew := st_go h1 h ((Below.refl _ _).drew)
theorem st_set {w4 W : World} {B1 k : Nat} {v x : Value} (h1 : B1 < w4.heap.size) (hk : w4.heap.size ≤ k) (h : W.cell? ⟨B1, 0, none⟩ = some v ∧ Below w4.heap.size w4 W) : (W.setCell ⟨k, 0, none⟩ x).cell? ⟨B1, 0, none⟩ = some v ∧ Below w4.heap.size w4 (W.setCell ⟨k, 0, none⟩ x) :=
  ⟨(((Below.refl k W).setCell (p := ⟨k, 0, none⟩) (Nat.le_refl _) x).cell (p := ⟨B1, 0, none⟩) (by show B1 < k; omega)).trans h.1, h.2.setCell (p := ⟨k, 0, none⟩) hk _⟩
theorem sz1 (w : World) (o : Obj) : w.heap.size + 1 = (w.alloc o).heap.size := by simp
theorem sz2 (w : World) (o o' : Obj) : w.heap.size + 1 + 1 = ((w.alloc o).alloc o').heap.size := by simp
theorem bn_drew {w : World} {a : Option Addr} {n : Nat} {xs : List Bn} (h : BnArg w a n xs) : BnArg w.drew a n xs := h.below ((Below.refl _ _).drew)
/-- behind the binds. -/
def Mid (w1 : World) (d : Int) (s9 : Value) (W : World) : Prop := s9 = .slice (some ⟨w1.heap.size + 1 + 1 + 1 + 1, 0, none⟩) 2 2 ∧ Below w1.heap.size w1 W ∧ TyArg W (some ⟨w1.heap.size, 0, none⟩) 1 vT ∧ BoxAt W (w1.heap.size + 1) (.slice (some ⟨w1.heap.size, 0, none⟩) 1 1) ∧ RowAt W (w1.heap.size + 1 + 1) rT ∧
    W.frozen? ⟨w1.heap.size + 1 + 1, 2, none⟩ = false ∧ ∃ m, BnArg W (some ⟨w1.heap.size + 1 + 1 + 1 + 1, 0, none⟩) 2 (bsF m d (some ⟨w1.heap.size, 0, none⟩))
theorem mid_lit (w1 : World) (d : Int) (m : Nat) (o4 : Obj) (arr : Array Value) (h : arr.toList = bnL (bsF m d (some ⟨w1.heap.size, 0, none⟩))) (hn : (badB m d (some ⟨w1.heap.size, 0, none⟩)).ad = none ∧ (badB m d (some ⟨w1.heap.size, 0, none⟩)).n = 0 ∧ (badB m d (some ⟨w1.heap.size, 0, none⟩)).ns = [] ∨ (badB m d (some ⟨w1.heap.size, 0, none⟩)).ad = some ⟨w1.heap.size, 0, none⟩ ∧ (badB m d (some ⟨w1.heap.size, 0, none⟩)).n = 1 ∧ (badB m d (some ⟨w1.heap.size, 0, none⟩)).ns = vT) :
    Mid w1 d (.slice (some ⟨w1.heap.size + 1 + 1 + 1 + 1, 0, none⟩) 2 2) (((((w1.alloc (.cells #[.int .i64 2, .int .i64 1, .int .i64 0, .int .i64 0, .int .i64 0, .int .i64 0, .int .i64 0, .int .i64 0, .int .i64 0] 47)).alloc (.cells #[.slice (some ⟨w1.heap.size, 0, none⟩) 1 1] 25)).alloc (.cells #[.int .i64 0, .int .i64 0, .int .i64 0, .int .i64 0, .int .i64 1] 28)).alloc o4).alloc (.cells arr 49)).drew := by
  have hT : TyArg ((((w1.alloc (.cells #[.int .i64 2, .int .i64 1, .int .i64 0, .int .i64 0, .int .i64 0, .int .i64 0, .int .i64 0, .int .i64 0, .int .i64 0] 47)).alloc (.cells #[.slice (some ⟨w1.heap.size, 0, none⟩) 1 1] 25)).alloc (.cells #[.int .i64 0, .int .i64 0, .int .i64 0, .int .i64 0, .int .i64 1] 28)).alloc o4) (some ⟨w1.heap.size, 0, none⟩) 1 vT := .alloc _ (.alloc _ (.alloc _ (tyArg_lit _ _ _ _ _ _ rfl rfl rfl)))
  refine ⟨rfl, (belA _ (belA _ (belA _ (belA _ (belA _ (Below.refl _ _)))))).drew, (hT.alloc _).below ((Below.refl _ _).drew), (BoxAt.alloc _ (.alloc _ (.alloc _ (box_lit _ _ _ _ (by simp))))).below ((Below.refl _ _).drew), (RowAt.alloc _ (.alloc _ (row_lit _ _ _ rT (by simp)))).below ((Below.refl _ _).drew), by simp [go_sem], m, BnArg.below (bnArg_lit _ _ _ _ _ _ (by simp) rfl h ?_) ((Below.refl _ _).drew)⟩
  intro x hx
  simp only [bsF, List.mem_cons, List.not_mem_nil, or_false] at hx
  rcases hx with rfl | rfl
  · exact ⟨hT, by show (1 : Nat) ≤ 140737488351232; omega⟩
  · rcases hn with ⟨h1, h2, h3⟩ | ⟨h1, h2, h3⟩
    · rw [h1, h2, h3]; exact ⟨tyArg_nil _ _, by omega⟩
    · rw [h1, h2, h3]; exact ⟨hT, by omega⟩

set_option maxRecDepth 100000 in
set_option maxHeartbeats 8000000 in
theorem walk (a0 a1 : Int) (w0 : -9223372036854775808 ≤ a0 ∧ a0 ≤ 9223372036854775807) (b1 : -9223372036854775808 ≤ a1 ∧ a1 ≤ 9223372036854775807) (w : World) :
    Calls Try.prog 5 #[.int .i64 a0, .int .i64 a1] w fun e w' => e = .returned (.bool true) ∧ Below w.heap.size w w' := by
  obtain ⟨m, hm0, hm1, he, he'⟩ := umod2 a0 6 (by omega) (by omega)
  have hk := and1023 a1
  have hd : 0 ≤ a1 % 1024 ∧ a1 % 1024 < 1024 := by omega
  generalize a1 % 1024 = d at hk hd
  go_enter Try.func5, Try.ntmps5
  go_wp2_with fail
  refine (awake9_any _).mono ?_
  rintro e w1 ⟨rfl, hb1⟩
  go_upto_region 7 with fail
  go_cut [9] (fun s9 wx => Mid w1 d s9 wx)
  case first =>
    have hcs : m = 0 ∨ m = 1 ∨ m = 2 ∨ m = 3 ∨ m = 4 ∨ m = 5 := (by omega); rcases hcs with rfl | rfl | rfl | rfl | rfl | rfl
    all_goals go_region
    all_goals (go_wp2_with fail; go_meet)
    · exact mid_lit w1 d 0 _ _ rfl (.inr ⟨rfl, rfl, rfl⟩)
    · exact mid_lit w1 d 1 _ _ rfl (.inr ⟨rfl, rfl, rfl⟩)
    · exact mid_lit w1 d 2 _ _ rfl (.inl ⟨rfl, rfl, rfl⟩)
    · exact mid_lit w1 d 3 _ _ rfl (.inr ⟨rfl, rfl, rfl⟩)
    · exact mid_lit w1 d 4 _ _ rfl (.inr ⟨rfl, rfl, rfl⟩)
    · exact mid_lit w1 d 5 _ _ rfl (.inl ⟨rfl, rfl, rfl⟩)
  case rest =>
    obtain ⟨rfl, hBc, hV, hP, hR, hfr, m', hBn⟩ := hcut
    have hw1 := hb1.size
    have hB := Lib.hid (belT hb1 hBc)
    have hV := Lib.hid hV
    have hP := Lib.hid hP
    have hR := Lib.hid hR
    have hfr := Lib.hid hfr
    have hBn := Lib.hid hBn
    clear hBc hb1 he he' hm0 hm1 hk
    obtain ⟨p0, p1⟩ := hP.out
    go_wp2_with fail
    clear p0 p1
    refine (subType_any _ _ _ _ _ _ (bsF m' d (some ⟨w1.heap.size, 0, none⟩)) vT _ hBn hV (by omega) (by omega)).mono ?_
    rintro e w2 ⟨v2, rfl, hv2, hb2⟩
    obtain ⟨q2, n2, c2, rfl⟩ := ownT_sl hv2
    rw [bsF_e m' d hd]
    have hfr2 := Lib.hid (show w2.frozen? ⟨w1.heap.size + 1 + 1, 2, none⟩ = false from (hb2.frozen (p := ⟨w1.heap.size + 1 + 1, 2, none⟩) hR.out.1).trans hfr.out)
    have hV2 := Lib.hid (hV.out.below hb2)
    have hP2 := Lib.hid (hP.out.below hb2)
    have hR2 := Lib.hid (hR.out.below hb2)
    have hBn2 := Lib.hid (hBn.out.below hb2)
    have hB2 := Lib.hid (belT hB.out hb2)
    clear hb2 hv2 hV hP hR hBn hB hfr
    obtain ⟨r0, r1, r2, r3, r4, r5⟩ := hR2.out
    simp only [rT] at r1 r2 r3 r4 r5
    go_wp2_with fail
    clear r0 r1 r2 r3 r4 r5
    refine (subRow_any _ _ _ (bsF m' d (some ⟨w1.heap.size, 0, none⟩)) ⟨0, 0, 0, 0, 1⟩ _ (Lib.hid (hBn2.out.alloc _)) (by omega)).mono ?_
    rintro e w3 ⟨rfl, hb3⟩
    rw [bsF_r m' d hd]
    generalize subR (bsF m' d (some ⟨w1.heap.size, 0, none⟩)) ⟨0, 0, 0, 0, 1⟩ = q3
    unfold rwV
    have hfr3 := Lib.hid (show w3.frozen? ⟨w1.heap.size + 1 + 1, 2, none⟩ = false from (hb3.frozen (p := ⟨w1.heap.size + 1 + 1, 2, none⟩) (hR2.out.alloc _).1).trans (((below_alc w2 _).frozen (p := ⟨w1.heap.size + 1 + 1, 2, none⟩) hR2.out.1).trans hfr2.out))
    have hV3 := Lib.hid ((hV2.out.alloc _).below hb3)
    have hP3 := Lib.hid ((hP2.out.alloc _).below hb3)
    have hR3 := Lib.hid ((hR2.out.alloc _).below hb3)
    have hB3 := Lib.hid (belT (belA _ hB2.out) hb3)
    clear hb3 hV2 hP2 hR2 hBn2 hB2 hfr2
    obtain ⟨r0, r1, r2, r3, r4, r5⟩ := hR3.out
    simp only [rT] at r1 r2 r3 r4 r5
    have s0 := hfr3.out
    have s1 : w1.heap.size + 1 + 1 < w3.heap.size + 1 := by omega
    have s2 : w1.heap.size + 1 + 1 < w3.heap.size + 1 + 1 := by omega
    have s3 : w3.heap.size + 1 ≠ w1.heap.size + 1 + 1 := by omega
    have s4 : w1.heap.size + 1 + 1 ≠ w3.heap.size + 1 := by omega
    go_wp2_with fail
    clear r1 r2 r3 r4 r5 s0 s1 s2 s3 s4
    refine (subRow_any _ _ _ [⟨1, true, none, 0, 0, [], ⟨0, 0, 32, 0, -1⟩⟩] ⟨0, 0, 1, 0, 1⟩ _ (Lib.hid ?b) (by omega)).mono ?_
    case b =>
      refine bnArg_lit _ _ _ _ _ _ (by simp) rfl rfl ?_
      intro y hy
      simp only [List.mem_cons, List.not_mem_nil, or_false] at hy
      obtain rfl := hy
      exact ⟨tyArg_nil _ _, by show (0 : Nat) ≤ 140737488351232; omega⟩
    rintro e w4 ⟨rfl, hb4⟩
    rw [full_r]
    generalize subR [⟨1, true, none, 0, 0, [], ⟨0, 0, 32, 0, -1⟩⟩] ⟨0, 0, 1, 0, 1⟩ = q4
    unfold rwV
    have hV4 := Lib.hid (TyArg.below (.alloc _ (.alloc _ (.alloc _ (tyArg_set hV3.out (by omega))))) hb4)
    have hP4 := Lib.hid (BoxAt.below (.alloc _ (.alloc _ (.alloc _ (box_set hP3.out (by omega))))) hb4)
    have hB4 := Lib.hid (belT (belA _ (belA _ (belA _ (hB3.out.setCell (p := ⟨w1.heap.size + 1 + 1, 2, none⟩) (by show w.heap.size ≤ w1.heap.size + 1 + 1; omega) _)))) hb4)
    clear hb4 hV3 hP3 hR3 hB3 hfr3 r0
    obtain ⟨N, hN⟩ : ∃ N, (4096 + (1 + d)).toNat = N := ⟨_, rfl⟩
    have hN1 : 4096 < N ∧ N ≤ 140737488351232 := by omega
    have hmk := bs_make (4096 + (1 + d)) N (by omega) (by omega) hN
    have hwr : IntKind.i64.wrap (4096 + (1 + d)) = 4096 + (1 + d) := IntWalk.i64_in _ (by omega)
    have kT := Lib.hid fun (a : Option Addr) (W : World) (hb : Below w4.heap.size w4 W) (hbn : BnArg W a N (List.replicate N bn0)) => subType_any a (some ⟨w1.heap.size, 0, none⟩) N N 1 1 (List.replicate N bn0) vT W (Lib.hid hbn) (Lib.hid (hV4.out.below hb)) hN1.2 (by omega)
    obtain ⟨p0, p1⟩ := hP4.out
    have p2 : w1.heap.size + 1 < w4.heap.size + 1 := by omega
    have p3 : w1.heap.size + 1 < w4.heap.size + 1 + 1 := by omega
    have p4 : w1.heap.size + 1 < w4.heap.size + 1 + 1 + 1 := by omega
    go_upto_region 14 with fail
    go_cut [18] (fun s18 wx => s18 = .int .i64 900 ∧ Below w.heap.size w wx)
    case first =>
      have hst : Hid (w4.cell? ⟨w1.heap.size + 1, 0, none⟩ = some (.slice (some ⟨w1.heap.size, 0, none⟩) 1 1) ∧ Below w4.heap.size w4 w4) := Lib.hid ⟨p1, Below.refl _ _⟩
      have p0' := Lib.hid p0
      clear p1 p2 p3 p4 p0
      go_region_held3 (fun W => W.cell? ⟨w1.heap.size + 1, 0, none⟩ = some (.slice (some ⟨w1.heap.size, 0, none⟩) 1 1) ∧ Below w4.heap.size w4 W)
        (repeat (first | with_reducible exact hS5.out | with_reducible exact hst.out | with_reducible refine st_alloc p0'.out _ ?_ | with_reducible refine st_drew p0'.out ?_ | with_reducible refine st_set p0'.out (by omega) ?_))
        ((go_at_call 14; refine (kT.out _ _ (by repeat (first | with_reducible exact Below.refl _ _ | with_reducible refine Below.drew ?_ | with_reducible refine belA _ ?_)) (by repeat (first | with_reducible exact bs_made _ _ _ (by simp) | with_reducible refine BnArg.alloc _ ?_ | with_reducible refine bn_drew ?_))).mono ?_; rintro e w5 ⟨v5, rfl, hv5, hb5⟩; obtain ⟨q5, n5, c5, rfl⟩ := ownT_sl hv5; rw [many_e N hN1.1]; have hB5 := Lib.hid (belT (show Below w.heap.size w _ from by repeat (first | with_reducible exact hB4.out | with_reducible refine Below.drew ?_ | with_reducible refine belA _ ?_)) hb5); have hS5 := Lib.hid (st_go p0'.out (by assumption) hb5); (try (with_reducible (have k1 := BoxFr.below (BoxFr.drew (BoxFr.alloc _ (boxfr_lit (w4.alloc _) 25 (w4.heap.size + 1) (.slice none 0 0) (sz1 _ _)))) hb5))); (try (with_reducible (have k2 := BoxFr.below (BoxFr.drew (boxfr_lit ((w4.alloc _).alloc _) 25 (w4.heap.size + 1 + 1) (.slice none 0 0) (sz2 _ _ _))) hb5))); (try (obtain ⟨⟨k10, k11⟩, k12⟩ := k1)); (try (obtain ⟨⟨k20, k21⟩, k22⟩ := k2)); clear hb5 hv5))
      all_goals (go_wp2_with fail; go_meet)
      all_goals first | exact ⟨rfl, belA _ hB5.out⟩ | exact ⟨rfl, hB5.out.setCell (by have := hB4.out.size; show w.heap.size ≤ w4.heap.size + 1; omega) _⟩ | exact ⟨rfl, hB5.out.setCell (by have := hB4.out.size; show w.heap.size ≤ w4.heap.size + 1 + 1; omega) _⟩
    case rest =>
      obtain ⟨rfl, hBc⟩ := hcut
      go_wp2_with ((go_at_call 19; refine (num_any _ _ (by omega) (by omega)).mono ?_; rintro e w' ⟨rfl, rfl⟩))
      go_ret
      exact ⟨rfl, hBc⟩
theorem own : ownKnob Try.prog.godebug = none := by kernel_rfl
theorem laidOut : laidOutB Try.prog = true := by kernel_rfl
set_option maxRecDepth 100000 in
theorem lifted (os : Os) (started : os.Started) (H : Type) (enc : TypeId × Value → H) :
    ReturnsInHanded {} Try.checked os 5 .any (Rows.substFormsSpec.pre6 enc Try.prog Try.f5 Rows.substFormsRow.domain false) (Rows.substFormsSpec.post enc Try.prog Try.f5 false true false false) := by
  refine returnsInHanded_of_change_sized (C := Try.checked) own started (by kernel_rfl) Try.func5
    (ChangeSpec.witness6 (enc := enc) (C := Try.checked) false ⟨#[], #[.int .i64 0, .int .i64 0], []⟩ 8 (by kernel_rfl) (by kernel_rfl) (by kernel_rfl) (by kernel_rfl)) ?_
  intro W base args ds gs before hval0 hW hcnd hsz0 _
  have hval : ∀ (j : Nat) t v, Try.f5.params[j]? = some t → args[j]? = some v → Value.okWide Try.prog W .any base t v := hval0
  have hsz : (DataW.weightsEach Try.prog (Try.f5.params.toList ++ Rows.substFormsSpec.plain.varTypes Try.prog) (ds ++ gs)).all (· ≤ reachBytes) = true := hsz0
  have hW' := hW
  obtain ⟨p, q, hA0, hV, rfl, hfz, hnd⟩ := hW
  have hA : DataW.TrodAll enc Try.prog W 0 (fun _ => true) true Try.f5.params.toList args.toList ds p := hA0
  rw [Try.params5] at hA hval hsz
  obtain ⟨v0, vs0, d0, ds0, p0, q0, hargs, rfl, rfl, h0, r0⟩ := trodAll_cons hA
  obtain ⟨v1, vs1, d1, ds1, p1, q1, rfl, rfl, rfl, h1, r1⟩ := trodAll_cons r0
  obtain ⟨rfl, rfl, rfl⟩ := trodAll_nil r1
  obtain rfl : args = #[v0, v1] := by cases args; simp_all
  obtain ⟨rfl, rfl⟩ := trodVars_none hV
  obtain ⟨a0, rfl, rfl, rfl, m0⟩ := open_int Try.underlying3 (hval 0 3 v0 rfl rfl) h0
  have w0 : -9223372036854775808 ≤ a0 ∧ a0 ≤ 9223372036854775807 := by simpa [Lit.wf, IntKind.min, IntKind.max, IntKind.signed, IntKind.bits] using m0
  obtain ⟨a1, rfl, rfl, rfl, m1⟩ := open_int Try.underlying3 (hval 1 3 v1 rfl rfl) h1
  have w1 : -9223372036854775808 ≤ a1 ∧ a1 ≤ 9223372036854775807 := by simpa [Lit.wf, IntKind.min, IntKind.max, IntKind.signed, IntKind.bits] using m1
  clear hA0 hval0
  refine (walk a0 a1 w0 w1 W).mono fun e W' ⟨he, bel⟩ => ?_
  subst he
  exact ⟨_, rfl, _, _, _, [], _, [], hW', trodAll_mk1 (shut_bool Try.underlying4 _), (trodAll_cons_mk (shut_int Try.underlying3 m0) (trodAll_cons_mk (shut_int Try.underlying3 m1) trodAll_mk0)), rfl, bel.frame _, fun h => by cases h⟩
theorem over : Rows.substFormsRow.holds Try.pinned (OpenSpec.ofChange Rows.substFormsSpec) :=
  OpenClaim.holds_of_wide 5 Try.f5 rfl rfl rfl rfl rfl rfl rfl ⟨rfl, rfl, rfl, rfl, rfl⟩ rfl rfl rfl rfl rfl (by kernel_rfl) Try.func5 (by kernel_rfl)
    (of_decide_eq_true (by kernel_rfl)) (by unfold Func.isWrapper; first | (rw [if_pos (by decide +kernel)]; kernel_rfl) | (rw [if_neg (by decide +kernel)]; exact ⟨rfl, rfl⟩))
    (fun os started H enc _ => lifted os started H enc)
theorem proved : Rows.SubstFormsSaid := over
end Go.Proofs.Ytjhmdobmbajcgaa.substForms
