/- TreeForms: the cases. -/
import Derived.Test.YtdkpggnnhdoklaaDoorChn
import Derived.Test.YtdkpggnnhdoklaaDoorAid
import Derived.Laws.MakeOwn
namespace Go.Proofs.YtdkpggnnhdoklaaDoor
open Go.RowKit
set_option linter.unusedVariables false
set_option linter.unusedSimpArgs false

def fmO : List Or := [⟨⟨#[97]⟩, 0, 0⟩]
def fmN : List Nd := [⟨0, 0, 0, 0, 0, ⟨#[120]⟩, ⟨#[]⟩, ⟨#[]⟩, ⟨#[]⟩, 0⟩, ⟨1, 0, 0, 0, 4, ⟨#[]⟩, ⟨#[]⟩, ⟨#[]⟩, ⟨#[]⟩, 0⟩, ⟨8, 0, 1, 0, 5, ⟨#[]⟩, ⟨#[]⟩, ⟨#[]⟩, ⟨#[]⟩, 0⟩, ⟨3, 2, 0, 0, 0, ⟨#[]⟩, ⟨#[120]⟩, ⟨#[]⟩, ⟨#[]⟩, 0⟩]
theorem fm_may : mayV fmO fmN = true := by unfold mayV; rw [tree_c]; decide +kernel
theorem ndSl_set {w : World} {g : Nat} {ts ts' : List Nd} (h : NdSl w g 0 ts) (q : Nat) (v old : Value) (he : ndL ts' = (ndL ts).set q v) (hq : (ndL ts)[q]? = some old) : NdSl (w.setCell ⟨g, q, none⟩ v) g 0 ts' := by
  have hold : w.cell? ⟨g, q, none⟩ = some old := by have := ndSl_get h q old hq; rwa [Nat.zero_add] at this
  refine ndSl_of fun j u hj => ?_
  rw [Nat.zero_add, cell_set _ _ _ _ _ _ _ hold]
  rw [he, List.getElem?_set] at hj
  by_cases hjq : q = j
  · subst hjq
    rw [if_pos rfl] at hj
    have hlt : q < (ndL ts).length := (List.getElem?_eq_some_iff.1 hq).1
    rw [if_pos hlt] at hj
    rw [if_pos ⟨rfl, rfl⟩]; exact hj
  · rw [if_neg hjq] at hj
    rw [if_neg (fun e => hjq e.2.symm)]
    have := ndSl_get h j u hj; rwa [Nat.zero_add] at this
theorem orSl_set {w : World} {g : Nat} {ts ts' : List Or} (h : OrSl w g 0 ts) (q : Nat) (v old : Value) (he : orL ts' = (orL ts).set q v) (hq : (orL ts)[q]? = some old) : OrSl (w.setCell ⟨g, q, none⟩ v) g 0 ts' := by
  have hold : w.cell? ⟨g, q, none⟩ = some old := by have := orSl_get h q old hq; rwa [Nat.zero_add] at this
  refine orSl_of fun j u hj => ?_
  rw [Nat.zero_add, cell_set _ _ _ _ _ _ _ hold]
  rw [he, List.getElem?_set] at hj
  by_cases hjq : q = j
  · subst hjq
    rw [if_pos rfl] at hj
    have hlt : q < (orL ts).length := (List.getElem?_eq_some_iff.1 hq).1
    rw [if_pos hlt] at hj
    rw [if_pos ⟨rfl, rfl⟩]; exact hj
  · rw [if_neg hjq] at hj
    rw [if_neg (fun e => hjq e.2.symm)]
    have := orSl_get h j u hj; rwa [Nat.zero_add] at this
theorem oarg_alloc (W : World) (arr : Array Value) (ts : List Or) (h : arr.toList = orL ts) (n : Nat) (hn : n = ts.length) : OArg (W.alloc (.cells arr 48)) (some ⟨W.heap.size, 0, none⟩) n ts := by
  refine ⟨hn, .inr ⟨W.heap.size, 0, rfl, orSl_of fun j u hj => ?_, by simp⟩⟩
  rw [Nat.zero_add, World.cell?_alloc_at _ _ _ _ rfl, ← hj, ← h, Array.getElem?_toList]
theorem may_node (os : List Or) (ts : List Nd) (j : Nat) (h : j < ts.length) (hn : okC true (ts.getD j nd0) = false) : mayV os ts = false := by
  unfold mayV; rw [treeV_node _ ts j h (by rw [ok_c]; exact hn), Bool.and_false]
theorem may_tree (os : List Or) (ts : List Nd) (h : treeV (okNm true) ts = false) : mayV os ts = false := by unfold mayV; rw [h, Bool.and_false]
set_option maxHeartbeats 1000000 in
theorem tMay_many (a a2 : Option Addr) (n c n2 c2 : Nat) (h4 : 4 < n) (w : World) :
    Calls Tryd.prog 14 #[.agg #[.slice a n c, .slice a2 n2 c2]] w fun e w' => e = .returned (.bool false) ∧ Below w.heap.size w w' := by
  have h4' : (4 : Int) < (n : Int) := by omega
  go_enter Tryd.func14, Tryd.ntmps14
  go_wp2_with fail
  go_ret
  exact ⟨rfl, by (repeat' (first | with_reducible exact Below.refl _ _ | with_reducible assumption | with_reducible apply Below.setCell | with_reducible apply Below.alloc | with_reducible apply Below.drew | with_reducible apply below_drewN | with_reducible exact Nat.le_refl _ | (simp; done) | (simp; omega) | omega | exact Nat.le_refl _))⟩
theorem fm_sz : ∀ t ∈ fmN, NdSz t := by
  intro t ht
  simp only [fmN, List.mem_cons, List.not_mem_nil, or_false] at ht
  rcases ht with rfl | rfl | rfl | rfl <;> exact ⟨of_decide_eq_true rfl, of_decide_eq_true rfl, of_decide_eq_true rfl, of_decide_eq_true rfl⟩
theorem fo_sz : ∀ t ∈ fmO, OrSz t := by
  intro t ht
  simp only [fmO, List.mem_cons, List.not_mem_nil, or_false] at ht
  subst ht; unfold OrSz; exact of_decide_eq_true rfl
theorem fo_make (c : Nat) (hc : c ≤ 100000) (W : World) : (Instr.makeSlice 22 (.int .i64 c) (.int .i64 c)).run Tryd.prog W = .ok (.slice (some ⟨W.heap.size, 0, none⟩) c c) (W.alloc (.cells (madeCells (Value.agg #[.string ByteArray.empty, .int .i64 0, .int .i64 0]).cells (c * 3)) 48)) := by
  obtain ⟨i0, hi, hz0, hz1, hz2⟩ := info_parts infoOr
  have h := run_make (P := Tryd.prog) W 22 48 i0 _ Tryd.underlying22 hi hz0 .i64 .i64 (c : Int) (c : Int) (by omega) (by omega) (by rw [hz2]; omega) (by omega)
  rw [h, hz1]; simp
def FmPost (w : World) (e : Ending) (w' : World) : Prop := e = .returned (.bool true) ∧ Below w.heap.size w w'
set_option maxRecDepth 100000 in
set_option maxHeartbeats 8000000 in
theorem form0 (a0 a1 q d : Int) (hq : 0 ≤ q ∧ q < 1024) (hd : 1 + q = d) (hk : bits .and .i64 a1 1023 = q) (he : (IntKind.u64.wrap a0).tmod 20 = 0) (w : World) (hg : Hid (errTy w)) :
    Calls Tryd.prog 5 #[.int .i64 a0, .int .i64 a1] w (FmPost w) := by
  have hdb : 1 ≤ d ∧ d ≤ 1024 := by omega
  have hd1 : 1 ≤ d := hdb.1
  have hd2 : d ≤ 1024 := hdb.2
  have hbad : mayV fmO ([⟨0, 0, 0, 0, 0, ⟨#[]⟩, ⟨#[]⟩, ⟨#[]⟩, ⟨#[]⟩, 0⟩, ⟨1, 0, 0, 0, 4, ⟨#[]⟩, ⟨#[]⟩, ⟨#[]⟩, ⟨#[]⟩, 0⟩, ⟨8, 0, 1, 0, 5, ⟨#[]⟩, ⟨#[]⟩, ⟨#[]⟩, ⟨#[]⟩, 0⟩, ⟨3, 2, 0, 0, 0, ⟨#[]⟩, ⟨#[120]⟩, ⟨#[]⟩, ⟨#[]⟩, 0⟩] : List Nd) = false := by refine may_node _ _ 0 (of_decide_eq_true rfl) ?_; decide +kernel
  have kB := Lib.hid fun (g g2 : Nat) (W : World) (h : Hid (OArg W (some ⟨g, 0, none⟩) 1 fmO)) (h2 : Hid (NArg W (some ⟨g2, 0, none⟩) 4 ([⟨0, 0, 0, 0, 0, ⟨#[]⟩, ⟨#[]⟩, ⟨#[]⟩, ⟨#[]⟩, 0⟩, ⟨1, 0, 0, 0, 4, ⟨#[]⟩, ⟨#[]⟩, ⟨#[]⟩, ⟨#[]⟩, 0⟩, ⟨8, 0, 1, 0, 5, ⟨#[]⟩, ⟨#[]⟩, ⟨#[]⟩, ⟨#[]⟩, 0⟩, ⟨3, 2, 0, 0, 0, ⟨#[]⟩, ⟨#[120]⟩, ⟨#[]⟩, ⟨#[]⟩, 0⟩] : List Nd))) (hg : Hid (errTy W)) => tMay_any (some ⟨g, 0, none⟩) (some ⟨g2, 0, none⟩) 1 1 4 4 fmO ([⟨0, 0, 0, 0, 0, ⟨#[]⟩, ⟨#[]⟩, ⟨#[]⟩, ⟨#[]⟩, 0⟩, ⟨1, 0, 0, 0, 4, ⟨#[]⟩, ⟨#[]⟩, ⟨#[]⟩, ⟨#[]⟩, 0⟩, ⟨8, 0, 1, 0, 5, ⟨#[]⟩, ⟨#[]⟩, ⟨#[]⟩, ⟨#[]⟩, 0⟩, ⟨3, 2, 0, 0, 0, ⟨#[]⟩, ⟨#[120]⟩, ⟨#[]⟩, ⟨#[]⟩, 0⟩] : List Nd) W h (Lib.hid fo_sz) (by omega) h2 (Lib.hid (by intro t ht; simp only [List.mem_cons, List.not_mem_nil, or_false] at ht; rcases ht with rfl | rfl | rfl | rfl <;> exact ⟨of_decide_eq_true rfl, of_decide_eq_true rfl, of_decide_eq_true rfl, of_decide_eq_true rfl⟩)) (by omega) hg
  rw [hbad] at kB
  clear hbad
  have kM := Lib.hid fun (g g2 : Nat) (W : World) (h : Hid (OArg W (some ⟨g, 0, none⟩) 1 fmO)) (h2 : Hid (NArg W (some ⟨g2, 0, none⟩) 4 fmN)) (hg : Hid (errTy W)) => tMay_any (some ⟨g, 0, none⟩) (some ⟨g2, 0, none⟩) 1 1 4 4 fmO fmN W h (Lib.hid fo_sz) (by omega) h2 (Lib.hid fm_sz) (by omega) hg
  rw [fm_may] at kM
  have h0l := hgl hg.out
  go_enter Tryd.func5, Tryd.ntmps5
  go_wp2_with fail
  refine (awake3_any _ hg).mono ?_
  rintro e w1 ⟨rfl, hb1⟩
  have hB1 := Lib.hid hb1
  have hw1s := hb1.size
  clear hb1
  go_wp2_with fail
  have hO0 := Lib.hid (oarg_alloc w1 #[.string ⟨#[97]⟩, .int .i64 0, .int .i64 0] fmO rfl 1 rfl)
  have hN0 := Lib.hid (narg_alloc (w1.alloc (.cells #[.string ⟨#[97]⟩, .int .i64 0, .int .i64 0] 48)) #[.int .i64 0, .int .i64 0, .int .i64 0, .int .i64 0, .int .i64 0, .string ⟨#[120]⟩, .string ⟨#[]⟩, .string ⟨#[]⟩, .string ⟨#[]⟩, .int .i64 0, .int .i64 1, .int .i64 0, .int .i64 0, .int .i64 0, .int .i64 4, .string ⟨#[]⟩, .string ⟨#[]⟩, .string ⟨#[]⟩, .string ⟨#[]⟩, .int .i64 0, .int .i64 8, .int .i64 0, .int .i64 1, .int .i64 0, .int .i64 5, .string ⟨#[]⟩, .string ⟨#[]⟩, .string ⟨#[]⟩, .string ⟨#[]⟩, .int .i64 0, .int .i64 3, .int .i64 2, .int .i64 0, .int .i64 0, .int .i64 0, .string ⟨#[]⟩, .string ⟨#[120]⟩, .string ⟨#[]⟩, .string ⟨#[]⟩, .int .i64 0] fmN rfl 4 rfl)
  have hBa := Lib.hid (show Below w.heap.size w ((w1.alloc (.cells #[.string ⟨#[97]⟩, .int .i64 0, .int .i64 0] 48)).alloc (.cells #[.int .i64 0, .int .i64 0, .int .i64 0, .int .i64 0, .int .i64 0, .string ⟨#[120]⟩, .string ⟨#[]⟩, .string ⟨#[]⟩, .string ⟨#[]⟩, .int .i64 0, .int .i64 1, .int .i64 0, .int .i64 0, .int .i64 0, .int .i64 4, .string ⟨#[]⟩, .string ⟨#[]⟩, .string ⟨#[]⟩, .string ⟨#[]⟩, .int .i64 0, .int .i64 8, .int .i64 0, .int .i64 1, .int .i64 0, .int .i64 5, .string ⟨#[]⟩, .string ⟨#[]⟩, .string ⟨#[]⟩, .string ⟨#[]⟩, .int .i64 0, .int .i64 3, .int .i64 2, .int .i64 0, .int .i64 0, .int .i64 0, .string ⟨#[]⟩, .string ⟨#[120]⟩, .string ⟨#[]⟩, .string ⟨#[]⟩, .int .i64 0] 45)) from by have := hB1.out; (repeat' (first | with_reducible exact Below.refl _ _ | with_reducible assumption | with_reducible apply Below.setCell | with_reducible apply Below.alloc | with_reducible apply Below.drew | with_reducible apply below_drewN | with_reducible exact Nat.le_refl _ | (simp; done) | (simp; omega) | omega | exact Nat.le_refl _)))
  refine (kM.out w1.heap.size (w1.heap.size + 1) _ (Lib.hid (hO0.out.below (by (repeat' (first | with_reducible exact Below.refl _ _ | with_reducible assumption | with_reducible apply Below.setCell | with_reducible apply Below.alloc | with_reducible apply Below.drew | with_reducible apply below_drewN | with_reducible exact Nat.le_refl _ | (simp; done) | (simp; omega) | omega | exact Nat.le_refl _))))) (Lib.hid (by have := hN0.out.below (w' := (((w1.alloc (.cells #[.string ⟨#[97]⟩, .int .i64 0, .int .i64 0] 48)).alloc (.cells #[.int .i64 0, .int .i64 0, .int .i64 0, .int .i64 0, .int .i64 0, .string ⟨#[120]⟩, .string ⟨#[]⟩, .string ⟨#[]⟩, .string ⟨#[]⟩, .int .i64 0, .int .i64 1, .int .i64 0, .int .i64 0, .int .i64 0, .int .i64 4, .string ⟨#[]⟩, .string ⟨#[]⟩, .string ⟨#[]⟩, .string ⟨#[]⟩, .int .i64 0, .int .i64 8, .int .i64 0, .int .i64 1, .int .i64 0, .int .i64 5, .string ⟨#[]⟩, .string ⟨#[]⟩, .string ⟨#[]⟩, .string ⟨#[]⟩, .int .i64 0, .int .i64 3, .int .i64 2, .int .i64 0, .int .i64 0, .int .i64 0, .string ⟨#[]⟩, .string ⟨#[120]⟩, .string ⟨#[]⟩, .string ⟨#[]⟩, .int .i64 0] 45)).alloc (.cells #[.slice (some ⟨w1.heap.size, 0, none⟩) 1 1, .slice (some ⟨w1.heap.size + 1, 0, none⟩) 4 4] 25))) (by (repeat' (first | with_reducible exact Below.refl _ _ | with_reducible assumption | with_reducible apply Below.setCell | with_reducible apply Below.alloc | with_reducible apply Below.drew | with_reducible apply below_drewN | with_reducible exact Nat.le_refl _ | (simp; done) | (simp; omega) | omega | exact Nat.le_refl _))); simpa using this)) (Lib.hid (errTy_below hg.out (by have := hBa.out; have := this.size; (repeat' (first | with_reducible exact Below.refl _ _ | with_reducible assumption | with_reducible apply Below.setCell | with_reducible apply Below.alloc | with_reducible apply Below.drew | with_reducible apply below_drewN | with_reducible exact Nat.le_refl _ | (simp; done) | (simp; omega) | omega | exact Nat.le_refl _)))))).mono ?_
  rintro e w2 ⟨rfl, hb2⟩
  have hB2 := Lib.hid (belT (show Below w.heap.size w _ from by have := hBa.out; have := this.size; (repeat' (first | with_reducible exact Below.refl _ _ | with_reducible assumption | with_reducible apply Below.setCell | with_reducible apply Below.alloc | with_reducible apply Below.drew | with_reducible apply below_drewN | with_reducible exact Nat.le_refl _ | (simp; done) | (simp; omega) | omega | exact Nat.le_refl _))) hb2)
  have p0 : w2.cell? ⟨w1.heap.size + 1 + 1, 0, none⟩ = some (.slice (some ⟨w1.heap.size, 0, none⟩) 1 1) := carry hb2 (by first | (simp; done) | (simp; omega)) (by rw [World.cell?_alloc_at _ _ _ _ (by simp)]; rfl)
  have p1 : w2.cell? ⟨w1.heap.size + 1 + 1, 1, none⟩ = some (.slice (some ⟨w1.heap.size + 1, 0, none⟩) 4 4) := carry hb2 (by first | (simp; done) | (simp; omega)) (by rw [World.cell?_alloc_at _ _ _ _ (by simp)]; rfl)
  have fp : ∀ o, w2.frozen? ⟨w1.heap.size + 1 + 1, o, none⟩ = false := fun o => by rw [hb2.frozen (p := ⟨w1.heap.size + 1 + 1, o, none⟩) (by first | (simp; done) | (simp; omega))]; simp [go_sem]
  have fn : ∀ o, w2.frozen? ⟨w1.heap.size + 1, o, none⟩ = false := fun o => by rw [hb2.frozen (p := ⟨w1.heap.size + 1, o, none⟩) (by first | (simp; done) | (simp; omega))]; simp [go_sem]
  have fo : ∀ o, w2.frozen? ⟨w1.heap.size, o, none⟩ = false := fun o => by rw [hb2.frozen (p := ⟨w1.heap.size, o, none⟩) (by first | (simp; done) | (simp; omega))]; simp [go_sem]
  have hO2 : Hid (OArg w2 (some ⟨w1.heap.size, 0, none⟩) 1 fmO) := Lib.hid ((hO0.out.below (w' := (((w1.alloc (.cells #[.string ⟨#[97]⟩, .int .i64 0, .int .i64 0] 48)).alloc (.cells #[.int .i64 0, .int .i64 0, .int .i64 0, .int .i64 0, .int .i64 0, .string ⟨#[120]⟩, .string ⟨#[]⟩, .string ⟨#[]⟩, .string ⟨#[]⟩, .int .i64 0, .int .i64 1, .int .i64 0, .int .i64 0, .int .i64 0, .int .i64 4, .string ⟨#[]⟩, .string ⟨#[]⟩, .string ⟨#[]⟩, .string ⟨#[]⟩, .int .i64 0, .int .i64 8, .int .i64 0, .int .i64 1, .int .i64 0, .int .i64 5, .string ⟨#[]⟩, .string ⟨#[]⟩, .string ⟨#[]⟩, .string ⟨#[]⟩, .int .i64 0, .int .i64 3, .int .i64 2, .int .i64 0, .int .i64 0, .int .i64 0, .string ⟨#[]⟩, .string ⟨#[120]⟩, .string ⟨#[]⟩, .string ⟨#[]⟩, .int .i64 0] 45)).alloc (.cells #[.slice (some ⟨w1.heap.size, 0, none⟩) 1 1, .slice (some ⟨w1.heap.size + 1, 0, none⟩) 4 4] 25))) (by (repeat' (first | with_reducible exact Below.refl _ _ | with_reducible assumption | with_reducible apply Below.setCell | with_reducible apply Below.alloc | with_reducible apply Below.drew | with_reducible apply below_drewN | with_reducible exact Nat.le_refl _ | (simp; done) | (simp; omega) | omega | exact Nat.le_refl _)))).below hb2)
  have hN2 : Hid (NArg w2 (some ⟨w1.heap.size + 1, 0, none⟩) 4 fmN) := Lib.hid (by have := (hN0.out.below (w' := (((w1.alloc (.cells #[.string ⟨#[97]⟩, .int .i64 0, .int .i64 0] 48)).alloc (.cells #[.int .i64 0, .int .i64 0, .int .i64 0, .int .i64 0, .int .i64 0, .string ⟨#[120]⟩, .string ⟨#[]⟩, .string ⟨#[]⟩, .string ⟨#[]⟩, .int .i64 0, .int .i64 1, .int .i64 0, .int .i64 0, .int .i64 0, .int .i64 4, .string ⟨#[]⟩, .string ⟨#[]⟩, .string ⟨#[]⟩, .string ⟨#[]⟩, .int .i64 0, .int .i64 8, .int .i64 0, .int .i64 1, .int .i64 0, .int .i64 5, .string ⟨#[]⟩, .string ⟨#[]⟩, .string ⟨#[]⟩, .string ⟨#[]⟩, .int .i64 0, .int .i64 3, .int .i64 2, .int .i64 0, .int .i64 0, .int .i64 0, .string ⟨#[]⟩, .string ⟨#[120]⟩, .string ⟨#[]⟩, .string ⟨#[]⟩, .int .i64 0] 45)).alloc (.cells #[.slice (some ⟨w1.heap.size, 0, none⟩) 1 1, .slice (some ⟨w1.heap.size + 1, 0, none⟩) 4 4] 25))) (by (repeat' (first | with_reducible exact Below.refl _ _ | with_reducible assumption | with_reducible apply Below.setCell | with_reducible apply Below.alloc | with_reducible apply Below.drew | with_reducible apply below_drewN | with_reducible exact Nat.le_refl _ | (simp; done) | (simp; omega) | omega | exact Nat.le_refl _)))).below hb2; simpa using this)
  have hz2 : w1.heap.size + 1 + 1 < w2.heap.size := by have := hb2.size; (try simp at this); omega
  have hNs : Hid (NdSl w2 (w1.heap.size + 1) 0 fmN) := Lib.hid (by
    rcases hN2.out.2 with h | ⟨b, off, h1, h2, h3⟩
    · cases h
    · injection h1 with h1; injection h1 with h4 h5 _; subst h4; subst h5; exact h2)
  have hOs : Hid (OrSl w2 w1.heap.size 0 fmO) := Lib.hid (by
    rcases hO2.out.2 with h | ⟨b, off, h1, h2, h3⟩
    · cases h
    · injection h1 with h1; injection h1 with h4 h5 _; subst h4; subst h5; exact h2)
  have hOwn2 := Lib.hid (OwnN.below (w1 := w2) (World.ownsRow.alloc (own_lit (B := w1.heap.size + 1) (w1.alloc (.cells #[.string ⟨#[97]⟩, .int .i64 0, .int .i64 0] 48)) #[.int .i64 0, .int .i64 0, .int .i64 0, .int .i64 0, .int .i64 0, .string ⟨#[120]⟩, .string ⟨#[]⟩, .string ⟨#[]⟩, .string ⟨#[]⟩, .int .i64 0, .int .i64 1, .int .i64 0, .int .i64 0, .int .i64 0, .int .i64 4, .string ⟨#[]⟩, .string ⟨#[]⟩, .string ⟨#[]⟩, .string ⟨#[]⟩, .int .i64 0, .int .i64 8, .int .i64 0, .int .i64 1, .int .i64 0, .int .i64 5, .string ⟨#[]⟩, .string ⟨#[]⟩, .string ⟨#[]⟩, .string ⟨#[]⟩, .int .i64 0, .int .i64 3, .int .i64 2, .int .i64 0, .int .i64 0, .int .i64 0, .string ⟨#[]⟩, .string ⟨#[120]⟩, .string ⟨#[]⟩, .string ⟨#[]⟩, .int .i64 0] fmN rfl 4 rfl (by simp) (by omega)) (.cells #[.slice (some ⟨w1.heap.size, 0, none⟩) 1 1, .slice (some ⟨w1.heap.size + 1, 0, none⟩) 4 4] 25)) hb2)
  clear hb2 kM hN0 hO0 hBa
  have hset := Lib.hid (ndSl_set (ts' := ([⟨0, 0, 0, 0, 0, ⟨#[]⟩, ⟨#[]⟩, ⟨#[]⟩, ⟨#[]⟩, 0⟩, ⟨1, 0, 0, 0, 4, ⟨#[]⟩, ⟨#[]⟩, ⟨#[]⟩, ⟨#[]⟩, 0⟩, ⟨8, 0, 1, 0, 5, ⟨#[]⟩, ⟨#[]⟩, ⟨#[]⟩, ⟨#[]⟩, 0⟩, ⟨3, 2, 0, 0, 0, ⟨#[]⟩, ⟨#[120]⟩, ⟨#[]⟩, ⟨#[]⟩, 0⟩] : List Nd)) hNs.out 5 (.string ⟨#[]⟩) (.string ⟨#[120]⟩) rfl rfl)
  have fx := fn 5
  have hold : w2.cell? ⟨w1.heap.size + 1, 5, none⟩ = some (.string ⟨#[120]⟩) := by have := ndSl_get hNs.out 5 (.string ⟨#[120]⟩) rfl; rwa [Nat.zero_add] at this
  have hB2b := Lib.hid (hB2.out.setCell (p := ⟨w1.heap.size + 1, 5, none⟩) (by show _ ≤ w1.heap.size + 1; omega) (.string ⟨#[]⟩))
  have hOb : Hid (OArg (w2.setCell ⟨w1.heap.size + 1, 5, none⟩ (.string ⟨#[]⟩)) (some ⟨w1.heap.size, 0, none⟩) 1 fmO) := Lib.hid ⟨rfl, .inr ⟨w1.heap.size, 0, rfl, hOs.out.below (B := w1.heap.size + 1) ((Below.refl _ _).setCell (p := ⟨w1.heap.size + 1, 5, none⟩) (Nat.le_refl _) _) (by omega), by simp; omega⟩⟩
  have hNb : Hid (NArg (w2.setCell ⟨w1.heap.size + 1, 5, none⟩ (.string ⟨#[]⟩)) (some ⟨w1.heap.size + 1, 0, none⟩) 4 ([⟨0, 0, 0, 0, 0, ⟨#[]⟩, ⟨#[]⟩, ⟨#[]⟩, ⟨#[]⟩, 0⟩, ⟨1, 0, 0, 0, 4, ⟨#[]⟩, ⟨#[]⟩, ⟨#[]⟩, ⟨#[]⟩, 0⟩, ⟨8, 0, 1, 0, 5, ⟨#[]⟩, ⟨#[]⟩, ⟨#[]⟩, ⟨#[]⟩, 0⟩, ⟨3, 2, 0, 0, 0, ⟨#[]⟩, ⟨#[120]⟩, ⟨#[]⟩, ⟨#[]⟩, 0⟩] : List Nd)) := Lib.hid ⟨rfl, .inr ⟨w1.heap.size + 1, 0, rfl, hset.out, by simp; omega⟩⟩
  have hgb := Lib.hid (errTy_below hg.out hB2b.out)
  clear hset fn fo fp
  go_wp2_with fail
  refine (kB.out _ _ _ hOb hNb hgb).mono ?_
  rintro e w3 ⟨rfl, hb3⟩
  have hB3 := Lib.hid (belT hB2b.out hb3)
  clear hb3
  go_wp2_with fail
  go_ret
  exact ⟨rfl, hB3.out⟩
set_option maxRecDepth 100000 in
set_option maxHeartbeats 8000000 in
theorem form1 (a0 a1 q d : Int) (hq : 0 ≤ q ∧ q < 1024) (hd : 1 + q = d) (hk : bits .and .i64 a1 1023 = q) (he : (IntKind.u64.wrap a0).tmod 20 = 1) (w : World) (hg : Hid (errTy w)) :
    Calls Tryd.prog 5 #[.int .i64 a0, .int .i64 a1] w (FmPost w) := by
  have hdb : 1 ≤ d ∧ d ≤ 1024 := by omega
  have hd1 : 1 ≤ d := hdb.1
  have hd2 : d ≤ 1024 := hdb.2
  have hbad : mayV fmO ([⟨0, 0, 0, 0, 0, ⟨#[101, 110, 100]⟩, ⟨#[]⟩, ⟨#[]⟩, ⟨#[]⟩, 0⟩, ⟨1, 0, 0, 0, 4, ⟨#[]⟩, ⟨#[]⟩, ⟨#[]⟩, ⟨#[]⟩, 0⟩, ⟨8, 0, 1, 0, 5, ⟨#[]⟩, ⟨#[]⟩, ⟨#[]⟩, ⟨#[]⟩, 0⟩, ⟨3, 2, 0, 0, 0, ⟨#[]⟩, ⟨#[120]⟩, ⟨#[]⟩, ⟨#[]⟩, 0⟩] : List Nd) = false := by refine may_node _ _ 0 (of_decide_eq_true rfl) ?_; decide +kernel
  have kB := Lib.hid fun (g g2 : Nat) (W : World) (h : Hid (OArg W (some ⟨g, 0, none⟩) 1 fmO)) (h2 : Hid (NArg W (some ⟨g2, 0, none⟩) 4 ([⟨0, 0, 0, 0, 0, ⟨#[101, 110, 100]⟩, ⟨#[]⟩, ⟨#[]⟩, ⟨#[]⟩, 0⟩, ⟨1, 0, 0, 0, 4, ⟨#[]⟩, ⟨#[]⟩, ⟨#[]⟩, ⟨#[]⟩, 0⟩, ⟨8, 0, 1, 0, 5, ⟨#[]⟩, ⟨#[]⟩, ⟨#[]⟩, ⟨#[]⟩, 0⟩, ⟨3, 2, 0, 0, 0, ⟨#[]⟩, ⟨#[120]⟩, ⟨#[]⟩, ⟨#[]⟩, 0⟩] : List Nd))) (hg : Hid (errTy W)) => tMay_any (some ⟨g, 0, none⟩) (some ⟨g2, 0, none⟩) 1 1 4 4 fmO ([⟨0, 0, 0, 0, 0, ⟨#[101, 110, 100]⟩, ⟨#[]⟩, ⟨#[]⟩, ⟨#[]⟩, 0⟩, ⟨1, 0, 0, 0, 4, ⟨#[]⟩, ⟨#[]⟩, ⟨#[]⟩, ⟨#[]⟩, 0⟩, ⟨8, 0, 1, 0, 5, ⟨#[]⟩, ⟨#[]⟩, ⟨#[]⟩, ⟨#[]⟩, 0⟩, ⟨3, 2, 0, 0, 0, ⟨#[]⟩, ⟨#[120]⟩, ⟨#[]⟩, ⟨#[]⟩, 0⟩] : List Nd) W h (Lib.hid fo_sz) (by omega) h2 (Lib.hid (by intro t ht; simp only [List.mem_cons, List.not_mem_nil, or_false] at ht; rcases ht with rfl | rfl | rfl | rfl <;> exact ⟨of_decide_eq_true rfl, of_decide_eq_true rfl, of_decide_eq_true rfl, of_decide_eq_true rfl⟩)) (by omega) hg
  rw [hbad] at kB
  clear hbad
  have kM := Lib.hid fun (g g2 : Nat) (W : World) (h : Hid (OArg W (some ⟨g, 0, none⟩) 1 fmO)) (h2 : Hid (NArg W (some ⟨g2, 0, none⟩) 4 fmN)) (hg : Hid (errTy W)) => tMay_any (some ⟨g, 0, none⟩) (some ⟨g2, 0, none⟩) 1 1 4 4 fmO fmN W h (Lib.hid fo_sz) (by omega) h2 (Lib.hid fm_sz) (by omega) hg
  rw [fm_may] at kM
  have h0l := hgl hg.out
  go_enter Tryd.func5, Tryd.ntmps5
  go_wp2_with fail
  refine (awake3_any _ hg).mono ?_
  rintro e w1 ⟨rfl, hb1⟩
  have hB1 := Lib.hid hb1
  have hw1s := hb1.size
  clear hb1
  go_wp2_with fail
  have hO0 := Lib.hid (oarg_alloc w1 #[.string ⟨#[97]⟩, .int .i64 0, .int .i64 0] fmO rfl 1 rfl)
  have hN0 := Lib.hid (narg_alloc (w1.alloc (.cells #[.string ⟨#[97]⟩, .int .i64 0, .int .i64 0] 48)) #[.int .i64 0, .int .i64 0, .int .i64 0, .int .i64 0, .int .i64 0, .string ⟨#[120]⟩, .string ⟨#[]⟩, .string ⟨#[]⟩, .string ⟨#[]⟩, .int .i64 0, .int .i64 1, .int .i64 0, .int .i64 0, .int .i64 0, .int .i64 4, .string ⟨#[]⟩, .string ⟨#[]⟩, .string ⟨#[]⟩, .string ⟨#[]⟩, .int .i64 0, .int .i64 8, .int .i64 0, .int .i64 1, .int .i64 0, .int .i64 5, .string ⟨#[]⟩, .string ⟨#[]⟩, .string ⟨#[]⟩, .string ⟨#[]⟩, .int .i64 0, .int .i64 3, .int .i64 2, .int .i64 0, .int .i64 0, .int .i64 0, .string ⟨#[]⟩, .string ⟨#[120]⟩, .string ⟨#[]⟩, .string ⟨#[]⟩, .int .i64 0] fmN rfl 4 rfl)
  have hBa := Lib.hid (show Below w.heap.size w ((w1.alloc (.cells #[.string ⟨#[97]⟩, .int .i64 0, .int .i64 0] 48)).alloc (.cells #[.int .i64 0, .int .i64 0, .int .i64 0, .int .i64 0, .int .i64 0, .string ⟨#[120]⟩, .string ⟨#[]⟩, .string ⟨#[]⟩, .string ⟨#[]⟩, .int .i64 0, .int .i64 1, .int .i64 0, .int .i64 0, .int .i64 0, .int .i64 4, .string ⟨#[]⟩, .string ⟨#[]⟩, .string ⟨#[]⟩, .string ⟨#[]⟩, .int .i64 0, .int .i64 8, .int .i64 0, .int .i64 1, .int .i64 0, .int .i64 5, .string ⟨#[]⟩, .string ⟨#[]⟩, .string ⟨#[]⟩, .string ⟨#[]⟩, .int .i64 0, .int .i64 3, .int .i64 2, .int .i64 0, .int .i64 0, .int .i64 0, .string ⟨#[]⟩, .string ⟨#[120]⟩, .string ⟨#[]⟩, .string ⟨#[]⟩, .int .i64 0] 45)) from by have := hB1.out; (repeat' (first | with_reducible exact Below.refl _ _ | with_reducible assumption | with_reducible apply Below.setCell | with_reducible apply Below.alloc | with_reducible apply Below.drew | with_reducible apply below_drewN | with_reducible exact Nat.le_refl _ | (simp; done) | (simp; omega) | omega | exact Nat.le_refl _)))
  refine (kM.out w1.heap.size (w1.heap.size + 1) _ (Lib.hid (hO0.out.below (by (repeat' (first | with_reducible exact Below.refl _ _ | with_reducible assumption | with_reducible apply Below.setCell | with_reducible apply Below.alloc | with_reducible apply Below.drew | with_reducible apply below_drewN | with_reducible exact Nat.le_refl _ | (simp; done) | (simp; omega) | omega | exact Nat.le_refl _))))) (Lib.hid (by have := hN0.out.below (w' := (((w1.alloc (.cells #[.string ⟨#[97]⟩, .int .i64 0, .int .i64 0] 48)).alloc (.cells #[.int .i64 0, .int .i64 0, .int .i64 0, .int .i64 0, .int .i64 0, .string ⟨#[120]⟩, .string ⟨#[]⟩, .string ⟨#[]⟩, .string ⟨#[]⟩, .int .i64 0, .int .i64 1, .int .i64 0, .int .i64 0, .int .i64 0, .int .i64 4, .string ⟨#[]⟩, .string ⟨#[]⟩, .string ⟨#[]⟩, .string ⟨#[]⟩, .int .i64 0, .int .i64 8, .int .i64 0, .int .i64 1, .int .i64 0, .int .i64 5, .string ⟨#[]⟩, .string ⟨#[]⟩, .string ⟨#[]⟩, .string ⟨#[]⟩, .int .i64 0, .int .i64 3, .int .i64 2, .int .i64 0, .int .i64 0, .int .i64 0, .string ⟨#[]⟩, .string ⟨#[120]⟩, .string ⟨#[]⟩, .string ⟨#[]⟩, .int .i64 0] 45)).alloc (.cells #[.slice (some ⟨w1.heap.size, 0, none⟩) 1 1, .slice (some ⟨w1.heap.size + 1, 0, none⟩) 4 4] 25))) (by (repeat' (first | with_reducible exact Below.refl _ _ | with_reducible assumption | with_reducible apply Below.setCell | with_reducible apply Below.alloc | with_reducible apply Below.drew | with_reducible apply below_drewN | with_reducible exact Nat.le_refl _ | (simp; done) | (simp; omega) | omega | exact Nat.le_refl _))); simpa using this)) (Lib.hid (errTy_below hg.out (by have := hBa.out; have := this.size; (repeat' (first | with_reducible exact Below.refl _ _ | with_reducible assumption | with_reducible apply Below.setCell | with_reducible apply Below.alloc | with_reducible apply Below.drew | with_reducible apply below_drewN | with_reducible exact Nat.le_refl _ | (simp; done) | (simp; omega) | omega | exact Nat.le_refl _)))))).mono ?_
  rintro e w2 ⟨rfl, hb2⟩
  have hB2 := Lib.hid (belT (show Below w.heap.size w _ from by have := hBa.out; have := this.size; (repeat' (first | with_reducible exact Below.refl _ _ | with_reducible assumption | with_reducible apply Below.setCell | with_reducible apply Below.alloc | with_reducible apply Below.drew | with_reducible apply below_drewN | with_reducible exact Nat.le_refl _ | (simp; done) | (simp; omega) | omega | exact Nat.le_refl _))) hb2)
  have p0 : w2.cell? ⟨w1.heap.size + 1 + 1, 0, none⟩ = some (.slice (some ⟨w1.heap.size, 0, none⟩) 1 1) := carry hb2 (by first | (simp; done) | (simp; omega)) (by rw [World.cell?_alloc_at _ _ _ _ (by simp)]; rfl)
  have p1 : w2.cell? ⟨w1.heap.size + 1 + 1, 1, none⟩ = some (.slice (some ⟨w1.heap.size + 1, 0, none⟩) 4 4) := carry hb2 (by first | (simp; done) | (simp; omega)) (by rw [World.cell?_alloc_at _ _ _ _ (by simp)]; rfl)
  have fp : ∀ o, w2.frozen? ⟨w1.heap.size + 1 + 1, o, none⟩ = false := fun o => by rw [hb2.frozen (p := ⟨w1.heap.size + 1 + 1, o, none⟩) (by first | (simp; done) | (simp; omega))]; simp [go_sem]
  have fn : ∀ o, w2.frozen? ⟨w1.heap.size + 1, o, none⟩ = false := fun o => by rw [hb2.frozen (p := ⟨w1.heap.size + 1, o, none⟩) (by first | (simp; done) | (simp; omega))]; simp [go_sem]
  have fo : ∀ o, w2.frozen? ⟨w1.heap.size, o, none⟩ = false := fun o => by rw [hb2.frozen (p := ⟨w1.heap.size, o, none⟩) (by first | (simp; done) | (simp; omega))]; simp [go_sem]
  have hO2 : Hid (OArg w2 (some ⟨w1.heap.size, 0, none⟩) 1 fmO) := Lib.hid ((hO0.out.below (w' := (((w1.alloc (.cells #[.string ⟨#[97]⟩, .int .i64 0, .int .i64 0] 48)).alloc (.cells #[.int .i64 0, .int .i64 0, .int .i64 0, .int .i64 0, .int .i64 0, .string ⟨#[120]⟩, .string ⟨#[]⟩, .string ⟨#[]⟩, .string ⟨#[]⟩, .int .i64 0, .int .i64 1, .int .i64 0, .int .i64 0, .int .i64 0, .int .i64 4, .string ⟨#[]⟩, .string ⟨#[]⟩, .string ⟨#[]⟩, .string ⟨#[]⟩, .int .i64 0, .int .i64 8, .int .i64 0, .int .i64 1, .int .i64 0, .int .i64 5, .string ⟨#[]⟩, .string ⟨#[]⟩, .string ⟨#[]⟩, .string ⟨#[]⟩, .int .i64 0, .int .i64 3, .int .i64 2, .int .i64 0, .int .i64 0, .int .i64 0, .string ⟨#[]⟩, .string ⟨#[120]⟩, .string ⟨#[]⟩, .string ⟨#[]⟩, .int .i64 0] 45)).alloc (.cells #[.slice (some ⟨w1.heap.size, 0, none⟩) 1 1, .slice (some ⟨w1.heap.size + 1, 0, none⟩) 4 4] 25))) (by (repeat' (first | with_reducible exact Below.refl _ _ | with_reducible assumption | with_reducible apply Below.setCell | with_reducible apply Below.alloc | with_reducible apply Below.drew | with_reducible apply below_drewN | with_reducible exact Nat.le_refl _ | (simp; done) | (simp; omega) | omega | exact Nat.le_refl _)))).below hb2)
  have hN2 : Hid (NArg w2 (some ⟨w1.heap.size + 1, 0, none⟩) 4 fmN) := Lib.hid (by have := (hN0.out.below (w' := (((w1.alloc (.cells #[.string ⟨#[97]⟩, .int .i64 0, .int .i64 0] 48)).alloc (.cells #[.int .i64 0, .int .i64 0, .int .i64 0, .int .i64 0, .int .i64 0, .string ⟨#[120]⟩, .string ⟨#[]⟩, .string ⟨#[]⟩, .string ⟨#[]⟩, .int .i64 0, .int .i64 1, .int .i64 0, .int .i64 0, .int .i64 0, .int .i64 4, .string ⟨#[]⟩, .string ⟨#[]⟩, .string ⟨#[]⟩, .string ⟨#[]⟩, .int .i64 0, .int .i64 8, .int .i64 0, .int .i64 1, .int .i64 0, .int .i64 5, .string ⟨#[]⟩, .string ⟨#[]⟩, .string ⟨#[]⟩, .string ⟨#[]⟩, .int .i64 0, .int .i64 3, .int .i64 2, .int .i64 0, .int .i64 0, .int .i64 0, .string ⟨#[]⟩, .string ⟨#[120]⟩, .string ⟨#[]⟩, .string ⟨#[]⟩, .int .i64 0] 45)).alloc (.cells #[.slice (some ⟨w1.heap.size, 0, none⟩) 1 1, .slice (some ⟨w1.heap.size + 1, 0, none⟩) 4 4] 25))) (by (repeat' (first | with_reducible exact Below.refl _ _ | with_reducible assumption | with_reducible apply Below.setCell | with_reducible apply Below.alloc | with_reducible apply Below.drew | with_reducible apply below_drewN | with_reducible exact Nat.le_refl _ | (simp; done) | (simp; omega) | omega | exact Nat.le_refl _)))).below hb2; simpa using this)
  have hz2 : w1.heap.size + 1 + 1 < w2.heap.size := by have := hb2.size; (try simp at this); omega
  have hNs : Hid (NdSl w2 (w1.heap.size + 1) 0 fmN) := Lib.hid (by
    rcases hN2.out.2 with h | ⟨b, off, h1, h2, h3⟩
    · cases h
    · injection h1 with h1; injection h1 with h4 h5 _; subst h4; subst h5; exact h2)
  have hOs : Hid (OrSl w2 w1.heap.size 0 fmO) := Lib.hid (by
    rcases hO2.out.2 with h | ⟨b, off, h1, h2, h3⟩
    · cases h
    · injection h1 with h1; injection h1 with h4 h5 _; subst h4; subst h5; exact h2)
  have hOwn2 := Lib.hid (OwnN.below (w1 := w2) (World.ownsRow.alloc (own_lit (B := w1.heap.size + 1) (w1.alloc (.cells #[.string ⟨#[97]⟩, .int .i64 0, .int .i64 0] 48)) #[.int .i64 0, .int .i64 0, .int .i64 0, .int .i64 0, .int .i64 0, .string ⟨#[120]⟩, .string ⟨#[]⟩, .string ⟨#[]⟩, .string ⟨#[]⟩, .int .i64 0, .int .i64 1, .int .i64 0, .int .i64 0, .int .i64 0, .int .i64 4, .string ⟨#[]⟩, .string ⟨#[]⟩, .string ⟨#[]⟩, .string ⟨#[]⟩, .int .i64 0, .int .i64 8, .int .i64 0, .int .i64 1, .int .i64 0, .int .i64 5, .string ⟨#[]⟩, .string ⟨#[]⟩, .string ⟨#[]⟩, .string ⟨#[]⟩, .int .i64 0, .int .i64 3, .int .i64 2, .int .i64 0, .int .i64 0, .int .i64 0, .string ⟨#[]⟩, .string ⟨#[120]⟩, .string ⟨#[]⟩, .string ⟨#[]⟩, .int .i64 0] fmN rfl 4 rfl (by simp) (by omega)) (.cells #[.slice (some ⟨w1.heap.size, 0, none⟩) 1 1, .slice (some ⟨w1.heap.size + 1, 0, none⟩) 4 4] 25)) hb2)
  clear hb2 kM hN0 hO0 hBa
  have hset := Lib.hid (ndSl_set (ts' := ([⟨0, 0, 0, 0, 0, ⟨#[101, 110, 100]⟩, ⟨#[]⟩, ⟨#[]⟩, ⟨#[]⟩, 0⟩, ⟨1, 0, 0, 0, 4, ⟨#[]⟩, ⟨#[]⟩, ⟨#[]⟩, ⟨#[]⟩, 0⟩, ⟨8, 0, 1, 0, 5, ⟨#[]⟩, ⟨#[]⟩, ⟨#[]⟩, ⟨#[]⟩, 0⟩, ⟨3, 2, 0, 0, 0, ⟨#[]⟩, ⟨#[120]⟩, ⟨#[]⟩, ⟨#[]⟩, 0⟩] : List Nd)) hNs.out 5 (.string ⟨#[101, 110, 100]⟩) (.string ⟨#[120]⟩) rfl rfl)
  have fx := fn 5
  have hold : w2.cell? ⟨w1.heap.size + 1, 5, none⟩ = some (.string ⟨#[120]⟩) := by have := ndSl_get hNs.out 5 (.string ⟨#[120]⟩) rfl; rwa [Nat.zero_add] at this
  have hB2b := Lib.hid (hB2.out.setCell (p := ⟨w1.heap.size + 1, 5, none⟩) (by show _ ≤ w1.heap.size + 1; omega) (.string ⟨#[101, 110, 100]⟩))
  have hOb : Hid (OArg (w2.setCell ⟨w1.heap.size + 1, 5, none⟩ (.string ⟨#[101, 110, 100]⟩)) (some ⟨w1.heap.size, 0, none⟩) 1 fmO) := Lib.hid ⟨rfl, .inr ⟨w1.heap.size, 0, rfl, hOs.out.below (B := w1.heap.size + 1) ((Below.refl _ _).setCell (p := ⟨w1.heap.size + 1, 5, none⟩) (Nat.le_refl _) _) (by omega), by simp; omega⟩⟩
  have hNb : Hid (NArg (w2.setCell ⟨w1.heap.size + 1, 5, none⟩ (.string ⟨#[101, 110, 100]⟩)) (some ⟨w1.heap.size + 1, 0, none⟩) 4 ([⟨0, 0, 0, 0, 0, ⟨#[101, 110, 100]⟩, ⟨#[]⟩, ⟨#[]⟩, ⟨#[]⟩, 0⟩, ⟨1, 0, 0, 0, 4, ⟨#[]⟩, ⟨#[]⟩, ⟨#[]⟩, ⟨#[]⟩, 0⟩, ⟨8, 0, 1, 0, 5, ⟨#[]⟩, ⟨#[]⟩, ⟨#[]⟩, ⟨#[]⟩, 0⟩, ⟨3, 2, 0, 0, 0, ⟨#[]⟩, ⟨#[120]⟩, ⟨#[]⟩, ⟨#[]⟩, 0⟩] : List Nd)) := Lib.hid ⟨rfl, .inr ⟨w1.heap.size + 1, 0, rfl, hset.out, by simp; omega⟩⟩
  have hgb := Lib.hid (errTy_below hg.out hB2b.out)
  clear hset fn fo fp
  go_wp2_with fail
  refine (kB.out _ _ _ hOb hNb hgb).mono ?_
  rintro e w3 ⟨rfl, hb3⟩
  have hB3 := Lib.hid (belT hB2b.out hb3)
  clear hb3
  go_wp2_with fail
  go_ret
  exact ⟨rfl, hB3.out⟩
set_option maxRecDepth 100000 in
set_option maxHeartbeats 8000000 in
theorem form2 (a0 a1 q d : Int) (hq : 0 ≤ q ∧ q < 1024) (hd : 1 + q = d) (hk : bits .and .i64 a1 1023 = q) (he : (IntKind.u64.wrap a0).tmod 20 = 2) (w : World) (hg : Hid (errTy w)) :
    Calls Tryd.prog 5 #[.int .i64 a0, .int .i64 a1] w (FmPost w) := by
  have hdb : 1 ≤ d ∧ d ≤ 1024 := by omega
  have hd1 : 1 ≤ d := hdb.1
  have hd2 : d ≤ 1024 := hdb.2
  have hbad : mayV fmO ([⟨0, 0, 0, 0, d, ⟨#[120]⟩, ⟨#[]⟩, ⟨#[]⟩, ⟨#[]⟩, 0⟩, ⟨1, 0, 0, 0, 4, ⟨#[]⟩, ⟨#[]⟩, ⟨#[]⟩, ⟨#[]⟩, 0⟩, ⟨8, 0, 1, 0, 5, ⟨#[]⟩, ⟨#[]⟩, ⟨#[]⟩, ⟨#[]⟩, 0⟩, ⟨3, 2, 0, 0, 0, ⟨#[]⟩, ⟨#[120]⟩, ⟨#[]⟩, ⟨#[]⟩, 0⟩] : List Nd) = false := by
    refine may_node _ _ 0 (of_decide_eq_true rfl) ?_
    show okC true ⟨0, 0, 0, 0, d, ⟨#[120]⟩, ⟨#[]⟩, ⟨#[]⟩, ⟨#[]⟩, 0⟩ = false
    unfold okC
    simp [plainC, numB, namedB, namesL]
    try omega
  have kB := Lib.hid fun (g g2 : Nat) (W : World) (h : Hid (OArg W (some ⟨g, 0, none⟩) 1 fmO)) (h2 : Hid (NArg W (some ⟨g2, 0, none⟩) 4 ([⟨0, 0, 0, 0, d, ⟨#[120]⟩, ⟨#[]⟩, ⟨#[]⟩, ⟨#[]⟩, 0⟩, ⟨1, 0, 0, 0, 4, ⟨#[]⟩, ⟨#[]⟩, ⟨#[]⟩, ⟨#[]⟩, 0⟩, ⟨8, 0, 1, 0, 5, ⟨#[]⟩, ⟨#[]⟩, ⟨#[]⟩, ⟨#[]⟩, 0⟩, ⟨3, 2, 0, 0, 0, ⟨#[]⟩, ⟨#[120]⟩, ⟨#[]⟩, ⟨#[]⟩, 0⟩] : List Nd))) (hg : Hid (errTy W)) => tMay_any (some ⟨g, 0, none⟩) (some ⟨g2, 0, none⟩) 1 1 4 4 fmO ([⟨0, 0, 0, 0, d, ⟨#[120]⟩, ⟨#[]⟩, ⟨#[]⟩, ⟨#[]⟩, 0⟩, ⟨1, 0, 0, 0, 4, ⟨#[]⟩, ⟨#[]⟩, ⟨#[]⟩, ⟨#[]⟩, 0⟩, ⟨8, 0, 1, 0, 5, ⟨#[]⟩, ⟨#[]⟩, ⟨#[]⟩, ⟨#[]⟩, 0⟩, ⟨3, 2, 0, 0, 0, ⟨#[]⟩, ⟨#[120]⟩, ⟨#[]⟩, ⟨#[]⟩, 0⟩] : List Nd) W h (Lib.hid fo_sz) (by omega) h2 (Lib.hid (by intro t ht; simp only [List.mem_cons, List.not_mem_nil, or_false] at ht; rcases ht with rfl | rfl | rfl | rfl <;> exact ⟨of_decide_eq_true rfl, of_decide_eq_true rfl, of_decide_eq_true rfl, of_decide_eq_true rfl⟩)) (by omega) hg
  rw [hbad] at kB
  clear hbad
  have kM := Lib.hid fun (g g2 : Nat) (W : World) (h : Hid (OArg W (some ⟨g, 0, none⟩) 1 fmO)) (h2 : Hid (NArg W (some ⟨g2, 0, none⟩) 4 fmN)) (hg : Hid (errTy W)) => tMay_any (some ⟨g, 0, none⟩) (some ⟨g2, 0, none⟩) 1 1 4 4 fmO fmN W h (Lib.hid fo_sz) (by omega) h2 (Lib.hid fm_sz) (by omega) hg
  rw [fm_may] at kM
  have h0l := hgl hg.out
  go_enter Tryd.func5, Tryd.ntmps5
  go_wp2_with fail
  refine (awake3_any _ hg).mono ?_
  rintro e w1 ⟨rfl, hb1⟩
  have hB1 := Lib.hid hb1
  have hw1s := hb1.size
  clear hb1
  go_wp2_with fail
  have hO0 := Lib.hid (oarg_alloc w1 #[.string ⟨#[97]⟩, .int .i64 0, .int .i64 0] fmO rfl 1 rfl)
  have hN0 := Lib.hid (narg_alloc (w1.alloc (.cells #[.string ⟨#[97]⟩, .int .i64 0, .int .i64 0] 48)) #[.int .i64 0, .int .i64 0, .int .i64 0, .int .i64 0, .int .i64 0, .string ⟨#[120]⟩, .string ⟨#[]⟩, .string ⟨#[]⟩, .string ⟨#[]⟩, .int .i64 0, .int .i64 1, .int .i64 0, .int .i64 0, .int .i64 0, .int .i64 4, .string ⟨#[]⟩, .string ⟨#[]⟩, .string ⟨#[]⟩, .string ⟨#[]⟩, .int .i64 0, .int .i64 8, .int .i64 0, .int .i64 1, .int .i64 0, .int .i64 5, .string ⟨#[]⟩, .string ⟨#[]⟩, .string ⟨#[]⟩, .string ⟨#[]⟩, .int .i64 0, .int .i64 3, .int .i64 2, .int .i64 0, .int .i64 0, .int .i64 0, .string ⟨#[]⟩, .string ⟨#[120]⟩, .string ⟨#[]⟩, .string ⟨#[]⟩, .int .i64 0] fmN rfl 4 rfl)
  have hBa := Lib.hid (show Below w.heap.size w ((w1.alloc (.cells #[.string ⟨#[97]⟩, .int .i64 0, .int .i64 0] 48)).alloc (.cells #[.int .i64 0, .int .i64 0, .int .i64 0, .int .i64 0, .int .i64 0, .string ⟨#[120]⟩, .string ⟨#[]⟩, .string ⟨#[]⟩, .string ⟨#[]⟩, .int .i64 0, .int .i64 1, .int .i64 0, .int .i64 0, .int .i64 0, .int .i64 4, .string ⟨#[]⟩, .string ⟨#[]⟩, .string ⟨#[]⟩, .string ⟨#[]⟩, .int .i64 0, .int .i64 8, .int .i64 0, .int .i64 1, .int .i64 0, .int .i64 5, .string ⟨#[]⟩, .string ⟨#[]⟩, .string ⟨#[]⟩, .string ⟨#[]⟩, .int .i64 0, .int .i64 3, .int .i64 2, .int .i64 0, .int .i64 0, .int .i64 0, .string ⟨#[]⟩, .string ⟨#[120]⟩, .string ⟨#[]⟩, .string ⟨#[]⟩, .int .i64 0] 45)) from by have := hB1.out; (repeat' (first | with_reducible exact Below.refl _ _ | with_reducible assumption | with_reducible apply Below.setCell | with_reducible apply Below.alloc | with_reducible apply Below.drew | with_reducible apply below_drewN | with_reducible exact Nat.le_refl _ | (simp; done) | (simp; omega) | omega | exact Nat.le_refl _)))
  refine (kM.out w1.heap.size (w1.heap.size + 1) _ (Lib.hid (hO0.out.below (by (repeat' (first | with_reducible exact Below.refl _ _ | with_reducible assumption | with_reducible apply Below.setCell | with_reducible apply Below.alloc | with_reducible apply Below.drew | with_reducible apply below_drewN | with_reducible exact Nat.le_refl _ | (simp; done) | (simp; omega) | omega | exact Nat.le_refl _))))) (Lib.hid (by have := hN0.out.below (w' := (((w1.alloc (.cells #[.string ⟨#[97]⟩, .int .i64 0, .int .i64 0] 48)).alloc (.cells #[.int .i64 0, .int .i64 0, .int .i64 0, .int .i64 0, .int .i64 0, .string ⟨#[120]⟩, .string ⟨#[]⟩, .string ⟨#[]⟩, .string ⟨#[]⟩, .int .i64 0, .int .i64 1, .int .i64 0, .int .i64 0, .int .i64 0, .int .i64 4, .string ⟨#[]⟩, .string ⟨#[]⟩, .string ⟨#[]⟩, .string ⟨#[]⟩, .int .i64 0, .int .i64 8, .int .i64 0, .int .i64 1, .int .i64 0, .int .i64 5, .string ⟨#[]⟩, .string ⟨#[]⟩, .string ⟨#[]⟩, .string ⟨#[]⟩, .int .i64 0, .int .i64 3, .int .i64 2, .int .i64 0, .int .i64 0, .int .i64 0, .string ⟨#[]⟩, .string ⟨#[120]⟩, .string ⟨#[]⟩, .string ⟨#[]⟩, .int .i64 0] 45)).alloc (.cells #[.slice (some ⟨w1.heap.size, 0, none⟩) 1 1, .slice (some ⟨w1.heap.size + 1, 0, none⟩) 4 4] 25))) (by (repeat' (first | with_reducible exact Below.refl _ _ | with_reducible assumption | with_reducible apply Below.setCell | with_reducible apply Below.alloc | with_reducible apply Below.drew | with_reducible apply below_drewN | with_reducible exact Nat.le_refl _ | (simp; done) | (simp; omega) | omega | exact Nat.le_refl _))); simpa using this)) (Lib.hid (errTy_below hg.out (by have := hBa.out; have := this.size; (repeat' (first | with_reducible exact Below.refl _ _ | with_reducible assumption | with_reducible apply Below.setCell | with_reducible apply Below.alloc | with_reducible apply Below.drew | with_reducible apply below_drewN | with_reducible exact Nat.le_refl _ | (simp; done) | (simp; omega) | omega | exact Nat.le_refl _)))))).mono ?_
  rintro e w2 ⟨rfl, hb2⟩
  have hB2 := Lib.hid (belT (show Below w.heap.size w _ from by have := hBa.out; have := this.size; (repeat' (first | with_reducible exact Below.refl _ _ | with_reducible assumption | with_reducible apply Below.setCell | with_reducible apply Below.alloc | with_reducible apply Below.drew | with_reducible apply below_drewN | with_reducible exact Nat.le_refl _ | (simp; done) | (simp; omega) | omega | exact Nat.le_refl _))) hb2)
  have p0 : w2.cell? ⟨w1.heap.size + 1 + 1, 0, none⟩ = some (.slice (some ⟨w1.heap.size, 0, none⟩) 1 1) := carry hb2 (by first | (simp; done) | (simp; omega)) (by rw [World.cell?_alloc_at _ _ _ _ (by simp)]; rfl)
  have p1 : w2.cell? ⟨w1.heap.size + 1 + 1, 1, none⟩ = some (.slice (some ⟨w1.heap.size + 1, 0, none⟩) 4 4) := carry hb2 (by first | (simp; done) | (simp; omega)) (by rw [World.cell?_alloc_at _ _ _ _ (by simp)]; rfl)
  have fp : ∀ o, w2.frozen? ⟨w1.heap.size + 1 + 1, o, none⟩ = false := fun o => by rw [hb2.frozen (p := ⟨w1.heap.size + 1 + 1, o, none⟩) (by first | (simp; done) | (simp; omega))]; simp [go_sem]
  have fn : ∀ o, w2.frozen? ⟨w1.heap.size + 1, o, none⟩ = false := fun o => by rw [hb2.frozen (p := ⟨w1.heap.size + 1, o, none⟩) (by first | (simp; done) | (simp; omega))]; simp [go_sem]
  have fo : ∀ o, w2.frozen? ⟨w1.heap.size, o, none⟩ = false := fun o => by rw [hb2.frozen (p := ⟨w1.heap.size, o, none⟩) (by first | (simp; done) | (simp; omega))]; simp [go_sem]
  have hO2 : Hid (OArg w2 (some ⟨w1.heap.size, 0, none⟩) 1 fmO) := Lib.hid ((hO0.out.below (w' := (((w1.alloc (.cells #[.string ⟨#[97]⟩, .int .i64 0, .int .i64 0] 48)).alloc (.cells #[.int .i64 0, .int .i64 0, .int .i64 0, .int .i64 0, .int .i64 0, .string ⟨#[120]⟩, .string ⟨#[]⟩, .string ⟨#[]⟩, .string ⟨#[]⟩, .int .i64 0, .int .i64 1, .int .i64 0, .int .i64 0, .int .i64 0, .int .i64 4, .string ⟨#[]⟩, .string ⟨#[]⟩, .string ⟨#[]⟩, .string ⟨#[]⟩, .int .i64 0, .int .i64 8, .int .i64 0, .int .i64 1, .int .i64 0, .int .i64 5, .string ⟨#[]⟩, .string ⟨#[]⟩, .string ⟨#[]⟩, .string ⟨#[]⟩, .int .i64 0, .int .i64 3, .int .i64 2, .int .i64 0, .int .i64 0, .int .i64 0, .string ⟨#[]⟩, .string ⟨#[120]⟩, .string ⟨#[]⟩, .string ⟨#[]⟩, .int .i64 0] 45)).alloc (.cells #[.slice (some ⟨w1.heap.size, 0, none⟩) 1 1, .slice (some ⟨w1.heap.size + 1, 0, none⟩) 4 4] 25))) (by (repeat' (first | with_reducible exact Below.refl _ _ | with_reducible assumption | with_reducible apply Below.setCell | with_reducible apply Below.alloc | with_reducible apply Below.drew | with_reducible apply below_drewN | with_reducible exact Nat.le_refl _ | (simp; done) | (simp; omega) | omega | exact Nat.le_refl _)))).below hb2)
  have hN2 : Hid (NArg w2 (some ⟨w1.heap.size + 1, 0, none⟩) 4 fmN) := Lib.hid (by have := (hN0.out.below (w' := (((w1.alloc (.cells #[.string ⟨#[97]⟩, .int .i64 0, .int .i64 0] 48)).alloc (.cells #[.int .i64 0, .int .i64 0, .int .i64 0, .int .i64 0, .int .i64 0, .string ⟨#[120]⟩, .string ⟨#[]⟩, .string ⟨#[]⟩, .string ⟨#[]⟩, .int .i64 0, .int .i64 1, .int .i64 0, .int .i64 0, .int .i64 0, .int .i64 4, .string ⟨#[]⟩, .string ⟨#[]⟩, .string ⟨#[]⟩, .string ⟨#[]⟩, .int .i64 0, .int .i64 8, .int .i64 0, .int .i64 1, .int .i64 0, .int .i64 5, .string ⟨#[]⟩, .string ⟨#[]⟩, .string ⟨#[]⟩, .string ⟨#[]⟩, .int .i64 0, .int .i64 3, .int .i64 2, .int .i64 0, .int .i64 0, .int .i64 0, .string ⟨#[]⟩, .string ⟨#[120]⟩, .string ⟨#[]⟩, .string ⟨#[]⟩, .int .i64 0] 45)).alloc (.cells #[.slice (some ⟨w1.heap.size, 0, none⟩) 1 1, .slice (some ⟨w1.heap.size + 1, 0, none⟩) 4 4] 25))) (by (repeat' (first | with_reducible exact Below.refl _ _ | with_reducible assumption | with_reducible apply Below.setCell | with_reducible apply Below.alloc | with_reducible apply Below.drew | with_reducible apply below_drewN | with_reducible exact Nat.le_refl _ | (simp; done) | (simp; omega) | omega | exact Nat.le_refl _)))).below hb2; simpa using this)
  have hz2 : w1.heap.size + 1 + 1 < w2.heap.size := by have := hb2.size; (try simp at this); omega
  have hNs : Hid (NdSl w2 (w1.heap.size + 1) 0 fmN) := Lib.hid (by
    rcases hN2.out.2 with h | ⟨b, off, h1, h2, h3⟩
    · cases h
    · injection h1 with h1; injection h1 with h4 h5 _; subst h4; subst h5; exact h2)
  have hOs : Hid (OrSl w2 w1.heap.size 0 fmO) := Lib.hid (by
    rcases hO2.out.2 with h | ⟨b, off, h1, h2, h3⟩
    · cases h
    · injection h1 with h1; injection h1 with h4 h5 _; subst h4; subst h5; exact h2)
  have hOwn2 := Lib.hid (OwnN.below (w1 := w2) (World.ownsRow.alloc (own_lit (B := w1.heap.size + 1) (w1.alloc (.cells #[.string ⟨#[97]⟩, .int .i64 0, .int .i64 0] 48)) #[.int .i64 0, .int .i64 0, .int .i64 0, .int .i64 0, .int .i64 0, .string ⟨#[120]⟩, .string ⟨#[]⟩, .string ⟨#[]⟩, .string ⟨#[]⟩, .int .i64 0, .int .i64 1, .int .i64 0, .int .i64 0, .int .i64 0, .int .i64 4, .string ⟨#[]⟩, .string ⟨#[]⟩, .string ⟨#[]⟩, .string ⟨#[]⟩, .int .i64 0, .int .i64 8, .int .i64 0, .int .i64 1, .int .i64 0, .int .i64 5, .string ⟨#[]⟩, .string ⟨#[]⟩, .string ⟨#[]⟩, .string ⟨#[]⟩, .int .i64 0, .int .i64 3, .int .i64 2, .int .i64 0, .int .i64 0, .int .i64 0, .string ⟨#[]⟩, .string ⟨#[120]⟩, .string ⟨#[]⟩, .string ⟨#[]⟩, .int .i64 0] fmN rfl 4 rfl (by simp) (by omega)) (.cells #[.slice (some ⟨w1.heap.size, 0, none⟩) 1 1, .slice (some ⟨w1.heap.size + 1, 0, none⟩) 4 4] 25)) hb2)
  clear hb2 kM hN0 hO0 hBa
  have hset := Lib.hid (ndSl_set (ts' := ([⟨0, 0, 0, 0, d, ⟨#[120]⟩, ⟨#[]⟩, ⟨#[]⟩, ⟨#[]⟩, 0⟩, ⟨1, 0, 0, 0, 4, ⟨#[]⟩, ⟨#[]⟩, ⟨#[]⟩, ⟨#[]⟩, 0⟩, ⟨8, 0, 1, 0, 5, ⟨#[]⟩, ⟨#[]⟩, ⟨#[]⟩, ⟨#[]⟩, 0⟩, ⟨3, 2, 0, 0, 0, ⟨#[]⟩, ⟨#[120]⟩, ⟨#[]⟩, ⟨#[]⟩, 0⟩] : List Nd)) hNs.out 4 (.int .i64 d) (.int .i64 0) rfl rfl)
  have fx := fn 4
  have hold : w2.cell? ⟨w1.heap.size + 1, 4, none⟩ = some (.int .i64 0) := by have := ndSl_get hNs.out 4 (.int .i64 0) rfl; rwa [Nat.zero_add] at this
  have hB2b := Lib.hid (hB2.out.setCell (p := ⟨w1.heap.size + 1, 4, none⟩) (by show _ ≤ w1.heap.size + 1; omega) (.int .i64 d))
  have hOb : Hid (OArg (w2.setCell ⟨w1.heap.size + 1, 4, none⟩ (.int .i64 d)) (some ⟨w1.heap.size, 0, none⟩) 1 fmO) := Lib.hid ⟨rfl, .inr ⟨w1.heap.size, 0, rfl, hOs.out.below (B := w1.heap.size + 1) ((Below.refl _ _).setCell (p := ⟨w1.heap.size + 1, 4, none⟩) (Nat.le_refl _) _) (by omega), by simp; omega⟩⟩
  have hNb : Hid (NArg (w2.setCell ⟨w1.heap.size + 1, 4, none⟩ (.int .i64 d)) (some ⟨w1.heap.size + 1, 0, none⟩) 4 ([⟨0, 0, 0, 0, d, ⟨#[120]⟩, ⟨#[]⟩, ⟨#[]⟩, ⟨#[]⟩, 0⟩, ⟨1, 0, 0, 0, 4, ⟨#[]⟩, ⟨#[]⟩, ⟨#[]⟩, ⟨#[]⟩, 0⟩, ⟨8, 0, 1, 0, 5, ⟨#[]⟩, ⟨#[]⟩, ⟨#[]⟩, ⟨#[]⟩, 0⟩, ⟨3, 2, 0, 0, 0, ⟨#[]⟩, ⟨#[120]⟩, ⟨#[]⟩, ⟨#[]⟩, 0⟩] : List Nd)) := Lib.hid ⟨rfl, .inr ⟨w1.heap.size + 1, 0, rfl, hset.out, by simp; omega⟩⟩
  have hgb := Lib.hid (errTy_below hg.out hB2b.out)
  clear hset fn fo fp
  go_wp2_with fail
  refine (kB.out _ _ _ hOb hNb hgb).mono ?_
  rintro e w3 ⟨rfl, hb3⟩
  have hB3 := Lib.hid (belT hB2b.out hb3)
  clear hb3
  go_wp2_with fail
  go_ret
  exact ⟨rfl, hB3.out⟩
set_option maxRecDepth 100000 in
set_option maxHeartbeats 8000000 in
theorem form3 (a0 a1 q d : Int) (hq : 0 ≤ q ∧ q < 1024) (hd : 1 + q = d) (hk : bits .and .i64 a1 1023 = q) (he : (IntKind.u64.wrap a0).tmod 20 = 3) (w : World) (hg : Hid (errTy w)) :
    Calls Tryd.prog 5 #[.int .i64 a0, .int .i64 a1] w (FmPost w) := by
  have hdb : 1 ≤ d ∧ d ≤ 1024 := by omega
  have hd1 : 1 ≤ d := hdb.1
  have hd2 : d ≤ 1024 := hdb.2
  have hbad : mayV fmO ([⟨0, 0, 0, 0, 0, ⟨#[120]⟩, ⟨#[121]⟩, ⟨#[]⟩, ⟨#[]⟩, 0⟩, ⟨1, 0, 0, 0, 4, ⟨#[]⟩, ⟨#[]⟩, ⟨#[]⟩, ⟨#[]⟩, 0⟩, ⟨8, 0, 1, 0, 5, ⟨#[]⟩, ⟨#[]⟩, ⟨#[]⟩, ⟨#[]⟩, 0⟩, ⟨3, 2, 0, 0, 0, ⟨#[]⟩, ⟨#[120]⟩, ⟨#[]⟩, ⟨#[]⟩, 0⟩] : List Nd) = false := by refine may_node _ _ 0 (of_decide_eq_true rfl) ?_; decide +kernel
  have kB := Lib.hid fun (g g2 : Nat) (W : World) (h : Hid (OArg W (some ⟨g, 0, none⟩) 1 fmO)) (h2 : Hid (NArg W (some ⟨g2, 0, none⟩) 4 ([⟨0, 0, 0, 0, 0, ⟨#[120]⟩, ⟨#[121]⟩, ⟨#[]⟩, ⟨#[]⟩, 0⟩, ⟨1, 0, 0, 0, 4, ⟨#[]⟩, ⟨#[]⟩, ⟨#[]⟩, ⟨#[]⟩, 0⟩, ⟨8, 0, 1, 0, 5, ⟨#[]⟩, ⟨#[]⟩, ⟨#[]⟩, ⟨#[]⟩, 0⟩, ⟨3, 2, 0, 0, 0, ⟨#[]⟩, ⟨#[120]⟩, ⟨#[]⟩, ⟨#[]⟩, 0⟩] : List Nd))) (hg : Hid (errTy W)) => tMay_any (some ⟨g, 0, none⟩) (some ⟨g2, 0, none⟩) 1 1 4 4 fmO ([⟨0, 0, 0, 0, 0, ⟨#[120]⟩, ⟨#[121]⟩, ⟨#[]⟩, ⟨#[]⟩, 0⟩, ⟨1, 0, 0, 0, 4, ⟨#[]⟩, ⟨#[]⟩, ⟨#[]⟩, ⟨#[]⟩, 0⟩, ⟨8, 0, 1, 0, 5, ⟨#[]⟩, ⟨#[]⟩, ⟨#[]⟩, ⟨#[]⟩, 0⟩, ⟨3, 2, 0, 0, 0, ⟨#[]⟩, ⟨#[120]⟩, ⟨#[]⟩, ⟨#[]⟩, 0⟩] : List Nd) W h (Lib.hid fo_sz) (by omega) h2 (Lib.hid (by intro t ht; simp only [List.mem_cons, List.not_mem_nil, or_false] at ht; rcases ht with rfl | rfl | rfl | rfl <;> exact ⟨of_decide_eq_true rfl, of_decide_eq_true rfl, of_decide_eq_true rfl, of_decide_eq_true rfl⟩)) (by omega) hg
  rw [hbad] at kB
  clear hbad
  have kM := Lib.hid fun (g g2 : Nat) (W : World) (h : Hid (OArg W (some ⟨g, 0, none⟩) 1 fmO)) (h2 : Hid (NArg W (some ⟨g2, 0, none⟩) 4 fmN)) (hg : Hid (errTy W)) => tMay_any (some ⟨g, 0, none⟩) (some ⟨g2, 0, none⟩) 1 1 4 4 fmO fmN W h (Lib.hid fo_sz) (by omega) h2 (Lib.hid fm_sz) (by omega) hg
  rw [fm_may] at kM
  have h0l := hgl hg.out
  go_enter Tryd.func5, Tryd.ntmps5
  go_wp2_with fail
  refine (awake3_any _ hg).mono ?_
  rintro e w1 ⟨rfl, hb1⟩
  have hB1 := Lib.hid hb1
  have hw1s := hb1.size
  clear hb1
  go_wp2_with fail
  have hO0 := Lib.hid (oarg_alloc w1 #[.string ⟨#[97]⟩, .int .i64 0, .int .i64 0] fmO rfl 1 rfl)
  have hN0 := Lib.hid (narg_alloc (w1.alloc (.cells #[.string ⟨#[97]⟩, .int .i64 0, .int .i64 0] 48)) #[.int .i64 0, .int .i64 0, .int .i64 0, .int .i64 0, .int .i64 0, .string ⟨#[120]⟩, .string ⟨#[]⟩, .string ⟨#[]⟩, .string ⟨#[]⟩, .int .i64 0, .int .i64 1, .int .i64 0, .int .i64 0, .int .i64 0, .int .i64 4, .string ⟨#[]⟩, .string ⟨#[]⟩, .string ⟨#[]⟩, .string ⟨#[]⟩, .int .i64 0, .int .i64 8, .int .i64 0, .int .i64 1, .int .i64 0, .int .i64 5, .string ⟨#[]⟩, .string ⟨#[]⟩, .string ⟨#[]⟩, .string ⟨#[]⟩, .int .i64 0, .int .i64 3, .int .i64 2, .int .i64 0, .int .i64 0, .int .i64 0, .string ⟨#[]⟩, .string ⟨#[120]⟩, .string ⟨#[]⟩, .string ⟨#[]⟩, .int .i64 0] fmN rfl 4 rfl)
  have hBa := Lib.hid (show Below w.heap.size w ((w1.alloc (.cells #[.string ⟨#[97]⟩, .int .i64 0, .int .i64 0] 48)).alloc (.cells #[.int .i64 0, .int .i64 0, .int .i64 0, .int .i64 0, .int .i64 0, .string ⟨#[120]⟩, .string ⟨#[]⟩, .string ⟨#[]⟩, .string ⟨#[]⟩, .int .i64 0, .int .i64 1, .int .i64 0, .int .i64 0, .int .i64 0, .int .i64 4, .string ⟨#[]⟩, .string ⟨#[]⟩, .string ⟨#[]⟩, .string ⟨#[]⟩, .int .i64 0, .int .i64 8, .int .i64 0, .int .i64 1, .int .i64 0, .int .i64 5, .string ⟨#[]⟩, .string ⟨#[]⟩, .string ⟨#[]⟩, .string ⟨#[]⟩, .int .i64 0, .int .i64 3, .int .i64 2, .int .i64 0, .int .i64 0, .int .i64 0, .string ⟨#[]⟩, .string ⟨#[120]⟩, .string ⟨#[]⟩, .string ⟨#[]⟩, .int .i64 0] 45)) from by have := hB1.out; (repeat' (first | with_reducible exact Below.refl _ _ | with_reducible assumption | with_reducible apply Below.setCell | with_reducible apply Below.alloc | with_reducible apply Below.drew | with_reducible apply below_drewN | with_reducible exact Nat.le_refl _ | (simp; done) | (simp; omega) | omega | exact Nat.le_refl _)))
  refine (kM.out w1.heap.size (w1.heap.size + 1) _ (Lib.hid (hO0.out.below (by (repeat' (first | with_reducible exact Below.refl _ _ | with_reducible assumption | with_reducible apply Below.setCell | with_reducible apply Below.alloc | with_reducible apply Below.drew | with_reducible apply below_drewN | with_reducible exact Nat.le_refl _ | (simp; done) | (simp; omega) | omega | exact Nat.le_refl _))))) (Lib.hid (by have := hN0.out.below (w' := (((w1.alloc (.cells #[.string ⟨#[97]⟩, .int .i64 0, .int .i64 0] 48)).alloc (.cells #[.int .i64 0, .int .i64 0, .int .i64 0, .int .i64 0, .int .i64 0, .string ⟨#[120]⟩, .string ⟨#[]⟩, .string ⟨#[]⟩, .string ⟨#[]⟩, .int .i64 0, .int .i64 1, .int .i64 0, .int .i64 0, .int .i64 0, .int .i64 4, .string ⟨#[]⟩, .string ⟨#[]⟩, .string ⟨#[]⟩, .string ⟨#[]⟩, .int .i64 0, .int .i64 8, .int .i64 0, .int .i64 1, .int .i64 0, .int .i64 5, .string ⟨#[]⟩, .string ⟨#[]⟩, .string ⟨#[]⟩, .string ⟨#[]⟩, .int .i64 0, .int .i64 3, .int .i64 2, .int .i64 0, .int .i64 0, .int .i64 0, .string ⟨#[]⟩, .string ⟨#[120]⟩, .string ⟨#[]⟩, .string ⟨#[]⟩, .int .i64 0] 45)).alloc (.cells #[.slice (some ⟨w1.heap.size, 0, none⟩) 1 1, .slice (some ⟨w1.heap.size + 1, 0, none⟩) 4 4] 25))) (by (repeat' (first | with_reducible exact Below.refl _ _ | with_reducible assumption | with_reducible apply Below.setCell | with_reducible apply Below.alloc | with_reducible apply Below.drew | with_reducible apply below_drewN | with_reducible exact Nat.le_refl _ | (simp; done) | (simp; omega) | omega | exact Nat.le_refl _))); simpa using this)) (Lib.hid (errTy_below hg.out (by have := hBa.out; have := this.size; (repeat' (first | with_reducible exact Below.refl _ _ | with_reducible assumption | with_reducible apply Below.setCell | with_reducible apply Below.alloc | with_reducible apply Below.drew | with_reducible apply below_drewN | with_reducible exact Nat.le_refl _ | (simp; done) | (simp; omega) | omega | exact Nat.le_refl _)))))).mono ?_
  rintro e w2 ⟨rfl, hb2⟩
  have hB2 := Lib.hid (belT (show Below w.heap.size w _ from by have := hBa.out; have := this.size; (repeat' (first | with_reducible exact Below.refl _ _ | with_reducible assumption | with_reducible apply Below.setCell | with_reducible apply Below.alloc | with_reducible apply Below.drew | with_reducible apply below_drewN | with_reducible exact Nat.le_refl _ | (simp; done) | (simp; omega) | omega | exact Nat.le_refl _))) hb2)
  have p0 : w2.cell? ⟨w1.heap.size + 1 + 1, 0, none⟩ = some (.slice (some ⟨w1.heap.size, 0, none⟩) 1 1) := carry hb2 (by first | (simp; done) | (simp; omega)) (by rw [World.cell?_alloc_at _ _ _ _ (by simp)]; rfl)
  have p1 : w2.cell? ⟨w1.heap.size + 1 + 1, 1, none⟩ = some (.slice (some ⟨w1.heap.size + 1, 0, none⟩) 4 4) := carry hb2 (by first | (simp; done) | (simp; omega)) (by rw [World.cell?_alloc_at _ _ _ _ (by simp)]; rfl)
  have fp : ∀ o, w2.frozen? ⟨w1.heap.size + 1 + 1, o, none⟩ = false := fun o => by rw [hb2.frozen (p := ⟨w1.heap.size + 1 + 1, o, none⟩) (by first | (simp; done) | (simp; omega))]; simp [go_sem]
  have fn : ∀ o, w2.frozen? ⟨w1.heap.size + 1, o, none⟩ = false := fun o => by rw [hb2.frozen (p := ⟨w1.heap.size + 1, o, none⟩) (by first | (simp; done) | (simp; omega))]; simp [go_sem]
  have fo : ∀ o, w2.frozen? ⟨w1.heap.size, o, none⟩ = false := fun o => by rw [hb2.frozen (p := ⟨w1.heap.size, o, none⟩) (by first | (simp; done) | (simp; omega))]; simp [go_sem]
  have hO2 : Hid (OArg w2 (some ⟨w1.heap.size, 0, none⟩) 1 fmO) := Lib.hid ((hO0.out.below (w' := (((w1.alloc (.cells #[.string ⟨#[97]⟩, .int .i64 0, .int .i64 0] 48)).alloc (.cells #[.int .i64 0, .int .i64 0, .int .i64 0, .int .i64 0, .int .i64 0, .string ⟨#[120]⟩, .string ⟨#[]⟩, .string ⟨#[]⟩, .string ⟨#[]⟩, .int .i64 0, .int .i64 1, .int .i64 0, .int .i64 0, .int .i64 0, .int .i64 4, .string ⟨#[]⟩, .string ⟨#[]⟩, .string ⟨#[]⟩, .string ⟨#[]⟩, .int .i64 0, .int .i64 8, .int .i64 0, .int .i64 1, .int .i64 0, .int .i64 5, .string ⟨#[]⟩, .string ⟨#[]⟩, .string ⟨#[]⟩, .string ⟨#[]⟩, .int .i64 0, .int .i64 3, .int .i64 2, .int .i64 0, .int .i64 0, .int .i64 0, .string ⟨#[]⟩, .string ⟨#[120]⟩, .string ⟨#[]⟩, .string ⟨#[]⟩, .int .i64 0] 45)).alloc (.cells #[.slice (some ⟨w1.heap.size, 0, none⟩) 1 1, .slice (some ⟨w1.heap.size + 1, 0, none⟩) 4 4] 25))) (by (repeat' (first | with_reducible exact Below.refl _ _ | with_reducible assumption | with_reducible apply Below.setCell | with_reducible apply Below.alloc | with_reducible apply Below.drew | with_reducible apply below_drewN | with_reducible exact Nat.le_refl _ | (simp; done) | (simp; omega) | omega | exact Nat.le_refl _)))).below hb2)
  have hN2 : Hid (NArg w2 (some ⟨w1.heap.size + 1, 0, none⟩) 4 fmN) := Lib.hid (by have := (hN0.out.below (w' := (((w1.alloc (.cells #[.string ⟨#[97]⟩, .int .i64 0, .int .i64 0] 48)).alloc (.cells #[.int .i64 0, .int .i64 0, .int .i64 0, .int .i64 0, .int .i64 0, .string ⟨#[120]⟩, .string ⟨#[]⟩, .string ⟨#[]⟩, .string ⟨#[]⟩, .int .i64 0, .int .i64 1, .int .i64 0, .int .i64 0, .int .i64 0, .int .i64 4, .string ⟨#[]⟩, .string ⟨#[]⟩, .string ⟨#[]⟩, .string ⟨#[]⟩, .int .i64 0, .int .i64 8, .int .i64 0, .int .i64 1, .int .i64 0, .int .i64 5, .string ⟨#[]⟩, .string ⟨#[]⟩, .string ⟨#[]⟩, .string ⟨#[]⟩, .int .i64 0, .int .i64 3, .int .i64 2, .int .i64 0, .int .i64 0, .int .i64 0, .string ⟨#[]⟩, .string ⟨#[120]⟩, .string ⟨#[]⟩, .string ⟨#[]⟩, .int .i64 0] 45)).alloc (.cells #[.slice (some ⟨w1.heap.size, 0, none⟩) 1 1, .slice (some ⟨w1.heap.size + 1, 0, none⟩) 4 4] 25))) (by (repeat' (first | with_reducible exact Below.refl _ _ | with_reducible assumption | with_reducible apply Below.setCell | with_reducible apply Below.alloc | with_reducible apply Below.drew | with_reducible apply below_drewN | with_reducible exact Nat.le_refl _ | (simp; done) | (simp; omega) | omega | exact Nat.le_refl _)))).below hb2; simpa using this)
  have hz2 : w1.heap.size + 1 + 1 < w2.heap.size := by have := hb2.size; (try simp at this); omega
  have hNs : Hid (NdSl w2 (w1.heap.size + 1) 0 fmN) := Lib.hid (by
    rcases hN2.out.2 with h | ⟨b, off, h1, h2, h3⟩
    · cases h
    · injection h1 with h1; injection h1 with h4 h5 _; subst h4; subst h5; exact h2)
  have hOs : Hid (OrSl w2 w1.heap.size 0 fmO) := Lib.hid (by
    rcases hO2.out.2 with h | ⟨b, off, h1, h2, h3⟩
    · cases h
    · injection h1 with h1; injection h1 with h4 h5 _; subst h4; subst h5; exact h2)
  have hOwn2 := Lib.hid (OwnN.below (w1 := w2) (World.ownsRow.alloc (own_lit (B := w1.heap.size + 1) (w1.alloc (.cells #[.string ⟨#[97]⟩, .int .i64 0, .int .i64 0] 48)) #[.int .i64 0, .int .i64 0, .int .i64 0, .int .i64 0, .int .i64 0, .string ⟨#[120]⟩, .string ⟨#[]⟩, .string ⟨#[]⟩, .string ⟨#[]⟩, .int .i64 0, .int .i64 1, .int .i64 0, .int .i64 0, .int .i64 0, .int .i64 4, .string ⟨#[]⟩, .string ⟨#[]⟩, .string ⟨#[]⟩, .string ⟨#[]⟩, .int .i64 0, .int .i64 8, .int .i64 0, .int .i64 1, .int .i64 0, .int .i64 5, .string ⟨#[]⟩, .string ⟨#[]⟩, .string ⟨#[]⟩, .string ⟨#[]⟩, .int .i64 0, .int .i64 3, .int .i64 2, .int .i64 0, .int .i64 0, .int .i64 0, .string ⟨#[]⟩, .string ⟨#[120]⟩, .string ⟨#[]⟩, .string ⟨#[]⟩, .int .i64 0] fmN rfl 4 rfl (by simp) (by omega)) (.cells #[.slice (some ⟨w1.heap.size, 0, none⟩) 1 1, .slice (some ⟨w1.heap.size + 1, 0, none⟩) 4 4] 25)) hb2)
  clear hb2 kM hN0 hO0 hBa
  have hset := Lib.hid (ndSl_set (ts' := ([⟨0, 0, 0, 0, 0, ⟨#[120]⟩, ⟨#[121]⟩, ⟨#[]⟩, ⟨#[]⟩, 0⟩, ⟨1, 0, 0, 0, 4, ⟨#[]⟩, ⟨#[]⟩, ⟨#[]⟩, ⟨#[]⟩, 0⟩, ⟨8, 0, 1, 0, 5, ⟨#[]⟩, ⟨#[]⟩, ⟨#[]⟩, ⟨#[]⟩, 0⟩, ⟨3, 2, 0, 0, 0, ⟨#[]⟩, ⟨#[120]⟩, ⟨#[]⟩, ⟨#[]⟩, 0⟩] : List Nd)) hNs.out 6 (.string ⟨#[121]⟩) (.string ⟨#[]⟩) rfl rfl)
  have fx := fn 6
  have hold : w2.cell? ⟨w1.heap.size + 1, 6, none⟩ = some (.string ⟨#[]⟩) := by have := ndSl_get hNs.out 6 (.string ⟨#[]⟩) rfl; rwa [Nat.zero_add] at this
  have hB2b := Lib.hid (hB2.out.setCell (p := ⟨w1.heap.size + 1, 6, none⟩) (by show _ ≤ w1.heap.size + 1; omega) (.string ⟨#[121]⟩))
  have hOb : Hid (OArg (w2.setCell ⟨w1.heap.size + 1, 6, none⟩ (.string ⟨#[121]⟩)) (some ⟨w1.heap.size, 0, none⟩) 1 fmO) := Lib.hid ⟨rfl, .inr ⟨w1.heap.size, 0, rfl, hOs.out.below (B := w1.heap.size + 1) ((Below.refl _ _).setCell (p := ⟨w1.heap.size + 1, 6, none⟩) (Nat.le_refl _) _) (by omega), by simp; omega⟩⟩
  have hNb : Hid (NArg (w2.setCell ⟨w1.heap.size + 1, 6, none⟩ (.string ⟨#[121]⟩)) (some ⟨w1.heap.size + 1, 0, none⟩) 4 ([⟨0, 0, 0, 0, 0, ⟨#[120]⟩, ⟨#[121]⟩, ⟨#[]⟩, ⟨#[]⟩, 0⟩, ⟨1, 0, 0, 0, 4, ⟨#[]⟩, ⟨#[]⟩, ⟨#[]⟩, ⟨#[]⟩, 0⟩, ⟨8, 0, 1, 0, 5, ⟨#[]⟩, ⟨#[]⟩, ⟨#[]⟩, ⟨#[]⟩, 0⟩, ⟨3, 2, 0, 0, 0, ⟨#[]⟩, ⟨#[120]⟩, ⟨#[]⟩, ⟨#[]⟩, 0⟩] : List Nd)) := Lib.hid ⟨rfl, .inr ⟨w1.heap.size + 1, 0, rfl, hset.out, by simp; omega⟩⟩
  have hgb := Lib.hid (errTy_below hg.out hB2b.out)
  clear hset fn fo fp
  go_wp2_with fail
  refine (kB.out _ _ _ hOb hNb hgb).mono ?_
  rintro e w3 ⟨rfl, hb3⟩
  have hB3 := Lib.hid (belT hB2b.out hb3)
  clear hb3
  go_wp2_with fail
  go_ret
  exact ⟨rfl, hB3.out⟩
set_option maxRecDepth 100000 in
set_option maxHeartbeats 8000000 in
theorem form4 (a0 a1 q d : Int) (hq : 0 ≤ q ∧ q < 1024) (hd : 1 + q = d) (hk : bits .and .i64 a1 1023 = q) (he : (IntKind.u64.wrap a0).tmod 20 = 4) (w : World) (hg : Hid (errTy w)) :
    Calls Tryd.prog 5 #[.int .i64 a0, .int .i64 a1] w (FmPost w) := by
  have hdb : 1 ≤ d ∧ d ≤ 1024 := by omega
  have hd1 : 1 ≤ d := hdb.1
  have hd2 : d ≤ 1024 := hdb.2
  have hbad : mayV fmO ([⟨0, 0, 0, 0, 0, ⟨#[120]⟩, ⟨#[]⟩, ⟨#[]⟩, ⟨#[]⟩, 0⟩, ⟨1, 0, 0, 0, (-d), ⟨#[]⟩, ⟨#[]⟩, ⟨#[]⟩, ⟨#[]⟩, 0⟩, ⟨8, 0, 1, 0, 5, ⟨#[]⟩, ⟨#[]⟩, ⟨#[]⟩, ⟨#[]⟩, 0⟩, ⟨3, 2, 0, 0, 0, ⟨#[]⟩, ⟨#[120]⟩, ⟨#[]⟩, ⟨#[]⟩, 0⟩] : List Nd) = false := by
    refine may_node _ _ 1 (of_decide_eq_true rfl) ?_
    show okC true ⟨1, 0, 0, 0, (-d), ⟨#[]⟩, ⟨#[]⟩, ⟨#[]⟩, ⟨#[]⟩, 0⟩ = false
    unfold okC
    simp [plainC, numB, namedB, namesL]
    try omega
  have kB := Lib.hid fun (g g2 : Nat) (W : World) (h : Hid (OArg W (some ⟨g, 0, none⟩) 1 fmO)) (h2 : Hid (NArg W (some ⟨g2, 0, none⟩) 4 ([⟨0, 0, 0, 0, 0, ⟨#[120]⟩, ⟨#[]⟩, ⟨#[]⟩, ⟨#[]⟩, 0⟩, ⟨1, 0, 0, 0, (-d), ⟨#[]⟩, ⟨#[]⟩, ⟨#[]⟩, ⟨#[]⟩, 0⟩, ⟨8, 0, 1, 0, 5, ⟨#[]⟩, ⟨#[]⟩, ⟨#[]⟩, ⟨#[]⟩, 0⟩, ⟨3, 2, 0, 0, 0, ⟨#[]⟩, ⟨#[120]⟩, ⟨#[]⟩, ⟨#[]⟩, 0⟩] : List Nd))) (hg : Hid (errTy W)) => tMay_any (some ⟨g, 0, none⟩) (some ⟨g2, 0, none⟩) 1 1 4 4 fmO ([⟨0, 0, 0, 0, 0, ⟨#[120]⟩, ⟨#[]⟩, ⟨#[]⟩, ⟨#[]⟩, 0⟩, ⟨1, 0, 0, 0, (-d), ⟨#[]⟩, ⟨#[]⟩, ⟨#[]⟩, ⟨#[]⟩, 0⟩, ⟨8, 0, 1, 0, 5, ⟨#[]⟩, ⟨#[]⟩, ⟨#[]⟩, ⟨#[]⟩, 0⟩, ⟨3, 2, 0, 0, 0, ⟨#[]⟩, ⟨#[120]⟩, ⟨#[]⟩, ⟨#[]⟩, 0⟩] : List Nd) W h (Lib.hid fo_sz) (by omega) h2 (Lib.hid (by intro t ht; simp only [List.mem_cons, List.not_mem_nil, or_false] at ht; rcases ht with rfl | rfl | rfl | rfl <;> exact ⟨of_decide_eq_true rfl, of_decide_eq_true rfl, of_decide_eq_true rfl, of_decide_eq_true rfl⟩)) (by omega) hg
  rw [hbad] at kB
  clear hbad
  have kM := Lib.hid fun (g g2 : Nat) (W : World) (h : Hid (OArg W (some ⟨g, 0, none⟩) 1 fmO)) (h2 : Hid (NArg W (some ⟨g2, 0, none⟩) 4 fmN)) (hg : Hid (errTy W)) => tMay_any (some ⟨g, 0, none⟩) (some ⟨g2, 0, none⟩) 1 1 4 4 fmO fmN W h (Lib.hid fo_sz) (by omega) h2 (Lib.hid fm_sz) (by omega) hg
  rw [fm_may] at kM
  have h0l := hgl hg.out
  go_enter Tryd.func5, Tryd.ntmps5
  go_wp2_with fail
  refine (awake3_any _ hg).mono ?_
  rintro e w1 ⟨rfl, hb1⟩
  have hB1 := Lib.hid hb1
  have hw1s := hb1.size
  clear hb1
  go_wp2_with fail
  have hO0 := Lib.hid (oarg_alloc w1 #[.string ⟨#[97]⟩, .int .i64 0, .int .i64 0] fmO rfl 1 rfl)
  have hN0 := Lib.hid (narg_alloc (w1.alloc (.cells #[.string ⟨#[97]⟩, .int .i64 0, .int .i64 0] 48)) #[.int .i64 0, .int .i64 0, .int .i64 0, .int .i64 0, .int .i64 0, .string ⟨#[120]⟩, .string ⟨#[]⟩, .string ⟨#[]⟩, .string ⟨#[]⟩, .int .i64 0, .int .i64 1, .int .i64 0, .int .i64 0, .int .i64 0, .int .i64 4, .string ⟨#[]⟩, .string ⟨#[]⟩, .string ⟨#[]⟩, .string ⟨#[]⟩, .int .i64 0, .int .i64 8, .int .i64 0, .int .i64 1, .int .i64 0, .int .i64 5, .string ⟨#[]⟩, .string ⟨#[]⟩, .string ⟨#[]⟩, .string ⟨#[]⟩, .int .i64 0, .int .i64 3, .int .i64 2, .int .i64 0, .int .i64 0, .int .i64 0, .string ⟨#[]⟩, .string ⟨#[120]⟩, .string ⟨#[]⟩, .string ⟨#[]⟩, .int .i64 0] fmN rfl 4 rfl)
  have hBa := Lib.hid (show Below w.heap.size w ((w1.alloc (.cells #[.string ⟨#[97]⟩, .int .i64 0, .int .i64 0] 48)).alloc (.cells #[.int .i64 0, .int .i64 0, .int .i64 0, .int .i64 0, .int .i64 0, .string ⟨#[120]⟩, .string ⟨#[]⟩, .string ⟨#[]⟩, .string ⟨#[]⟩, .int .i64 0, .int .i64 1, .int .i64 0, .int .i64 0, .int .i64 0, .int .i64 4, .string ⟨#[]⟩, .string ⟨#[]⟩, .string ⟨#[]⟩, .string ⟨#[]⟩, .int .i64 0, .int .i64 8, .int .i64 0, .int .i64 1, .int .i64 0, .int .i64 5, .string ⟨#[]⟩, .string ⟨#[]⟩, .string ⟨#[]⟩, .string ⟨#[]⟩, .int .i64 0, .int .i64 3, .int .i64 2, .int .i64 0, .int .i64 0, .int .i64 0, .string ⟨#[]⟩, .string ⟨#[120]⟩, .string ⟨#[]⟩, .string ⟨#[]⟩, .int .i64 0] 45)) from by have := hB1.out; (repeat' (first | with_reducible exact Below.refl _ _ | with_reducible assumption | with_reducible apply Below.setCell | with_reducible apply Below.alloc | with_reducible apply Below.drew | with_reducible apply below_drewN | with_reducible exact Nat.le_refl _ | (simp; done) | (simp; omega) | omega | exact Nat.le_refl _)))
  refine (kM.out w1.heap.size (w1.heap.size + 1) _ (Lib.hid (hO0.out.below (by (repeat' (first | with_reducible exact Below.refl _ _ | with_reducible assumption | with_reducible apply Below.setCell | with_reducible apply Below.alloc | with_reducible apply Below.drew | with_reducible apply below_drewN | with_reducible exact Nat.le_refl _ | (simp; done) | (simp; omega) | omega | exact Nat.le_refl _))))) (Lib.hid (by have := hN0.out.below (w' := (((w1.alloc (.cells #[.string ⟨#[97]⟩, .int .i64 0, .int .i64 0] 48)).alloc (.cells #[.int .i64 0, .int .i64 0, .int .i64 0, .int .i64 0, .int .i64 0, .string ⟨#[120]⟩, .string ⟨#[]⟩, .string ⟨#[]⟩, .string ⟨#[]⟩, .int .i64 0, .int .i64 1, .int .i64 0, .int .i64 0, .int .i64 0, .int .i64 4, .string ⟨#[]⟩, .string ⟨#[]⟩, .string ⟨#[]⟩, .string ⟨#[]⟩, .int .i64 0, .int .i64 8, .int .i64 0, .int .i64 1, .int .i64 0, .int .i64 5, .string ⟨#[]⟩, .string ⟨#[]⟩, .string ⟨#[]⟩, .string ⟨#[]⟩, .int .i64 0, .int .i64 3, .int .i64 2, .int .i64 0, .int .i64 0, .int .i64 0, .string ⟨#[]⟩, .string ⟨#[120]⟩, .string ⟨#[]⟩, .string ⟨#[]⟩, .int .i64 0] 45)).alloc (.cells #[.slice (some ⟨w1.heap.size, 0, none⟩) 1 1, .slice (some ⟨w1.heap.size + 1, 0, none⟩) 4 4] 25))) (by (repeat' (first | with_reducible exact Below.refl _ _ | with_reducible assumption | with_reducible apply Below.setCell | with_reducible apply Below.alloc | with_reducible apply Below.drew | with_reducible apply below_drewN | with_reducible exact Nat.le_refl _ | (simp; done) | (simp; omega) | omega | exact Nat.le_refl _))); simpa using this)) (Lib.hid (errTy_below hg.out (by have := hBa.out; have := this.size; (repeat' (first | with_reducible exact Below.refl _ _ | with_reducible assumption | with_reducible apply Below.setCell | with_reducible apply Below.alloc | with_reducible apply Below.drew | with_reducible apply below_drewN | with_reducible exact Nat.le_refl _ | (simp; done) | (simp; omega) | omega | exact Nat.le_refl _)))))).mono ?_
  rintro e w2 ⟨rfl, hb2⟩
  have hB2 := Lib.hid (belT (show Below w.heap.size w _ from by have := hBa.out; have := this.size; (repeat' (first | with_reducible exact Below.refl _ _ | with_reducible assumption | with_reducible apply Below.setCell | with_reducible apply Below.alloc | with_reducible apply Below.drew | with_reducible apply below_drewN | with_reducible exact Nat.le_refl _ | (simp; done) | (simp; omega) | omega | exact Nat.le_refl _))) hb2)
  have p0 : w2.cell? ⟨w1.heap.size + 1 + 1, 0, none⟩ = some (.slice (some ⟨w1.heap.size, 0, none⟩) 1 1) := carry hb2 (by first | (simp; done) | (simp; omega)) (by rw [World.cell?_alloc_at _ _ _ _ (by simp)]; rfl)
  have p1 : w2.cell? ⟨w1.heap.size + 1 + 1, 1, none⟩ = some (.slice (some ⟨w1.heap.size + 1, 0, none⟩) 4 4) := carry hb2 (by first | (simp; done) | (simp; omega)) (by rw [World.cell?_alloc_at _ _ _ _ (by simp)]; rfl)
  have fp : ∀ o, w2.frozen? ⟨w1.heap.size + 1 + 1, o, none⟩ = false := fun o => by rw [hb2.frozen (p := ⟨w1.heap.size + 1 + 1, o, none⟩) (by first | (simp; done) | (simp; omega))]; simp [go_sem]
  have fn : ∀ o, w2.frozen? ⟨w1.heap.size + 1, o, none⟩ = false := fun o => by rw [hb2.frozen (p := ⟨w1.heap.size + 1, o, none⟩) (by first | (simp; done) | (simp; omega))]; simp [go_sem]
  have fo : ∀ o, w2.frozen? ⟨w1.heap.size, o, none⟩ = false := fun o => by rw [hb2.frozen (p := ⟨w1.heap.size, o, none⟩) (by first | (simp; done) | (simp; omega))]; simp [go_sem]
  have hO2 : Hid (OArg w2 (some ⟨w1.heap.size, 0, none⟩) 1 fmO) := Lib.hid ((hO0.out.below (w' := (((w1.alloc (.cells #[.string ⟨#[97]⟩, .int .i64 0, .int .i64 0] 48)).alloc (.cells #[.int .i64 0, .int .i64 0, .int .i64 0, .int .i64 0, .int .i64 0, .string ⟨#[120]⟩, .string ⟨#[]⟩, .string ⟨#[]⟩, .string ⟨#[]⟩, .int .i64 0, .int .i64 1, .int .i64 0, .int .i64 0, .int .i64 0, .int .i64 4, .string ⟨#[]⟩, .string ⟨#[]⟩, .string ⟨#[]⟩, .string ⟨#[]⟩, .int .i64 0, .int .i64 8, .int .i64 0, .int .i64 1, .int .i64 0, .int .i64 5, .string ⟨#[]⟩, .string ⟨#[]⟩, .string ⟨#[]⟩, .string ⟨#[]⟩, .int .i64 0, .int .i64 3, .int .i64 2, .int .i64 0, .int .i64 0, .int .i64 0, .string ⟨#[]⟩, .string ⟨#[120]⟩, .string ⟨#[]⟩, .string ⟨#[]⟩, .int .i64 0] 45)).alloc (.cells #[.slice (some ⟨w1.heap.size, 0, none⟩) 1 1, .slice (some ⟨w1.heap.size + 1, 0, none⟩) 4 4] 25))) (by (repeat' (first | with_reducible exact Below.refl _ _ | with_reducible assumption | with_reducible apply Below.setCell | with_reducible apply Below.alloc | with_reducible apply Below.drew | with_reducible apply below_drewN | with_reducible exact Nat.le_refl _ | (simp; done) | (simp; omega) | omega | exact Nat.le_refl _)))).below hb2)
  have hN2 : Hid (NArg w2 (some ⟨w1.heap.size + 1, 0, none⟩) 4 fmN) := Lib.hid (by have := (hN0.out.below (w' := (((w1.alloc (.cells #[.string ⟨#[97]⟩, .int .i64 0, .int .i64 0] 48)).alloc (.cells #[.int .i64 0, .int .i64 0, .int .i64 0, .int .i64 0, .int .i64 0, .string ⟨#[120]⟩, .string ⟨#[]⟩, .string ⟨#[]⟩, .string ⟨#[]⟩, .int .i64 0, .int .i64 1, .int .i64 0, .int .i64 0, .int .i64 0, .int .i64 4, .string ⟨#[]⟩, .string ⟨#[]⟩, .string ⟨#[]⟩, .string ⟨#[]⟩, .int .i64 0, .int .i64 8, .int .i64 0, .int .i64 1, .int .i64 0, .int .i64 5, .string ⟨#[]⟩, .string ⟨#[]⟩, .string ⟨#[]⟩, .string ⟨#[]⟩, .int .i64 0, .int .i64 3, .int .i64 2, .int .i64 0, .int .i64 0, .int .i64 0, .string ⟨#[]⟩, .string ⟨#[120]⟩, .string ⟨#[]⟩, .string ⟨#[]⟩, .int .i64 0] 45)).alloc (.cells #[.slice (some ⟨w1.heap.size, 0, none⟩) 1 1, .slice (some ⟨w1.heap.size + 1, 0, none⟩) 4 4] 25))) (by (repeat' (first | with_reducible exact Below.refl _ _ | with_reducible assumption | with_reducible apply Below.setCell | with_reducible apply Below.alloc | with_reducible apply Below.drew | with_reducible apply below_drewN | with_reducible exact Nat.le_refl _ | (simp; done) | (simp; omega) | omega | exact Nat.le_refl _)))).below hb2; simpa using this)
  have hz2 : w1.heap.size + 1 + 1 < w2.heap.size := by have := hb2.size; (try simp at this); omega
  have hNs : Hid (NdSl w2 (w1.heap.size + 1) 0 fmN) := Lib.hid (by
    rcases hN2.out.2 with h | ⟨b, off, h1, h2, h3⟩
    · cases h
    · injection h1 with h1; injection h1 with h4 h5 _; subst h4; subst h5; exact h2)
  have hOs : Hid (OrSl w2 w1.heap.size 0 fmO) := Lib.hid (by
    rcases hO2.out.2 with h | ⟨b, off, h1, h2, h3⟩
    · cases h
    · injection h1 with h1; injection h1 with h4 h5 _; subst h4; subst h5; exact h2)
  have hOwn2 := Lib.hid (OwnN.below (w1 := w2) (World.ownsRow.alloc (own_lit (B := w1.heap.size + 1) (w1.alloc (.cells #[.string ⟨#[97]⟩, .int .i64 0, .int .i64 0] 48)) #[.int .i64 0, .int .i64 0, .int .i64 0, .int .i64 0, .int .i64 0, .string ⟨#[120]⟩, .string ⟨#[]⟩, .string ⟨#[]⟩, .string ⟨#[]⟩, .int .i64 0, .int .i64 1, .int .i64 0, .int .i64 0, .int .i64 0, .int .i64 4, .string ⟨#[]⟩, .string ⟨#[]⟩, .string ⟨#[]⟩, .string ⟨#[]⟩, .int .i64 0, .int .i64 8, .int .i64 0, .int .i64 1, .int .i64 0, .int .i64 5, .string ⟨#[]⟩, .string ⟨#[]⟩, .string ⟨#[]⟩, .string ⟨#[]⟩, .int .i64 0, .int .i64 3, .int .i64 2, .int .i64 0, .int .i64 0, .int .i64 0, .string ⟨#[]⟩, .string ⟨#[120]⟩, .string ⟨#[]⟩, .string ⟨#[]⟩, .int .i64 0] fmN rfl 4 rfl (by simp) (by omega)) (.cells #[.slice (some ⟨w1.heap.size, 0, none⟩) 1 1, .slice (some ⟨w1.heap.size + 1, 0, none⟩) 4 4] 25)) hb2)
  clear hb2 kM hN0 hO0 hBa
  have hset := Lib.hid (ndSl_set (ts' := ([⟨0, 0, 0, 0, 0, ⟨#[120]⟩, ⟨#[]⟩, ⟨#[]⟩, ⟨#[]⟩, 0⟩, ⟨1, 0, 0, 0, (-d), ⟨#[]⟩, ⟨#[]⟩, ⟨#[]⟩, ⟨#[]⟩, 0⟩, ⟨8, 0, 1, 0, 5, ⟨#[]⟩, ⟨#[]⟩, ⟨#[]⟩, ⟨#[]⟩, 0⟩, ⟨3, 2, 0, 0, 0, ⟨#[]⟩, ⟨#[120]⟩, ⟨#[]⟩, ⟨#[]⟩, 0⟩] : List Nd)) hNs.out 14 (.int .i64 (-d)) (.int .i64 4) rfl rfl)
  have fx := fn 14
  have hold : w2.cell? ⟨w1.heap.size + 1, 14, none⟩ = some (.int .i64 4) := by have := ndSl_get hNs.out 14 (.int .i64 4) rfl; rwa [Nat.zero_add] at this
  have hB2b := Lib.hid (hB2.out.setCell (p := ⟨w1.heap.size + 1, 14, none⟩) (by show _ ≤ w1.heap.size + 1; omega) (.int .i64 (-d)))
  have hOb : Hid (OArg (w2.setCell ⟨w1.heap.size + 1, 14, none⟩ (.int .i64 (-d))) (some ⟨w1.heap.size, 0, none⟩) 1 fmO) := Lib.hid ⟨rfl, .inr ⟨w1.heap.size, 0, rfl, hOs.out.below (B := w1.heap.size + 1) ((Below.refl _ _).setCell (p := ⟨w1.heap.size + 1, 14, none⟩) (Nat.le_refl _) _) (by omega), by simp; omega⟩⟩
  have hNb : Hid (NArg (w2.setCell ⟨w1.heap.size + 1, 14, none⟩ (.int .i64 (-d))) (some ⟨w1.heap.size + 1, 0, none⟩) 4 ([⟨0, 0, 0, 0, 0, ⟨#[120]⟩, ⟨#[]⟩, ⟨#[]⟩, ⟨#[]⟩, 0⟩, ⟨1, 0, 0, 0, (-d), ⟨#[]⟩, ⟨#[]⟩, ⟨#[]⟩, ⟨#[]⟩, 0⟩, ⟨8, 0, 1, 0, 5, ⟨#[]⟩, ⟨#[]⟩, ⟨#[]⟩, ⟨#[]⟩, 0⟩, ⟨3, 2, 0, 0, 0, ⟨#[]⟩, ⟨#[120]⟩, ⟨#[]⟩, ⟨#[]⟩, 0⟩] : List Nd)) := Lib.hid ⟨rfl, .inr ⟨w1.heap.size + 1, 0, rfl, hset.out, by simp; omega⟩⟩
  have hgb := Lib.hid (errTy_below hg.out hB2b.out)
  clear hset fn fo fp
  go_wp2_with fail
  refine (kB.out _ _ _ hOb hNb hgb).mono ?_
  rintro e w3 ⟨rfl, hb3⟩
  have hB3 := Lib.hid (belT hB2b.out hb3)
  clear hb3
  go_wp2_with fail
  go_ret
  exact ⟨rfl, hB3.out⟩
set_option maxRecDepth 100000 in
set_option maxHeartbeats 8000000 in
theorem form5 (a0 a1 q d : Int) (hq : 0 ≤ q ∧ q < 1024) (hd : 1 + q = d) (hk : bits .and .i64 a1 1023 = q) (he : (IntKind.u64.wrap a0).tmod 20 = 5) (w : World) (hg : Hid (errTy w)) :
    Calls Tryd.prog 5 #[.int .i64 a0, .int .i64 a1] w (FmPost w) := by
  have hdb : 1 ≤ d ∧ d ≤ 1024 := by omega
  have hd1 : 1 ≤ d := hdb.1
  have hd2 : d ≤ 1024 := hdb.2
  have hbad : mayV fmO ([⟨0, 0, 0, 0, 0, ⟨#[120]⟩, ⟨#[]⟩, ⟨#[]⟩, ⟨#[]⟩, 0⟩, ⟨1, 0, 0, 0, (1073741823 + d), ⟨#[]⟩, ⟨#[]⟩, ⟨#[]⟩, ⟨#[]⟩, 0⟩, ⟨8, 0, 1, 0, 5, ⟨#[]⟩, ⟨#[]⟩, ⟨#[]⟩, ⟨#[]⟩, 0⟩, ⟨3, 2, 0, 0, 0, ⟨#[]⟩, ⟨#[120]⟩, ⟨#[]⟩, ⟨#[]⟩, 0⟩] : List Nd) = false := by
    refine may_node _ _ 1 (of_decide_eq_true rfl) ?_
    show okC true ⟨1, 0, 0, 0, (1073741823 + d), ⟨#[]⟩, ⟨#[]⟩, ⟨#[]⟩, ⟨#[]⟩, 0⟩ = false
    unfold okC
    simp [plainC, numB, namedB, namesL]
    try omega
  have kB := Lib.hid fun (g g2 : Nat) (W : World) (h : Hid (OArg W (some ⟨g, 0, none⟩) 1 fmO)) (h2 : Hid (NArg W (some ⟨g2, 0, none⟩) 4 ([⟨0, 0, 0, 0, 0, ⟨#[120]⟩, ⟨#[]⟩, ⟨#[]⟩, ⟨#[]⟩, 0⟩, ⟨1, 0, 0, 0, (1073741823 + d), ⟨#[]⟩, ⟨#[]⟩, ⟨#[]⟩, ⟨#[]⟩, 0⟩, ⟨8, 0, 1, 0, 5, ⟨#[]⟩, ⟨#[]⟩, ⟨#[]⟩, ⟨#[]⟩, 0⟩, ⟨3, 2, 0, 0, 0, ⟨#[]⟩, ⟨#[120]⟩, ⟨#[]⟩, ⟨#[]⟩, 0⟩] : List Nd))) (hg : Hid (errTy W)) => tMay_any (some ⟨g, 0, none⟩) (some ⟨g2, 0, none⟩) 1 1 4 4 fmO ([⟨0, 0, 0, 0, 0, ⟨#[120]⟩, ⟨#[]⟩, ⟨#[]⟩, ⟨#[]⟩, 0⟩, ⟨1, 0, 0, 0, (1073741823 + d), ⟨#[]⟩, ⟨#[]⟩, ⟨#[]⟩, ⟨#[]⟩, 0⟩, ⟨8, 0, 1, 0, 5, ⟨#[]⟩, ⟨#[]⟩, ⟨#[]⟩, ⟨#[]⟩, 0⟩, ⟨3, 2, 0, 0, 0, ⟨#[]⟩, ⟨#[120]⟩, ⟨#[]⟩, ⟨#[]⟩, 0⟩] : List Nd) W h (Lib.hid fo_sz) (by omega) h2 (Lib.hid (by intro t ht; simp only [List.mem_cons, List.not_mem_nil, or_false] at ht; rcases ht with rfl | rfl | rfl | rfl <;> exact ⟨of_decide_eq_true rfl, of_decide_eq_true rfl, of_decide_eq_true rfl, of_decide_eq_true rfl⟩)) (by omega) hg
  rw [hbad] at kB
  clear hbad
  have kM := Lib.hid fun (g g2 : Nat) (W : World) (h : Hid (OArg W (some ⟨g, 0, none⟩) 1 fmO)) (h2 : Hid (NArg W (some ⟨g2, 0, none⟩) 4 fmN)) (hg : Hid (errTy W)) => tMay_any (some ⟨g, 0, none⟩) (some ⟨g2, 0, none⟩) 1 1 4 4 fmO fmN W h (Lib.hid fo_sz) (by omega) h2 (Lib.hid fm_sz) (by omega) hg
  rw [fm_may] at kM
  have h0l := hgl hg.out
  go_enter Tryd.func5, Tryd.ntmps5
  go_wp2_with fail
  refine (awake3_any _ hg).mono ?_
  rintro e w1 ⟨rfl, hb1⟩
  have hB1 := Lib.hid hb1
  have hw1s := hb1.size
  clear hb1
  go_wp2_with fail
  have hO0 := Lib.hid (oarg_alloc w1 #[.string ⟨#[97]⟩, .int .i64 0, .int .i64 0] fmO rfl 1 rfl)
  have hN0 := Lib.hid (narg_alloc (w1.alloc (.cells #[.string ⟨#[97]⟩, .int .i64 0, .int .i64 0] 48)) #[.int .i64 0, .int .i64 0, .int .i64 0, .int .i64 0, .int .i64 0, .string ⟨#[120]⟩, .string ⟨#[]⟩, .string ⟨#[]⟩, .string ⟨#[]⟩, .int .i64 0, .int .i64 1, .int .i64 0, .int .i64 0, .int .i64 0, .int .i64 4, .string ⟨#[]⟩, .string ⟨#[]⟩, .string ⟨#[]⟩, .string ⟨#[]⟩, .int .i64 0, .int .i64 8, .int .i64 0, .int .i64 1, .int .i64 0, .int .i64 5, .string ⟨#[]⟩, .string ⟨#[]⟩, .string ⟨#[]⟩, .string ⟨#[]⟩, .int .i64 0, .int .i64 3, .int .i64 2, .int .i64 0, .int .i64 0, .int .i64 0, .string ⟨#[]⟩, .string ⟨#[120]⟩, .string ⟨#[]⟩, .string ⟨#[]⟩, .int .i64 0] fmN rfl 4 rfl)
  have hBa := Lib.hid (show Below w.heap.size w ((w1.alloc (.cells #[.string ⟨#[97]⟩, .int .i64 0, .int .i64 0] 48)).alloc (.cells #[.int .i64 0, .int .i64 0, .int .i64 0, .int .i64 0, .int .i64 0, .string ⟨#[120]⟩, .string ⟨#[]⟩, .string ⟨#[]⟩, .string ⟨#[]⟩, .int .i64 0, .int .i64 1, .int .i64 0, .int .i64 0, .int .i64 0, .int .i64 4, .string ⟨#[]⟩, .string ⟨#[]⟩, .string ⟨#[]⟩, .string ⟨#[]⟩, .int .i64 0, .int .i64 8, .int .i64 0, .int .i64 1, .int .i64 0, .int .i64 5, .string ⟨#[]⟩, .string ⟨#[]⟩, .string ⟨#[]⟩, .string ⟨#[]⟩, .int .i64 0, .int .i64 3, .int .i64 2, .int .i64 0, .int .i64 0, .int .i64 0, .string ⟨#[]⟩, .string ⟨#[120]⟩, .string ⟨#[]⟩, .string ⟨#[]⟩, .int .i64 0] 45)) from by have := hB1.out; (repeat' (first | with_reducible exact Below.refl _ _ | with_reducible assumption | with_reducible apply Below.setCell | with_reducible apply Below.alloc | with_reducible apply Below.drew | with_reducible apply below_drewN | with_reducible exact Nat.le_refl _ | (simp; done) | (simp; omega) | omega | exact Nat.le_refl _)))
  refine (kM.out w1.heap.size (w1.heap.size + 1) _ (Lib.hid (hO0.out.below (by (repeat' (first | with_reducible exact Below.refl _ _ | with_reducible assumption | with_reducible apply Below.setCell | with_reducible apply Below.alloc | with_reducible apply Below.drew | with_reducible apply below_drewN | with_reducible exact Nat.le_refl _ | (simp; done) | (simp; omega) | omega | exact Nat.le_refl _))))) (Lib.hid (by have := hN0.out.below (w' := (((w1.alloc (.cells #[.string ⟨#[97]⟩, .int .i64 0, .int .i64 0] 48)).alloc (.cells #[.int .i64 0, .int .i64 0, .int .i64 0, .int .i64 0, .int .i64 0, .string ⟨#[120]⟩, .string ⟨#[]⟩, .string ⟨#[]⟩, .string ⟨#[]⟩, .int .i64 0, .int .i64 1, .int .i64 0, .int .i64 0, .int .i64 0, .int .i64 4, .string ⟨#[]⟩, .string ⟨#[]⟩, .string ⟨#[]⟩, .string ⟨#[]⟩, .int .i64 0, .int .i64 8, .int .i64 0, .int .i64 1, .int .i64 0, .int .i64 5, .string ⟨#[]⟩, .string ⟨#[]⟩, .string ⟨#[]⟩, .string ⟨#[]⟩, .int .i64 0, .int .i64 3, .int .i64 2, .int .i64 0, .int .i64 0, .int .i64 0, .string ⟨#[]⟩, .string ⟨#[120]⟩, .string ⟨#[]⟩, .string ⟨#[]⟩, .int .i64 0] 45)).alloc (.cells #[.slice (some ⟨w1.heap.size, 0, none⟩) 1 1, .slice (some ⟨w1.heap.size + 1, 0, none⟩) 4 4] 25))) (by (repeat' (first | with_reducible exact Below.refl _ _ | with_reducible assumption | with_reducible apply Below.setCell | with_reducible apply Below.alloc | with_reducible apply Below.drew | with_reducible apply below_drewN | with_reducible exact Nat.le_refl _ | (simp; done) | (simp; omega) | omega | exact Nat.le_refl _))); simpa using this)) (Lib.hid (errTy_below hg.out (by have := hBa.out; have := this.size; (repeat' (first | with_reducible exact Below.refl _ _ | with_reducible assumption | with_reducible apply Below.setCell | with_reducible apply Below.alloc | with_reducible apply Below.drew | with_reducible apply below_drewN | with_reducible exact Nat.le_refl _ | (simp; done) | (simp; omega) | omega | exact Nat.le_refl _)))))).mono ?_
  rintro e w2 ⟨rfl, hb2⟩
  have hB2 := Lib.hid (belT (show Below w.heap.size w _ from by have := hBa.out; have := this.size; (repeat' (first | with_reducible exact Below.refl _ _ | with_reducible assumption | with_reducible apply Below.setCell | with_reducible apply Below.alloc | with_reducible apply Below.drew | with_reducible apply below_drewN | with_reducible exact Nat.le_refl _ | (simp; done) | (simp; omega) | omega | exact Nat.le_refl _))) hb2)
  have p0 : w2.cell? ⟨w1.heap.size + 1 + 1, 0, none⟩ = some (.slice (some ⟨w1.heap.size, 0, none⟩) 1 1) := carry hb2 (by first | (simp; done) | (simp; omega)) (by rw [World.cell?_alloc_at _ _ _ _ (by simp)]; rfl)
  have p1 : w2.cell? ⟨w1.heap.size + 1 + 1, 1, none⟩ = some (.slice (some ⟨w1.heap.size + 1, 0, none⟩) 4 4) := carry hb2 (by first | (simp; done) | (simp; omega)) (by rw [World.cell?_alloc_at _ _ _ _ (by simp)]; rfl)
  have fp : ∀ o, w2.frozen? ⟨w1.heap.size + 1 + 1, o, none⟩ = false := fun o => by rw [hb2.frozen (p := ⟨w1.heap.size + 1 + 1, o, none⟩) (by first | (simp; done) | (simp; omega))]; simp [go_sem]
  have fn : ∀ o, w2.frozen? ⟨w1.heap.size + 1, o, none⟩ = false := fun o => by rw [hb2.frozen (p := ⟨w1.heap.size + 1, o, none⟩) (by first | (simp; done) | (simp; omega))]; simp [go_sem]
  have fo : ∀ o, w2.frozen? ⟨w1.heap.size, o, none⟩ = false := fun o => by rw [hb2.frozen (p := ⟨w1.heap.size, o, none⟩) (by first | (simp; done) | (simp; omega))]; simp [go_sem]
  have hO2 : Hid (OArg w2 (some ⟨w1.heap.size, 0, none⟩) 1 fmO) := Lib.hid ((hO0.out.below (w' := (((w1.alloc (.cells #[.string ⟨#[97]⟩, .int .i64 0, .int .i64 0] 48)).alloc (.cells #[.int .i64 0, .int .i64 0, .int .i64 0, .int .i64 0, .int .i64 0, .string ⟨#[120]⟩, .string ⟨#[]⟩, .string ⟨#[]⟩, .string ⟨#[]⟩, .int .i64 0, .int .i64 1, .int .i64 0, .int .i64 0, .int .i64 0, .int .i64 4, .string ⟨#[]⟩, .string ⟨#[]⟩, .string ⟨#[]⟩, .string ⟨#[]⟩, .int .i64 0, .int .i64 8, .int .i64 0, .int .i64 1, .int .i64 0, .int .i64 5, .string ⟨#[]⟩, .string ⟨#[]⟩, .string ⟨#[]⟩, .string ⟨#[]⟩, .int .i64 0, .int .i64 3, .int .i64 2, .int .i64 0, .int .i64 0, .int .i64 0, .string ⟨#[]⟩, .string ⟨#[120]⟩, .string ⟨#[]⟩, .string ⟨#[]⟩, .int .i64 0] 45)).alloc (.cells #[.slice (some ⟨w1.heap.size, 0, none⟩) 1 1, .slice (some ⟨w1.heap.size + 1, 0, none⟩) 4 4] 25))) (by (repeat' (first | with_reducible exact Below.refl _ _ | with_reducible assumption | with_reducible apply Below.setCell | with_reducible apply Below.alloc | with_reducible apply Below.drew | with_reducible apply below_drewN | with_reducible exact Nat.le_refl _ | (simp; done) | (simp; omega) | omega | exact Nat.le_refl _)))).below hb2)
  have hN2 : Hid (NArg w2 (some ⟨w1.heap.size + 1, 0, none⟩) 4 fmN) := Lib.hid (by have := (hN0.out.below (w' := (((w1.alloc (.cells #[.string ⟨#[97]⟩, .int .i64 0, .int .i64 0] 48)).alloc (.cells #[.int .i64 0, .int .i64 0, .int .i64 0, .int .i64 0, .int .i64 0, .string ⟨#[120]⟩, .string ⟨#[]⟩, .string ⟨#[]⟩, .string ⟨#[]⟩, .int .i64 0, .int .i64 1, .int .i64 0, .int .i64 0, .int .i64 0, .int .i64 4, .string ⟨#[]⟩, .string ⟨#[]⟩, .string ⟨#[]⟩, .string ⟨#[]⟩, .int .i64 0, .int .i64 8, .int .i64 0, .int .i64 1, .int .i64 0, .int .i64 5, .string ⟨#[]⟩, .string ⟨#[]⟩, .string ⟨#[]⟩, .string ⟨#[]⟩, .int .i64 0, .int .i64 3, .int .i64 2, .int .i64 0, .int .i64 0, .int .i64 0, .string ⟨#[]⟩, .string ⟨#[120]⟩, .string ⟨#[]⟩, .string ⟨#[]⟩, .int .i64 0] 45)).alloc (.cells #[.slice (some ⟨w1.heap.size, 0, none⟩) 1 1, .slice (some ⟨w1.heap.size + 1, 0, none⟩) 4 4] 25))) (by (repeat' (first | with_reducible exact Below.refl _ _ | with_reducible assumption | with_reducible apply Below.setCell | with_reducible apply Below.alloc | with_reducible apply Below.drew | with_reducible apply below_drewN | with_reducible exact Nat.le_refl _ | (simp; done) | (simp; omega) | omega | exact Nat.le_refl _)))).below hb2; simpa using this)
  have hz2 : w1.heap.size + 1 + 1 < w2.heap.size := by have := hb2.size; (try simp at this); omega
  have hNs : Hid (NdSl w2 (w1.heap.size + 1) 0 fmN) := Lib.hid (by
    rcases hN2.out.2 with h | ⟨b, off, h1, h2, h3⟩
    · cases h
    · injection h1 with h1; injection h1 with h4 h5 _; subst h4; subst h5; exact h2)
  have hOs : Hid (OrSl w2 w1.heap.size 0 fmO) := Lib.hid (by
    rcases hO2.out.2 with h | ⟨b, off, h1, h2, h3⟩
    · cases h
    · injection h1 with h1; injection h1 with h4 h5 _; subst h4; subst h5; exact h2)
  have hOwn2 := Lib.hid (OwnN.below (w1 := w2) (World.ownsRow.alloc (own_lit (B := w1.heap.size + 1) (w1.alloc (.cells #[.string ⟨#[97]⟩, .int .i64 0, .int .i64 0] 48)) #[.int .i64 0, .int .i64 0, .int .i64 0, .int .i64 0, .int .i64 0, .string ⟨#[120]⟩, .string ⟨#[]⟩, .string ⟨#[]⟩, .string ⟨#[]⟩, .int .i64 0, .int .i64 1, .int .i64 0, .int .i64 0, .int .i64 0, .int .i64 4, .string ⟨#[]⟩, .string ⟨#[]⟩, .string ⟨#[]⟩, .string ⟨#[]⟩, .int .i64 0, .int .i64 8, .int .i64 0, .int .i64 1, .int .i64 0, .int .i64 5, .string ⟨#[]⟩, .string ⟨#[]⟩, .string ⟨#[]⟩, .string ⟨#[]⟩, .int .i64 0, .int .i64 3, .int .i64 2, .int .i64 0, .int .i64 0, .int .i64 0, .string ⟨#[]⟩, .string ⟨#[120]⟩, .string ⟨#[]⟩, .string ⟨#[]⟩, .int .i64 0] fmN rfl 4 rfl (by simp) (by omega)) (.cells #[.slice (some ⟨w1.heap.size, 0, none⟩) 1 1, .slice (some ⟨w1.heap.size + 1, 0, none⟩) 4 4] 25)) hb2)
  clear hb2 kM hN0 hO0 hBa
  have hset := Lib.hid (ndSl_set (ts' := ([⟨0, 0, 0, 0, 0, ⟨#[120]⟩, ⟨#[]⟩, ⟨#[]⟩, ⟨#[]⟩, 0⟩, ⟨1, 0, 0, 0, (1073741823 + d), ⟨#[]⟩, ⟨#[]⟩, ⟨#[]⟩, ⟨#[]⟩, 0⟩, ⟨8, 0, 1, 0, 5, ⟨#[]⟩, ⟨#[]⟩, ⟨#[]⟩, ⟨#[]⟩, 0⟩, ⟨3, 2, 0, 0, 0, ⟨#[]⟩, ⟨#[120]⟩, ⟨#[]⟩, ⟨#[]⟩, 0⟩] : List Nd)) hNs.out 14 (.int .i64 (1073741823 + d)) (.int .i64 4) rfl rfl)
  have fx := fn 14
  have hold : w2.cell? ⟨w1.heap.size + 1, 14, none⟩ = some (.int .i64 4) := by have := ndSl_get hNs.out 14 (.int .i64 4) rfl; rwa [Nat.zero_add] at this
  have hB2b := Lib.hid (hB2.out.setCell (p := ⟨w1.heap.size + 1, 14, none⟩) (by show _ ≤ w1.heap.size + 1; omega) (.int .i64 (1073741823 + d)))
  have hOb : Hid (OArg (w2.setCell ⟨w1.heap.size + 1, 14, none⟩ (.int .i64 (1073741823 + d))) (some ⟨w1.heap.size, 0, none⟩) 1 fmO) := Lib.hid ⟨rfl, .inr ⟨w1.heap.size, 0, rfl, hOs.out.below (B := w1.heap.size + 1) ((Below.refl _ _).setCell (p := ⟨w1.heap.size + 1, 14, none⟩) (Nat.le_refl _) _) (by omega), by simp; omega⟩⟩
  have hNb : Hid (NArg (w2.setCell ⟨w1.heap.size + 1, 14, none⟩ (.int .i64 (1073741823 + d))) (some ⟨w1.heap.size + 1, 0, none⟩) 4 ([⟨0, 0, 0, 0, 0, ⟨#[120]⟩, ⟨#[]⟩, ⟨#[]⟩, ⟨#[]⟩, 0⟩, ⟨1, 0, 0, 0, (1073741823 + d), ⟨#[]⟩, ⟨#[]⟩, ⟨#[]⟩, ⟨#[]⟩, 0⟩, ⟨8, 0, 1, 0, 5, ⟨#[]⟩, ⟨#[]⟩, ⟨#[]⟩, ⟨#[]⟩, 0⟩, ⟨3, 2, 0, 0, 0, ⟨#[]⟩, ⟨#[120]⟩, ⟨#[]⟩, ⟨#[]⟩, 0⟩] : List Nd)) := Lib.hid ⟨rfl, .inr ⟨w1.heap.size + 1, 0, rfl, hset.out, by simp; omega⟩⟩
  have hgb := Lib.hid (errTy_below hg.out hB2b.out)
  clear hset fn fo fp
  go_wp2_with fail
  refine (kB.out _ _ _ hOb hNb hgb).mono ?_
  rintro e w3 ⟨rfl, hb3⟩
  have hB3 := Lib.hid (belT hB2b.out hb3)
  clear hb3
  go_wp2_with fail
  go_ret
  exact ⟨rfl, hB3.out⟩
set_option maxRecDepth 100000 in
set_option maxHeartbeats 8000000 in
theorem form6 (a0 a1 q d : Int) (hq : 0 ≤ q ∧ q < 1024) (hd : 1 + q = d) (hk : bits .and .i64 a1 1023 = q) (he : (IntKind.u64.wrap a0).tmod 20 = 6) (w : World) (hg : Hid (errTy w)) :
    Calls Tryd.prog 5 #[.int .i64 a0, .int .i64 a1] w (FmPost w) := by
  have hdb : 1 ≤ d ∧ d ≤ 1024 := by omega
  have hd1 : 1 ≤ d := hdb.1
  have hd2 : d ≤ 1024 := hdb.2
  have hbad : mayV fmO ([⟨0, 0, 0, 0, 0, ⟨#[120]⟩, ⟨#[]⟩, ⟨#[]⟩, ⟨#[]⟩, 0⟩, ⟨1, 0, 0, 0, 4, ⟨#[]⟩, ⟨#[]⟩, ⟨#[]⟩, ⟨#[]⟩, 0⟩, ⟨8, 0, 1, 0, (5 + d), ⟨#[]⟩, ⟨#[]⟩, ⟨#[]⟩, ⟨#[]⟩, 0⟩, ⟨3, 2, 0, 0, 0, ⟨#[]⟩, ⟨#[120]⟩, ⟨#[]⟩, ⟨#[]⟩, 0⟩] : List Nd) = false := by
    refine may_node _ _ 2 (of_decide_eq_true rfl) ?_
    show okC true ⟨8, 0, 1, 0, (5 + d), ⟨#[]⟩, ⟨#[]⟩, ⟨#[]⟩, ⟨#[]⟩, 0⟩ = false
    unfold okC
    simp [plainC, numB, namedB, namesL]
    try omega
  have kB := Lib.hid fun (g g2 : Nat) (W : World) (h : Hid (OArg W (some ⟨g, 0, none⟩) 1 fmO)) (h2 : Hid (NArg W (some ⟨g2, 0, none⟩) 4 ([⟨0, 0, 0, 0, 0, ⟨#[120]⟩, ⟨#[]⟩, ⟨#[]⟩, ⟨#[]⟩, 0⟩, ⟨1, 0, 0, 0, 4, ⟨#[]⟩, ⟨#[]⟩, ⟨#[]⟩, ⟨#[]⟩, 0⟩, ⟨8, 0, 1, 0, (5 + d), ⟨#[]⟩, ⟨#[]⟩, ⟨#[]⟩, ⟨#[]⟩, 0⟩, ⟨3, 2, 0, 0, 0, ⟨#[]⟩, ⟨#[120]⟩, ⟨#[]⟩, ⟨#[]⟩, 0⟩] : List Nd))) (hg : Hid (errTy W)) => tMay_any (some ⟨g, 0, none⟩) (some ⟨g2, 0, none⟩) 1 1 4 4 fmO ([⟨0, 0, 0, 0, 0, ⟨#[120]⟩, ⟨#[]⟩, ⟨#[]⟩, ⟨#[]⟩, 0⟩, ⟨1, 0, 0, 0, 4, ⟨#[]⟩, ⟨#[]⟩, ⟨#[]⟩, ⟨#[]⟩, 0⟩, ⟨8, 0, 1, 0, (5 + d), ⟨#[]⟩, ⟨#[]⟩, ⟨#[]⟩, ⟨#[]⟩, 0⟩, ⟨3, 2, 0, 0, 0, ⟨#[]⟩, ⟨#[120]⟩, ⟨#[]⟩, ⟨#[]⟩, 0⟩] : List Nd) W h (Lib.hid fo_sz) (by omega) h2 (Lib.hid (by intro t ht; simp only [List.mem_cons, List.not_mem_nil, or_false] at ht; rcases ht with rfl | rfl | rfl | rfl <;> exact ⟨of_decide_eq_true rfl, of_decide_eq_true rfl, of_decide_eq_true rfl, of_decide_eq_true rfl⟩)) (by omega) hg
  rw [hbad] at kB
  clear hbad
  have kM := Lib.hid fun (g g2 : Nat) (W : World) (h : Hid (OArg W (some ⟨g, 0, none⟩) 1 fmO)) (h2 : Hid (NArg W (some ⟨g2, 0, none⟩) 4 fmN)) (hg : Hid (errTy W)) => tMay_any (some ⟨g, 0, none⟩) (some ⟨g2, 0, none⟩) 1 1 4 4 fmO fmN W h (Lib.hid fo_sz) (by omega) h2 (Lib.hid fm_sz) (by omega) hg
  rw [fm_may] at kM
  have h0l := hgl hg.out
  go_enter Tryd.func5, Tryd.ntmps5
  go_wp2_with fail
  refine (awake3_any _ hg).mono ?_
  rintro e w1 ⟨rfl, hb1⟩
  have hB1 := Lib.hid hb1
  have hw1s := hb1.size
  clear hb1
  go_wp2_with fail
  have hO0 := Lib.hid (oarg_alloc w1 #[.string ⟨#[97]⟩, .int .i64 0, .int .i64 0] fmO rfl 1 rfl)
  have hN0 := Lib.hid (narg_alloc (w1.alloc (.cells #[.string ⟨#[97]⟩, .int .i64 0, .int .i64 0] 48)) #[.int .i64 0, .int .i64 0, .int .i64 0, .int .i64 0, .int .i64 0, .string ⟨#[120]⟩, .string ⟨#[]⟩, .string ⟨#[]⟩, .string ⟨#[]⟩, .int .i64 0, .int .i64 1, .int .i64 0, .int .i64 0, .int .i64 0, .int .i64 4, .string ⟨#[]⟩, .string ⟨#[]⟩, .string ⟨#[]⟩, .string ⟨#[]⟩, .int .i64 0, .int .i64 8, .int .i64 0, .int .i64 1, .int .i64 0, .int .i64 5, .string ⟨#[]⟩, .string ⟨#[]⟩, .string ⟨#[]⟩, .string ⟨#[]⟩, .int .i64 0, .int .i64 3, .int .i64 2, .int .i64 0, .int .i64 0, .int .i64 0, .string ⟨#[]⟩, .string ⟨#[120]⟩, .string ⟨#[]⟩, .string ⟨#[]⟩, .int .i64 0] fmN rfl 4 rfl)
  have hBa := Lib.hid (show Below w.heap.size w ((w1.alloc (.cells #[.string ⟨#[97]⟩, .int .i64 0, .int .i64 0] 48)).alloc (.cells #[.int .i64 0, .int .i64 0, .int .i64 0, .int .i64 0, .int .i64 0, .string ⟨#[120]⟩, .string ⟨#[]⟩, .string ⟨#[]⟩, .string ⟨#[]⟩, .int .i64 0, .int .i64 1, .int .i64 0, .int .i64 0, .int .i64 0, .int .i64 4, .string ⟨#[]⟩, .string ⟨#[]⟩, .string ⟨#[]⟩, .string ⟨#[]⟩, .int .i64 0, .int .i64 8, .int .i64 0, .int .i64 1, .int .i64 0, .int .i64 5, .string ⟨#[]⟩, .string ⟨#[]⟩, .string ⟨#[]⟩, .string ⟨#[]⟩, .int .i64 0, .int .i64 3, .int .i64 2, .int .i64 0, .int .i64 0, .int .i64 0, .string ⟨#[]⟩, .string ⟨#[120]⟩, .string ⟨#[]⟩, .string ⟨#[]⟩, .int .i64 0] 45)) from by have := hB1.out; (repeat' (first | with_reducible exact Below.refl _ _ | with_reducible assumption | with_reducible apply Below.setCell | with_reducible apply Below.alloc | with_reducible apply Below.drew | with_reducible apply below_drewN | with_reducible exact Nat.le_refl _ | (simp; done) | (simp; omega) | omega | exact Nat.le_refl _)))
  refine (kM.out w1.heap.size (w1.heap.size + 1) _ (Lib.hid (hO0.out.below (by (repeat' (first | with_reducible exact Below.refl _ _ | with_reducible assumption | with_reducible apply Below.setCell | with_reducible apply Below.alloc | with_reducible apply Below.drew | with_reducible apply below_drewN | with_reducible exact Nat.le_refl _ | (simp; done) | (simp; omega) | omega | exact Nat.le_refl _))))) (Lib.hid (by have := hN0.out.below (w' := (((w1.alloc (.cells #[.string ⟨#[97]⟩, .int .i64 0, .int .i64 0] 48)).alloc (.cells #[.int .i64 0, .int .i64 0, .int .i64 0, .int .i64 0, .int .i64 0, .string ⟨#[120]⟩, .string ⟨#[]⟩, .string ⟨#[]⟩, .string ⟨#[]⟩, .int .i64 0, .int .i64 1, .int .i64 0, .int .i64 0, .int .i64 0, .int .i64 4, .string ⟨#[]⟩, .string ⟨#[]⟩, .string ⟨#[]⟩, .string ⟨#[]⟩, .int .i64 0, .int .i64 8, .int .i64 0, .int .i64 1, .int .i64 0, .int .i64 5, .string ⟨#[]⟩, .string ⟨#[]⟩, .string ⟨#[]⟩, .string ⟨#[]⟩, .int .i64 0, .int .i64 3, .int .i64 2, .int .i64 0, .int .i64 0, .int .i64 0, .string ⟨#[]⟩, .string ⟨#[120]⟩, .string ⟨#[]⟩, .string ⟨#[]⟩, .int .i64 0] 45)).alloc (.cells #[.slice (some ⟨w1.heap.size, 0, none⟩) 1 1, .slice (some ⟨w1.heap.size + 1, 0, none⟩) 4 4] 25))) (by (repeat' (first | with_reducible exact Below.refl _ _ | with_reducible assumption | with_reducible apply Below.setCell | with_reducible apply Below.alloc | with_reducible apply Below.drew | with_reducible apply below_drewN | with_reducible exact Nat.le_refl _ | (simp; done) | (simp; omega) | omega | exact Nat.le_refl _))); simpa using this)) (Lib.hid (errTy_below hg.out (by have := hBa.out; have := this.size; (repeat' (first | with_reducible exact Below.refl _ _ | with_reducible assumption | with_reducible apply Below.setCell | with_reducible apply Below.alloc | with_reducible apply Below.drew | with_reducible apply below_drewN | with_reducible exact Nat.le_refl _ | (simp; done) | (simp; omega) | omega | exact Nat.le_refl _)))))).mono ?_
  rintro e w2 ⟨rfl, hb2⟩
  have hB2 := Lib.hid (belT (show Below w.heap.size w _ from by have := hBa.out; have := this.size; (repeat' (first | with_reducible exact Below.refl _ _ | with_reducible assumption | with_reducible apply Below.setCell | with_reducible apply Below.alloc | with_reducible apply Below.drew | with_reducible apply below_drewN | with_reducible exact Nat.le_refl _ | (simp; done) | (simp; omega) | omega | exact Nat.le_refl _))) hb2)
  have p0 : w2.cell? ⟨w1.heap.size + 1 + 1, 0, none⟩ = some (.slice (some ⟨w1.heap.size, 0, none⟩) 1 1) := carry hb2 (by first | (simp; done) | (simp; omega)) (by rw [World.cell?_alloc_at _ _ _ _ (by simp)]; rfl)
  have p1 : w2.cell? ⟨w1.heap.size + 1 + 1, 1, none⟩ = some (.slice (some ⟨w1.heap.size + 1, 0, none⟩) 4 4) := carry hb2 (by first | (simp; done) | (simp; omega)) (by rw [World.cell?_alloc_at _ _ _ _ (by simp)]; rfl)
  have fp : ∀ o, w2.frozen? ⟨w1.heap.size + 1 + 1, o, none⟩ = false := fun o => by rw [hb2.frozen (p := ⟨w1.heap.size + 1 + 1, o, none⟩) (by first | (simp; done) | (simp; omega))]; simp [go_sem]
  have fn : ∀ o, w2.frozen? ⟨w1.heap.size + 1, o, none⟩ = false := fun o => by rw [hb2.frozen (p := ⟨w1.heap.size + 1, o, none⟩) (by first | (simp; done) | (simp; omega))]; simp [go_sem]
  have fo : ∀ o, w2.frozen? ⟨w1.heap.size, o, none⟩ = false := fun o => by rw [hb2.frozen (p := ⟨w1.heap.size, o, none⟩) (by first | (simp; done) | (simp; omega))]; simp [go_sem]
  have hO2 : Hid (OArg w2 (some ⟨w1.heap.size, 0, none⟩) 1 fmO) := Lib.hid ((hO0.out.below (w' := (((w1.alloc (.cells #[.string ⟨#[97]⟩, .int .i64 0, .int .i64 0] 48)).alloc (.cells #[.int .i64 0, .int .i64 0, .int .i64 0, .int .i64 0, .int .i64 0, .string ⟨#[120]⟩, .string ⟨#[]⟩, .string ⟨#[]⟩, .string ⟨#[]⟩, .int .i64 0, .int .i64 1, .int .i64 0, .int .i64 0, .int .i64 0, .int .i64 4, .string ⟨#[]⟩, .string ⟨#[]⟩, .string ⟨#[]⟩, .string ⟨#[]⟩, .int .i64 0, .int .i64 8, .int .i64 0, .int .i64 1, .int .i64 0, .int .i64 5, .string ⟨#[]⟩, .string ⟨#[]⟩, .string ⟨#[]⟩, .string ⟨#[]⟩, .int .i64 0, .int .i64 3, .int .i64 2, .int .i64 0, .int .i64 0, .int .i64 0, .string ⟨#[]⟩, .string ⟨#[120]⟩, .string ⟨#[]⟩, .string ⟨#[]⟩, .int .i64 0] 45)).alloc (.cells #[.slice (some ⟨w1.heap.size, 0, none⟩) 1 1, .slice (some ⟨w1.heap.size + 1, 0, none⟩) 4 4] 25))) (by (repeat' (first | with_reducible exact Below.refl _ _ | with_reducible assumption | with_reducible apply Below.setCell | with_reducible apply Below.alloc | with_reducible apply Below.drew | with_reducible apply below_drewN | with_reducible exact Nat.le_refl _ | (simp; done) | (simp; omega) | omega | exact Nat.le_refl _)))).below hb2)
  have hN2 : Hid (NArg w2 (some ⟨w1.heap.size + 1, 0, none⟩) 4 fmN) := Lib.hid (by have := (hN0.out.below (w' := (((w1.alloc (.cells #[.string ⟨#[97]⟩, .int .i64 0, .int .i64 0] 48)).alloc (.cells #[.int .i64 0, .int .i64 0, .int .i64 0, .int .i64 0, .int .i64 0, .string ⟨#[120]⟩, .string ⟨#[]⟩, .string ⟨#[]⟩, .string ⟨#[]⟩, .int .i64 0, .int .i64 1, .int .i64 0, .int .i64 0, .int .i64 0, .int .i64 4, .string ⟨#[]⟩, .string ⟨#[]⟩, .string ⟨#[]⟩, .string ⟨#[]⟩, .int .i64 0, .int .i64 8, .int .i64 0, .int .i64 1, .int .i64 0, .int .i64 5, .string ⟨#[]⟩, .string ⟨#[]⟩, .string ⟨#[]⟩, .string ⟨#[]⟩, .int .i64 0, .int .i64 3, .int .i64 2, .int .i64 0, .int .i64 0, .int .i64 0, .string ⟨#[]⟩, .string ⟨#[120]⟩, .string ⟨#[]⟩, .string ⟨#[]⟩, .int .i64 0] 45)).alloc (.cells #[.slice (some ⟨w1.heap.size, 0, none⟩) 1 1, .slice (some ⟨w1.heap.size + 1, 0, none⟩) 4 4] 25))) (by (repeat' (first | with_reducible exact Below.refl _ _ | with_reducible assumption | with_reducible apply Below.setCell | with_reducible apply Below.alloc | with_reducible apply Below.drew | with_reducible apply below_drewN | with_reducible exact Nat.le_refl _ | (simp; done) | (simp; omega) | omega | exact Nat.le_refl _)))).below hb2; simpa using this)
  have hz2 : w1.heap.size + 1 + 1 < w2.heap.size := by have := hb2.size; (try simp at this); omega
  have hNs : Hid (NdSl w2 (w1.heap.size + 1) 0 fmN) := Lib.hid (by
    rcases hN2.out.2 with h | ⟨b, off, h1, h2, h3⟩
    · cases h
    · injection h1 with h1; injection h1 with h4 h5 _; subst h4; subst h5; exact h2)
  have hOs : Hid (OrSl w2 w1.heap.size 0 fmO) := Lib.hid (by
    rcases hO2.out.2 with h | ⟨b, off, h1, h2, h3⟩
    · cases h
    · injection h1 with h1; injection h1 with h4 h5 _; subst h4; subst h5; exact h2)
  have hOwn2 := Lib.hid (OwnN.below (w1 := w2) (World.ownsRow.alloc (own_lit (B := w1.heap.size + 1) (w1.alloc (.cells #[.string ⟨#[97]⟩, .int .i64 0, .int .i64 0] 48)) #[.int .i64 0, .int .i64 0, .int .i64 0, .int .i64 0, .int .i64 0, .string ⟨#[120]⟩, .string ⟨#[]⟩, .string ⟨#[]⟩, .string ⟨#[]⟩, .int .i64 0, .int .i64 1, .int .i64 0, .int .i64 0, .int .i64 0, .int .i64 4, .string ⟨#[]⟩, .string ⟨#[]⟩, .string ⟨#[]⟩, .string ⟨#[]⟩, .int .i64 0, .int .i64 8, .int .i64 0, .int .i64 1, .int .i64 0, .int .i64 5, .string ⟨#[]⟩, .string ⟨#[]⟩, .string ⟨#[]⟩, .string ⟨#[]⟩, .int .i64 0, .int .i64 3, .int .i64 2, .int .i64 0, .int .i64 0, .int .i64 0, .string ⟨#[]⟩, .string ⟨#[120]⟩, .string ⟨#[]⟩, .string ⟨#[]⟩, .int .i64 0] fmN rfl 4 rfl (by simp) (by omega)) (.cells #[.slice (some ⟨w1.heap.size, 0, none⟩) 1 1, .slice (some ⟨w1.heap.size + 1, 0, none⟩) 4 4] 25)) hb2)
  clear hb2 kM hN0 hO0 hBa
  have hset := Lib.hid (ndSl_set (ts' := ([⟨0, 0, 0, 0, 0, ⟨#[120]⟩, ⟨#[]⟩, ⟨#[]⟩, ⟨#[]⟩, 0⟩, ⟨1, 0, 0, 0, 4, ⟨#[]⟩, ⟨#[]⟩, ⟨#[]⟩, ⟨#[]⟩, 0⟩, ⟨8, 0, 1, 0, (5 + d), ⟨#[]⟩, ⟨#[]⟩, ⟨#[]⟩, ⟨#[]⟩, 0⟩, ⟨3, 2, 0, 0, 0, ⟨#[]⟩, ⟨#[120]⟩, ⟨#[]⟩, ⟨#[]⟩, 0⟩] : List Nd)) hNs.out 24 (.int .i64 (5 + d)) (.int .i64 5) rfl rfl)
  have fx := fn 24
  have hold : w2.cell? ⟨w1.heap.size + 1, 24, none⟩ = some (.int .i64 5) := by have := ndSl_get hNs.out 24 (.int .i64 5) rfl; rwa [Nat.zero_add] at this
  have hB2b := Lib.hid (hB2.out.setCell (p := ⟨w1.heap.size + 1, 24, none⟩) (by show _ ≤ w1.heap.size + 1; omega) (.int .i64 (5 + d)))
  have hOb : Hid (OArg (w2.setCell ⟨w1.heap.size + 1, 24, none⟩ (.int .i64 (5 + d))) (some ⟨w1.heap.size, 0, none⟩) 1 fmO) := Lib.hid ⟨rfl, .inr ⟨w1.heap.size, 0, rfl, hOs.out.below (B := w1.heap.size + 1) ((Below.refl _ _).setCell (p := ⟨w1.heap.size + 1, 24, none⟩) (Nat.le_refl _) _) (by omega), by simp; omega⟩⟩
  have hNb : Hid (NArg (w2.setCell ⟨w1.heap.size + 1, 24, none⟩ (.int .i64 (5 + d))) (some ⟨w1.heap.size + 1, 0, none⟩) 4 ([⟨0, 0, 0, 0, 0, ⟨#[120]⟩, ⟨#[]⟩, ⟨#[]⟩, ⟨#[]⟩, 0⟩, ⟨1, 0, 0, 0, 4, ⟨#[]⟩, ⟨#[]⟩, ⟨#[]⟩, ⟨#[]⟩, 0⟩, ⟨8, 0, 1, 0, (5 + d), ⟨#[]⟩, ⟨#[]⟩, ⟨#[]⟩, ⟨#[]⟩, 0⟩, ⟨3, 2, 0, 0, 0, ⟨#[]⟩, ⟨#[120]⟩, ⟨#[]⟩, ⟨#[]⟩, 0⟩] : List Nd)) := Lib.hid ⟨rfl, .inr ⟨w1.heap.size + 1, 0, rfl, hset.out, by simp; omega⟩⟩
  have hgb := Lib.hid (errTy_below hg.out hB2b.out)
  clear hset fn fo fp
  go_wp2_with fail
  refine (kB.out _ _ _ hOb hNb hgb).mono ?_
  rintro e w3 ⟨rfl, hb3⟩
  have hB3 := Lib.hid (belT hB2b.out hb3)
  clear hb3
  go_wp2_with fail
  go_ret
  exact ⟨rfl, hB3.out⟩
set_option maxRecDepth 100000 in
set_option maxHeartbeats 8000000 in
theorem form7 (a0 a1 q d : Int) (hq : 0 ≤ q ∧ q < 1024) (hd : 1 + q = d) (hk : bits .and .i64 a1 1023 = q) (he : (IntKind.u64.wrap a0).tmod 20 = 7) (w : World) (hg : Hid (errTy w)) :
    Calls Tryd.prog 5 #[.int .i64 a0, .int .i64 a1] w (FmPost w) := by
  have hdb : 1 ≤ d ∧ d ≤ 1024 := by omega
  have hd1 : 1 ≤ d := hdb.1
  have hd2 : d ≤ 1024 := hdb.2
  have hbad : mayV fmO ([⟨0, 0, 0, 0, 0, ⟨#[120]⟩, ⟨#[]⟩, ⟨#[]⟩, ⟨#[]⟩, 0⟩, ⟨1, 0, 0, 0, 4, ⟨#[]⟩, ⟨#[]⟩, ⟨#[]⟩, ⟨#[]⟩, 0⟩, ⟨8, 1, 1, 0, 5, ⟨#[]⟩, ⟨#[]⟩, ⟨#[]⟩, ⟨#[]⟩, 0⟩, ⟨3, 2, 0, 0, 0, ⟨#[]⟩, ⟨#[120]⟩, ⟨#[]⟩, ⟨#[]⟩, 0⟩] : List Nd) = false := by refine may_tree _ _ ?_; rw [tree_c]; decide +kernel
  have kB := Lib.hid fun (g g2 : Nat) (W : World) (h : Hid (OArg W (some ⟨g, 0, none⟩) 1 fmO)) (h2 : Hid (NArg W (some ⟨g2, 0, none⟩) 4 ([⟨0, 0, 0, 0, 0, ⟨#[120]⟩, ⟨#[]⟩, ⟨#[]⟩, ⟨#[]⟩, 0⟩, ⟨1, 0, 0, 0, 4, ⟨#[]⟩, ⟨#[]⟩, ⟨#[]⟩, ⟨#[]⟩, 0⟩, ⟨8, 1, 1, 0, 5, ⟨#[]⟩, ⟨#[]⟩, ⟨#[]⟩, ⟨#[]⟩, 0⟩, ⟨3, 2, 0, 0, 0, ⟨#[]⟩, ⟨#[120]⟩, ⟨#[]⟩, ⟨#[]⟩, 0⟩] : List Nd))) (hg : Hid (errTy W)) => tMay_any (some ⟨g, 0, none⟩) (some ⟨g2, 0, none⟩) 1 1 4 4 fmO ([⟨0, 0, 0, 0, 0, ⟨#[120]⟩, ⟨#[]⟩, ⟨#[]⟩, ⟨#[]⟩, 0⟩, ⟨1, 0, 0, 0, 4, ⟨#[]⟩, ⟨#[]⟩, ⟨#[]⟩, ⟨#[]⟩, 0⟩, ⟨8, 1, 1, 0, 5, ⟨#[]⟩, ⟨#[]⟩, ⟨#[]⟩, ⟨#[]⟩, 0⟩, ⟨3, 2, 0, 0, 0, ⟨#[]⟩, ⟨#[120]⟩, ⟨#[]⟩, ⟨#[]⟩, 0⟩] : List Nd) W h (Lib.hid fo_sz) (by omega) h2 (Lib.hid (by intro t ht; simp only [List.mem_cons, List.not_mem_nil, or_false] at ht; rcases ht with rfl | rfl | rfl | rfl <;> exact ⟨of_decide_eq_true rfl, of_decide_eq_true rfl, of_decide_eq_true rfl, of_decide_eq_true rfl⟩)) (by omega) hg
  rw [hbad] at kB
  clear hbad
  have kM := Lib.hid fun (g g2 : Nat) (W : World) (h : Hid (OArg W (some ⟨g, 0, none⟩) 1 fmO)) (h2 : Hid (NArg W (some ⟨g2, 0, none⟩) 4 fmN)) (hg : Hid (errTy W)) => tMay_any (some ⟨g, 0, none⟩) (some ⟨g2, 0, none⟩) 1 1 4 4 fmO fmN W h (Lib.hid fo_sz) (by omega) h2 (Lib.hid fm_sz) (by omega) hg
  rw [fm_may] at kM
  have h0l := hgl hg.out
  go_enter Tryd.func5, Tryd.ntmps5
  go_wp2_with fail
  refine (awake3_any _ hg).mono ?_
  rintro e w1 ⟨rfl, hb1⟩
  have hB1 := Lib.hid hb1
  have hw1s := hb1.size
  clear hb1
  go_wp2_with fail
  have hO0 := Lib.hid (oarg_alloc w1 #[.string ⟨#[97]⟩, .int .i64 0, .int .i64 0] fmO rfl 1 rfl)
  have hN0 := Lib.hid (narg_alloc (w1.alloc (.cells #[.string ⟨#[97]⟩, .int .i64 0, .int .i64 0] 48)) #[.int .i64 0, .int .i64 0, .int .i64 0, .int .i64 0, .int .i64 0, .string ⟨#[120]⟩, .string ⟨#[]⟩, .string ⟨#[]⟩, .string ⟨#[]⟩, .int .i64 0, .int .i64 1, .int .i64 0, .int .i64 0, .int .i64 0, .int .i64 4, .string ⟨#[]⟩, .string ⟨#[]⟩, .string ⟨#[]⟩, .string ⟨#[]⟩, .int .i64 0, .int .i64 8, .int .i64 0, .int .i64 1, .int .i64 0, .int .i64 5, .string ⟨#[]⟩, .string ⟨#[]⟩, .string ⟨#[]⟩, .string ⟨#[]⟩, .int .i64 0, .int .i64 3, .int .i64 2, .int .i64 0, .int .i64 0, .int .i64 0, .string ⟨#[]⟩, .string ⟨#[120]⟩, .string ⟨#[]⟩, .string ⟨#[]⟩, .int .i64 0] fmN rfl 4 rfl)
  have hBa := Lib.hid (show Below w.heap.size w ((w1.alloc (.cells #[.string ⟨#[97]⟩, .int .i64 0, .int .i64 0] 48)).alloc (.cells #[.int .i64 0, .int .i64 0, .int .i64 0, .int .i64 0, .int .i64 0, .string ⟨#[120]⟩, .string ⟨#[]⟩, .string ⟨#[]⟩, .string ⟨#[]⟩, .int .i64 0, .int .i64 1, .int .i64 0, .int .i64 0, .int .i64 0, .int .i64 4, .string ⟨#[]⟩, .string ⟨#[]⟩, .string ⟨#[]⟩, .string ⟨#[]⟩, .int .i64 0, .int .i64 8, .int .i64 0, .int .i64 1, .int .i64 0, .int .i64 5, .string ⟨#[]⟩, .string ⟨#[]⟩, .string ⟨#[]⟩, .string ⟨#[]⟩, .int .i64 0, .int .i64 3, .int .i64 2, .int .i64 0, .int .i64 0, .int .i64 0, .string ⟨#[]⟩, .string ⟨#[120]⟩, .string ⟨#[]⟩, .string ⟨#[]⟩, .int .i64 0] 45)) from by have := hB1.out; (repeat' (first | with_reducible exact Below.refl _ _ | with_reducible assumption | with_reducible apply Below.setCell | with_reducible apply Below.alloc | with_reducible apply Below.drew | with_reducible apply below_drewN | with_reducible exact Nat.le_refl _ | (simp; done) | (simp; omega) | omega | exact Nat.le_refl _)))
  refine (kM.out w1.heap.size (w1.heap.size + 1) _ (Lib.hid (hO0.out.below (by (repeat' (first | with_reducible exact Below.refl _ _ | with_reducible assumption | with_reducible apply Below.setCell | with_reducible apply Below.alloc | with_reducible apply Below.drew | with_reducible apply below_drewN | with_reducible exact Nat.le_refl _ | (simp; done) | (simp; omega) | omega | exact Nat.le_refl _))))) (Lib.hid (by have := hN0.out.below (w' := (((w1.alloc (.cells #[.string ⟨#[97]⟩, .int .i64 0, .int .i64 0] 48)).alloc (.cells #[.int .i64 0, .int .i64 0, .int .i64 0, .int .i64 0, .int .i64 0, .string ⟨#[120]⟩, .string ⟨#[]⟩, .string ⟨#[]⟩, .string ⟨#[]⟩, .int .i64 0, .int .i64 1, .int .i64 0, .int .i64 0, .int .i64 0, .int .i64 4, .string ⟨#[]⟩, .string ⟨#[]⟩, .string ⟨#[]⟩, .string ⟨#[]⟩, .int .i64 0, .int .i64 8, .int .i64 0, .int .i64 1, .int .i64 0, .int .i64 5, .string ⟨#[]⟩, .string ⟨#[]⟩, .string ⟨#[]⟩, .string ⟨#[]⟩, .int .i64 0, .int .i64 3, .int .i64 2, .int .i64 0, .int .i64 0, .int .i64 0, .string ⟨#[]⟩, .string ⟨#[120]⟩, .string ⟨#[]⟩, .string ⟨#[]⟩, .int .i64 0] 45)).alloc (.cells #[.slice (some ⟨w1.heap.size, 0, none⟩) 1 1, .slice (some ⟨w1.heap.size + 1, 0, none⟩) 4 4] 25))) (by (repeat' (first | with_reducible exact Below.refl _ _ | with_reducible assumption | with_reducible apply Below.setCell | with_reducible apply Below.alloc | with_reducible apply Below.drew | with_reducible apply below_drewN | with_reducible exact Nat.le_refl _ | (simp; done) | (simp; omega) | omega | exact Nat.le_refl _))); simpa using this)) (Lib.hid (errTy_below hg.out (by have := hBa.out; have := this.size; (repeat' (first | with_reducible exact Below.refl _ _ | with_reducible assumption | with_reducible apply Below.setCell | with_reducible apply Below.alloc | with_reducible apply Below.drew | with_reducible apply below_drewN | with_reducible exact Nat.le_refl _ | (simp; done) | (simp; omega) | omega | exact Nat.le_refl _)))))).mono ?_
  rintro e w2 ⟨rfl, hb2⟩
  have hB2 := Lib.hid (belT (show Below w.heap.size w _ from by have := hBa.out; have := this.size; (repeat' (first | with_reducible exact Below.refl _ _ | with_reducible assumption | with_reducible apply Below.setCell | with_reducible apply Below.alloc | with_reducible apply Below.drew | with_reducible apply below_drewN | with_reducible exact Nat.le_refl _ | (simp; done) | (simp; omega) | omega | exact Nat.le_refl _))) hb2)
  have p0 : w2.cell? ⟨w1.heap.size + 1 + 1, 0, none⟩ = some (.slice (some ⟨w1.heap.size, 0, none⟩) 1 1) := carry hb2 (by first | (simp; done) | (simp; omega)) (by rw [World.cell?_alloc_at _ _ _ _ (by simp)]; rfl)
  have p1 : w2.cell? ⟨w1.heap.size + 1 + 1, 1, none⟩ = some (.slice (some ⟨w1.heap.size + 1, 0, none⟩) 4 4) := carry hb2 (by first | (simp; done) | (simp; omega)) (by rw [World.cell?_alloc_at _ _ _ _ (by simp)]; rfl)
  have fp : ∀ o, w2.frozen? ⟨w1.heap.size + 1 + 1, o, none⟩ = false := fun o => by rw [hb2.frozen (p := ⟨w1.heap.size + 1 + 1, o, none⟩) (by first | (simp; done) | (simp; omega))]; simp [go_sem]
  have fn : ∀ o, w2.frozen? ⟨w1.heap.size + 1, o, none⟩ = false := fun o => by rw [hb2.frozen (p := ⟨w1.heap.size + 1, o, none⟩) (by first | (simp; done) | (simp; omega))]; simp [go_sem]
  have fo : ∀ o, w2.frozen? ⟨w1.heap.size, o, none⟩ = false := fun o => by rw [hb2.frozen (p := ⟨w1.heap.size, o, none⟩) (by first | (simp; done) | (simp; omega))]; simp [go_sem]
  have hO2 : Hid (OArg w2 (some ⟨w1.heap.size, 0, none⟩) 1 fmO) := Lib.hid ((hO0.out.below (w' := (((w1.alloc (.cells #[.string ⟨#[97]⟩, .int .i64 0, .int .i64 0] 48)).alloc (.cells #[.int .i64 0, .int .i64 0, .int .i64 0, .int .i64 0, .int .i64 0, .string ⟨#[120]⟩, .string ⟨#[]⟩, .string ⟨#[]⟩, .string ⟨#[]⟩, .int .i64 0, .int .i64 1, .int .i64 0, .int .i64 0, .int .i64 0, .int .i64 4, .string ⟨#[]⟩, .string ⟨#[]⟩, .string ⟨#[]⟩, .string ⟨#[]⟩, .int .i64 0, .int .i64 8, .int .i64 0, .int .i64 1, .int .i64 0, .int .i64 5, .string ⟨#[]⟩, .string ⟨#[]⟩, .string ⟨#[]⟩, .string ⟨#[]⟩, .int .i64 0, .int .i64 3, .int .i64 2, .int .i64 0, .int .i64 0, .int .i64 0, .string ⟨#[]⟩, .string ⟨#[120]⟩, .string ⟨#[]⟩, .string ⟨#[]⟩, .int .i64 0] 45)).alloc (.cells #[.slice (some ⟨w1.heap.size, 0, none⟩) 1 1, .slice (some ⟨w1.heap.size + 1, 0, none⟩) 4 4] 25))) (by (repeat' (first | with_reducible exact Below.refl _ _ | with_reducible assumption | with_reducible apply Below.setCell | with_reducible apply Below.alloc | with_reducible apply Below.drew | with_reducible apply below_drewN | with_reducible exact Nat.le_refl _ | (simp; done) | (simp; omega) | omega | exact Nat.le_refl _)))).below hb2)
  have hN2 : Hid (NArg w2 (some ⟨w1.heap.size + 1, 0, none⟩) 4 fmN) := Lib.hid (by have := (hN0.out.below (w' := (((w1.alloc (.cells #[.string ⟨#[97]⟩, .int .i64 0, .int .i64 0] 48)).alloc (.cells #[.int .i64 0, .int .i64 0, .int .i64 0, .int .i64 0, .int .i64 0, .string ⟨#[120]⟩, .string ⟨#[]⟩, .string ⟨#[]⟩, .string ⟨#[]⟩, .int .i64 0, .int .i64 1, .int .i64 0, .int .i64 0, .int .i64 0, .int .i64 4, .string ⟨#[]⟩, .string ⟨#[]⟩, .string ⟨#[]⟩, .string ⟨#[]⟩, .int .i64 0, .int .i64 8, .int .i64 0, .int .i64 1, .int .i64 0, .int .i64 5, .string ⟨#[]⟩, .string ⟨#[]⟩, .string ⟨#[]⟩, .string ⟨#[]⟩, .int .i64 0, .int .i64 3, .int .i64 2, .int .i64 0, .int .i64 0, .int .i64 0, .string ⟨#[]⟩, .string ⟨#[120]⟩, .string ⟨#[]⟩, .string ⟨#[]⟩, .int .i64 0] 45)).alloc (.cells #[.slice (some ⟨w1.heap.size, 0, none⟩) 1 1, .slice (some ⟨w1.heap.size + 1, 0, none⟩) 4 4] 25))) (by (repeat' (first | with_reducible exact Below.refl _ _ | with_reducible assumption | with_reducible apply Below.setCell | with_reducible apply Below.alloc | with_reducible apply Below.drew | with_reducible apply below_drewN | with_reducible exact Nat.le_refl _ | (simp; done) | (simp; omega) | omega | exact Nat.le_refl _)))).below hb2; simpa using this)
  have hz2 : w1.heap.size + 1 + 1 < w2.heap.size := by have := hb2.size; (try simp at this); omega
  have hNs : Hid (NdSl w2 (w1.heap.size + 1) 0 fmN) := Lib.hid (by
    rcases hN2.out.2 with h | ⟨b, off, h1, h2, h3⟩
    · cases h
    · injection h1 with h1; injection h1 with h4 h5 _; subst h4; subst h5; exact h2)
  have hOs : Hid (OrSl w2 w1.heap.size 0 fmO) := Lib.hid (by
    rcases hO2.out.2 with h | ⟨b, off, h1, h2, h3⟩
    · cases h
    · injection h1 with h1; injection h1 with h4 h5 _; subst h4; subst h5; exact h2)
  have hOwn2 := Lib.hid (OwnN.below (w1 := w2) (World.ownsRow.alloc (own_lit (B := w1.heap.size + 1) (w1.alloc (.cells #[.string ⟨#[97]⟩, .int .i64 0, .int .i64 0] 48)) #[.int .i64 0, .int .i64 0, .int .i64 0, .int .i64 0, .int .i64 0, .string ⟨#[120]⟩, .string ⟨#[]⟩, .string ⟨#[]⟩, .string ⟨#[]⟩, .int .i64 0, .int .i64 1, .int .i64 0, .int .i64 0, .int .i64 0, .int .i64 4, .string ⟨#[]⟩, .string ⟨#[]⟩, .string ⟨#[]⟩, .string ⟨#[]⟩, .int .i64 0, .int .i64 8, .int .i64 0, .int .i64 1, .int .i64 0, .int .i64 5, .string ⟨#[]⟩, .string ⟨#[]⟩, .string ⟨#[]⟩, .string ⟨#[]⟩, .int .i64 0, .int .i64 3, .int .i64 2, .int .i64 0, .int .i64 0, .int .i64 0, .string ⟨#[]⟩, .string ⟨#[120]⟩, .string ⟨#[]⟩, .string ⟨#[]⟩, .int .i64 0] fmN rfl 4 rfl (by simp) (by omega)) (.cells #[.slice (some ⟨w1.heap.size, 0, none⟩) 1 1, .slice (some ⟨w1.heap.size + 1, 0, none⟩) 4 4] 25)) hb2)
  clear hb2 kM hN0 hO0 hBa
  have hset := Lib.hid (ndSl_set (ts' := ([⟨0, 0, 0, 0, 0, ⟨#[120]⟩, ⟨#[]⟩, ⟨#[]⟩, ⟨#[]⟩, 0⟩, ⟨1, 0, 0, 0, 4, ⟨#[]⟩, ⟨#[]⟩, ⟨#[]⟩, ⟨#[]⟩, 0⟩, ⟨8, 1, 1, 0, 5, ⟨#[]⟩, ⟨#[]⟩, ⟨#[]⟩, ⟨#[]⟩, 0⟩, ⟨3, 2, 0, 0, 0, ⟨#[]⟩, ⟨#[120]⟩, ⟨#[]⟩, ⟨#[]⟩, 0⟩] : List Nd)) hNs.out 21 (.int .i64 1) (.int .i64 0) rfl rfl)
  have fx := fn 21
  have hold : w2.cell? ⟨w1.heap.size + 1, 21, none⟩ = some (.int .i64 0) := by have := ndSl_get hNs.out 21 (.int .i64 0) rfl; rwa [Nat.zero_add] at this
  have hB2b := Lib.hid (hB2.out.setCell (p := ⟨w1.heap.size + 1, 21, none⟩) (by show _ ≤ w1.heap.size + 1; omega) (.int .i64 1))
  have hOb : Hid (OArg (w2.setCell ⟨w1.heap.size + 1, 21, none⟩ (.int .i64 1)) (some ⟨w1.heap.size, 0, none⟩) 1 fmO) := Lib.hid ⟨rfl, .inr ⟨w1.heap.size, 0, rfl, hOs.out.below (B := w1.heap.size + 1) ((Below.refl _ _).setCell (p := ⟨w1.heap.size + 1, 21, none⟩) (Nat.le_refl _) _) (by omega), by simp; omega⟩⟩
  have hNb : Hid (NArg (w2.setCell ⟨w1.heap.size + 1, 21, none⟩ (.int .i64 1)) (some ⟨w1.heap.size + 1, 0, none⟩) 4 ([⟨0, 0, 0, 0, 0, ⟨#[120]⟩, ⟨#[]⟩, ⟨#[]⟩, ⟨#[]⟩, 0⟩, ⟨1, 0, 0, 0, 4, ⟨#[]⟩, ⟨#[]⟩, ⟨#[]⟩, ⟨#[]⟩, 0⟩, ⟨8, 1, 1, 0, 5, ⟨#[]⟩, ⟨#[]⟩, ⟨#[]⟩, ⟨#[]⟩, 0⟩, ⟨3, 2, 0, 0, 0, ⟨#[]⟩, ⟨#[120]⟩, ⟨#[]⟩, ⟨#[]⟩, 0⟩] : List Nd)) := Lib.hid ⟨rfl, .inr ⟨w1.heap.size + 1, 0, rfl, hset.out, by simp; omega⟩⟩
  have hgb := Lib.hid (errTy_below hg.out hB2b.out)
  clear hset fn fo fp
  go_wp2_with fail
  refine (kB.out _ _ _ hOb hNb hgb).mono ?_
  rintro e w3 ⟨rfl, hb3⟩
  have hB3 := Lib.hid (belT hB2b.out hb3)
  clear hb3
  go_wp2_with fail
  go_ret
  exact ⟨rfl, hB3.out⟩
set_option maxRecDepth 100000 in
set_option maxHeartbeats 8000000 in
theorem form8 (a0 a1 q d : Int) (hq : 0 ≤ q ∧ q < 1024) (hd : 1 + q = d) (hk : bits .and .i64 a1 1023 = q) (he : (IntKind.u64.wrap a0).tmod 20 = 8) (w : World) (hg : Hid (errTy w)) :
    Calls Tryd.prog 5 #[.int .i64 a0, .int .i64 a1] w (FmPost w) := by
  have hdb : 1 ≤ d ∧ d ≤ 1024 := by omega
  have hd1 : 1 ≤ d := hdb.1
  have hd2 : d ≤ 1024 := hdb.2
  have hbad : mayV fmO ([⟨0, 0, 0, 0, 0, ⟨#[120]⟩, ⟨#[]⟩, ⟨#[]⟩, ⟨#[]⟩, 0⟩, ⟨1, 0, 0, 0, 4, ⟨#[]⟩, ⟨#[]⟩, ⟨#[]⟩, ⟨#[]⟩, 0⟩, ⟨8, 0, 0, 0, 5, ⟨#[]⟩, ⟨#[]⟩, ⟨#[]⟩, ⟨#[]⟩, 0⟩, ⟨3, 2, 0, 0, 0, ⟨#[]⟩, ⟨#[120]⟩, ⟨#[]⟩, ⟨#[]⟩, 0⟩] : List Nd) = false := by refine may_tree _ _ ?_; rw [tree_c]; decide +kernel
  have kB := Lib.hid fun (g g2 : Nat) (W : World) (h : Hid (OArg W (some ⟨g, 0, none⟩) 1 fmO)) (h2 : Hid (NArg W (some ⟨g2, 0, none⟩) 4 ([⟨0, 0, 0, 0, 0, ⟨#[120]⟩, ⟨#[]⟩, ⟨#[]⟩, ⟨#[]⟩, 0⟩, ⟨1, 0, 0, 0, 4, ⟨#[]⟩, ⟨#[]⟩, ⟨#[]⟩, ⟨#[]⟩, 0⟩, ⟨8, 0, 0, 0, 5, ⟨#[]⟩, ⟨#[]⟩, ⟨#[]⟩, ⟨#[]⟩, 0⟩, ⟨3, 2, 0, 0, 0, ⟨#[]⟩, ⟨#[120]⟩, ⟨#[]⟩, ⟨#[]⟩, 0⟩] : List Nd))) (hg : Hid (errTy W)) => tMay_any (some ⟨g, 0, none⟩) (some ⟨g2, 0, none⟩) 1 1 4 4 fmO ([⟨0, 0, 0, 0, 0, ⟨#[120]⟩, ⟨#[]⟩, ⟨#[]⟩, ⟨#[]⟩, 0⟩, ⟨1, 0, 0, 0, 4, ⟨#[]⟩, ⟨#[]⟩, ⟨#[]⟩, ⟨#[]⟩, 0⟩, ⟨8, 0, 0, 0, 5, ⟨#[]⟩, ⟨#[]⟩, ⟨#[]⟩, ⟨#[]⟩, 0⟩, ⟨3, 2, 0, 0, 0, ⟨#[]⟩, ⟨#[120]⟩, ⟨#[]⟩, ⟨#[]⟩, 0⟩] : List Nd) W h (Lib.hid fo_sz) (by omega) h2 (Lib.hid (by intro t ht; simp only [List.mem_cons, List.not_mem_nil, or_false] at ht; rcases ht with rfl | rfl | rfl | rfl <;> exact ⟨of_decide_eq_true rfl, of_decide_eq_true rfl, of_decide_eq_true rfl, of_decide_eq_true rfl⟩)) (by omega) hg
  rw [hbad] at kB
  clear hbad
  have kM := Lib.hid fun (g g2 : Nat) (W : World) (h : Hid (OArg W (some ⟨g, 0, none⟩) 1 fmO)) (h2 : Hid (NArg W (some ⟨g2, 0, none⟩) 4 fmN)) (hg : Hid (errTy W)) => tMay_any (some ⟨g, 0, none⟩) (some ⟨g2, 0, none⟩) 1 1 4 4 fmO fmN W h (Lib.hid fo_sz) (by omega) h2 (Lib.hid fm_sz) (by omega) hg
  rw [fm_may] at kM
  have h0l := hgl hg.out
  go_enter Tryd.func5, Tryd.ntmps5
  go_wp2_with fail
  refine (awake3_any _ hg).mono ?_
  rintro e w1 ⟨rfl, hb1⟩
  have hB1 := Lib.hid hb1
  have hw1s := hb1.size
  clear hb1
  go_wp2_with fail
  have hO0 := Lib.hid (oarg_alloc w1 #[.string ⟨#[97]⟩, .int .i64 0, .int .i64 0] fmO rfl 1 rfl)
  have hN0 := Lib.hid (narg_alloc (w1.alloc (.cells #[.string ⟨#[97]⟩, .int .i64 0, .int .i64 0] 48)) #[.int .i64 0, .int .i64 0, .int .i64 0, .int .i64 0, .int .i64 0, .string ⟨#[120]⟩, .string ⟨#[]⟩, .string ⟨#[]⟩, .string ⟨#[]⟩, .int .i64 0, .int .i64 1, .int .i64 0, .int .i64 0, .int .i64 0, .int .i64 4, .string ⟨#[]⟩, .string ⟨#[]⟩, .string ⟨#[]⟩, .string ⟨#[]⟩, .int .i64 0, .int .i64 8, .int .i64 0, .int .i64 1, .int .i64 0, .int .i64 5, .string ⟨#[]⟩, .string ⟨#[]⟩, .string ⟨#[]⟩, .string ⟨#[]⟩, .int .i64 0, .int .i64 3, .int .i64 2, .int .i64 0, .int .i64 0, .int .i64 0, .string ⟨#[]⟩, .string ⟨#[120]⟩, .string ⟨#[]⟩, .string ⟨#[]⟩, .int .i64 0] fmN rfl 4 rfl)
  have hBa := Lib.hid (show Below w.heap.size w ((w1.alloc (.cells #[.string ⟨#[97]⟩, .int .i64 0, .int .i64 0] 48)).alloc (.cells #[.int .i64 0, .int .i64 0, .int .i64 0, .int .i64 0, .int .i64 0, .string ⟨#[120]⟩, .string ⟨#[]⟩, .string ⟨#[]⟩, .string ⟨#[]⟩, .int .i64 0, .int .i64 1, .int .i64 0, .int .i64 0, .int .i64 0, .int .i64 4, .string ⟨#[]⟩, .string ⟨#[]⟩, .string ⟨#[]⟩, .string ⟨#[]⟩, .int .i64 0, .int .i64 8, .int .i64 0, .int .i64 1, .int .i64 0, .int .i64 5, .string ⟨#[]⟩, .string ⟨#[]⟩, .string ⟨#[]⟩, .string ⟨#[]⟩, .int .i64 0, .int .i64 3, .int .i64 2, .int .i64 0, .int .i64 0, .int .i64 0, .string ⟨#[]⟩, .string ⟨#[120]⟩, .string ⟨#[]⟩, .string ⟨#[]⟩, .int .i64 0] 45)) from by have := hB1.out; (repeat' (first | with_reducible exact Below.refl _ _ | with_reducible assumption | with_reducible apply Below.setCell | with_reducible apply Below.alloc | with_reducible apply Below.drew | with_reducible apply below_drewN | with_reducible exact Nat.le_refl _ | (simp; done) | (simp; omega) | omega | exact Nat.le_refl _)))
  refine (kM.out w1.heap.size (w1.heap.size + 1) _ (Lib.hid (hO0.out.below (by (repeat' (first | with_reducible exact Below.refl _ _ | with_reducible assumption | with_reducible apply Below.setCell | with_reducible apply Below.alloc | with_reducible apply Below.drew | with_reducible apply below_drewN | with_reducible exact Nat.le_refl _ | (simp; done) | (simp; omega) | omega | exact Nat.le_refl _))))) (Lib.hid (by have := hN0.out.below (w' := (((w1.alloc (.cells #[.string ⟨#[97]⟩, .int .i64 0, .int .i64 0] 48)).alloc (.cells #[.int .i64 0, .int .i64 0, .int .i64 0, .int .i64 0, .int .i64 0, .string ⟨#[120]⟩, .string ⟨#[]⟩, .string ⟨#[]⟩, .string ⟨#[]⟩, .int .i64 0, .int .i64 1, .int .i64 0, .int .i64 0, .int .i64 0, .int .i64 4, .string ⟨#[]⟩, .string ⟨#[]⟩, .string ⟨#[]⟩, .string ⟨#[]⟩, .int .i64 0, .int .i64 8, .int .i64 0, .int .i64 1, .int .i64 0, .int .i64 5, .string ⟨#[]⟩, .string ⟨#[]⟩, .string ⟨#[]⟩, .string ⟨#[]⟩, .int .i64 0, .int .i64 3, .int .i64 2, .int .i64 0, .int .i64 0, .int .i64 0, .string ⟨#[]⟩, .string ⟨#[120]⟩, .string ⟨#[]⟩, .string ⟨#[]⟩, .int .i64 0] 45)).alloc (.cells #[.slice (some ⟨w1.heap.size, 0, none⟩) 1 1, .slice (some ⟨w1.heap.size + 1, 0, none⟩) 4 4] 25))) (by (repeat' (first | with_reducible exact Below.refl _ _ | with_reducible assumption | with_reducible apply Below.setCell | with_reducible apply Below.alloc | with_reducible apply Below.drew | with_reducible apply below_drewN | with_reducible exact Nat.le_refl _ | (simp; done) | (simp; omega) | omega | exact Nat.le_refl _))); simpa using this)) (Lib.hid (errTy_below hg.out (by have := hBa.out; have := this.size; (repeat' (first | with_reducible exact Below.refl _ _ | with_reducible assumption | with_reducible apply Below.setCell | with_reducible apply Below.alloc | with_reducible apply Below.drew | with_reducible apply below_drewN | with_reducible exact Nat.le_refl _ | (simp; done) | (simp; omega) | omega | exact Nat.le_refl _)))))).mono ?_
  rintro e w2 ⟨rfl, hb2⟩
  have hB2 := Lib.hid (belT (show Below w.heap.size w _ from by have := hBa.out; have := this.size; (repeat' (first | with_reducible exact Below.refl _ _ | with_reducible assumption | with_reducible apply Below.setCell | with_reducible apply Below.alloc | with_reducible apply Below.drew | with_reducible apply below_drewN | with_reducible exact Nat.le_refl _ | (simp; done) | (simp; omega) | omega | exact Nat.le_refl _))) hb2)
  have p0 : w2.cell? ⟨w1.heap.size + 1 + 1, 0, none⟩ = some (.slice (some ⟨w1.heap.size, 0, none⟩) 1 1) := carry hb2 (by first | (simp; done) | (simp; omega)) (by rw [World.cell?_alloc_at _ _ _ _ (by simp)]; rfl)
  have p1 : w2.cell? ⟨w1.heap.size + 1 + 1, 1, none⟩ = some (.slice (some ⟨w1.heap.size + 1, 0, none⟩) 4 4) := carry hb2 (by first | (simp; done) | (simp; omega)) (by rw [World.cell?_alloc_at _ _ _ _ (by simp)]; rfl)
  have fp : ∀ o, w2.frozen? ⟨w1.heap.size + 1 + 1, o, none⟩ = false := fun o => by rw [hb2.frozen (p := ⟨w1.heap.size + 1 + 1, o, none⟩) (by first | (simp; done) | (simp; omega))]; simp [go_sem]
  have fn : ∀ o, w2.frozen? ⟨w1.heap.size + 1, o, none⟩ = false := fun o => by rw [hb2.frozen (p := ⟨w1.heap.size + 1, o, none⟩) (by first | (simp; done) | (simp; omega))]; simp [go_sem]
  have fo : ∀ o, w2.frozen? ⟨w1.heap.size, o, none⟩ = false := fun o => by rw [hb2.frozen (p := ⟨w1.heap.size, o, none⟩) (by first | (simp; done) | (simp; omega))]; simp [go_sem]
  have hO2 : Hid (OArg w2 (some ⟨w1.heap.size, 0, none⟩) 1 fmO) := Lib.hid ((hO0.out.below (w' := (((w1.alloc (.cells #[.string ⟨#[97]⟩, .int .i64 0, .int .i64 0] 48)).alloc (.cells #[.int .i64 0, .int .i64 0, .int .i64 0, .int .i64 0, .int .i64 0, .string ⟨#[120]⟩, .string ⟨#[]⟩, .string ⟨#[]⟩, .string ⟨#[]⟩, .int .i64 0, .int .i64 1, .int .i64 0, .int .i64 0, .int .i64 0, .int .i64 4, .string ⟨#[]⟩, .string ⟨#[]⟩, .string ⟨#[]⟩, .string ⟨#[]⟩, .int .i64 0, .int .i64 8, .int .i64 0, .int .i64 1, .int .i64 0, .int .i64 5, .string ⟨#[]⟩, .string ⟨#[]⟩, .string ⟨#[]⟩, .string ⟨#[]⟩, .int .i64 0, .int .i64 3, .int .i64 2, .int .i64 0, .int .i64 0, .int .i64 0, .string ⟨#[]⟩, .string ⟨#[120]⟩, .string ⟨#[]⟩, .string ⟨#[]⟩, .int .i64 0] 45)).alloc (.cells #[.slice (some ⟨w1.heap.size, 0, none⟩) 1 1, .slice (some ⟨w1.heap.size + 1, 0, none⟩) 4 4] 25))) (by (repeat' (first | with_reducible exact Below.refl _ _ | with_reducible assumption | with_reducible apply Below.setCell | with_reducible apply Below.alloc | with_reducible apply Below.drew | with_reducible apply below_drewN | with_reducible exact Nat.le_refl _ | (simp; done) | (simp; omega) | omega | exact Nat.le_refl _)))).below hb2)
  have hN2 : Hid (NArg w2 (some ⟨w1.heap.size + 1, 0, none⟩) 4 fmN) := Lib.hid (by have := (hN0.out.below (w' := (((w1.alloc (.cells #[.string ⟨#[97]⟩, .int .i64 0, .int .i64 0] 48)).alloc (.cells #[.int .i64 0, .int .i64 0, .int .i64 0, .int .i64 0, .int .i64 0, .string ⟨#[120]⟩, .string ⟨#[]⟩, .string ⟨#[]⟩, .string ⟨#[]⟩, .int .i64 0, .int .i64 1, .int .i64 0, .int .i64 0, .int .i64 0, .int .i64 4, .string ⟨#[]⟩, .string ⟨#[]⟩, .string ⟨#[]⟩, .string ⟨#[]⟩, .int .i64 0, .int .i64 8, .int .i64 0, .int .i64 1, .int .i64 0, .int .i64 5, .string ⟨#[]⟩, .string ⟨#[]⟩, .string ⟨#[]⟩, .string ⟨#[]⟩, .int .i64 0, .int .i64 3, .int .i64 2, .int .i64 0, .int .i64 0, .int .i64 0, .string ⟨#[]⟩, .string ⟨#[120]⟩, .string ⟨#[]⟩, .string ⟨#[]⟩, .int .i64 0] 45)).alloc (.cells #[.slice (some ⟨w1.heap.size, 0, none⟩) 1 1, .slice (some ⟨w1.heap.size + 1, 0, none⟩) 4 4] 25))) (by (repeat' (first | with_reducible exact Below.refl _ _ | with_reducible assumption | with_reducible apply Below.setCell | with_reducible apply Below.alloc | with_reducible apply Below.drew | with_reducible apply below_drewN | with_reducible exact Nat.le_refl _ | (simp; done) | (simp; omega) | omega | exact Nat.le_refl _)))).below hb2; simpa using this)
  have hz2 : w1.heap.size + 1 + 1 < w2.heap.size := by have := hb2.size; (try simp at this); omega
  have hNs : Hid (NdSl w2 (w1.heap.size + 1) 0 fmN) := Lib.hid (by
    rcases hN2.out.2 with h | ⟨b, off, h1, h2, h3⟩
    · cases h
    · injection h1 with h1; injection h1 with h4 h5 _; subst h4; subst h5; exact h2)
  have hOs : Hid (OrSl w2 w1.heap.size 0 fmO) := Lib.hid (by
    rcases hO2.out.2 with h | ⟨b, off, h1, h2, h3⟩
    · cases h
    · injection h1 with h1; injection h1 with h4 h5 _; subst h4; subst h5; exact h2)
  have hOwn2 := Lib.hid (OwnN.below (w1 := w2) (World.ownsRow.alloc (own_lit (B := w1.heap.size + 1) (w1.alloc (.cells #[.string ⟨#[97]⟩, .int .i64 0, .int .i64 0] 48)) #[.int .i64 0, .int .i64 0, .int .i64 0, .int .i64 0, .int .i64 0, .string ⟨#[120]⟩, .string ⟨#[]⟩, .string ⟨#[]⟩, .string ⟨#[]⟩, .int .i64 0, .int .i64 1, .int .i64 0, .int .i64 0, .int .i64 0, .int .i64 4, .string ⟨#[]⟩, .string ⟨#[]⟩, .string ⟨#[]⟩, .string ⟨#[]⟩, .int .i64 0, .int .i64 8, .int .i64 0, .int .i64 1, .int .i64 0, .int .i64 5, .string ⟨#[]⟩, .string ⟨#[]⟩, .string ⟨#[]⟩, .string ⟨#[]⟩, .int .i64 0, .int .i64 3, .int .i64 2, .int .i64 0, .int .i64 0, .int .i64 0, .string ⟨#[]⟩, .string ⟨#[120]⟩, .string ⟨#[]⟩, .string ⟨#[]⟩, .int .i64 0] fmN rfl 4 rfl (by simp) (by omega)) (.cells #[.slice (some ⟨w1.heap.size, 0, none⟩) 1 1, .slice (some ⟨w1.heap.size + 1, 0, none⟩) 4 4] 25)) hb2)
  clear hb2 kM hN0 hO0 hBa
  have hset := Lib.hid (ndSl_set (ts' := ([⟨0, 0, 0, 0, 0, ⟨#[120]⟩, ⟨#[]⟩, ⟨#[]⟩, ⟨#[]⟩, 0⟩, ⟨1, 0, 0, 0, 4, ⟨#[]⟩, ⟨#[]⟩, ⟨#[]⟩, ⟨#[]⟩, 0⟩, ⟨8, 0, 0, 0, 5, ⟨#[]⟩, ⟨#[]⟩, ⟨#[]⟩, ⟨#[]⟩, 0⟩, ⟨3, 2, 0, 0, 0, ⟨#[]⟩, ⟨#[120]⟩, ⟨#[]⟩, ⟨#[]⟩, 0⟩] : List Nd)) hNs.out 22 (.int .i64 0) (.int .i64 1) rfl rfl)
  have fx := fn 22
  have hold : w2.cell? ⟨w1.heap.size + 1, 22, none⟩ = some (.int .i64 1) := by have := ndSl_get hNs.out 22 (.int .i64 1) rfl; rwa [Nat.zero_add] at this
  have hB2b := Lib.hid (hB2.out.setCell (p := ⟨w1.heap.size + 1, 22, none⟩) (by show _ ≤ w1.heap.size + 1; omega) (.int .i64 0))
  have hOb : Hid (OArg (w2.setCell ⟨w1.heap.size + 1, 22, none⟩ (.int .i64 0)) (some ⟨w1.heap.size, 0, none⟩) 1 fmO) := Lib.hid ⟨rfl, .inr ⟨w1.heap.size, 0, rfl, hOs.out.below (B := w1.heap.size + 1) ((Below.refl _ _).setCell (p := ⟨w1.heap.size + 1, 22, none⟩) (Nat.le_refl _) _) (by omega), by simp; omega⟩⟩
  have hNb : Hid (NArg (w2.setCell ⟨w1.heap.size + 1, 22, none⟩ (.int .i64 0)) (some ⟨w1.heap.size + 1, 0, none⟩) 4 ([⟨0, 0, 0, 0, 0, ⟨#[120]⟩, ⟨#[]⟩, ⟨#[]⟩, ⟨#[]⟩, 0⟩, ⟨1, 0, 0, 0, 4, ⟨#[]⟩, ⟨#[]⟩, ⟨#[]⟩, ⟨#[]⟩, 0⟩, ⟨8, 0, 0, 0, 5, ⟨#[]⟩, ⟨#[]⟩, ⟨#[]⟩, ⟨#[]⟩, 0⟩, ⟨3, 2, 0, 0, 0, ⟨#[]⟩, ⟨#[120]⟩, ⟨#[]⟩, ⟨#[]⟩, 0⟩] : List Nd)) := Lib.hid ⟨rfl, .inr ⟨w1.heap.size + 1, 0, rfl, hset.out, by simp; omega⟩⟩
  have hgb := Lib.hid (errTy_below hg.out hB2b.out)
  clear hset fn fo fp
  go_wp2_with fail
  refine (kB.out _ _ _ hOb hNb hgb).mono ?_
  rintro e w3 ⟨rfl, hb3⟩
  have hB3 := Lib.hid (belT hB2b.out hb3)
  clear hb3
  go_wp2_with fail
  go_ret
  exact ⟨rfl, hB3.out⟩
set_option maxRecDepth 100000 in
set_option maxHeartbeats 8000000 in
theorem form9 (a0 a1 q d : Int) (hq : 0 ≤ q ∧ q < 1024) (hd : 1 + q = d) (hk : bits .and .i64 a1 1023 = q) (he : (IntKind.u64.wrap a0).tmod 20 = 9) (w : World) (hg : Hid (errTy w)) :
    Calls Tryd.prog 5 #[.int .i64 a0, .int .i64 a1] w (FmPost w) := by
  have hdb : 1 ≤ d ∧ d ≤ 1024 := by omega
  have hd1 : 1 ≤ d := hdb.1
  have hd2 : d ≤ 1024 := hdb.2
  have hbad : mayV fmO ([⟨0, 0, 0, 0, 0, ⟨#[120]⟩, ⟨#[]⟩, ⟨#[]⟩, ⟨#[]⟩, 0⟩, ⟨1, 0, 0, 0, 4, ⟨#[]⟩, ⟨#[]⟩, ⟨#[]⟩, ⟨#[]⟩, 0⟩, ⟨8, 0, 1, d, 5, ⟨#[]⟩, ⟨#[]⟩, ⟨#[]⟩, ⟨#[]⟩, 0⟩, ⟨3, 2, 0, 0, 0, ⟨#[]⟩, ⟨#[120]⟩, ⟨#[]⟩, ⟨#[]⟩, 0⟩] : List Nd) = false := by
    refine may_node _ _ 2 (of_decide_eq_true rfl) ?_
    show okC true ⟨8, 0, 1, d, 5, ⟨#[]⟩, ⟨#[]⟩, ⟨#[]⟩, ⟨#[]⟩, 0⟩ = false
    unfold okC
    simp [plainC, numB, namedB, namesL]
    try omega
  have kB := Lib.hid fun (g g2 : Nat) (W : World) (h : Hid (OArg W (some ⟨g, 0, none⟩) 1 fmO)) (h2 : Hid (NArg W (some ⟨g2, 0, none⟩) 4 ([⟨0, 0, 0, 0, 0, ⟨#[120]⟩, ⟨#[]⟩, ⟨#[]⟩, ⟨#[]⟩, 0⟩, ⟨1, 0, 0, 0, 4, ⟨#[]⟩, ⟨#[]⟩, ⟨#[]⟩, ⟨#[]⟩, 0⟩, ⟨8, 0, 1, d, 5, ⟨#[]⟩, ⟨#[]⟩, ⟨#[]⟩, ⟨#[]⟩, 0⟩, ⟨3, 2, 0, 0, 0, ⟨#[]⟩, ⟨#[120]⟩, ⟨#[]⟩, ⟨#[]⟩, 0⟩] : List Nd))) (hg : Hid (errTy W)) => tMay_any (some ⟨g, 0, none⟩) (some ⟨g2, 0, none⟩) 1 1 4 4 fmO ([⟨0, 0, 0, 0, 0, ⟨#[120]⟩, ⟨#[]⟩, ⟨#[]⟩, ⟨#[]⟩, 0⟩, ⟨1, 0, 0, 0, 4, ⟨#[]⟩, ⟨#[]⟩, ⟨#[]⟩, ⟨#[]⟩, 0⟩, ⟨8, 0, 1, d, 5, ⟨#[]⟩, ⟨#[]⟩, ⟨#[]⟩, ⟨#[]⟩, 0⟩, ⟨3, 2, 0, 0, 0, ⟨#[]⟩, ⟨#[120]⟩, ⟨#[]⟩, ⟨#[]⟩, 0⟩] : List Nd) W h (Lib.hid fo_sz) (by omega) h2 (Lib.hid (by intro t ht; simp only [List.mem_cons, List.not_mem_nil, or_false] at ht; rcases ht with rfl | rfl | rfl | rfl <;> exact ⟨of_decide_eq_true rfl, of_decide_eq_true rfl, of_decide_eq_true rfl, of_decide_eq_true rfl⟩)) (by omega) hg
  rw [hbad] at kB
  clear hbad
  have kM := Lib.hid fun (g g2 : Nat) (W : World) (h : Hid (OArg W (some ⟨g, 0, none⟩) 1 fmO)) (h2 : Hid (NArg W (some ⟨g2, 0, none⟩) 4 fmN)) (hg : Hid (errTy W)) => tMay_any (some ⟨g, 0, none⟩) (some ⟨g2, 0, none⟩) 1 1 4 4 fmO fmN W h (Lib.hid fo_sz) (by omega) h2 (Lib.hid fm_sz) (by omega) hg
  rw [fm_may] at kM
  have h0l := hgl hg.out
  go_enter Tryd.func5, Tryd.ntmps5
  go_wp2_with fail
  refine (awake3_any _ hg).mono ?_
  rintro e w1 ⟨rfl, hb1⟩
  have hB1 := Lib.hid hb1
  have hw1s := hb1.size
  clear hb1
  go_wp2_with fail
  have hO0 := Lib.hid (oarg_alloc w1 #[.string ⟨#[97]⟩, .int .i64 0, .int .i64 0] fmO rfl 1 rfl)
  have hN0 := Lib.hid (narg_alloc (w1.alloc (.cells #[.string ⟨#[97]⟩, .int .i64 0, .int .i64 0] 48)) #[.int .i64 0, .int .i64 0, .int .i64 0, .int .i64 0, .int .i64 0, .string ⟨#[120]⟩, .string ⟨#[]⟩, .string ⟨#[]⟩, .string ⟨#[]⟩, .int .i64 0, .int .i64 1, .int .i64 0, .int .i64 0, .int .i64 0, .int .i64 4, .string ⟨#[]⟩, .string ⟨#[]⟩, .string ⟨#[]⟩, .string ⟨#[]⟩, .int .i64 0, .int .i64 8, .int .i64 0, .int .i64 1, .int .i64 0, .int .i64 5, .string ⟨#[]⟩, .string ⟨#[]⟩, .string ⟨#[]⟩, .string ⟨#[]⟩, .int .i64 0, .int .i64 3, .int .i64 2, .int .i64 0, .int .i64 0, .int .i64 0, .string ⟨#[]⟩, .string ⟨#[120]⟩, .string ⟨#[]⟩, .string ⟨#[]⟩, .int .i64 0] fmN rfl 4 rfl)
  have hBa := Lib.hid (show Below w.heap.size w ((w1.alloc (.cells #[.string ⟨#[97]⟩, .int .i64 0, .int .i64 0] 48)).alloc (.cells #[.int .i64 0, .int .i64 0, .int .i64 0, .int .i64 0, .int .i64 0, .string ⟨#[120]⟩, .string ⟨#[]⟩, .string ⟨#[]⟩, .string ⟨#[]⟩, .int .i64 0, .int .i64 1, .int .i64 0, .int .i64 0, .int .i64 0, .int .i64 4, .string ⟨#[]⟩, .string ⟨#[]⟩, .string ⟨#[]⟩, .string ⟨#[]⟩, .int .i64 0, .int .i64 8, .int .i64 0, .int .i64 1, .int .i64 0, .int .i64 5, .string ⟨#[]⟩, .string ⟨#[]⟩, .string ⟨#[]⟩, .string ⟨#[]⟩, .int .i64 0, .int .i64 3, .int .i64 2, .int .i64 0, .int .i64 0, .int .i64 0, .string ⟨#[]⟩, .string ⟨#[120]⟩, .string ⟨#[]⟩, .string ⟨#[]⟩, .int .i64 0] 45)) from by have := hB1.out; (repeat' (first | with_reducible exact Below.refl _ _ | with_reducible assumption | with_reducible apply Below.setCell | with_reducible apply Below.alloc | with_reducible apply Below.drew | with_reducible apply below_drewN | with_reducible exact Nat.le_refl _ | (simp; done) | (simp; omega) | omega | exact Nat.le_refl _)))
  refine (kM.out w1.heap.size (w1.heap.size + 1) _ (Lib.hid (hO0.out.below (by (repeat' (first | with_reducible exact Below.refl _ _ | with_reducible assumption | with_reducible apply Below.setCell | with_reducible apply Below.alloc | with_reducible apply Below.drew | with_reducible apply below_drewN | with_reducible exact Nat.le_refl _ | (simp; done) | (simp; omega) | omega | exact Nat.le_refl _))))) (Lib.hid (by have := hN0.out.below (w' := (((w1.alloc (.cells #[.string ⟨#[97]⟩, .int .i64 0, .int .i64 0] 48)).alloc (.cells #[.int .i64 0, .int .i64 0, .int .i64 0, .int .i64 0, .int .i64 0, .string ⟨#[120]⟩, .string ⟨#[]⟩, .string ⟨#[]⟩, .string ⟨#[]⟩, .int .i64 0, .int .i64 1, .int .i64 0, .int .i64 0, .int .i64 0, .int .i64 4, .string ⟨#[]⟩, .string ⟨#[]⟩, .string ⟨#[]⟩, .string ⟨#[]⟩, .int .i64 0, .int .i64 8, .int .i64 0, .int .i64 1, .int .i64 0, .int .i64 5, .string ⟨#[]⟩, .string ⟨#[]⟩, .string ⟨#[]⟩, .string ⟨#[]⟩, .int .i64 0, .int .i64 3, .int .i64 2, .int .i64 0, .int .i64 0, .int .i64 0, .string ⟨#[]⟩, .string ⟨#[120]⟩, .string ⟨#[]⟩, .string ⟨#[]⟩, .int .i64 0] 45)).alloc (.cells #[.slice (some ⟨w1.heap.size, 0, none⟩) 1 1, .slice (some ⟨w1.heap.size + 1, 0, none⟩) 4 4] 25))) (by (repeat' (first | with_reducible exact Below.refl _ _ | with_reducible assumption | with_reducible apply Below.setCell | with_reducible apply Below.alloc | with_reducible apply Below.drew | with_reducible apply below_drewN | with_reducible exact Nat.le_refl _ | (simp; done) | (simp; omega) | omega | exact Nat.le_refl _))); simpa using this)) (Lib.hid (errTy_below hg.out (by have := hBa.out; have := this.size; (repeat' (first | with_reducible exact Below.refl _ _ | with_reducible assumption | with_reducible apply Below.setCell | with_reducible apply Below.alloc | with_reducible apply Below.drew | with_reducible apply below_drewN | with_reducible exact Nat.le_refl _ | (simp; done) | (simp; omega) | omega | exact Nat.le_refl _)))))).mono ?_
  rintro e w2 ⟨rfl, hb2⟩
  have hB2 := Lib.hid (belT (show Below w.heap.size w _ from by have := hBa.out; have := this.size; (repeat' (first | with_reducible exact Below.refl _ _ | with_reducible assumption | with_reducible apply Below.setCell | with_reducible apply Below.alloc | with_reducible apply Below.drew | with_reducible apply below_drewN | with_reducible exact Nat.le_refl _ | (simp; done) | (simp; omega) | omega | exact Nat.le_refl _))) hb2)
  have p0 : w2.cell? ⟨w1.heap.size + 1 + 1, 0, none⟩ = some (.slice (some ⟨w1.heap.size, 0, none⟩) 1 1) := carry hb2 (by first | (simp; done) | (simp; omega)) (by rw [World.cell?_alloc_at _ _ _ _ (by simp)]; rfl)
  have p1 : w2.cell? ⟨w1.heap.size + 1 + 1, 1, none⟩ = some (.slice (some ⟨w1.heap.size + 1, 0, none⟩) 4 4) := carry hb2 (by first | (simp; done) | (simp; omega)) (by rw [World.cell?_alloc_at _ _ _ _ (by simp)]; rfl)
  have fp : ∀ o, w2.frozen? ⟨w1.heap.size + 1 + 1, o, none⟩ = false := fun o => by rw [hb2.frozen (p := ⟨w1.heap.size + 1 + 1, o, none⟩) (by first | (simp; done) | (simp; omega))]; simp [go_sem]
  have fn : ∀ o, w2.frozen? ⟨w1.heap.size + 1, o, none⟩ = false := fun o => by rw [hb2.frozen (p := ⟨w1.heap.size + 1, o, none⟩) (by first | (simp; done) | (simp; omega))]; simp [go_sem]
  have fo : ∀ o, w2.frozen? ⟨w1.heap.size, o, none⟩ = false := fun o => by rw [hb2.frozen (p := ⟨w1.heap.size, o, none⟩) (by first | (simp; done) | (simp; omega))]; simp [go_sem]
  have hO2 : Hid (OArg w2 (some ⟨w1.heap.size, 0, none⟩) 1 fmO) := Lib.hid ((hO0.out.below (w' := (((w1.alloc (.cells #[.string ⟨#[97]⟩, .int .i64 0, .int .i64 0] 48)).alloc (.cells #[.int .i64 0, .int .i64 0, .int .i64 0, .int .i64 0, .int .i64 0, .string ⟨#[120]⟩, .string ⟨#[]⟩, .string ⟨#[]⟩, .string ⟨#[]⟩, .int .i64 0, .int .i64 1, .int .i64 0, .int .i64 0, .int .i64 0, .int .i64 4, .string ⟨#[]⟩, .string ⟨#[]⟩, .string ⟨#[]⟩, .string ⟨#[]⟩, .int .i64 0, .int .i64 8, .int .i64 0, .int .i64 1, .int .i64 0, .int .i64 5, .string ⟨#[]⟩, .string ⟨#[]⟩, .string ⟨#[]⟩, .string ⟨#[]⟩, .int .i64 0, .int .i64 3, .int .i64 2, .int .i64 0, .int .i64 0, .int .i64 0, .string ⟨#[]⟩, .string ⟨#[120]⟩, .string ⟨#[]⟩, .string ⟨#[]⟩, .int .i64 0] 45)).alloc (.cells #[.slice (some ⟨w1.heap.size, 0, none⟩) 1 1, .slice (some ⟨w1.heap.size + 1, 0, none⟩) 4 4] 25))) (by (repeat' (first | with_reducible exact Below.refl _ _ | with_reducible assumption | with_reducible apply Below.setCell | with_reducible apply Below.alloc | with_reducible apply Below.drew | with_reducible apply below_drewN | with_reducible exact Nat.le_refl _ | (simp; done) | (simp; omega) | omega | exact Nat.le_refl _)))).below hb2)
  have hN2 : Hid (NArg w2 (some ⟨w1.heap.size + 1, 0, none⟩) 4 fmN) := Lib.hid (by have := (hN0.out.below (w' := (((w1.alloc (.cells #[.string ⟨#[97]⟩, .int .i64 0, .int .i64 0] 48)).alloc (.cells #[.int .i64 0, .int .i64 0, .int .i64 0, .int .i64 0, .int .i64 0, .string ⟨#[120]⟩, .string ⟨#[]⟩, .string ⟨#[]⟩, .string ⟨#[]⟩, .int .i64 0, .int .i64 1, .int .i64 0, .int .i64 0, .int .i64 0, .int .i64 4, .string ⟨#[]⟩, .string ⟨#[]⟩, .string ⟨#[]⟩, .string ⟨#[]⟩, .int .i64 0, .int .i64 8, .int .i64 0, .int .i64 1, .int .i64 0, .int .i64 5, .string ⟨#[]⟩, .string ⟨#[]⟩, .string ⟨#[]⟩, .string ⟨#[]⟩, .int .i64 0, .int .i64 3, .int .i64 2, .int .i64 0, .int .i64 0, .int .i64 0, .string ⟨#[]⟩, .string ⟨#[120]⟩, .string ⟨#[]⟩, .string ⟨#[]⟩, .int .i64 0] 45)).alloc (.cells #[.slice (some ⟨w1.heap.size, 0, none⟩) 1 1, .slice (some ⟨w1.heap.size + 1, 0, none⟩) 4 4] 25))) (by (repeat' (first | with_reducible exact Below.refl _ _ | with_reducible assumption | with_reducible apply Below.setCell | with_reducible apply Below.alloc | with_reducible apply Below.drew | with_reducible apply below_drewN | with_reducible exact Nat.le_refl _ | (simp; done) | (simp; omega) | omega | exact Nat.le_refl _)))).below hb2; simpa using this)
  have hz2 : w1.heap.size + 1 + 1 < w2.heap.size := by have := hb2.size; (try simp at this); omega
  have hNs : Hid (NdSl w2 (w1.heap.size + 1) 0 fmN) := Lib.hid (by
    rcases hN2.out.2 with h | ⟨b, off, h1, h2, h3⟩
    · cases h
    · injection h1 with h1; injection h1 with h4 h5 _; subst h4; subst h5; exact h2)
  have hOs : Hid (OrSl w2 w1.heap.size 0 fmO) := Lib.hid (by
    rcases hO2.out.2 with h | ⟨b, off, h1, h2, h3⟩
    · cases h
    · injection h1 with h1; injection h1 with h4 h5 _; subst h4; subst h5; exact h2)
  have hOwn2 := Lib.hid (OwnN.below (w1 := w2) (World.ownsRow.alloc (own_lit (B := w1.heap.size + 1) (w1.alloc (.cells #[.string ⟨#[97]⟩, .int .i64 0, .int .i64 0] 48)) #[.int .i64 0, .int .i64 0, .int .i64 0, .int .i64 0, .int .i64 0, .string ⟨#[120]⟩, .string ⟨#[]⟩, .string ⟨#[]⟩, .string ⟨#[]⟩, .int .i64 0, .int .i64 1, .int .i64 0, .int .i64 0, .int .i64 0, .int .i64 4, .string ⟨#[]⟩, .string ⟨#[]⟩, .string ⟨#[]⟩, .string ⟨#[]⟩, .int .i64 0, .int .i64 8, .int .i64 0, .int .i64 1, .int .i64 0, .int .i64 5, .string ⟨#[]⟩, .string ⟨#[]⟩, .string ⟨#[]⟩, .string ⟨#[]⟩, .int .i64 0, .int .i64 3, .int .i64 2, .int .i64 0, .int .i64 0, .int .i64 0, .string ⟨#[]⟩, .string ⟨#[120]⟩, .string ⟨#[]⟩, .string ⟨#[]⟩, .int .i64 0] fmN rfl 4 rfl (by simp) (by omega)) (.cells #[.slice (some ⟨w1.heap.size, 0, none⟩) 1 1, .slice (some ⟨w1.heap.size + 1, 0, none⟩) 4 4] 25)) hb2)
  clear hb2 kM hN0 hO0 hBa
  have hset := Lib.hid (ndSl_set (ts' := ([⟨0, 0, 0, 0, 0, ⟨#[120]⟩, ⟨#[]⟩, ⟨#[]⟩, ⟨#[]⟩, 0⟩, ⟨1, 0, 0, 0, 4, ⟨#[]⟩, ⟨#[]⟩, ⟨#[]⟩, ⟨#[]⟩, 0⟩, ⟨8, 0, 1, d, 5, ⟨#[]⟩, ⟨#[]⟩, ⟨#[]⟩, ⟨#[]⟩, 0⟩, ⟨3, 2, 0, 0, 0, ⟨#[]⟩, ⟨#[120]⟩, ⟨#[]⟩, ⟨#[]⟩, 0⟩] : List Nd)) hNs.out 23 (.int .i64 d) (.int .i64 0) rfl rfl)
  have fx := fn 23
  have hold : w2.cell? ⟨w1.heap.size + 1, 23, none⟩ = some (.int .i64 0) := by have := ndSl_get hNs.out 23 (.int .i64 0) rfl; rwa [Nat.zero_add] at this
  have hB2b := Lib.hid (hB2.out.setCell (p := ⟨w1.heap.size + 1, 23, none⟩) (by show _ ≤ w1.heap.size + 1; omega) (.int .i64 d))
  have hOb : Hid (OArg (w2.setCell ⟨w1.heap.size + 1, 23, none⟩ (.int .i64 d)) (some ⟨w1.heap.size, 0, none⟩) 1 fmO) := Lib.hid ⟨rfl, .inr ⟨w1.heap.size, 0, rfl, hOs.out.below (B := w1.heap.size + 1) ((Below.refl _ _).setCell (p := ⟨w1.heap.size + 1, 23, none⟩) (Nat.le_refl _) _) (by omega), by simp; omega⟩⟩
  have hNb : Hid (NArg (w2.setCell ⟨w1.heap.size + 1, 23, none⟩ (.int .i64 d)) (some ⟨w1.heap.size + 1, 0, none⟩) 4 ([⟨0, 0, 0, 0, 0, ⟨#[120]⟩, ⟨#[]⟩, ⟨#[]⟩, ⟨#[]⟩, 0⟩, ⟨1, 0, 0, 0, 4, ⟨#[]⟩, ⟨#[]⟩, ⟨#[]⟩, ⟨#[]⟩, 0⟩, ⟨8, 0, 1, d, 5, ⟨#[]⟩, ⟨#[]⟩, ⟨#[]⟩, ⟨#[]⟩, 0⟩, ⟨3, 2, 0, 0, 0, ⟨#[]⟩, ⟨#[120]⟩, ⟨#[]⟩, ⟨#[]⟩, 0⟩] : List Nd)) := Lib.hid ⟨rfl, .inr ⟨w1.heap.size + 1, 0, rfl, hset.out, by simp; omega⟩⟩
  have hgb := Lib.hid (errTy_below hg.out hB2b.out)
  clear hset fn fo fp
  go_wp2_with fail
  refine (kB.out _ _ _ hOb hNb hgb).mono ?_
  rintro e w3 ⟨rfl, hb3⟩
  have hB3 := Lib.hid (belT hB2b.out hb3)
  clear hb3
  go_wp2_with fail
  go_ret
  exact ⟨rfl, hB3.out⟩
set_option maxRecDepth 100000 in
set_option maxHeartbeats 8000000 in
theorem form10 (a0 a1 q d : Int) (hq : 0 ≤ q ∧ q < 1024) (hd : 1 + q = d) (hk : bits .and .i64 a1 1023 = q) (he : (IntKind.u64.wrap a0).tmod 20 = 10) (w : World) (hg : Hid (errTy w)) :
    Calls Tryd.prog 5 #[.int .i64 a0, .int .i64 a1] w (FmPost w) := by
  have hdb : 1 ≤ d ∧ d ≤ 1024 := by omega
  have hd1 : 1 ≤ d := hdb.1
  have hd2 : d ≤ 1024 := hdb.2
  have hbad : mayV fmO ([⟨0, 0, 0, 0, 0, ⟨#[120]⟩, ⟨#[]⟩, ⟨#[]⟩, ⟨#[]⟩, 0⟩, ⟨1, 0, 0, 0, 4, ⟨#[]⟩, ⟨#[]⟩, ⟨#[]⟩, ⟨#[]⟩, 0⟩, ⟨8, 0, 1, 0, 5, ⟨#[]⟩, ⟨#[]⟩, ⟨#[]⟩, ⟨#[]⟩, 0⟩, ⟨3, (d + 2), 0, 0, 0, ⟨#[]⟩, ⟨#[120]⟩, ⟨#[]⟩, ⟨#[]⟩, 0⟩] : List Nd) = false := by
    refine may_tree _ _ ?_
    unfold treeV
    rw [show bg (ksN ([⟨0, 0, 0, 0, 0, ⟨#[120]⟩, ⟨#[]⟩, ⟨#[]⟩, ⟨#[]⟩, 0⟩, ⟨1, 0, 0, 0, 4, ⟨#[]⟩, ⟨#[]⟩, ⟨#[]⟩, ⟨#[]⟩, 0⟩, ⟨8, 0, 1, 0, 5, ⟨#[]⟩, ⟨#[]⟩, ⟨#[]⟩, ⟨#[]⟩, 0⟩, ⟨3, (d + 2), 0, 0, 0, ⟨#[]⟩, ⟨#[120]⟩, ⟨#[]⟩, ⟨#[]⟩, 0⟩] : List Nd)) (List.length ([⟨0, 0, 0, 0, 0, ⟨#[120]⟩, ⟨#[]⟩, ⟨#[]⟩, ⟨#[]⟩, 0⟩, ⟨1, 0, 0, 0, 4, ⟨#[]⟩, ⟨#[]⟩, ⟨#[]⟩, ⟨#[]⟩, 0⟩, ⟨8, 0, 1, 0, 5, ⟨#[]⟩, ⟨#[]⟩, ⟨#[]⟩, ⟨#[]⟩, 0⟩, ⟨3, (d + 2), 0, 0, 0, ⟨#[]⟩, ⟨#[120]⟩, ⟨#[]⟩, ⟨#[]⟩, 0⟩] : List Nd) - 1) = -1 from by rw [bg_eq]; show bgK _ [d + 2] 3 = -1; unfold bgK; rw [if_neg (by omega)]]
    simp
  have kB := Lib.hid fun (g g2 : Nat) (W : World) (h : Hid (OArg W (some ⟨g, 0, none⟩) 1 fmO)) (h2 : Hid (NArg W (some ⟨g2, 0, none⟩) 4 ([⟨0, 0, 0, 0, 0, ⟨#[120]⟩, ⟨#[]⟩, ⟨#[]⟩, ⟨#[]⟩, 0⟩, ⟨1, 0, 0, 0, 4, ⟨#[]⟩, ⟨#[]⟩, ⟨#[]⟩, ⟨#[]⟩, 0⟩, ⟨8, 0, 1, 0, 5, ⟨#[]⟩, ⟨#[]⟩, ⟨#[]⟩, ⟨#[]⟩, 0⟩, ⟨3, (d + 2), 0, 0, 0, ⟨#[]⟩, ⟨#[120]⟩, ⟨#[]⟩, ⟨#[]⟩, 0⟩] : List Nd))) (hg : Hid (errTy W)) => tMay_any (some ⟨g, 0, none⟩) (some ⟨g2, 0, none⟩) 1 1 4 4 fmO ([⟨0, 0, 0, 0, 0, ⟨#[120]⟩, ⟨#[]⟩, ⟨#[]⟩, ⟨#[]⟩, 0⟩, ⟨1, 0, 0, 0, 4, ⟨#[]⟩, ⟨#[]⟩, ⟨#[]⟩, ⟨#[]⟩, 0⟩, ⟨8, 0, 1, 0, 5, ⟨#[]⟩, ⟨#[]⟩, ⟨#[]⟩, ⟨#[]⟩, 0⟩, ⟨3, (d + 2), 0, 0, 0, ⟨#[]⟩, ⟨#[120]⟩, ⟨#[]⟩, ⟨#[]⟩, 0⟩] : List Nd) W h (Lib.hid fo_sz) (by omega) h2 (Lib.hid (by intro t ht; simp only [List.mem_cons, List.not_mem_nil, or_false] at ht; rcases ht with rfl | rfl | rfl | rfl <;> exact ⟨of_decide_eq_true rfl, of_decide_eq_true rfl, of_decide_eq_true rfl, of_decide_eq_true rfl⟩)) (by omega) hg
  rw [hbad] at kB
  clear hbad
  have kM := Lib.hid fun (g g2 : Nat) (W : World) (h : Hid (OArg W (some ⟨g, 0, none⟩) 1 fmO)) (h2 : Hid (NArg W (some ⟨g2, 0, none⟩) 4 fmN)) (hg : Hid (errTy W)) => tMay_any (some ⟨g, 0, none⟩) (some ⟨g2, 0, none⟩) 1 1 4 4 fmO fmN W h (Lib.hid fo_sz) (by omega) h2 (Lib.hid fm_sz) (by omega) hg
  rw [fm_may] at kM
  have h0l := hgl hg.out
  go_enter Tryd.func5, Tryd.ntmps5
  go_wp2_with fail
  refine (awake3_any _ hg).mono ?_
  rintro e w1 ⟨rfl, hb1⟩
  have hB1 := Lib.hid hb1
  have hw1s := hb1.size
  clear hb1
  go_wp2_with fail
  have hO0 := Lib.hid (oarg_alloc w1 #[.string ⟨#[97]⟩, .int .i64 0, .int .i64 0] fmO rfl 1 rfl)
  have hN0 := Lib.hid (narg_alloc (w1.alloc (.cells #[.string ⟨#[97]⟩, .int .i64 0, .int .i64 0] 48)) #[.int .i64 0, .int .i64 0, .int .i64 0, .int .i64 0, .int .i64 0, .string ⟨#[120]⟩, .string ⟨#[]⟩, .string ⟨#[]⟩, .string ⟨#[]⟩, .int .i64 0, .int .i64 1, .int .i64 0, .int .i64 0, .int .i64 0, .int .i64 4, .string ⟨#[]⟩, .string ⟨#[]⟩, .string ⟨#[]⟩, .string ⟨#[]⟩, .int .i64 0, .int .i64 8, .int .i64 0, .int .i64 1, .int .i64 0, .int .i64 5, .string ⟨#[]⟩, .string ⟨#[]⟩, .string ⟨#[]⟩, .string ⟨#[]⟩, .int .i64 0, .int .i64 3, .int .i64 2, .int .i64 0, .int .i64 0, .int .i64 0, .string ⟨#[]⟩, .string ⟨#[120]⟩, .string ⟨#[]⟩, .string ⟨#[]⟩, .int .i64 0] fmN rfl 4 rfl)
  have hBa := Lib.hid (show Below w.heap.size w ((w1.alloc (.cells #[.string ⟨#[97]⟩, .int .i64 0, .int .i64 0] 48)).alloc (.cells #[.int .i64 0, .int .i64 0, .int .i64 0, .int .i64 0, .int .i64 0, .string ⟨#[120]⟩, .string ⟨#[]⟩, .string ⟨#[]⟩, .string ⟨#[]⟩, .int .i64 0, .int .i64 1, .int .i64 0, .int .i64 0, .int .i64 0, .int .i64 4, .string ⟨#[]⟩, .string ⟨#[]⟩, .string ⟨#[]⟩, .string ⟨#[]⟩, .int .i64 0, .int .i64 8, .int .i64 0, .int .i64 1, .int .i64 0, .int .i64 5, .string ⟨#[]⟩, .string ⟨#[]⟩, .string ⟨#[]⟩, .string ⟨#[]⟩, .int .i64 0, .int .i64 3, .int .i64 2, .int .i64 0, .int .i64 0, .int .i64 0, .string ⟨#[]⟩, .string ⟨#[120]⟩, .string ⟨#[]⟩, .string ⟨#[]⟩, .int .i64 0] 45)) from by have := hB1.out; (repeat' (first | with_reducible exact Below.refl _ _ | with_reducible assumption | with_reducible apply Below.setCell | with_reducible apply Below.alloc | with_reducible apply Below.drew | with_reducible apply below_drewN | with_reducible exact Nat.le_refl _ | (simp; done) | (simp; omega) | omega | exact Nat.le_refl _)))
  refine (kM.out w1.heap.size (w1.heap.size + 1) _ (Lib.hid (hO0.out.below (by (repeat' (first | with_reducible exact Below.refl _ _ | with_reducible assumption | with_reducible apply Below.setCell | with_reducible apply Below.alloc | with_reducible apply Below.drew | with_reducible apply below_drewN | with_reducible exact Nat.le_refl _ | (simp; done) | (simp; omega) | omega | exact Nat.le_refl _))))) (Lib.hid (by have := hN0.out.below (w' := (((w1.alloc (.cells #[.string ⟨#[97]⟩, .int .i64 0, .int .i64 0] 48)).alloc (.cells #[.int .i64 0, .int .i64 0, .int .i64 0, .int .i64 0, .int .i64 0, .string ⟨#[120]⟩, .string ⟨#[]⟩, .string ⟨#[]⟩, .string ⟨#[]⟩, .int .i64 0, .int .i64 1, .int .i64 0, .int .i64 0, .int .i64 0, .int .i64 4, .string ⟨#[]⟩, .string ⟨#[]⟩, .string ⟨#[]⟩, .string ⟨#[]⟩, .int .i64 0, .int .i64 8, .int .i64 0, .int .i64 1, .int .i64 0, .int .i64 5, .string ⟨#[]⟩, .string ⟨#[]⟩, .string ⟨#[]⟩, .string ⟨#[]⟩, .int .i64 0, .int .i64 3, .int .i64 2, .int .i64 0, .int .i64 0, .int .i64 0, .string ⟨#[]⟩, .string ⟨#[120]⟩, .string ⟨#[]⟩, .string ⟨#[]⟩, .int .i64 0] 45)).alloc (.cells #[.slice (some ⟨w1.heap.size, 0, none⟩) 1 1, .slice (some ⟨w1.heap.size + 1, 0, none⟩) 4 4] 25))) (by (repeat' (first | with_reducible exact Below.refl _ _ | with_reducible assumption | with_reducible apply Below.setCell | with_reducible apply Below.alloc | with_reducible apply Below.drew | with_reducible apply below_drewN | with_reducible exact Nat.le_refl _ | (simp; done) | (simp; omega) | omega | exact Nat.le_refl _))); simpa using this)) (Lib.hid (errTy_below hg.out (by have := hBa.out; have := this.size; (repeat' (first | with_reducible exact Below.refl _ _ | with_reducible assumption | with_reducible apply Below.setCell | with_reducible apply Below.alloc | with_reducible apply Below.drew | with_reducible apply below_drewN | with_reducible exact Nat.le_refl _ | (simp; done) | (simp; omega) | omega | exact Nat.le_refl _)))))).mono ?_
  rintro e w2 ⟨rfl, hb2⟩
  have hB2 := Lib.hid (belT (show Below w.heap.size w _ from by have := hBa.out; have := this.size; (repeat' (first | with_reducible exact Below.refl _ _ | with_reducible assumption | with_reducible apply Below.setCell | with_reducible apply Below.alloc | with_reducible apply Below.drew | with_reducible apply below_drewN | with_reducible exact Nat.le_refl _ | (simp; done) | (simp; omega) | omega | exact Nat.le_refl _))) hb2)
  have p0 : w2.cell? ⟨w1.heap.size + 1 + 1, 0, none⟩ = some (.slice (some ⟨w1.heap.size, 0, none⟩) 1 1) := carry hb2 (by first | (simp; done) | (simp; omega)) (by rw [World.cell?_alloc_at _ _ _ _ (by simp)]; rfl)
  have p1 : w2.cell? ⟨w1.heap.size + 1 + 1, 1, none⟩ = some (.slice (some ⟨w1.heap.size + 1, 0, none⟩) 4 4) := carry hb2 (by first | (simp; done) | (simp; omega)) (by rw [World.cell?_alloc_at _ _ _ _ (by simp)]; rfl)
  have fp : ∀ o, w2.frozen? ⟨w1.heap.size + 1 + 1, o, none⟩ = false := fun o => by rw [hb2.frozen (p := ⟨w1.heap.size + 1 + 1, o, none⟩) (by first | (simp; done) | (simp; omega))]; simp [go_sem]
  have fn : ∀ o, w2.frozen? ⟨w1.heap.size + 1, o, none⟩ = false := fun o => by rw [hb2.frozen (p := ⟨w1.heap.size + 1, o, none⟩) (by first | (simp; done) | (simp; omega))]; simp [go_sem]
  have fo : ∀ o, w2.frozen? ⟨w1.heap.size, o, none⟩ = false := fun o => by rw [hb2.frozen (p := ⟨w1.heap.size, o, none⟩) (by first | (simp; done) | (simp; omega))]; simp [go_sem]
  have hO2 : Hid (OArg w2 (some ⟨w1.heap.size, 0, none⟩) 1 fmO) := Lib.hid ((hO0.out.below (w' := (((w1.alloc (.cells #[.string ⟨#[97]⟩, .int .i64 0, .int .i64 0] 48)).alloc (.cells #[.int .i64 0, .int .i64 0, .int .i64 0, .int .i64 0, .int .i64 0, .string ⟨#[120]⟩, .string ⟨#[]⟩, .string ⟨#[]⟩, .string ⟨#[]⟩, .int .i64 0, .int .i64 1, .int .i64 0, .int .i64 0, .int .i64 0, .int .i64 4, .string ⟨#[]⟩, .string ⟨#[]⟩, .string ⟨#[]⟩, .string ⟨#[]⟩, .int .i64 0, .int .i64 8, .int .i64 0, .int .i64 1, .int .i64 0, .int .i64 5, .string ⟨#[]⟩, .string ⟨#[]⟩, .string ⟨#[]⟩, .string ⟨#[]⟩, .int .i64 0, .int .i64 3, .int .i64 2, .int .i64 0, .int .i64 0, .int .i64 0, .string ⟨#[]⟩, .string ⟨#[120]⟩, .string ⟨#[]⟩, .string ⟨#[]⟩, .int .i64 0] 45)).alloc (.cells #[.slice (some ⟨w1.heap.size, 0, none⟩) 1 1, .slice (some ⟨w1.heap.size + 1, 0, none⟩) 4 4] 25))) (by (repeat' (first | with_reducible exact Below.refl _ _ | with_reducible assumption | with_reducible apply Below.setCell | with_reducible apply Below.alloc | with_reducible apply Below.drew | with_reducible apply below_drewN | with_reducible exact Nat.le_refl _ | (simp; done) | (simp; omega) | omega | exact Nat.le_refl _)))).below hb2)
  have hN2 : Hid (NArg w2 (some ⟨w1.heap.size + 1, 0, none⟩) 4 fmN) := Lib.hid (by have := (hN0.out.below (w' := (((w1.alloc (.cells #[.string ⟨#[97]⟩, .int .i64 0, .int .i64 0] 48)).alloc (.cells #[.int .i64 0, .int .i64 0, .int .i64 0, .int .i64 0, .int .i64 0, .string ⟨#[120]⟩, .string ⟨#[]⟩, .string ⟨#[]⟩, .string ⟨#[]⟩, .int .i64 0, .int .i64 1, .int .i64 0, .int .i64 0, .int .i64 0, .int .i64 4, .string ⟨#[]⟩, .string ⟨#[]⟩, .string ⟨#[]⟩, .string ⟨#[]⟩, .int .i64 0, .int .i64 8, .int .i64 0, .int .i64 1, .int .i64 0, .int .i64 5, .string ⟨#[]⟩, .string ⟨#[]⟩, .string ⟨#[]⟩, .string ⟨#[]⟩, .int .i64 0, .int .i64 3, .int .i64 2, .int .i64 0, .int .i64 0, .int .i64 0, .string ⟨#[]⟩, .string ⟨#[120]⟩, .string ⟨#[]⟩, .string ⟨#[]⟩, .int .i64 0] 45)).alloc (.cells #[.slice (some ⟨w1.heap.size, 0, none⟩) 1 1, .slice (some ⟨w1.heap.size + 1, 0, none⟩) 4 4] 25))) (by (repeat' (first | with_reducible exact Below.refl _ _ | with_reducible assumption | with_reducible apply Below.setCell | with_reducible apply Below.alloc | with_reducible apply Below.drew | with_reducible apply below_drewN | with_reducible exact Nat.le_refl _ | (simp; done) | (simp; omega) | omega | exact Nat.le_refl _)))).below hb2; simpa using this)
  have hz2 : w1.heap.size + 1 + 1 < w2.heap.size := by have := hb2.size; (try simp at this); omega
  have hNs : Hid (NdSl w2 (w1.heap.size + 1) 0 fmN) := Lib.hid (by
    rcases hN2.out.2 with h | ⟨b, off, h1, h2, h3⟩
    · cases h
    · injection h1 with h1; injection h1 with h4 h5 _; subst h4; subst h5; exact h2)
  have hOs : Hid (OrSl w2 w1.heap.size 0 fmO) := Lib.hid (by
    rcases hO2.out.2 with h | ⟨b, off, h1, h2, h3⟩
    · cases h
    · injection h1 with h1; injection h1 with h4 h5 _; subst h4; subst h5; exact h2)
  have hOwn2 := Lib.hid (OwnN.below (w1 := w2) (World.ownsRow.alloc (own_lit (B := w1.heap.size + 1) (w1.alloc (.cells #[.string ⟨#[97]⟩, .int .i64 0, .int .i64 0] 48)) #[.int .i64 0, .int .i64 0, .int .i64 0, .int .i64 0, .int .i64 0, .string ⟨#[120]⟩, .string ⟨#[]⟩, .string ⟨#[]⟩, .string ⟨#[]⟩, .int .i64 0, .int .i64 1, .int .i64 0, .int .i64 0, .int .i64 0, .int .i64 4, .string ⟨#[]⟩, .string ⟨#[]⟩, .string ⟨#[]⟩, .string ⟨#[]⟩, .int .i64 0, .int .i64 8, .int .i64 0, .int .i64 1, .int .i64 0, .int .i64 5, .string ⟨#[]⟩, .string ⟨#[]⟩, .string ⟨#[]⟩, .string ⟨#[]⟩, .int .i64 0, .int .i64 3, .int .i64 2, .int .i64 0, .int .i64 0, .int .i64 0, .string ⟨#[]⟩, .string ⟨#[120]⟩, .string ⟨#[]⟩, .string ⟨#[]⟩, .int .i64 0] fmN rfl 4 rfl (by simp) (by omega)) (.cells #[.slice (some ⟨w1.heap.size, 0, none⟩) 1 1, .slice (some ⟨w1.heap.size + 1, 0, none⟩) 4 4] 25)) hb2)
  clear hb2 kM hN0 hO0 hBa
  have hset := Lib.hid (ndSl_set (ts' := ([⟨0, 0, 0, 0, 0, ⟨#[120]⟩, ⟨#[]⟩, ⟨#[]⟩, ⟨#[]⟩, 0⟩, ⟨1, 0, 0, 0, 4, ⟨#[]⟩, ⟨#[]⟩, ⟨#[]⟩, ⟨#[]⟩, 0⟩, ⟨8, 0, 1, 0, 5, ⟨#[]⟩, ⟨#[]⟩, ⟨#[]⟩, ⟨#[]⟩, 0⟩, ⟨3, (d + 2), 0, 0, 0, ⟨#[]⟩, ⟨#[120]⟩, ⟨#[]⟩, ⟨#[]⟩, 0⟩] : List Nd)) hNs.out 31 (.int .i64 (d + 2)) (.int .i64 2) rfl rfl)
  have fx := fn 31
  have hold : w2.cell? ⟨w1.heap.size + 1, 31, none⟩ = some (.int .i64 2) := by have := ndSl_get hNs.out 31 (.int .i64 2) rfl; rwa [Nat.zero_add] at this
  have hB2b := Lib.hid (hB2.out.setCell (p := ⟨w1.heap.size + 1, 31, none⟩) (by show _ ≤ w1.heap.size + 1; omega) (.int .i64 (d + 2)))
  have hOb : Hid (OArg (w2.setCell ⟨w1.heap.size + 1, 31, none⟩ (.int .i64 (d + 2))) (some ⟨w1.heap.size, 0, none⟩) 1 fmO) := Lib.hid ⟨rfl, .inr ⟨w1.heap.size, 0, rfl, hOs.out.below (B := w1.heap.size + 1) ((Below.refl _ _).setCell (p := ⟨w1.heap.size + 1, 31, none⟩) (Nat.le_refl _) _) (by omega), by simp; omega⟩⟩
  have hNb : Hid (NArg (w2.setCell ⟨w1.heap.size + 1, 31, none⟩ (.int .i64 (d + 2))) (some ⟨w1.heap.size + 1, 0, none⟩) 4 ([⟨0, 0, 0, 0, 0, ⟨#[120]⟩, ⟨#[]⟩, ⟨#[]⟩, ⟨#[]⟩, 0⟩, ⟨1, 0, 0, 0, 4, ⟨#[]⟩, ⟨#[]⟩, ⟨#[]⟩, ⟨#[]⟩, 0⟩, ⟨8, 0, 1, 0, 5, ⟨#[]⟩, ⟨#[]⟩, ⟨#[]⟩, ⟨#[]⟩, 0⟩, ⟨3, (d + 2), 0, 0, 0, ⟨#[]⟩, ⟨#[120]⟩, ⟨#[]⟩, ⟨#[]⟩, 0⟩] : List Nd)) := Lib.hid ⟨rfl, .inr ⟨w1.heap.size + 1, 0, rfl, hset.out, by simp; omega⟩⟩
  have hgb := Lib.hid (errTy_below hg.out hB2b.out)
  clear hset fn fo fp
  go_wp2_with fail
  refine (kB.out _ _ _ hOb hNb hgb).mono ?_
  rintro e w3 ⟨rfl, hb3⟩
  have hB3 := Lib.hid (belT hB2b.out hb3)
  clear hb3
  go_wp2_with fail
  go_ret
  exact ⟨rfl, hB3.out⟩
set_option maxRecDepth 100000 in
set_option maxHeartbeats 8000000 in
theorem form11 (a0 a1 q d : Int) (hq : 0 ≤ q ∧ q < 1024) (hd : 1 + q = d) (hk : bits .and .i64 a1 1023 = q) (he : (IntKind.u64.wrap a0).tmod 20 = 11) (w : World) (hg : Hid (errTy w)) :
    Calls Tryd.prog 5 #[.int .i64 a0, .int .i64 a1] w (FmPost w) := by
  have hdb : 1 ≤ d ∧ d ≤ 1024 := by omega
  have hd1 : 1 ≤ d := hdb.1
  have hd2 : d ≤ 1024 := hdb.2
  have hbad : mayV fmO ([⟨0, 0, 0, 0, 0, ⟨#[120]⟩, ⟨#[]⟩, ⟨#[]⟩, ⟨#[]⟩, 0⟩, ⟨1, 0, 0, 0, 4, ⟨#[]⟩, ⟨#[]⟩, ⟨#[]⟩, ⟨#[]⟩, 0⟩, ⟨8, 0, 1, 0, 5, ⟨#[]⟩, ⟨#[]⟩, ⟨#[]⟩, ⟨#[]⟩, 0⟩, ⟨3, 2, 0, 0, 0, ⟨#[]⟩, ⟨#[88]⟩, ⟨#[]⟩, ⟨#[]⟩, 0⟩] : List Nd) = false := by refine may_node _ _ 3 (of_decide_eq_true rfl) ?_; decide +kernel
  have kB := Lib.hid fun (g g2 : Nat) (W : World) (h : Hid (OArg W (some ⟨g, 0, none⟩) 1 fmO)) (h2 : Hid (NArg W (some ⟨g2, 0, none⟩) 4 ([⟨0, 0, 0, 0, 0, ⟨#[120]⟩, ⟨#[]⟩, ⟨#[]⟩, ⟨#[]⟩, 0⟩, ⟨1, 0, 0, 0, 4, ⟨#[]⟩, ⟨#[]⟩, ⟨#[]⟩, ⟨#[]⟩, 0⟩, ⟨8, 0, 1, 0, 5, ⟨#[]⟩, ⟨#[]⟩, ⟨#[]⟩, ⟨#[]⟩, 0⟩, ⟨3, 2, 0, 0, 0, ⟨#[]⟩, ⟨#[88]⟩, ⟨#[]⟩, ⟨#[]⟩, 0⟩] : List Nd))) (hg : Hid (errTy W)) => tMay_any (some ⟨g, 0, none⟩) (some ⟨g2, 0, none⟩) 1 1 4 4 fmO ([⟨0, 0, 0, 0, 0, ⟨#[120]⟩, ⟨#[]⟩, ⟨#[]⟩, ⟨#[]⟩, 0⟩, ⟨1, 0, 0, 0, 4, ⟨#[]⟩, ⟨#[]⟩, ⟨#[]⟩, ⟨#[]⟩, 0⟩, ⟨8, 0, 1, 0, 5, ⟨#[]⟩, ⟨#[]⟩, ⟨#[]⟩, ⟨#[]⟩, 0⟩, ⟨3, 2, 0, 0, 0, ⟨#[]⟩, ⟨#[88]⟩, ⟨#[]⟩, ⟨#[]⟩, 0⟩] : List Nd) W h (Lib.hid fo_sz) (by omega) h2 (Lib.hid (by intro t ht; simp only [List.mem_cons, List.not_mem_nil, or_false] at ht; rcases ht with rfl | rfl | rfl | rfl <;> exact ⟨of_decide_eq_true rfl, of_decide_eq_true rfl, of_decide_eq_true rfl, of_decide_eq_true rfl⟩)) (by omega) hg
  rw [hbad] at kB
  clear hbad
  have kM := Lib.hid fun (g g2 : Nat) (W : World) (h : Hid (OArg W (some ⟨g, 0, none⟩) 1 fmO)) (h2 : Hid (NArg W (some ⟨g2, 0, none⟩) 4 fmN)) (hg : Hid (errTy W)) => tMay_any (some ⟨g, 0, none⟩) (some ⟨g2, 0, none⟩) 1 1 4 4 fmO fmN W h (Lib.hid fo_sz) (by omega) h2 (Lib.hid fm_sz) (by omega) hg
  rw [fm_may] at kM
  have h0l := hgl hg.out
  go_enter Tryd.func5, Tryd.ntmps5
  go_wp2_with fail
  refine (awake3_any _ hg).mono ?_
  rintro e w1 ⟨rfl, hb1⟩
  have hB1 := Lib.hid hb1
  have hw1s := hb1.size
  clear hb1
  go_wp2_with fail
  have hO0 := Lib.hid (oarg_alloc w1 #[.string ⟨#[97]⟩, .int .i64 0, .int .i64 0] fmO rfl 1 rfl)
  have hN0 := Lib.hid (narg_alloc (w1.alloc (.cells #[.string ⟨#[97]⟩, .int .i64 0, .int .i64 0] 48)) #[.int .i64 0, .int .i64 0, .int .i64 0, .int .i64 0, .int .i64 0, .string ⟨#[120]⟩, .string ⟨#[]⟩, .string ⟨#[]⟩, .string ⟨#[]⟩, .int .i64 0, .int .i64 1, .int .i64 0, .int .i64 0, .int .i64 0, .int .i64 4, .string ⟨#[]⟩, .string ⟨#[]⟩, .string ⟨#[]⟩, .string ⟨#[]⟩, .int .i64 0, .int .i64 8, .int .i64 0, .int .i64 1, .int .i64 0, .int .i64 5, .string ⟨#[]⟩, .string ⟨#[]⟩, .string ⟨#[]⟩, .string ⟨#[]⟩, .int .i64 0, .int .i64 3, .int .i64 2, .int .i64 0, .int .i64 0, .int .i64 0, .string ⟨#[]⟩, .string ⟨#[120]⟩, .string ⟨#[]⟩, .string ⟨#[]⟩, .int .i64 0] fmN rfl 4 rfl)
  have hBa := Lib.hid (show Below w.heap.size w ((w1.alloc (.cells #[.string ⟨#[97]⟩, .int .i64 0, .int .i64 0] 48)).alloc (.cells #[.int .i64 0, .int .i64 0, .int .i64 0, .int .i64 0, .int .i64 0, .string ⟨#[120]⟩, .string ⟨#[]⟩, .string ⟨#[]⟩, .string ⟨#[]⟩, .int .i64 0, .int .i64 1, .int .i64 0, .int .i64 0, .int .i64 0, .int .i64 4, .string ⟨#[]⟩, .string ⟨#[]⟩, .string ⟨#[]⟩, .string ⟨#[]⟩, .int .i64 0, .int .i64 8, .int .i64 0, .int .i64 1, .int .i64 0, .int .i64 5, .string ⟨#[]⟩, .string ⟨#[]⟩, .string ⟨#[]⟩, .string ⟨#[]⟩, .int .i64 0, .int .i64 3, .int .i64 2, .int .i64 0, .int .i64 0, .int .i64 0, .string ⟨#[]⟩, .string ⟨#[120]⟩, .string ⟨#[]⟩, .string ⟨#[]⟩, .int .i64 0] 45)) from by have := hB1.out; (repeat' (first | with_reducible exact Below.refl _ _ | with_reducible assumption | with_reducible apply Below.setCell | with_reducible apply Below.alloc | with_reducible apply Below.drew | with_reducible apply below_drewN | with_reducible exact Nat.le_refl _ | (simp; done) | (simp; omega) | omega | exact Nat.le_refl _)))
  refine (kM.out w1.heap.size (w1.heap.size + 1) _ (Lib.hid (hO0.out.below (by (repeat' (first | with_reducible exact Below.refl _ _ | with_reducible assumption | with_reducible apply Below.setCell | with_reducible apply Below.alloc | with_reducible apply Below.drew | with_reducible apply below_drewN | with_reducible exact Nat.le_refl _ | (simp; done) | (simp; omega) | omega | exact Nat.le_refl _))))) (Lib.hid (by have := hN0.out.below (w' := (((w1.alloc (.cells #[.string ⟨#[97]⟩, .int .i64 0, .int .i64 0] 48)).alloc (.cells #[.int .i64 0, .int .i64 0, .int .i64 0, .int .i64 0, .int .i64 0, .string ⟨#[120]⟩, .string ⟨#[]⟩, .string ⟨#[]⟩, .string ⟨#[]⟩, .int .i64 0, .int .i64 1, .int .i64 0, .int .i64 0, .int .i64 0, .int .i64 4, .string ⟨#[]⟩, .string ⟨#[]⟩, .string ⟨#[]⟩, .string ⟨#[]⟩, .int .i64 0, .int .i64 8, .int .i64 0, .int .i64 1, .int .i64 0, .int .i64 5, .string ⟨#[]⟩, .string ⟨#[]⟩, .string ⟨#[]⟩, .string ⟨#[]⟩, .int .i64 0, .int .i64 3, .int .i64 2, .int .i64 0, .int .i64 0, .int .i64 0, .string ⟨#[]⟩, .string ⟨#[120]⟩, .string ⟨#[]⟩, .string ⟨#[]⟩, .int .i64 0] 45)).alloc (.cells #[.slice (some ⟨w1.heap.size, 0, none⟩) 1 1, .slice (some ⟨w1.heap.size + 1, 0, none⟩) 4 4] 25))) (by (repeat' (first | with_reducible exact Below.refl _ _ | with_reducible assumption | with_reducible apply Below.setCell | with_reducible apply Below.alloc | with_reducible apply Below.drew | with_reducible apply below_drewN | with_reducible exact Nat.le_refl _ | (simp; done) | (simp; omega) | omega | exact Nat.le_refl _))); simpa using this)) (Lib.hid (errTy_below hg.out (by have := hBa.out; have := this.size; (repeat' (first | with_reducible exact Below.refl _ _ | with_reducible assumption | with_reducible apply Below.setCell | with_reducible apply Below.alloc | with_reducible apply Below.drew | with_reducible apply below_drewN | with_reducible exact Nat.le_refl _ | (simp; done) | (simp; omega) | omega | exact Nat.le_refl _)))))).mono ?_
  rintro e w2 ⟨rfl, hb2⟩
  have hB2 := Lib.hid (belT (show Below w.heap.size w _ from by have := hBa.out; have := this.size; (repeat' (first | with_reducible exact Below.refl _ _ | with_reducible assumption | with_reducible apply Below.setCell | with_reducible apply Below.alloc | with_reducible apply Below.drew | with_reducible apply below_drewN | with_reducible exact Nat.le_refl _ | (simp; done) | (simp; omega) | omega | exact Nat.le_refl _))) hb2)
  have p0 : w2.cell? ⟨w1.heap.size + 1 + 1, 0, none⟩ = some (.slice (some ⟨w1.heap.size, 0, none⟩) 1 1) := carry hb2 (by first | (simp; done) | (simp; omega)) (by rw [World.cell?_alloc_at _ _ _ _ (by simp)]; rfl)
  have p1 : w2.cell? ⟨w1.heap.size + 1 + 1, 1, none⟩ = some (.slice (some ⟨w1.heap.size + 1, 0, none⟩) 4 4) := carry hb2 (by first | (simp; done) | (simp; omega)) (by rw [World.cell?_alloc_at _ _ _ _ (by simp)]; rfl)
  have fp : ∀ o, w2.frozen? ⟨w1.heap.size + 1 + 1, o, none⟩ = false := fun o => by rw [hb2.frozen (p := ⟨w1.heap.size + 1 + 1, o, none⟩) (by first | (simp; done) | (simp; omega))]; simp [go_sem]
  have fn : ∀ o, w2.frozen? ⟨w1.heap.size + 1, o, none⟩ = false := fun o => by rw [hb2.frozen (p := ⟨w1.heap.size + 1, o, none⟩) (by first | (simp; done) | (simp; omega))]; simp [go_sem]
  have fo : ∀ o, w2.frozen? ⟨w1.heap.size, o, none⟩ = false := fun o => by rw [hb2.frozen (p := ⟨w1.heap.size, o, none⟩) (by first | (simp; done) | (simp; omega))]; simp [go_sem]
  have hO2 : Hid (OArg w2 (some ⟨w1.heap.size, 0, none⟩) 1 fmO) := Lib.hid ((hO0.out.below (w' := (((w1.alloc (.cells #[.string ⟨#[97]⟩, .int .i64 0, .int .i64 0] 48)).alloc (.cells #[.int .i64 0, .int .i64 0, .int .i64 0, .int .i64 0, .int .i64 0, .string ⟨#[120]⟩, .string ⟨#[]⟩, .string ⟨#[]⟩, .string ⟨#[]⟩, .int .i64 0, .int .i64 1, .int .i64 0, .int .i64 0, .int .i64 0, .int .i64 4, .string ⟨#[]⟩, .string ⟨#[]⟩, .string ⟨#[]⟩, .string ⟨#[]⟩, .int .i64 0, .int .i64 8, .int .i64 0, .int .i64 1, .int .i64 0, .int .i64 5, .string ⟨#[]⟩, .string ⟨#[]⟩, .string ⟨#[]⟩, .string ⟨#[]⟩, .int .i64 0, .int .i64 3, .int .i64 2, .int .i64 0, .int .i64 0, .int .i64 0, .string ⟨#[]⟩, .string ⟨#[120]⟩, .string ⟨#[]⟩, .string ⟨#[]⟩, .int .i64 0] 45)).alloc (.cells #[.slice (some ⟨w1.heap.size, 0, none⟩) 1 1, .slice (some ⟨w1.heap.size + 1, 0, none⟩) 4 4] 25))) (by (repeat' (first | with_reducible exact Below.refl _ _ | with_reducible assumption | with_reducible apply Below.setCell | with_reducible apply Below.alloc | with_reducible apply Below.drew | with_reducible apply below_drewN | with_reducible exact Nat.le_refl _ | (simp; done) | (simp; omega) | omega | exact Nat.le_refl _)))).below hb2)
  have hN2 : Hid (NArg w2 (some ⟨w1.heap.size + 1, 0, none⟩) 4 fmN) := Lib.hid (by have := (hN0.out.below (w' := (((w1.alloc (.cells #[.string ⟨#[97]⟩, .int .i64 0, .int .i64 0] 48)).alloc (.cells #[.int .i64 0, .int .i64 0, .int .i64 0, .int .i64 0, .int .i64 0, .string ⟨#[120]⟩, .string ⟨#[]⟩, .string ⟨#[]⟩, .string ⟨#[]⟩, .int .i64 0, .int .i64 1, .int .i64 0, .int .i64 0, .int .i64 0, .int .i64 4, .string ⟨#[]⟩, .string ⟨#[]⟩, .string ⟨#[]⟩, .string ⟨#[]⟩, .int .i64 0, .int .i64 8, .int .i64 0, .int .i64 1, .int .i64 0, .int .i64 5, .string ⟨#[]⟩, .string ⟨#[]⟩, .string ⟨#[]⟩, .string ⟨#[]⟩, .int .i64 0, .int .i64 3, .int .i64 2, .int .i64 0, .int .i64 0, .int .i64 0, .string ⟨#[]⟩, .string ⟨#[120]⟩, .string ⟨#[]⟩, .string ⟨#[]⟩, .int .i64 0] 45)).alloc (.cells #[.slice (some ⟨w1.heap.size, 0, none⟩) 1 1, .slice (some ⟨w1.heap.size + 1, 0, none⟩) 4 4] 25))) (by (repeat' (first | with_reducible exact Below.refl _ _ | with_reducible assumption | with_reducible apply Below.setCell | with_reducible apply Below.alloc | with_reducible apply Below.drew | with_reducible apply below_drewN | with_reducible exact Nat.le_refl _ | (simp; done) | (simp; omega) | omega | exact Nat.le_refl _)))).below hb2; simpa using this)
  have hz2 : w1.heap.size + 1 + 1 < w2.heap.size := by have := hb2.size; (try simp at this); omega
  have hNs : Hid (NdSl w2 (w1.heap.size + 1) 0 fmN) := Lib.hid (by
    rcases hN2.out.2 with h | ⟨b, off, h1, h2, h3⟩
    · cases h
    · injection h1 with h1; injection h1 with h4 h5 _; subst h4; subst h5; exact h2)
  have hOs : Hid (OrSl w2 w1.heap.size 0 fmO) := Lib.hid (by
    rcases hO2.out.2 with h | ⟨b, off, h1, h2, h3⟩
    · cases h
    · injection h1 with h1; injection h1 with h4 h5 _; subst h4; subst h5; exact h2)
  have hOwn2 := Lib.hid (OwnN.below (w1 := w2) (World.ownsRow.alloc (own_lit (B := w1.heap.size + 1) (w1.alloc (.cells #[.string ⟨#[97]⟩, .int .i64 0, .int .i64 0] 48)) #[.int .i64 0, .int .i64 0, .int .i64 0, .int .i64 0, .int .i64 0, .string ⟨#[120]⟩, .string ⟨#[]⟩, .string ⟨#[]⟩, .string ⟨#[]⟩, .int .i64 0, .int .i64 1, .int .i64 0, .int .i64 0, .int .i64 0, .int .i64 4, .string ⟨#[]⟩, .string ⟨#[]⟩, .string ⟨#[]⟩, .string ⟨#[]⟩, .int .i64 0, .int .i64 8, .int .i64 0, .int .i64 1, .int .i64 0, .int .i64 5, .string ⟨#[]⟩, .string ⟨#[]⟩, .string ⟨#[]⟩, .string ⟨#[]⟩, .int .i64 0, .int .i64 3, .int .i64 2, .int .i64 0, .int .i64 0, .int .i64 0, .string ⟨#[]⟩, .string ⟨#[120]⟩, .string ⟨#[]⟩, .string ⟨#[]⟩, .int .i64 0] fmN rfl 4 rfl (by simp) (by omega)) (.cells #[.slice (some ⟨w1.heap.size, 0, none⟩) 1 1, .slice (some ⟨w1.heap.size + 1, 0, none⟩) 4 4] 25)) hb2)
  clear hb2 kM hN0 hO0 hBa
  have hset := Lib.hid (ndSl_set (ts' := ([⟨0, 0, 0, 0, 0, ⟨#[120]⟩, ⟨#[]⟩, ⟨#[]⟩, ⟨#[]⟩, 0⟩, ⟨1, 0, 0, 0, 4, ⟨#[]⟩, ⟨#[]⟩, ⟨#[]⟩, ⟨#[]⟩, 0⟩, ⟨8, 0, 1, 0, 5, ⟨#[]⟩, ⟨#[]⟩, ⟨#[]⟩, ⟨#[]⟩, 0⟩, ⟨3, 2, 0, 0, 0, ⟨#[]⟩, ⟨#[88]⟩, ⟨#[]⟩, ⟨#[]⟩, 0⟩] : List Nd)) hNs.out 36 (.string ⟨#[88]⟩) (.string ⟨#[120]⟩) rfl rfl)
  have fx := fn 36
  have hold : w2.cell? ⟨w1.heap.size + 1, 36, none⟩ = some (.string ⟨#[120]⟩) := by have := ndSl_get hNs.out 36 (.string ⟨#[120]⟩) rfl; rwa [Nat.zero_add] at this
  have hB2b := Lib.hid (hB2.out.setCell (p := ⟨w1.heap.size + 1, 36, none⟩) (by show _ ≤ w1.heap.size + 1; omega) (.string ⟨#[88]⟩))
  have hOb : Hid (OArg (w2.setCell ⟨w1.heap.size + 1, 36, none⟩ (.string ⟨#[88]⟩)) (some ⟨w1.heap.size, 0, none⟩) 1 fmO) := Lib.hid ⟨rfl, .inr ⟨w1.heap.size, 0, rfl, hOs.out.below (B := w1.heap.size + 1) ((Below.refl _ _).setCell (p := ⟨w1.heap.size + 1, 36, none⟩) (Nat.le_refl _) _) (by omega), by simp; omega⟩⟩
  have hNb : Hid (NArg (w2.setCell ⟨w1.heap.size + 1, 36, none⟩ (.string ⟨#[88]⟩)) (some ⟨w1.heap.size + 1, 0, none⟩) 4 ([⟨0, 0, 0, 0, 0, ⟨#[120]⟩, ⟨#[]⟩, ⟨#[]⟩, ⟨#[]⟩, 0⟩, ⟨1, 0, 0, 0, 4, ⟨#[]⟩, ⟨#[]⟩, ⟨#[]⟩, ⟨#[]⟩, 0⟩, ⟨8, 0, 1, 0, 5, ⟨#[]⟩, ⟨#[]⟩, ⟨#[]⟩, ⟨#[]⟩, 0⟩, ⟨3, 2, 0, 0, 0, ⟨#[]⟩, ⟨#[88]⟩, ⟨#[]⟩, ⟨#[]⟩, 0⟩] : List Nd)) := Lib.hid ⟨rfl, .inr ⟨w1.heap.size + 1, 0, rfl, hset.out, by simp; omega⟩⟩
  have hgb := Lib.hid (errTy_below hg.out hB2b.out)
  clear hset fn fo fp
  go_wp2_with fail
  refine (kB.out _ _ _ hOb hNb hgb).mono ?_
  rintro e w3 ⟨rfl, hb3⟩
  have hB3 := Lib.hid (belT hB2b.out hb3)
  clear hb3
  go_wp2_with fail
  go_ret
  exact ⟨rfl, hB3.out⟩
set_option maxRecDepth 100000 in
set_option maxHeartbeats 8000000 in
theorem form12 (a0 a1 q d : Int) (hq : 0 ≤ q ∧ q < 1024) (hd : 1 + q = d) (hk : bits .and .i64 a1 1023 = q) (he : (IntKind.u64.wrap a0).tmod 20 = 12) (w : World) (hg : Hid (errTy w)) :
    Calls Tryd.prog 5 #[.int .i64 a0, .int .i64 a1] w (FmPost w) := by
  have hdb : 1 ≤ d ∧ d ≤ 1024 := by omega
  have hd1 : 1 ≤ d := hdb.1
  have hd2 : d ≤ 1024 := hdb.2
  have hbad : mayV fmO ([⟨0, 0, 0, 0, 0, ⟨#[120]⟩, ⟨#[]⟩, ⟨#[]⟩, ⟨#[]⟩, 0⟩, ⟨1, 0, 0, 0, 4, ⟨#[]⟩, ⟨#[]⟩, ⟨#[]⟩, ⟨#[]⟩, 0⟩, ⟨8, 0, 1, 0, 5, ⟨#[]⟩, ⟨#[]⟩, ⟨#[]⟩, ⟨#[]⟩, 0⟩, ⟨(10 + d), 2, 0, 0, 0, ⟨#[]⟩, ⟨#[120]⟩, ⟨#[]⟩, ⟨#[]⟩, 0⟩] : List Nd) = false := by
    refine may_node _ _ 3 (of_decide_eq_true rfl) ?_
    show okC true ⟨(10 + d), 2, 0, 0, 0, ⟨#[]⟩, ⟨#[120]⟩, ⟨#[]⟩, ⟨#[]⟩, 0⟩ = false
    unfold okC
    simp [plainC, numB, namedB, namesL]
    try omega
  have kB := Lib.hid fun (g g2 : Nat) (W : World) (h : Hid (OArg W (some ⟨g, 0, none⟩) 1 fmO)) (h2 : Hid (NArg W (some ⟨g2, 0, none⟩) 4 ([⟨0, 0, 0, 0, 0, ⟨#[120]⟩, ⟨#[]⟩, ⟨#[]⟩, ⟨#[]⟩, 0⟩, ⟨1, 0, 0, 0, 4, ⟨#[]⟩, ⟨#[]⟩, ⟨#[]⟩, ⟨#[]⟩, 0⟩, ⟨8, 0, 1, 0, 5, ⟨#[]⟩, ⟨#[]⟩, ⟨#[]⟩, ⟨#[]⟩, 0⟩, ⟨(10 + d), 2, 0, 0, 0, ⟨#[]⟩, ⟨#[120]⟩, ⟨#[]⟩, ⟨#[]⟩, 0⟩] : List Nd))) (hg : Hid (errTy W)) => tMay_any (some ⟨g, 0, none⟩) (some ⟨g2, 0, none⟩) 1 1 4 4 fmO ([⟨0, 0, 0, 0, 0, ⟨#[120]⟩, ⟨#[]⟩, ⟨#[]⟩, ⟨#[]⟩, 0⟩, ⟨1, 0, 0, 0, 4, ⟨#[]⟩, ⟨#[]⟩, ⟨#[]⟩, ⟨#[]⟩, 0⟩, ⟨8, 0, 1, 0, 5, ⟨#[]⟩, ⟨#[]⟩, ⟨#[]⟩, ⟨#[]⟩, 0⟩, ⟨(10 + d), 2, 0, 0, 0, ⟨#[]⟩, ⟨#[120]⟩, ⟨#[]⟩, ⟨#[]⟩, 0⟩] : List Nd) W h (Lib.hid fo_sz) (by omega) h2 (Lib.hid (by intro t ht; simp only [List.mem_cons, List.not_mem_nil, or_false] at ht; rcases ht with rfl | rfl | rfl | rfl <;> exact ⟨of_decide_eq_true rfl, of_decide_eq_true rfl, of_decide_eq_true rfl, of_decide_eq_true rfl⟩)) (by omega) hg
  rw [hbad] at kB
  clear hbad
  have kM := Lib.hid fun (g g2 : Nat) (W : World) (h : Hid (OArg W (some ⟨g, 0, none⟩) 1 fmO)) (h2 : Hid (NArg W (some ⟨g2, 0, none⟩) 4 fmN)) (hg : Hid (errTy W)) => tMay_any (some ⟨g, 0, none⟩) (some ⟨g2, 0, none⟩) 1 1 4 4 fmO fmN W h (Lib.hid fo_sz) (by omega) h2 (Lib.hid fm_sz) (by omega) hg
  rw [fm_may] at kM
  have h0l := hgl hg.out
  go_enter Tryd.func5, Tryd.ntmps5
  go_wp2_with fail
  refine (awake3_any _ hg).mono ?_
  rintro e w1 ⟨rfl, hb1⟩
  have hB1 := Lib.hid hb1
  have hw1s := hb1.size
  clear hb1
  go_wp2_with fail
  have hO0 := Lib.hid (oarg_alloc w1 #[.string ⟨#[97]⟩, .int .i64 0, .int .i64 0] fmO rfl 1 rfl)
  have hN0 := Lib.hid (narg_alloc (w1.alloc (.cells #[.string ⟨#[97]⟩, .int .i64 0, .int .i64 0] 48)) #[.int .i64 0, .int .i64 0, .int .i64 0, .int .i64 0, .int .i64 0, .string ⟨#[120]⟩, .string ⟨#[]⟩, .string ⟨#[]⟩, .string ⟨#[]⟩, .int .i64 0, .int .i64 1, .int .i64 0, .int .i64 0, .int .i64 0, .int .i64 4, .string ⟨#[]⟩, .string ⟨#[]⟩, .string ⟨#[]⟩, .string ⟨#[]⟩, .int .i64 0, .int .i64 8, .int .i64 0, .int .i64 1, .int .i64 0, .int .i64 5, .string ⟨#[]⟩, .string ⟨#[]⟩, .string ⟨#[]⟩, .string ⟨#[]⟩, .int .i64 0, .int .i64 3, .int .i64 2, .int .i64 0, .int .i64 0, .int .i64 0, .string ⟨#[]⟩, .string ⟨#[120]⟩, .string ⟨#[]⟩, .string ⟨#[]⟩, .int .i64 0] fmN rfl 4 rfl)
  have hBa := Lib.hid (show Below w.heap.size w ((w1.alloc (.cells #[.string ⟨#[97]⟩, .int .i64 0, .int .i64 0] 48)).alloc (.cells #[.int .i64 0, .int .i64 0, .int .i64 0, .int .i64 0, .int .i64 0, .string ⟨#[120]⟩, .string ⟨#[]⟩, .string ⟨#[]⟩, .string ⟨#[]⟩, .int .i64 0, .int .i64 1, .int .i64 0, .int .i64 0, .int .i64 0, .int .i64 4, .string ⟨#[]⟩, .string ⟨#[]⟩, .string ⟨#[]⟩, .string ⟨#[]⟩, .int .i64 0, .int .i64 8, .int .i64 0, .int .i64 1, .int .i64 0, .int .i64 5, .string ⟨#[]⟩, .string ⟨#[]⟩, .string ⟨#[]⟩, .string ⟨#[]⟩, .int .i64 0, .int .i64 3, .int .i64 2, .int .i64 0, .int .i64 0, .int .i64 0, .string ⟨#[]⟩, .string ⟨#[120]⟩, .string ⟨#[]⟩, .string ⟨#[]⟩, .int .i64 0] 45)) from by have := hB1.out; (repeat' (first | with_reducible exact Below.refl _ _ | with_reducible assumption | with_reducible apply Below.setCell | with_reducible apply Below.alloc | with_reducible apply Below.drew | with_reducible apply below_drewN | with_reducible exact Nat.le_refl _ | (simp; done) | (simp; omega) | omega | exact Nat.le_refl _)))
  refine (kM.out w1.heap.size (w1.heap.size + 1) _ (Lib.hid (hO0.out.below (by (repeat' (first | with_reducible exact Below.refl _ _ | with_reducible assumption | with_reducible apply Below.setCell | with_reducible apply Below.alloc | with_reducible apply Below.drew | with_reducible apply below_drewN | with_reducible exact Nat.le_refl _ | (simp; done) | (simp; omega) | omega | exact Nat.le_refl _))))) (Lib.hid (by have := hN0.out.below (w' := (((w1.alloc (.cells #[.string ⟨#[97]⟩, .int .i64 0, .int .i64 0] 48)).alloc (.cells #[.int .i64 0, .int .i64 0, .int .i64 0, .int .i64 0, .int .i64 0, .string ⟨#[120]⟩, .string ⟨#[]⟩, .string ⟨#[]⟩, .string ⟨#[]⟩, .int .i64 0, .int .i64 1, .int .i64 0, .int .i64 0, .int .i64 0, .int .i64 4, .string ⟨#[]⟩, .string ⟨#[]⟩, .string ⟨#[]⟩, .string ⟨#[]⟩, .int .i64 0, .int .i64 8, .int .i64 0, .int .i64 1, .int .i64 0, .int .i64 5, .string ⟨#[]⟩, .string ⟨#[]⟩, .string ⟨#[]⟩, .string ⟨#[]⟩, .int .i64 0, .int .i64 3, .int .i64 2, .int .i64 0, .int .i64 0, .int .i64 0, .string ⟨#[]⟩, .string ⟨#[120]⟩, .string ⟨#[]⟩, .string ⟨#[]⟩, .int .i64 0] 45)).alloc (.cells #[.slice (some ⟨w1.heap.size, 0, none⟩) 1 1, .slice (some ⟨w1.heap.size + 1, 0, none⟩) 4 4] 25))) (by (repeat' (first | with_reducible exact Below.refl _ _ | with_reducible assumption | with_reducible apply Below.setCell | with_reducible apply Below.alloc | with_reducible apply Below.drew | with_reducible apply below_drewN | with_reducible exact Nat.le_refl _ | (simp; done) | (simp; omega) | omega | exact Nat.le_refl _))); simpa using this)) (Lib.hid (errTy_below hg.out (by have := hBa.out; have := this.size; (repeat' (first | with_reducible exact Below.refl _ _ | with_reducible assumption | with_reducible apply Below.setCell | with_reducible apply Below.alloc | with_reducible apply Below.drew | with_reducible apply below_drewN | with_reducible exact Nat.le_refl _ | (simp; done) | (simp; omega) | omega | exact Nat.le_refl _)))))).mono ?_
  rintro e w2 ⟨rfl, hb2⟩
  have hB2 := Lib.hid (belT (show Below w.heap.size w _ from by have := hBa.out; have := this.size; (repeat' (first | with_reducible exact Below.refl _ _ | with_reducible assumption | with_reducible apply Below.setCell | with_reducible apply Below.alloc | with_reducible apply Below.drew | with_reducible apply below_drewN | with_reducible exact Nat.le_refl _ | (simp; done) | (simp; omega) | omega | exact Nat.le_refl _))) hb2)
  have p0 : w2.cell? ⟨w1.heap.size + 1 + 1, 0, none⟩ = some (.slice (some ⟨w1.heap.size, 0, none⟩) 1 1) := carry hb2 (by first | (simp; done) | (simp; omega)) (by rw [World.cell?_alloc_at _ _ _ _ (by simp)]; rfl)
  have p1 : w2.cell? ⟨w1.heap.size + 1 + 1, 1, none⟩ = some (.slice (some ⟨w1.heap.size + 1, 0, none⟩) 4 4) := carry hb2 (by first | (simp; done) | (simp; omega)) (by rw [World.cell?_alloc_at _ _ _ _ (by simp)]; rfl)
  have fp : ∀ o, w2.frozen? ⟨w1.heap.size + 1 + 1, o, none⟩ = false := fun o => by rw [hb2.frozen (p := ⟨w1.heap.size + 1 + 1, o, none⟩) (by first | (simp; done) | (simp; omega))]; simp [go_sem]
  have fn : ∀ o, w2.frozen? ⟨w1.heap.size + 1, o, none⟩ = false := fun o => by rw [hb2.frozen (p := ⟨w1.heap.size + 1, o, none⟩) (by first | (simp; done) | (simp; omega))]; simp [go_sem]
  have fo : ∀ o, w2.frozen? ⟨w1.heap.size, o, none⟩ = false := fun o => by rw [hb2.frozen (p := ⟨w1.heap.size, o, none⟩) (by first | (simp; done) | (simp; omega))]; simp [go_sem]
  have hO2 : Hid (OArg w2 (some ⟨w1.heap.size, 0, none⟩) 1 fmO) := Lib.hid ((hO0.out.below (w' := (((w1.alloc (.cells #[.string ⟨#[97]⟩, .int .i64 0, .int .i64 0] 48)).alloc (.cells #[.int .i64 0, .int .i64 0, .int .i64 0, .int .i64 0, .int .i64 0, .string ⟨#[120]⟩, .string ⟨#[]⟩, .string ⟨#[]⟩, .string ⟨#[]⟩, .int .i64 0, .int .i64 1, .int .i64 0, .int .i64 0, .int .i64 0, .int .i64 4, .string ⟨#[]⟩, .string ⟨#[]⟩, .string ⟨#[]⟩, .string ⟨#[]⟩, .int .i64 0, .int .i64 8, .int .i64 0, .int .i64 1, .int .i64 0, .int .i64 5, .string ⟨#[]⟩, .string ⟨#[]⟩, .string ⟨#[]⟩, .string ⟨#[]⟩, .int .i64 0, .int .i64 3, .int .i64 2, .int .i64 0, .int .i64 0, .int .i64 0, .string ⟨#[]⟩, .string ⟨#[120]⟩, .string ⟨#[]⟩, .string ⟨#[]⟩, .int .i64 0] 45)).alloc (.cells #[.slice (some ⟨w1.heap.size, 0, none⟩) 1 1, .slice (some ⟨w1.heap.size + 1, 0, none⟩) 4 4] 25))) (by (repeat' (first | with_reducible exact Below.refl _ _ | with_reducible assumption | with_reducible apply Below.setCell | with_reducible apply Below.alloc | with_reducible apply Below.drew | with_reducible apply below_drewN | with_reducible exact Nat.le_refl _ | (simp; done) | (simp; omega) | omega | exact Nat.le_refl _)))).below hb2)
  have hN2 : Hid (NArg w2 (some ⟨w1.heap.size + 1, 0, none⟩) 4 fmN) := Lib.hid (by have := (hN0.out.below (w' := (((w1.alloc (.cells #[.string ⟨#[97]⟩, .int .i64 0, .int .i64 0] 48)).alloc (.cells #[.int .i64 0, .int .i64 0, .int .i64 0, .int .i64 0, .int .i64 0, .string ⟨#[120]⟩, .string ⟨#[]⟩, .string ⟨#[]⟩, .string ⟨#[]⟩, .int .i64 0, .int .i64 1, .int .i64 0, .int .i64 0, .int .i64 0, .int .i64 4, .string ⟨#[]⟩, .string ⟨#[]⟩, .string ⟨#[]⟩, .string ⟨#[]⟩, .int .i64 0, .int .i64 8, .int .i64 0, .int .i64 1, .int .i64 0, .int .i64 5, .string ⟨#[]⟩, .string ⟨#[]⟩, .string ⟨#[]⟩, .string ⟨#[]⟩, .int .i64 0, .int .i64 3, .int .i64 2, .int .i64 0, .int .i64 0, .int .i64 0, .string ⟨#[]⟩, .string ⟨#[120]⟩, .string ⟨#[]⟩, .string ⟨#[]⟩, .int .i64 0] 45)).alloc (.cells #[.slice (some ⟨w1.heap.size, 0, none⟩) 1 1, .slice (some ⟨w1.heap.size + 1, 0, none⟩) 4 4] 25))) (by (repeat' (first | with_reducible exact Below.refl _ _ | with_reducible assumption | with_reducible apply Below.setCell | with_reducible apply Below.alloc | with_reducible apply Below.drew | with_reducible apply below_drewN | with_reducible exact Nat.le_refl _ | (simp; done) | (simp; omega) | omega | exact Nat.le_refl _)))).below hb2; simpa using this)
  have hz2 : w1.heap.size + 1 + 1 < w2.heap.size := by have := hb2.size; (try simp at this); omega
  have hNs : Hid (NdSl w2 (w1.heap.size + 1) 0 fmN) := Lib.hid (by
    rcases hN2.out.2 with h | ⟨b, off, h1, h2, h3⟩
    · cases h
    · injection h1 with h1; injection h1 with h4 h5 _; subst h4; subst h5; exact h2)
  have hOs : Hid (OrSl w2 w1.heap.size 0 fmO) := Lib.hid (by
    rcases hO2.out.2 with h | ⟨b, off, h1, h2, h3⟩
    · cases h
    · injection h1 with h1; injection h1 with h4 h5 _; subst h4; subst h5; exact h2)
  have hOwn2 := Lib.hid (OwnN.below (w1 := w2) (World.ownsRow.alloc (own_lit (B := w1.heap.size + 1) (w1.alloc (.cells #[.string ⟨#[97]⟩, .int .i64 0, .int .i64 0] 48)) #[.int .i64 0, .int .i64 0, .int .i64 0, .int .i64 0, .int .i64 0, .string ⟨#[120]⟩, .string ⟨#[]⟩, .string ⟨#[]⟩, .string ⟨#[]⟩, .int .i64 0, .int .i64 1, .int .i64 0, .int .i64 0, .int .i64 0, .int .i64 4, .string ⟨#[]⟩, .string ⟨#[]⟩, .string ⟨#[]⟩, .string ⟨#[]⟩, .int .i64 0, .int .i64 8, .int .i64 0, .int .i64 1, .int .i64 0, .int .i64 5, .string ⟨#[]⟩, .string ⟨#[]⟩, .string ⟨#[]⟩, .string ⟨#[]⟩, .int .i64 0, .int .i64 3, .int .i64 2, .int .i64 0, .int .i64 0, .int .i64 0, .string ⟨#[]⟩, .string ⟨#[120]⟩, .string ⟨#[]⟩, .string ⟨#[]⟩, .int .i64 0] fmN rfl 4 rfl (by simp) (by omega)) (.cells #[.slice (some ⟨w1.heap.size, 0, none⟩) 1 1, .slice (some ⟨w1.heap.size + 1, 0, none⟩) 4 4] 25)) hb2)
  clear hb2 kM hN0 hO0 hBa
  have hset := Lib.hid (ndSl_set (ts' := ([⟨0, 0, 0, 0, 0, ⟨#[120]⟩, ⟨#[]⟩, ⟨#[]⟩, ⟨#[]⟩, 0⟩, ⟨1, 0, 0, 0, 4, ⟨#[]⟩, ⟨#[]⟩, ⟨#[]⟩, ⟨#[]⟩, 0⟩, ⟨8, 0, 1, 0, 5, ⟨#[]⟩, ⟨#[]⟩, ⟨#[]⟩, ⟨#[]⟩, 0⟩, ⟨(10 + d), 2, 0, 0, 0, ⟨#[]⟩, ⟨#[120]⟩, ⟨#[]⟩, ⟨#[]⟩, 0⟩] : List Nd)) hNs.out 30 (.int .i64 (10 + d)) (.int .i64 3) rfl rfl)
  have fx := fn 30
  have hold : w2.cell? ⟨w1.heap.size + 1, 30, none⟩ = some (.int .i64 3) := by have := ndSl_get hNs.out 30 (.int .i64 3) rfl; rwa [Nat.zero_add] at this
  have hB2b := Lib.hid (hB2.out.setCell (p := ⟨w1.heap.size + 1, 30, none⟩) (by show _ ≤ w1.heap.size + 1; omega) (.int .i64 (10 + d)))
  have hOb : Hid (OArg (w2.setCell ⟨w1.heap.size + 1, 30, none⟩ (.int .i64 (10 + d))) (some ⟨w1.heap.size, 0, none⟩) 1 fmO) := Lib.hid ⟨rfl, .inr ⟨w1.heap.size, 0, rfl, hOs.out.below (B := w1.heap.size + 1) ((Below.refl _ _).setCell (p := ⟨w1.heap.size + 1, 30, none⟩) (Nat.le_refl _) _) (by omega), by simp; omega⟩⟩
  have hNb : Hid (NArg (w2.setCell ⟨w1.heap.size + 1, 30, none⟩ (.int .i64 (10 + d))) (some ⟨w1.heap.size + 1, 0, none⟩) 4 ([⟨0, 0, 0, 0, 0, ⟨#[120]⟩, ⟨#[]⟩, ⟨#[]⟩, ⟨#[]⟩, 0⟩, ⟨1, 0, 0, 0, 4, ⟨#[]⟩, ⟨#[]⟩, ⟨#[]⟩, ⟨#[]⟩, 0⟩, ⟨8, 0, 1, 0, 5, ⟨#[]⟩, ⟨#[]⟩, ⟨#[]⟩, ⟨#[]⟩, 0⟩, ⟨(10 + d), 2, 0, 0, 0, ⟨#[]⟩, ⟨#[120]⟩, ⟨#[]⟩, ⟨#[]⟩, 0⟩] : List Nd)) := Lib.hid ⟨rfl, .inr ⟨w1.heap.size + 1, 0, rfl, hset.out, by simp; omega⟩⟩
  have hgb := Lib.hid (errTy_below hg.out hB2b.out)
  clear hset fn fo fp
  go_wp2_with fail
  refine (kB.out _ _ _ hOb hNb hgb).mono ?_
  rintro e w3 ⟨rfl, hb3⟩
  have hB3 := Lib.hid (belT hB2b.out hb3)
  clear hb3
  go_wp2_with fail
  go_ret
  exact ⟨rfl, hB3.out⟩
set_option maxRecDepth 100000 in
set_option maxHeartbeats 8000000 in
theorem form13 (a0 a1 q d : Int) (hq : 0 ≤ q ∧ q < 1024) (hd : 1 + q = d) (hk : bits .and .i64 a1 1023 = q) (he : (IntKind.u64.wrap a0).tmod 20 = 13) (w : World) (hg : Hid (errTy w)) :
    Calls Tryd.prog 5 #[.int .i64 a0, .int .i64 a1] w (FmPost w) := by
  have hdb : 1 ≤ d ∧ d ≤ 1024 := by omega
  have hd1 : 1 ≤ d := hdb.1
  have hd2 : d ≤ 1024 := hdb.2
  have hbad : mayV fmO ([⟨0, 0, 0, 0, 0, ⟨#[120]⟩, ⟨#[]⟩, ⟨#[]⟩, ⟨#[]⟩, (-d)⟩, ⟨1, 0, 0, 0, 4, ⟨#[]⟩, ⟨#[]⟩, ⟨#[]⟩, ⟨#[]⟩, 0⟩, ⟨8, 0, 1, 0, 5, ⟨#[]⟩, ⟨#[]⟩, ⟨#[]⟩, ⟨#[]⟩, 0⟩, ⟨3, 2, 0, 0, 0, ⟨#[]⟩, ⟨#[120]⟩, ⟨#[]⟩, ⟨#[]⟩, 0⟩] : List Nd) = false := by
    refine may_node _ _ 0 (of_decide_eq_true rfl) ?_
    show okC true ⟨0, 0, 0, 0, 0, ⟨#[120]⟩, ⟨#[]⟩, ⟨#[]⟩, ⟨#[]⟩, (-d)⟩ = false
    unfold okC
    simp [plainC, numB, namedB, namesL]
    try omega
  have kB := Lib.hid fun (g g2 : Nat) (W : World) (h : Hid (OArg W (some ⟨g, 0, none⟩) 1 fmO)) (h2 : Hid (NArg W (some ⟨g2, 0, none⟩) 4 ([⟨0, 0, 0, 0, 0, ⟨#[120]⟩, ⟨#[]⟩, ⟨#[]⟩, ⟨#[]⟩, (-d)⟩, ⟨1, 0, 0, 0, 4, ⟨#[]⟩, ⟨#[]⟩, ⟨#[]⟩, ⟨#[]⟩, 0⟩, ⟨8, 0, 1, 0, 5, ⟨#[]⟩, ⟨#[]⟩, ⟨#[]⟩, ⟨#[]⟩, 0⟩, ⟨3, 2, 0, 0, 0, ⟨#[]⟩, ⟨#[120]⟩, ⟨#[]⟩, ⟨#[]⟩, 0⟩] : List Nd))) (hg : Hid (errTy W)) => tMay_any (some ⟨g, 0, none⟩) (some ⟨g2, 0, none⟩) 1 1 4 4 fmO ([⟨0, 0, 0, 0, 0, ⟨#[120]⟩, ⟨#[]⟩, ⟨#[]⟩, ⟨#[]⟩, (-d)⟩, ⟨1, 0, 0, 0, 4, ⟨#[]⟩, ⟨#[]⟩, ⟨#[]⟩, ⟨#[]⟩, 0⟩, ⟨8, 0, 1, 0, 5, ⟨#[]⟩, ⟨#[]⟩, ⟨#[]⟩, ⟨#[]⟩, 0⟩, ⟨3, 2, 0, 0, 0, ⟨#[]⟩, ⟨#[120]⟩, ⟨#[]⟩, ⟨#[]⟩, 0⟩] : List Nd) W h (Lib.hid fo_sz) (by omega) h2 (Lib.hid (by intro t ht; simp only [List.mem_cons, List.not_mem_nil, or_false] at ht; rcases ht with rfl | rfl | rfl | rfl <;> exact ⟨of_decide_eq_true rfl, of_decide_eq_true rfl, of_decide_eq_true rfl, of_decide_eq_true rfl⟩)) (by omega) hg
  rw [hbad] at kB
  clear hbad
  have kM := Lib.hid fun (g g2 : Nat) (W : World) (h : Hid (OArg W (some ⟨g, 0, none⟩) 1 fmO)) (h2 : Hid (NArg W (some ⟨g2, 0, none⟩) 4 fmN)) (hg : Hid (errTy W)) => tMay_any (some ⟨g, 0, none⟩) (some ⟨g2, 0, none⟩) 1 1 4 4 fmO fmN W h (Lib.hid fo_sz) (by omega) h2 (Lib.hid fm_sz) (by omega) hg
  rw [fm_may] at kM
  have h0l := hgl hg.out
  go_enter Tryd.func5, Tryd.ntmps5
  go_wp2_with fail
  refine (awake3_any _ hg).mono ?_
  rintro e w1 ⟨rfl, hb1⟩
  have hB1 := Lib.hid hb1
  have hw1s := hb1.size
  clear hb1
  go_wp2_with fail
  have hO0 := Lib.hid (oarg_alloc w1 #[.string ⟨#[97]⟩, .int .i64 0, .int .i64 0] fmO rfl 1 rfl)
  have hN0 := Lib.hid (narg_alloc (w1.alloc (.cells #[.string ⟨#[97]⟩, .int .i64 0, .int .i64 0] 48)) #[.int .i64 0, .int .i64 0, .int .i64 0, .int .i64 0, .int .i64 0, .string ⟨#[120]⟩, .string ⟨#[]⟩, .string ⟨#[]⟩, .string ⟨#[]⟩, .int .i64 0, .int .i64 1, .int .i64 0, .int .i64 0, .int .i64 0, .int .i64 4, .string ⟨#[]⟩, .string ⟨#[]⟩, .string ⟨#[]⟩, .string ⟨#[]⟩, .int .i64 0, .int .i64 8, .int .i64 0, .int .i64 1, .int .i64 0, .int .i64 5, .string ⟨#[]⟩, .string ⟨#[]⟩, .string ⟨#[]⟩, .string ⟨#[]⟩, .int .i64 0, .int .i64 3, .int .i64 2, .int .i64 0, .int .i64 0, .int .i64 0, .string ⟨#[]⟩, .string ⟨#[120]⟩, .string ⟨#[]⟩, .string ⟨#[]⟩, .int .i64 0] fmN rfl 4 rfl)
  have hBa := Lib.hid (show Below w.heap.size w ((w1.alloc (.cells #[.string ⟨#[97]⟩, .int .i64 0, .int .i64 0] 48)).alloc (.cells #[.int .i64 0, .int .i64 0, .int .i64 0, .int .i64 0, .int .i64 0, .string ⟨#[120]⟩, .string ⟨#[]⟩, .string ⟨#[]⟩, .string ⟨#[]⟩, .int .i64 0, .int .i64 1, .int .i64 0, .int .i64 0, .int .i64 0, .int .i64 4, .string ⟨#[]⟩, .string ⟨#[]⟩, .string ⟨#[]⟩, .string ⟨#[]⟩, .int .i64 0, .int .i64 8, .int .i64 0, .int .i64 1, .int .i64 0, .int .i64 5, .string ⟨#[]⟩, .string ⟨#[]⟩, .string ⟨#[]⟩, .string ⟨#[]⟩, .int .i64 0, .int .i64 3, .int .i64 2, .int .i64 0, .int .i64 0, .int .i64 0, .string ⟨#[]⟩, .string ⟨#[120]⟩, .string ⟨#[]⟩, .string ⟨#[]⟩, .int .i64 0] 45)) from by have := hB1.out; (repeat' (first | with_reducible exact Below.refl _ _ | with_reducible assumption | with_reducible apply Below.setCell | with_reducible apply Below.alloc | with_reducible apply Below.drew | with_reducible apply below_drewN | with_reducible exact Nat.le_refl _ | (simp; done) | (simp; omega) | omega | exact Nat.le_refl _)))
  refine (kM.out w1.heap.size (w1.heap.size + 1) _ (Lib.hid (hO0.out.below (by (repeat' (first | with_reducible exact Below.refl _ _ | with_reducible assumption | with_reducible apply Below.setCell | with_reducible apply Below.alloc | with_reducible apply Below.drew | with_reducible apply below_drewN | with_reducible exact Nat.le_refl _ | (simp; done) | (simp; omega) | omega | exact Nat.le_refl _))))) (Lib.hid (by have := hN0.out.below (w' := (((w1.alloc (.cells #[.string ⟨#[97]⟩, .int .i64 0, .int .i64 0] 48)).alloc (.cells #[.int .i64 0, .int .i64 0, .int .i64 0, .int .i64 0, .int .i64 0, .string ⟨#[120]⟩, .string ⟨#[]⟩, .string ⟨#[]⟩, .string ⟨#[]⟩, .int .i64 0, .int .i64 1, .int .i64 0, .int .i64 0, .int .i64 0, .int .i64 4, .string ⟨#[]⟩, .string ⟨#[]⟩, .string ⟨#[]⟩, .string ⟨#[]⟩, .int .i64 0, .int .i64 8, .int .i64 0, .int .i64 1, .int .i64 0, .int .i64 5, .string ⟨#[]⟩, .string ⟨#[]⟩, .string ⟨#[]⟩, .string ⟨#[]⟩, .int .i64 0, .int .i64 3, .int .i64 2, .int .i64 0, .int .i64 0, .int .i64 0, .string ⟨#[]⟩, .string ⟨#[120]⟩, .string ⟨#[]⟩, .string ⟨#[]⟩, .int .i64 0] 45)).alloc (.cells #[.slice (some ⟨w1.heap.size, 0, none⟩) 1 1, .slice (some ⟨w1.heap.size + 1, 0, none⟩) 4 4] 25))) (by (repeat' (first | with_reducible exact Below.refl _ _ | with_reducible assumption | with_reducible apply Below.setCell | with_reducible apply Below.alloc | with_reducible apply Below.drew | with_reducible apply below_drewN | with_reducible exact Nat.le_refl _ | (simp; done) | (simp; omega) | omega | exact Nat.le_refl _))); simpa using this)) (Lib.hid (errTy_below hg.out (by have := hBa.out; have := this.size; (repeat' (first | with_reducible exact Below.refl _ _ | with_reducible assumption | with_reducible apply Below.setCell | with_reducible apply Below.alloc | with_reducible apply Below.drew | with_reducible apply below_drewN | with_reducible exact Nat.le_refl _ | (simp; done) | (simp; omega) | omega | exact Nat.le_refl _)))))).mono ?_
  rintro e w2 ⟨rfl, hb2⟩
  have hB2 := Lib.hid (belT (show Below w.heap.size w _ from by have := hBa.out; have := this.size; (repeat' (first | with_reducible exact Below.refl _ _ | with_reducible assumption | with_reducible apply Below.setCell | with_reducible apply Below.alloc | with_reducible apply Below.drew | with_reducible apply below_drewN | with_reducible exact Nat.le_refl _ | (simp; done) | (simp; omega) | omega | exact Nat.le_refl _))) hb2)
  have p0 : w2.cell? ⟨w1.heap.size + 1 + 1, 0, none⟩ = some (.slice (some ⟨w1.heap.size, 0, none⟩) 1 1) := carry hb2 (by first | (simp; done) | (simp; omega)) (by rw [World.cell?_alloc_at _ _ _ _ (by simp)]; rfl)
  have p1 : w2.cell? ⟨w1.heap.size + 1 + 1, 1, none⟩ = some (.slice (some ⟨w1.heap.size + 1, 0, none⟩) 4 4) := carry hb2 (by first | (simp; done) | (simp; omega)) (by rw [World.cell?_alloc_at _ _ _ _ (by simp)]; rfl)
  have fp : ∀ o, w2.frozen? ⟨w1.heap.size + 1 + 1, o, none⟩ = false := fun o => by rw [hb2.frozen (p := ⟨w1.heap.size + 1 + 1, o, none⟩) (by first | (simp; done) | (simp; omega))]; simp [go_sem]
  have fn : ∀ o, w2.frozen? ⟨w1.heap.size + 1, o, none⟩ = false := fun o => by rw [hb2.frozen (p := ⟨w1.heap.size + 1, o, none⟩) (by first | (simp; done) | (simp; omega))]; simp [go_sem]
  have fo : ∀ o, w2.frozen? ⟨w1.heap.size, o, none⟩ = false := fun o => by rw [hb2.frozen (p := ⟨w1.heap.size, o, none⟩) (by first | (simp; done) | (simp; omega))]; simp [go_sem]
  have hO2 : Hid (OArg w2 (some ⟨w1.heap.size, 0, none⟩) 1 fmO) := Lib.hid ((hO0.out.below (w' := (((w1.alloc (.cells #[.string ⟨#[97]⟩, .int .i64 0, .int .i64 0] 48)).alloc (.cells #[.int .i64 0, .int .i64 0, .int .i64 0, .int .i64 0, .int .i64 0, .string ⟨#[120]⟩, .string ⟨#[]⟩, .string ⟨#[]⟩, .string ⟨#[]⟩, .int .i64 0, .int .i64 1, .int .i64 0, .int .i64 0, .int .i64 0, .int .i64 4, .string ⟨#[]⟩, .string ⟨#[]⟩, .string ⟨#[]⟩, .string ⟨#[]⟩, .int .i64 0, .int .i64 8, .int .i64 0, .int .i64 1, .int .i64 0, .int .i64 5, .string ⟨#[]⟩, .string ⟨#[]⟩, .string ⟨#[]⟩, .string ⟨#[]⟩, .int .i64 0, .int .i64 3, .int .i64 2, .int .i64 0, .int .i64 0, .int .i64 0, .string ⟨#[]⟩, .string ⟨#[120]⟩, .string ⟨#[]⟩, .string ⟨#[]⟩, .int .i64 0] 45)).alloc (.cells #[.slice (some ⟨w1.heap.size, 0, none⟩) 1 1, .slice (some ⟨w1.heap.size + 1, 0, none⟩) 4 4] 25))) (by (repeat' (first | with_reducible exact Below.refl _ _ | with_reducible assumption | with_reducible apply Below.setCell | with_reducible apply Below.alloc | with_reducible apply Below.drew | with_reducible apply below_drewN | with_reducible exact Nat.le_refl _ | (simp; done) | (simp; omega) | omega | exact Nat.le_refl _)))).below hb2)
  have hN2 : Hid (NArg w2 (some ⟨w1.heap.size + 1, 0, none⟩) 4 fmN) := Lib.hid (by have := (hN0.out.below (w' := (((w1.alloc (.cells #[.string ⟨#[97]⟩, .int .i64 0, .int .i64 0] 48)).alloc (.cells #[.int .i64 0, .int .i64 0, .int .i64 0, .int .i64 0, .int .i64 0, .string ⟨#[120]⟩, .string ⟨#[]⟩, .string ⟨#[]⟩, .string ⟨#[]⟩, .int .i64 0, .int .i64 1, .int .i64 0, .int .i64 0, .int .i64 0, .int .i64 4, .string ⟨#[]⟩, .string ⟨#[]⟩, .string ⟨#[]⟩, .string ⟨#[]⟩, .int .i64 0, .int .i64 8, .int .i64 0, .int .i64 1, .int .i64 0, .int .i64 5, .string ⟨#[]⟩, .string ⟨#[]⟩, .string ⟨#[]⟩, .string ⟨#[]⟩, .int .i64 0, .int .i64 3, .int .i64 2, .int .i64 0, .int .i64 0, .int .i64 0, .string ⟨#[]⟩, .string ⟨#[120]⟩, .string ⟨#[]⟩, .string ⟨#[]⟩, .int .i64 0] 45)).alloc (.cells #[.slice (some ⟨w1.heap.size, 0, none⟩) 1 1, .slice (some ⟨w1.heap.size + 1, 0, none⟩) 4 4] 25))) (by (repeat' (first | with_reducible exact Below.refl _ _ | with_reducible assumption | with_reducible apply Below.setCell | with_reducible apply Below.alloc | with_reducible apply Below.drew | with_reducible apply below_drewN | with_reducible exact Nat.le_refl _ | (simp; done) | (simp; omega) | omega | exact Nat.le_refl _)))).below hb2; simpa using this)
  have hz2 : w1.heap.size + 1 + 1 < w2.heap.size := by have := hb2.size; (try simp at this); omega
  have hNs : Hid (NdSl w2 (w1.heap.size + 1) 0 fmN) := Lib.hid (by
    rcases hN2.out.2 with h | ⟨b, off, h1, h2, h3⟩
    · cases h
    · injection h1 with h1; injection h1 with h4 h5 _; subst h4; subst h5; exact h2)
  have hOs : Hid (OrSl w2 w1.heap.size 0 fmO) := Lib.hid (by
    rcases hO2.out.2 with h | ⟨b, off, h1, h2, h3⟩
    · cases h
    · injection h1 with h1; injection h1 with h4 h5 _; subst h4; subst h5; exact h2)
  have hOwn2 := Lib.hid (OwnN.below (w1 := w2) (World.ownsRow.alloc (own_lit (B := w1.heap.size + 1) (w1.alloc (.cells #[.string ⟨#[97]⟩, .int .i64 0, .int .i64 0] 48)) #[.int .i64 0, .int .i64 0, .int .i64 0, .int .i64 0, .int .i64 0, .string ⟨#[120]⟩, .string ⟨#[]⟩, .string ⟨#[]⟩, .string ⟨#[]⟩, .int .i64 0, .int .i64 1, .int .i64 0, .int .i64 0, .int .i64 0, .int .i64 4, .string ⟨#[]⟩, .string ⟨#[]⟩, .string ⟨#[]⟩, .string ⟨#[]⟩, .int .i64 0, .int .i64 8, .int .i64 0, .int .i64 1, .int .i64 0, .int .i64 5, .string ⟨#[]⟩, .string ⟨#[]⟩, .string ⟨#[]⟩, .string ⟨#[]⟩, .int .i64 0, .int .i64 3, .int .i64 2, .int .i64 0, .int .i64 0, .int .i64 0, .string ⟨#[]⟩, .string ⟨#[120]⟩, .string ⟨#[]⟩, .string ⟨#[]⟩, .int .i64 0] fmN rfl 4 rfl (by simp) (by omega)) (.cells #[.slice (some ⟨w1.heap.size, 0, none⟩) 1 1, .slice (some ⟨w1.heap.size + 1, 0, none⟩) 4 4] 25)) hb2)
  clear hb2 kM hN0 hO0 hBa
  have hset := Lib.hid (ndSl_set (ts' := ([⟨0, 0, 0, 0, 0, ⟨#[120]⟩, ⟨#[]⟩, ⟨#[]⟩, ⟨#[]⟩, (-d)⟩, ⟨1, 0, 0, 0, 4, ⟨#[]⟩, ⟨#[]⟩, ⟨#[]⟩, ⟨#[]⟩, 0⟩, ⟨8, 0, 1, 0, 5, ⟨#[]⟩, ⟨#[]⟩, ⟨#[]⟩, ⟨#[]⟩, 0⟩, ⟨3, 2, 0, 0, 0, ⟨#[]⟩, ⟨#[120]⟩, ⟨#[]⟩, ⟨#[]⟩, 0⟩] : List Nd)) hNs.out 9 (.int .i64 (-d)) (.int .i64 0) rfl rfl)
  have fx := fn 9
  have hold : w2.cell? ⟨w1.heap.size + 1, 9, none⟩ = some (.int .i64 0) := by have := ndSl_get hNs.out 9 (.int .i64 0) rfl; rwa [Nat.zero_add] at this
  have hB2b := Lib.hid (hB2.out.setCell (p := ⟨w1.heap.size + 1, 9, none⟩) (by show _ ≤ w1.heap.size + 1; omega) (.int .i64 (-d)))
  have hOb : Hid (OArg (w2.setCell ⟨w1.heap.size + 1, 9, none⟩ (.int .i64 (-d))) (some ⟨w1.heap.size, 0, none⟩) 1 fmO) := Lib.hid ⟨rfl, .inr ⟨w1.heap.size, 0, rfl, hOs.out.below (B := w1.heap.size + 1) ((Below.refl _ _).setCell (p := ⟨w1.heap.size + 1, 9, none⟩) (Nat.le_refl _) _) (by omega), by simp; omega⟩⟩
  have hNb : Hid (NArg (w2.setCell ⟨w1.heap.size + 1, 9, none⟩ (.int .i64 (-d))) (some ⟨w1.heap.size + 1, 0, none⟩) 4 ([⟨0, 0, 0, 0, 0, ⟨#[120]⟩, ⟨#[]⟩, ⟨#[]⟩, ⟨#[]⟩, (-d)⟩, ⟨1, 0, 0, 0, 4, ⟨#[]⟩, ⟨#[]⟩, ⟨#[]⟩, ⟨#[]⟩, 0⟩, ⟨8, 0, 1, 0, 5, ⟨#[]⟩, ⟨#[]⟩, ⟨#[]⟩, ⟨#[]⟩, 0⟩, ⟨3, 2, 0, 0, 0, ⟨#[]⟩, ⟨#[120]⟩, ⟨#[]⟩, ⟨#[]⟩, 0⟩] : List Nd)) := Lib.hid ⟨rfl, .inr ⟨w1.heap.size + 1, 0, rfl, hset.out, by simp; omega⟩⟩
  have hgb := Lib.hid (errTy_below hg.out hB2b.out)
  clear hset fn fo fp
  go_wp2_with fail
  refine (kB.out _ _ _ hOb hNb hgb).mono ?_
  rintro e w3 ⟨rfl, hb3⟩
  have hB3 := Lib.hid (belT hB2b.out hb3)
  clear hb3
  go_wp2_with fail
  go_ret
  exact ⟨rfl, hB3.out⟩
set_option maxRecDepth 100000 in
set_option maxHeartbeats 8000000 in
theorem form14 (a0 a1 q d : Int) (hq : 0 ≤ q ∧ q < 1024) (hd : 1 + q = d) (hk : bits .and .i64 a1 1023 = q) (he : (IntKind.u64.wrap a0).tmod 20 = 14) (w : World) (hg : Hid (errTy w)) :
    Calls Tryd.prog 5 #[.int .i64 a0, .int .i64 a1] w (FmPost w) := by
  have hdb : 1 ≤ d ∧ d ≤ 1024 := by omega
  have hd1 : 1 ≤ d := hdb.1
  have hd2 : d ≤ 1024 := hdb.2
  have hbad : mayV fmO ([⟨0, 0, 0, 0, 0, ⟨#[120]⟩, ⟨#[]⟩, ⟨#[]⟩, ⟨#[]⟩, (4096 + d)⟩, ⟨1, 0, 0, 0, 4, ⟨#[]⟩, ⟨#[]⟩, ⟨#[]⟩, ⟨#[]⟩, 0⟩, ⟨8, 0, 1, 0, 5, ⟨#[]⟩, ⟨#[]⟩, ⟨#[]⟩, ⟨#[]⟩, 0⟩, ⟨3, 2, 0, 0, 0, ⟨#[]⟩, ⟨#[120]⟩, ⟨#[]⟩, ⟨#[]⟩, 0⟩] : List Nd) = false := by
    refine may_node _ _ 0 (of_decide_eq_true rfl) ?_
    show okC true ⟨0, 0, 0, 0, 0, ⟨#[120]⟩, ⟨#[]⟩, ⟨#[]⟩, ⟨#[]⟩, (4096 + d)⟩ = false
    unfold okC
    simp [plainC, numB, namedB, namesL]
    try omega
  have kB := Lib.hid fun (g g2 : Nat) (W : World) (h : Hid (OArg W (some ⟨g, 0, none⟩) 1 fmO)) (h2 : Hid (NArg W (some ⟨g2, 0, none⟩) 4 ([⟨0, 0, 0, 0, 0, ⟨#[120]⟩, ⟨#[]⟩, ⟨#[]⟩, ⟨#[]⟩, (4096 + d)⟩, ⟨1, 0, 0, 0, 4, ⟨#[]⟩, ⟨#[]⟩, ⟨#[]⟩, ⟨#[]⟩, 0⟩, ⟨8, 0, 1, 0, 5, ⟨#[]⟩, ⟨#[]⟩, ⟨#[]⟩, ⟨#[]⟩, 0⟩, ⟨3, 2, 0, 0, 0, ⟨#[]⟩, ⟨#[120]⟩, ⟨#[]⟩, ⟨#[]⟩, 0⟩] : List Nd))) (hg : Hid (errTy W)) => tMay_any (some ⟨g, 0, none⟩) (some ⟨g2, 0, none⟩) 1 1 4 4 fmO ([⟨0, 0, 0, 0, 0, ⟨#[120]⟩, ⟨#[]⟩, ⟨#[]⟩, ⟨#[]⟩, (4096 + d)⟩, ⟨1, 0, 0, 0, 4, ⟨#[]⟩, ⟨#[]⟩, ⟨#[]⟩, ⟨#[]⟩, 0⟩, ⟨8, 0, 1, 0, 5, ⟨#[]⟩, ⟨#[]⟩, ⟨#[]⟩, ⟨#[]⟩, 0⟩, ⟨3, 2, 0, 0, 0, ⟨#[]⟩, ⟨#[120]⟩, ⟨#[]⟩, ⟨#[]⟩, 0⟩] : List Nd) W h (Lib.hid fo_sz) (by omega) h2 (Lib.hid (by intro t ht; simp only [List.mem_cons, List.not_mem_nil, or_false] at ht; rcases ht with rfl | rfl | rfl | rfl <;> exact ⟨of_decide_eq_true rfl, of_decide_eq_true rfl, of_decide_eq_true rfl, of_decide_eq_true rfl⟩)) (by omega) hg
  rw [hbad] at kB
  clear hbad
  have kM := Lib.hid fun (g g2 : Nat) (W : World) (h : Hid (OArg W (some ⟨g, 0, none⟩) 1 fmO)) (h2 : Hid (NArg W (some ⟨g2, 0, none⟩) 4 fmN)) (hg : Hid (errTy W)) => tMay_any (some ⟨g, 0, none⟩) (some ⟨g2, 0, none⟩) 1 1 4 4 fmO fmN W h (Lib.hid fo_sz) (by omega) h2 (Lib.hid fm_sz) (by omega) hg
  rw [fm_may] at kM
  have h0l := hgl hg.out
  go_enter Tryd.func5, Tryd.ntmps5
  go_wp2_with fail
  refine (awake3_any _ hg).mono ?_
  rintro e w1 ⟨rfl, hb1⟩
  have hB1 := Lib.hid hb1
  have hw1s := hb1.size
  clear hb1
  go_wp2_with fail
  have hO0 := Lib.hid (oarg_alloc w1 #[.string ⟨#[97]⟩, .int .i64 0, .int .i64 0] fmO rfl 1 rfl)
  have hN0 := Lib.hid (narg_alloc (w1.alloc (.cells #[.string ⟨#[97]⟩, .int .i64 0, .int .i64 0] 48)) #[.int .i64 0, .int .i64 0, .int .i64 0, .int .i64 0, .int .i64 0, .string ⟨#[120]⟩, .string ⟨#[]⟩, .string ⟨#[]⟩, .string ⟨#[]⟩, .int .i64 0, .int .i64 1, .int .i64 0, .int .i64 0, .int .i64 0, .int .i64 4, .string ⟨#[]⟩, .string ⟨#[]⟩, .string ⟨#[]⟩, .string ⟨#[]⟩, .int .i64 0, .int .i64 8, .int .i64 0, .int .i64 1, .int .i64 0, .int .i64 5, .string ⟨#[]⟩, .string ⟨#[]⟩, .string ⟨#[]⟩, .string ⟨#[]⟩, .int .i64 0, .int .i64 3, .int .i64 2, .int .i64 0, .int .i64 0, .int .i64 0, .string ⟨#[]⟩, .string ⟨#[120]⟩, .string ⟨#[]⟩, .string ⟨#[]⟩, .int .i64 0] fmN rfl 4 rfl)
  have hBa := Lib.hid (show Below w.heap.size w ((w1.alloc (.cells #[.string ⟨#[97]⟩, .int .i64 0, .int .i64 0] 48)).alloc (.cells #[.int .i64 0, .int .i64 0, .int .i64 0, .int .i64 0, .int .i64 0, .string ⟨#[120]⟩, .string ⟨#[]⟩, .string ⟨#[]⟩, .string ⟨#[]⟩, .int .i64 0, .int .i64 1, .int .i64 0, .int .i64 0, .int .i64 0, .int .i64 4, .string ⟨#[]⟩, .string ⟨#[]⟩, .string ⟨#[]⟩, .string ⟨#[]⟩, .int .i64 0, .int .i64 8, .int .i64 0, .int .i64 1, .int .i64 0, .int .i64 5, .string ⟨#[]⟩, .string ⟨#[]⟩, .string ⟨#[]⟩, .string ⟨#[]⟩, .int .i64 0, .int .i64 3, .int .i64 2, .int .i64 0, .int .i64 0, .int .i64 0, .string ⟨#[]⟩, .string ⟨#[120]⟩, .string ⟨#[]⟩, .string ⟨#[]⟩, .int .i64 0] 45)) from by have := hB1.out; (repeat' (first | with_reducible exact Below.refl _ _ | with_reducible assumption | with_reducible apply Below.setCell | with_reducible apply Below.alloc | with_reducible apply Below.drew | with_reducible apply below_drewN | with_reducible exact Nat.le_refl _ | (simp; done) | (simp; omega) | omega | exact Nat.le_refl _)))
  refine (kM.out w1.heap.size (w1.heap.size + 1) _ (Lib.hid (hO0.out.below (by (repeat' (first | with_reducible exact Below.refl _ _ | with_reducible assumption | with_reducible apply Below.setCell | with_reducible apply Below.alloc | with_reducible apply Below.drew | with_reducible apply below_drewN | with_reducible exact Nat.le_refl _ | (simp; done) | (simp; omega) | omega | exact Nat.le_refl _))))) (Lib.hid (by have := hN0.out.below (w' := (((w1.alloc (.cells #[.string ⟨#[97]⟩, .int .i64 0, .int .i64 0] 48)).alloc (.cells #[.int .i64 0, .int .i64 0, .int .i64 0, .int .i64 0, .int .i64 0, .string ⟨#[120]⟩, .string ⟨#[]⟩, .string ⟨#[]⟩, .string ⟨#[]⟩, .int .i64 0, .int .i64 1, .int .i64 0, .int .i64 0, .int .i64 0, .int .i64 4, .string ⟨#[]⟩, .string ⟨#[]⟩, .string ⟨#[]⟩, .string ⟨#[]⟩, .int .i64 0, .int .i64 8, .int .i64 0, .int .i64 1, .int .i64 0, .int .i64 5, .string ⟨#[]⟩, .string ⟨#[]⟩, .string ⟨#[]⟩, .string ⟨#[]⟩, .int .i64 0, .int .i64 3, .int .i64 2, .int .i64 0, .int .i64 0, .int .i64 0, .string ⟨#[]⟩, .string ⟨#[120]⟩, .string ⟨#[]⟩, .string ⟨#[]⟩, .int .i64 0] 45)).alloc (.cells #[.slice (some ⟨w1.heap.size, 0, none⟩) 1 1, .slice (some ⟨w1.heap.size + 1, 0, none⟩) 4 4] 25))) (by (repeat' (first | with_reducible exact Below.refl _ _ | with_reducible assumption | with_reducible apply Below.setCell | with_reducible apply Below.alloc | with_reducible apply Below.drew | with_reducible apply below_drewN | with_reducible exact Nat.le_refl _ | (simp; done) | (simp; omega) | omega | exact Nat.le_refl _))); simpa using this)) (Lib.hid (errTy_below hg.out (by have := hBa.out; have := this.size; (repeat' (first | with_reducible exact Below.refl _ _ | with_reducible assumption | with_reducible apply Below.setCell | with_reducible apply Below.alloc | with_reducible apply Below.drew | with_reducible apply below_drewN | with_reducible exact Nat.le_refl _ | (simp; done) | (simp; omega) | omega | exact Nat.le_refl _)))))).mono ?_
  rintro e w2 ⟨rfl, hb2⟩
  have hB2 := Lib.hid (belT (show Below w.heap.size w _ from by have := hBa.out; have := this.size; (repeat' (first | with_reducible exact Below.refl _ _ | with_reducible assumption | with_reducible apply Below.setCell | with_reducible apply Below.alloc | with_reducible apply Below.drew | with_reducible apply below_drewN | with_reducible exact Nat.le_refl _ | (simp; done) | (simp; omega) | omega | exact Nat.le_refl _))) hb2)
  have p0 : w2.cell? ⟨w1.heap.size + 1 + 1, 0, none⟩ = some (.slice (some ⟨w1.heap.size, 0, none⟩) 1 1) := carry hb2 (by first | (simp; done) | (simp; omega)) (by rw [World.cell?_alloc_at _ _ _ _ (by simp)]; rfl)
  have p1 : w2.cell? ⟨w1.heap.size + 1 + 1, 1, none⟩ = some (.slice (some ⟨w1.heap.size + 1, 0, none⟩) 4 4) := carry hb2 (by first | (simp; done) | (simp; omega)) (by rw [World.cell?_alloc_at _ _ _ _ (by simp)]; rfl)
  have fp : ∀ o, w2.frozen? ⟨w1.heap.size + 1 + 1, o, none⟩ = false := fun o => by rw [hb2.frozen (p := ⟨w1.heap.size + 1 + 1, o, none⟩) (by first | (simp; done) | (simp; omega))]; simp [go_sem]
  have fn : ∀ o, w2.frozen? ⟨w1.heap.size + 1, o, none⟩ = false := fun o => by rw [hb2.frozen (p := ⟨w1.heap.size + 1, o, none⟩) (by first | (simp; done) | (simp; omega))]; simp [go_sem]
  have fo : ∀ o, w2.frozen? ⟨w1.heap.size, o, none⟩ = false := fun o => by rw [hb2.frozen (p := ⟨w1.heap.size, o, none⟩) (by first | (simp; done) | (simp; omega))]; simp [go_sem]
  have hO2 : Hid (OArg w2 (some ⟨w1.heap.size, 0, none⟩) 1 fmO) := Lib.hid ((hO0.out.below (w' := (((w1.alloc (.cells #[.string ⟨#[97]⟩, .int .i64 0, .int .i64 0] 48)).alloc (.cells #[.int .i64 0, .int .i64 0, .int .i64 0, .int .i64 0, .int .i64 0, .string ⟨#[120]⟩, .string ⟨#[]⟩, .string ⟨#[]⟩, .string ⟨#[]⟩, .int .i64 0, .int .i64 1, .int .i64 0, .int .i64 0, .int .i64 0, .int .i64 4, .string ⟨#[]⟩, .string ⟨#[]⟩, .string ⟨#[]⟩, .string ⟨#[]⟩, .int .i64 0, .int .i64 8, .int .i64 0, .int .i64 1, .int .i64 0, .int .i64 5, .string ⟨#[]⟩, .string ⟨#[]⟩, .string ⟨#[]⟩, .string ⟨#[]⟩, .int .i64 0, .int .i64 3, .int .i64 2, .int .i64 0, .int .i64 0, .int .i64 0, .string ⟨#[]⟩, .string ⟨#[120]⟩, .string ⟨#[]⟩, .string ⟨#[]⟩, .int .i64 0] 45)).alloc (.cells #[.slice (some ⟨w1.heap.size, 0, none⟩) 1 1, .slice (some ⟨w1.heap.size + 1, 0, none⟩) 4 4] 25))) (by (repeat' (first | with_reducible exact Below.refl _ _ | with_reducible assumption | with_reducible apply Below.setCell | with_reducible apply Below.alloc | with_reducible apply Below.drew | with_reducible apply below_drewN | with_reducible exact Nat.le_refl _ | (simp; done) | (simp; omega) | omega | exact Nat.le_refl _)))).below hb2)
  have hN2 : Hid (NArg w2 (some ⟨w1.heap.size + 1, 0, none⟩) 4 fmN) := Lib.hid (by have := (hN0.out.below (w' := (((w1.alloc (.cells #[.string ⟨#[97]⟩, .int .i64 0, .int .i64 0] 48)).alloc (.cells #[.int .i64 0, .int .i64 0, .int .i64 0, .int .i64 0, .int .i64 0, .string ⟨#[120]⟩, .string ⟨#[]⟩, .string ⟨#[]⟩, .string ⟨#[]⟩, .int .i64 0, .int .i64 1, .int .i64 0, .int .i64 0, .int .i64 0, .int .i64 4, .string ⟨#[]⟩, .string ⟨#[]⟩, .string ⟨#[]⟩, .string ⟨#[]⟩, .int .i64 0, .int .i64 8, .int .i64 0, .int .i64 1, .int .i64 0, .int .i64 5, .string ⟨#[]⟩, .string ⟨#[]⟩, .string ⟨#[]⟩, .string ⟨#[]⟩, .int .i64 0, .int .i64 3, .int .i64 2, .int .i64 0, .int .i64 0, .int .i64 0, .string ⟨#[]⟩, .string ⟨#[120]⟩, .string ⟨#[]⟩, .string ⟨#[]⟩, .int .i64 0] 45)).alloc (.cells #[.slice (some ⟨w1.heap.size, 0, none⟩) 1 1, .slice (some ⟨w1.heap.size + 1, 0, none⟩) 4 4] 25))) (by (repeat' (first | with_reducible exact Below.refl _ _ | with_reducible assumption | with_reducible apply Below.setCell | with_reducible apply Below.alloc | with_reducible apply Below.drew | with_reducible apply below_drewN | with_reducible exact Nat.le_refl _ | (simp; done) | (simp; omega) | omega | exact Nat.le_refl _)))).below hb2; simpa using this)
  have hz2 : w1.heap.size + 1 + 1 < w2.heap.size := by have := hb2.size; (try simp at this); omega
  have hNs : Hid (NdSl w2 (w1.heap.size + 1) 0 fmN) := Lib.hid (by
    rcases hN2.out.2 with h | ⟨b, off, h1, h2, h3⟩
    · cases h
    · injection h1 with h1; injection h1 with h4 h5 _; subst h4; subst h5; exact h2)
  have hOs : Hid (OrSl w2 w1.heap.size 0 fmO) := Lib.hid (by
    rcases hO2.out.2 with h | ⟨b, off, h1, h2, h3⟩
    · cases h
    · injection h1 with h1; injection h1 with h4 h5 _; subst h4; subst h5; exact h2)
  have hOwn2 := Lib.hid (OwnN.below (w1 := w2) (World.ownsRow.alloc (own_lit (B := w1.heap.size + 1) (w1.alloc (.cells #[.string ⟨#[97]⟩, .int .i64 0, .int .i64 0] 48)) #[.int .i64 0, .int .i64 0, .int .i64 0, .int .i64 0, .int .i64 0, .string ⟨#[120]⟩, .string ⟨#[]⟩, .string ⟨#[]⟩, .string ⟨#[]⟩, .int .i64 0, .int .i64 1, .int .i64 0, .int .i64 0, .int .i64 0, .int .i64 4, .string ⟨#[]⟩, .string ⟨#[]⟩, .string ⟨#[]⟩, .string ⟨#[]⟩, .int .i64 0, .int .i64 8, .int .i64 0, .int .i64 1, .int .i64 0, .int .i64 5, .string ⟨#[]⟩, .string ⟨#[]⟩, .string ⟨#[]⟩, .string ⟨#[]⟩, .int .i64 0, .int .i64 3, .int .i64 2, .int .i64 0, .int .i64 0, .int .i64 0, .string ⟨#[]⟩, .string ⟨#[120]⟩, .string ⟨#[]⟩, .string ⟨#[]⟩, .int .i64 0] fmN rfl 4 rfl (by simp) (by omega)) (.cells #[.slice (some ⟨w1.heap.size, 0, none⟩) 1 1, .slice (some ⟨w1.heap.size + 1, 0, none⟩) 4 4] 25)) hb2)
  clear hb2 kM hN0 hO0 hBa
  have hset := Lib.hid (ndSl_set (ts' := ([⟨0, 0, 0, 0, 0, ⟨#[120]⟩, ⟨#[]⟩, ⟨#[]⟩, ⟨#[]⟩, (4096 + d)⟩, ⟨1, 0, 0, 0, 4, ⟨#[]⟩, ⟨#[]⟩, ⟨#[]⟩, ⟨#[]⟩, 0⟩, ⟨8, 0, 1, 0, 5, ⟨#[]⟩, ⟨#[]⟩, ⟨#[]⟩, ⟨#[]⟩, 0⟩, ⟨3, 2, 0, 0, 0, ⟨#[]⟩, ⟨#[120]⟩, ⟨#[]⟩, ⟨#[]⟩, 0⟩] : List Nd)) hNs.out 9 (.int .i64 (4096 + d)) (.int .i64 0) rfl rfl)
  have fx := fn 9
  have hold : w2.cell? ⟨w1.heap.size + 1, 9, none⟩ = some (.int .i64 0) := by have := ndSl_get hNs.out 9 (.int .i64 0) rfl; rwa [Nat.zero_add] at this
  have hB2b := Lib.hid (hB2.out.setCell (p := ⟨w1.heap.size + 1, 9, none⟩) (by show _ ≤ w1.heap.size + 1; omega) (.int .i64 (4096 + d)))
  have hOb : Hid (OArg (w2.setCell ⟨w1.heap.size + 1, 9, none⟩ (.int .i64 (4096 + d))) (some ⟨w1.heap.size, 0, none⟩) 1 fmO) := Lib.hid ⟨rfl, .inr ⟨w1.heap.size, 0, rfl, hOs.out.below (B := w1.heap.size + 1) ((Below.refl _ _).setCell (p := ⟨w1.heap.size + 1, 9, none⟩) (Nat.le_refl _) _) (by omega), by simp; omega⟩⟩
  have hNb : Hid (NArg (w2.setCell ⟨w1.heap.size + 1, 9, none⟩ (.int .i64 (4096 + d))) (some ⟨w1.heap.size + 1, 0, none⟩) 4 ([⟨0, 0, 0, 0, 0, ⟨#[120]⟩, ⟨#[]⟩, ⟨#[]⟩, ⟨#[]⟩, (4096 + d)⟩, ⟨1, 0, 0, 0, 4, ⟨#[]⟩, ⟨#[]⟩, ⟨#[]⟩, ⟨#[]⟩, 0⟩, ⟨8, 0, 1, 0, 5, ⟨#[]⟩, ⟨#[]⟩, ⟨#[]⟩, ⟨#[]⟩, 0⟩, ⟨3, 2, 0, 0, 0, ⟨#[]⟩, ⟨#[120]⟩, ⟨#[]⟩, ⟨#[]⟩, 0⟩] : List Nd)) := Lib.hid ⟨rfl, .inr ⟨w1.heap.size + 1, 0, rfl, hset.out, by simp; omega⟩⟩
  have hgb := Lib.hid (errTy_below hg.out hB2b.out)
  clear hset fn fo fp
  go_wp2_with fail
  refine (kB.out _ _ _ hOb hNb hgb).mono ?_
  rintro e w3 ⟨rfl, hb3⟩
  have hB3 := Lib.hid (belT hB2b.out hb3)
  clear hb3
  go_wp2_with fail
  go_ret
  exact ⟨rfl, hB3.out⟩
set_option maxRecDepth 100000 in
set_option maxHeartbeats 8000000 in
theorem form15 (a0 a1 q d : Int) (hq : 0 ≤ q ∧ q < 1024) (hd : 1 + q = d) (hk : bits .and .i64 a1 1023 = q) (he : (IntKind.u64.wrap a0).tmod 20 = 15) (w : World) (hg : Hid (errTy w)) :
    Calls Tryd.prog 5 #[.int .i64 a0, .int .i64 a1] w (FmPost w) := by
  have hdb : 1 ≤ d ∧ d ≤ 1024 := by omega
  have hd1 : 1 ≤ d := hdb.1
  have hd2 : d ≤ 1024 := hdb.2
  have hbad : mayV ([⟨⟨#[97, 32, 98]⟩, 0, 0⟩] : List Or) fmN = false := by unfold mayV; rw [opsV_op (j := 0) (of_decide_eq_true rfl) (by decide +kernel)]; rfl
  have kB := Lib.hid fun (g g2 : Nat) (W : World) (h : Hid (OArg W (some ⟨g, 0, none⟩) 1 ([⟨⟨#[97, 32, 98]⟩, 0, 0⟩] : List Or))) (h2 : Hid (NArg W (some ⟨g2, 0, none⟩) 4 fmN)) (hg : Hid (errTy W)) => tMay_any (some ⟨g, 0, none⟩) (some ⟨g2, 0, none⟩) 1 1 4 4 ([⟨⟨#[97, 32, 98]⟩, 0, 0⟩] : List Or) fmN W h (Lib.hid (by intro t ht; simp only [List.mem_cons, List.not_mem_nil, or_false] at ht; subst ht; unfold OrSz; exact of_decide_eq_true rfl)) (by omega) h2 (Lib.hid fm_sz) (by omega) hg
  rw [hbad] at kB
  clear hbad
  have kM := Lib.hid fun (g g2 : Nat) (W : World) (h : Hid (OArg W (some ⟨g, 0, none⟩) 1 fmO)) (h2 : Hid (NArg W (some ⟨g2, 0, none⟩) 4 fmN)) (hg : Hid (errTy W)) => tMay_any (some ⟨g, 0, none⟩) (some ⟨g2, 0, none⟩) 1 1 4 4 fmO fmN W h (Lib.hid fo_sz) (by omega) h2 (Lib.hid fm_sz) (by omega) hg
  rw [fm_may] at kM
  have h0l := hgl hg.out
  go_enter Tryd.func5, Tryd.ntmps5
  go_wp2_with fail
  refine (awake3_any _ hg).mono ?_
  rintro e w1 ⟨rfl, hb1⟩
  have hB1 := Lib.hid hb1
  have hw1s := hb1.size
  clear hb1
  go_wp2_with fail
  have hO0 := Lib.hid (oarg_alloc w1 #[.string ⟨#[97]⟩, .int .i64 0, .int .i64 0] fmO rfl 1 rfl)
  have hN0 := Lib.hid (narg_alloc (w1.alloc (.cells #[.string ⟨#[97]⟩, .int .i64 0, .int .i64 0] 48)) #[.int .i64 0, .int .i64 0, .int .i64 0, .int .i64 0, .int .i64 0, .string ⟨#[120]⟩, .string ⟨#[]⟩, .string ⟨#[]⟩, .string ⟨#[]⟩, .int .i64 0, .int .i64 1, .int .i64 0, .int .i64 0, .int .i64 0, .int .i64 4, .string ⟨#[]⟩, .string ⟨#[]⟩, .string ⟨#[]⟩, .string ⟨#[]⟩, .int .i64 0, .int .i64 8, .int .i64 0, .int .i64 1, .int .i64 0, .int .i64 5, .string ⟨#[]⟩, .string ⟨#[]⟩, .string ⟨#[]⟩, .string ⟨#[]⟩, .int .i64 0, .int .i64 3, .int .i64 2, .int .i64 0, .int .i64 0, .int .i64 0, .string ⟨#[]⟩, .string ⟨#[120]⟩, .string ⟨#[]⟩, .string ⟨#[]⟩, .int .i64 0] fmN rfl 4 rfl)
  have hBa := Lib.hid (show Below w.heap.size w ((w1.alloc (.cells #[.string ⟨#[97]⟩, .int .i64 0, .int .i64 0] 48)).alloc (.cells #[.int .i64 0, .int .i64 0, .int .i64 0, .int .i64 0, .int .i64 0, .string ⟨#[120]⟩, .string ⟨#[]⟩, .string ⟨#[]⟩, .string ⟨#[]⟩, .int .i64 0, .int .i64 1, .int .i64 0, .int .i64 0, .int .i64 0, .int .i64 4, .string ⟨#[]⟩, .string ⟨#[]⟩, .string ⟨#[]⟩, .string ⟨#[]⟩, .int .i64 0, .int .i64 8, .int .i64 0, .int .i64 1, .int .i64 0, .int .i64 5, .string ⟨#[]⟩, .string ⟨#[]⟩, .string ⟨#[]⟩, .string ⟨#[]⟩, .int .i64 0, .int .i64 3, .int .i64 2, .int .i64 0, .int .i64 0, .int .i64 0, .string ⟨#[]⟩, .string ⟨#[120]⟩, .string ⟨#[]⟩, .string ⟨#[]⟩, .int .i64 0] 45)) from by have := hB1.out; (repeat' (first | with_reducible exact Below.refl _ _ | with_reducible assumption | with_reducible apply Below.setCell | with_reducible apply Below.alloc | with_reducible apply Below.drew | with_reducible apply below_drewN | with_reducible exact Nat.le_refl _ | (simp; done) | (simp; omega) | omega | exact Nat.le_refl _)))
  refine (kM.out w1.heap.size (w1.heap.size + 1) _ (Lib.hid (hO0.out.below (by (repeat' (first | with_reducible exact Below.refl _ _ | with_reducible assumption | with_reducible apply Below.setCell | with_reducible apply Below.alloc | with_reducible apply Below.drew | with_reducible apply below_drewN | with_reducible exact Nat.le_refl _ | (simp; done) | (simp; omega) | omega | exact Nat.le_refl _))))) (Lib.hid (by have := hN0.out.below (w' := (((w1.alloc (.cells #[.string ⟨#[97]⟩, .int .i64 0, .int .i64 0] 48)).alloc (.cells #[.int .i64 0, .int .i64 0, .int .i64 0, .int .i64 0, .int .i64 0, .string ⟨#[120]⟩, .string ⟨#[]⟩, .string ⟨#[]⟩, .string ⟨#[]⟩, .int .i64 0, .int .i64 1, .int .i64 0, .int .i64 0, .int .i64 0, .int .i64 4, .string ⟨#[]⟩, .string ⟨#[]⟩, .string ⟨#[]⟩, .string ⟨#[]⟩, .int .i64 0, .int .i64 8, .int .i64 0, .int .i64 1, .int .i64 0, .int .i64 5, .string ⟨#[]⟩, .string ⟨#[]⟩, .string ⟨#[]⟩, .string ⟨#[]⟩, .int .i64 0, .int .i64 3, .int .i64 2, .int .i64 0, .int .i64 0, .int .i64 0, .string ⟨#[]⟩, .string ⟨#[120]⟩, .string ⟨#[]⟩, .string ⟨#[]⟩, .int .i64 0] 45)).alloc (.cells #[.slice (some ⟨w1.heap.size, 0, none⟩) 1 1, .slice (some ⟨w1.heap.size + 1, 0, none⟩) 4 4] 25))) (by (repeat' (first | with_reducible exact Below.refl _ _ | with_reducible assumption | with_reducible apply Below.setCell | with_reducible apply Below.alloc | with_reducible apply Below.drew | with_reducible apply below_drewN | with_reducible exact Nat.le_refl _ | (simp; done) | (simp; omega) | omega | exact Nat.le_refl _))); simpa using this)) (Lib.hid (errTy_below hg.out (by have := hBa.out; have := this.size; (repeat' (first | with_reducible exact Below.refl _ _ | with_reducible assumption | with_reducible apply Below.setCell | with_reducible apply Below.alloc | with_reducible apply Below.drew | with_reducible apply below_drewN | with_reducible exact Nat.le_refl _ | (simp; done) | (simp; omega) | omega | exact Nat.le_refl _)))))).mono ?_
  rintro e w2 ⟨rfl, hb2⟩
  have hB2 := Lib.hid (belT (show Below w.heap.size w _ from by have := hBa.out; have := this.size; (repeat' (first | with_reducible exact Below.refl _ _ | with_reducible assumption | with_reducible apply Below.setCell | with_reducible apply Below.alloc | with_reducible apply Below.drew | with_reducible apply below_drewN | with_reducible exact Nat.le_refl _ | (simp; done) | (simp; omega) | omega | exact Nat.le_refl _))) hb2)
  have p0 : w2.cell? ⟨w1.heap.size + 1 + 1, 0, none⟩ = some (.slice (some ⟨w1.heap.size, 0, none⟩) 1 1) := carry hb2 (by first | (simp; done) | (simp; omega)) (by rw [World.cell?_alloc_at _ _ _ _ (by simp)]; rfl)
  have p1 : w2.cell? ⟨w1.heap.size + 1 + 1, 1, none⟩ = some (.slice (some ⟨w1.heap.size + 1, 0, none⟩) 4 4) := carry hb2 (by first | (simp; done) | (simp; omega)) (by rw [World.cell?_alloc_at _ _ _ _ (by simp)]; rfl)
  have fp : ∀ o, w2.frozen? ⟨w1.heap.size + 1 + 1, o, none⟩ = false := fun o => by rw [hb2.frozen (p := ⟨w1.heap.size + 1 + 1, o, none⟩) (by first | (simp; done) | (simp; omega))]; simp [go_sem]
  have fn : ∀ o, w2.frozen? ⟨w1.heap.size + 1, o, none⟩ = false := fun o => by rw [hb2.frozen (p := ⟨w1.heap.size + 1, o, none⟩) (by first | (simp; done) | (simp; omega))]; simp [go_sem]
  have fo : ∀ o, w2.frozen? ⟨w1.heap.size, o, none⟩ = false := fun o => by rw [hb2.frozen (p := ⟨w1.heap.size, o, none⟩) (by first | (simp; done) | (simp; omega))]; simp [go_sem]
  have hO2 : Hid (OArg w2 (some ⟨w1.heap.size, 0, none⟩) 1 fmO) := Lib.hid ((hO0.out.below (w' := (((w1.alloc (.cells #[.string ⟨#[97]⟩, .int .i64 0, .int .i64 0] 48)).alloc (.cells #[.int .i64 0, .int .i64 0, .int .i64 0, .int .i64 0, .int .i64 0, .string ⟨#[120]⟩, .string ⟨#[]⟩, .string ⟨#[]⟩, .string ⟨#[]⟩, .int .i64 0, .int .i64 1, .int .i64 0, .int .i64 0, .int .i64 0, .int .i64 4, .string ⟨#[]⟩, .string ⟨#[]⟩, .string ⟨#[]⟩, .string ⟨#[]⟩, .int .i64 0, .int .i64 8, .int .i64 0, .int .i64 1, .int .i64 0, .int .i64 5, .string ⟨#[]⟩, .string ⟨#[]⟩, .string ⟨#[]⟩, .string ⟨#[]⟩, .int .i64 0, .int .i64 3, .int .i64 2, .int .i64 0, .int .i64 0, .int .i64 0, .string ⟨#[]⟩, .string ⟨#[120]⟩, .string ⟨#[]⟩, .string ⟨#[]⟩, .int .i64 0] 45)).alloc (.cells #[.slice (some ⟨w1.heap.size, 0, none⟩) 1 1, .slice (some ⟨w1.heap.size + 1, 0, none⟩) 4 4] 25))) (by (repeat' (first | with_reducible exact Below.refl _ _ | with_reducible assumption | with_reducible apply Below.setCell | with_reducible apply Below.alloc | with_reducible apply Below.drew | with_reducible apply below_drewN | with_reducible exact Nat.le_refl _ | (simp; done) | (simp; omega) | omega | exact Nat.le_refl _)))).below hb2)
  have hN2 : Hid (NArg w2 (some ⟨w1.heap.size + 1, 0, none⟩) 4 fmN) := Lib.hid (by have := (hN0.out.below (w' := (((w1.alloc (.cells #[.string ⟨#[97]⟩, .int .i64 0, .int .i64 0] 48)).alloc (.cells #[.int .i64 0, .int .i64 0, .int .i64 0, .int .i64 0, .int .i64 0, .string ⟨#[120]⟩, .string ⟨#[]⟩, .string ⟨#[]⟩, .string ⟨#[]⟩, .int .i64 0, .int .i64 1, .int .i64 0, .int .i64 0, .int .i64 0, .int .i64 4, .string ⟨#[]⟩, .string ⟨#[]⟩, .string ⟨#[]⟩, .string ⟨#[]⟩, .int .i64 0, .int .i64 8, .int .i64 0, .int .i64 1, .int .i64 0, .int .i64 5, .string ⟨#[]⟩, .string ⟨#[]⟩, .string ⟨#[]⟩, .string ⟨#[]⟩, .int .i64 0, .int .i64 3, .int .i64 2, .int .i64 0, .int .i64 0, .int .i64 0, .string ⟨#[]⟩, .string ⟨#[120]⟩, .string ⟨#[]⟩, .string ⟨#[]⟩, .int .i64 0] 45)).alloc (.cells #[.slice (some ⟨w1.heap.size, 0, none⟩) 1 1, .slice (some ⟨w1.heap.size + 1, 0, none⟩) 4 4] 25))) (by (repeat' (first | with_reducible exact Below.refl _ _ | with_reducible assumption | with_reducible apply Below.setCell | with_reducible apply Below.alloc | with_reducible apply Below.drew | with_reducible apply below_drewN | with_reducible exact Nat.le_refl _ | (simp; done) | (simp; omega) | omega | exact Nat.le_refl _)))).below hb2; simpa using this)
  have hz2 : w1.heap.size + 1 + 1 < w2.heap.size := by have := hb2.size; (try simp at this); omega
  have hNs : Hid (NdSl w2 (w1.heap.size + 1) 0 fmN) := Lib.hid (by
    rcases hN2.out.2 with h | ⟨b, off, h1, h2, h3⟩
    · cases h
    · injection h1 with h1; injection h1 with h4 h5 _; subst h4; subst h5; exact h2)
  have hOs : Hid (OrSl w2 w1.heap.size 0 fmO) := Lib.hid (by
    rcases hO2.out.2 with h | ⟨b, off, h1, h2, h3⟩
    · cases h
    · injection h1 with h1; injection h1 with h4 h5 _; subst h4; subst h5; exact h2)
  have hOwn2 := Lib.hid (OwnN.below (w1 := w2) (World.ownsRow.alloc (own_lit (B := w1.heap.size + 1) (w1.alloc (.cells #[.string ⟨#[97]⟩, .int .i64 0, .int .i64 0] 48)) #[.int .i64 0, .int .i64 0, .int .i64 0, .int .i64 0, .int .i64 0, .string ⟨#[120]⟩, .string ⟨#[]⟩, .string ⟨#[]⟩, .string ⟨#[]⟩, .int .i64 0, .int .i64 1, .int .i64 0, .int .i64 0, .int .i64 0, .int .i64 4, .string ⟨#[]⟩, .string ⟨#[]⟩, .string ⟨#[]⟩, .string ⟨#[]⟩, .int .i64 0, .int .i64 8, .int .i64 0, .int .i64 1, .int .i64 0, .int .i64 5, .string ⟨#[]⟩, .string ⟨#[]⟩, .string ⟨#[]⟩, .string ⟨#[]⟩, .int .i64 0, .int .i64 3, .int .i64 2, .int .i64 0, .int .i64 0, .int .i64 0, .string ⟨#[]⟩, .string ⟨#[120]⟩, .string ⟨#[]⟩, .string ⟨#[]⟩, .int .i64 0] fmN rfl 4 rfl (by simp) (by omega)) (.cells #[.slice (some ⟨w1.heap.size, 0, none⟩) 1 1, .slice (some ⟨w1.heap.size + 1, 0, none⟩) 4 4] 25)) hb2)
  clear hb2 kM hN0 hO0 hBa
  have hset := Lib.hid (orSl_set (ts' := ([⟨⟨#[97, 32, 98]⟩, 0, 0⟩] : List Or)) hOs.out 0 (.string ⟨#[97, 32, 98]⟩) (.string ⟨#[97]⟩) rfl rfl)
  have fx := fo 0
  have hold : w2.cell? ⟨w1.heap.size, 0, none⟩ = some (.string ⟨#[97]⟩) := by have := orSl_get hOs.out 0 (.string ⟨#[97]⟩) rfl; rwa [Nat.zero_add] at this
  have hB2b := Lib.hid (hB2.out.setCell (p := ⟨w1.heap.size, 0, none⟩) (by show _ ≤ w1.heap.size; omega) (.string ⟨#[97, 32, 98]⟩))
  have hNb : Hid (NArg (w2.setCell ⟨w1.heap.size, 0, none⟩ (.string ⟨#[97, 32, 98]⟩)) (some ⟨w1.heap.size + 1, 0, none⟩) 4 fmN) := Lib.hid ⟨rfl, .inr ⟨w1.heap.size + 1, 0, rfl, fun i hi => by
    have hT := hNs.out i hi
    unfold NdAt at *
    simp only [cell_set _ _ _ _ _ _ _ hold, show ¬ (w1.heap.size + 1 = w1.heap.size) from by omega, false_and, if_false]
    exact hT, by simp; omega⟩⟩
  have hOb : Hid (OArg (w2.setCell ⟨w1.heap.size, 0, none⟩ (.string ⟨#[97, 32, 98]⟩)) (some ⟨w1.heap.size, 0, none⟩) 1 ([⟨⟨#[97, 32, 98]⟩, 0, 0⟩] : List Or)) := Lib.hid ⟨rfl, .inr ⟨w1.heap.size, 0, rfl, hset.out, by simp; omega⟩⟩
  have hgb := Lib.hid (errTy_below hg.out hB2b.out)
  clear hset fn fo fp
  go_wp2_with fail
  refine (kB.out _ _ _ hOb hNb hgb).mono ?_
  rintro e w3 ⟨rfl, hb3⟩
  have hB3 := Lib.hid (belT hB2b.out hb3)
  clear hb3
  go_wp2_with fail
  go_ret
  exact ⟨rfl, hB3.out⟩
set_option maxRecDepth 100000 in
set_option maxHeartbeats 8000000 in
theorem form16 (a0 a1 q d : Int) (hq : 0 ≤ q ∧ q < 1024) (hd : 1 + q = d) (hk : bits .and .i64 a1 1023 = q) (he : (IntKind.u64.wrap a0).tmod 20 = 16) (w : World) (hg : Hid (errTy w)) :
    Calls Tryd.prog 5 #[.int .i64 a0, .int .i64 a1] w (FmPost w) := by
  have hdb : 1 ≤ d ∧ d ≤ 1024 := by omega
  have hd1 : 1 ≤ d := hdb.1
  have hd2 : d ≤ 1024 := hdb.2
  have hbad : mayV ([⟨⟨#[97]⟩, 0, 2⟩] : List Or) fmN = false := by unfold mayV; rw [opsV_op (j := 0) (of_decide_eq_true rfl) (by decide +kernel)]; rfl
  have kB := Lib.hid fun (g g2 : Nat) (W : World) (h : Hid (OArg W (some ⟨g, 0, none⟩) 1 ([⟨⟨#[97]⟩, 0, 2⟩] : List Or))) (h2 : Hid (NArg W (some ⟨g2, 0, none⟩) 4 fmN)) (hg : Hid (errTy W)) => tMay_any (some ⟨g, 0, none⟩) (some ⟨g2, 0, none⟩) 1 1 4 4 ([⟨⟨#[97]⟩, 0, 2⟩] : List Or) fmN W h (Lib.hid (by intro t ht; simp only [List.mem_cons, List.not_mem_nil, or_false] at ht; subst ht; unfold OrSz; exact of_decide_eq_true rfl)) (by omega) h2 (Lib.hid fm_sz) (by omega) hg
  rw [hbad] at kB
  clear hbad
  have kM := Lib.hid fun (g g2 : Nat) (W : World) (h : Hid (OArg W (some ⟨g, 0, none⟩) 1 fmO)) (h2 : Hid (NArg W (some ⟨g2, 0, none⟩) 4 fmN)) (hg : Hid (errTy W)) => tMay_any (some ⟨g, 0, none⟩) (some ⟨g2, 0, none⟩) 1 1 4 4 fmO fmN W h (Lib.hid fo_sz) (by omega) h2 (Lib.hid fm_sz) (by omega) hg
  rw [fm_may] at kM
  have h0l := hgl hg.out
  go_enter Tryd.func5, Tryd.ntmps5
  go_wp2_with fail
  refine (awake3_any _ hg).mono ?_
  rintro e w1 ⟨rfl, hb1⟩
  have hB1 := Lib.hid hb1
  have hw1s := hb1.size
  clear hb1
  go_wp2_with fail
  have hO0 := Lib.hid (oarg_alloc w1 #[.string ⟨#[97]⟩, .int .i64 0, .int .i64 0] fmO rfl 1 rfl)
  have hN0 := Lib.hid (narg_alloc (w1.alloc (.cells #[.string ⟨#[97]⟩, .int .i64 0, .int .i64 0] 48)) #[.int .i64 0, .int .i64 0, .int .i64 0, .int .i64 0, .int .i64 0, .string ⟨#[120]⟩, .string ⟨#[]⟩, .string ⟨#[]⟩, .string ⟨#[]⟩, .int .i64 0, .int .i64 1, .int .i64 0, .int .i64 0, .int .i64 0, .int .i64 4, .string ⟨#[]⟩, .string ⟨#[]⟩, .string ⟨#[]⟩, .string ⟨#[]⟩, .int .i64 0, .int .i64 8, .int .i64 0, .int .i64 1, .int .i64 0, .int .i64 5, .string ⟨#[]⟩, .string ⟨#[]⟩, .string ⟨#[]⟩, .string ⟨#[]⟩, .int .i64 0, .int .i64 3, .int .i64 2, .int .i64 0, .int .i64 0, .int .i64 0, .string ⟨#[]⟩, .string ⟨#[120]⟩, .string ⟨#[]⟩, .string ⟨#[]⟩, .int .i64 0] fmN rfl 4 rfl)
  have hBa := Lib.hid (show Below w.heap.size w ((w1.alloc (.cells #[.string ⟨#[97]⟩, .int .i64 0, .int .i64 0] 48)).alloc (.cells #[.int .i64 0, .int .i64 0, .int .i64 0, .int .i64 0, .int .i64 0, .string ⟨#[120]⟩, .string ⟨#[]⟩, .string ⟨#[]⟩, .string ⟨#[]⟩, .int .i64 0, .int .i64 1, .int .i64 0, .int .i64 0, .int .i64 0, .int .i64 4, .string ⟨#[]⟩, .string ⟨#[]⟩, .string ⟨#[]⟩, .string ⟨#[]⟩, .int .i64 0, .int .i64 8, .int .i64 0, .int .i64 1, .int .i64 0, .int .i64 5, .string ⟨#[]⟩, .string ⟨#[]⟩, .string ⟨#[]⟩, .string ⟨#[]⟩, .int .i64 0, .int .i64 3, .int .i64 2, .int .i64 0, .int .i64 0, .int .i64 0, .string ⟨#[]⟩, .string ⟨#[120]⟩, .string ⟨#[]⟩, .string ⟨#[]⟩, .int .i64 0] 45)) from by have := hB1.out; (repeat' (first | with_reducible exact Below.refl _ _ | with_reducible assumption | with_reducible apply Below.setCell | with_reducible apply Below.alloc | with_reducible apply Below.drew | with_reducible apply below_drewN | with_reducible exact Nat.le_refl _ | (simp; done) | (simp; omega) | omega | exact Nat.le_refl _)))
  refine (kM.out w1.heap.size (w1.heap.size + 1) _ (Lib.hid (hO0.out.below (by (repeat' (first | with_reducible exact Below.refl _ _ | with_reducible assumption | with_reducible apply Below.setCell | with_reducible apply Below.alloc | with_reducible apply Below.drew | with_reducible apply below_drewN | with_reducible exact Nat.le_refl _ | (simp; done) | (simp; omega) | omega | exact Nat.le_refl _))))) (Lib.hid (by have := hN0.out.below (w' := (((w1.alloc (.cells #[.string ⟨#[97]⟩, .int .i64 0, .int .i64 0] 48)).alloc (.cells #[.int .i64 0, .int .i64 0, .int .i64 0, .int .i64 0, .int .i64 0, .string ⟨#[120]⟩, .string ⟨#[]⟩, .string ⟨#[]⟩, .string ⟨#[]⟩, .int .i64 0, .int .i64 1, .int .i64 0, .int .i64 0, .int .i64 0, .int .i64 4, .string ⟨#[]⟩, .string ⟨#[]⟩, .string ⟨#[]⟩, .string ⟨#[]⟩, .int .i64 0, .int .i64 8, .int .i64 0, .int .i64 1, .int .i64 0, .int .i64 5, .string ⟨#[]⟩, .string ⟨#[]⟩, .string ⟨#[]⟩, .string ⟨#[]⟩, .int .i64 0, .int .i64 3, .int .i64 2, .int .i64 0, .int .i64 0, .int .i64 0, .string ⟨#[]⟩, .string ⟨#[120]⟩, .string ⟨#[]⟩, .string ⟨#[]⟩, .int .i64 0] 45)).alloc (.cells #[.slice (some ⟨w1.heap.size, 0, none⟩) 1 1, .slice (some ⟨w1.heap.size + 1, 0, none⟩) 4 4] 25))) (by (repeat' (first | with_reducible exact Below.refl _ _ | with_reducible assumption | with_reducible apply Below.setCell | with_reducible apply Below.alloc | with_reducible apply Below.drew | with_reducible apply below_drewN | with_reducible exact Nat.le_refl _ | (simp; done) | (simp; omega) | omega | exact Nat.le_refl _))); simpa using this)) (Lib.hid (errTy_below hg.out (by have := hBa.out; have := this.size; (repeat' (first | with_reducible exact Below.refl _ _ | with_reducible assumption | with_reducible apply Below.setCell | with_reducible apply Below.alloc | with_reducible apply Below.drew | with_reducible apply below_drewN | with_reducible exact Nat.le_refl _ | (simp; done) | (simp; omega) | omega | exact Nat.le_refl _)))))).mono ?_
  rintro e w2 ⟨rfl, hb2⟩
  have hB2 := Lib.hid (belT (show Below w.heap.size w _ from by have := hBa.out; have := this.size; (repeat' (first | with_reducible exact Below.refl _ _ | with_reducible assumption | with_reducible apply Below.setCell | with_reducible apply Below.alloc | with_reducible apply Below.drew | with_reducible apply below_drewN | with_reducible exact Nat.le_refl _ | (simp; done) | (simp; omega) | omega | exact Nat.le_refl _))) hb2)
  have p0 : w2.cell? ⟨w1.heap.size + 1 + 1, 0, none⟩ = some (.slice (some ⟨w1.heap.size, 0, none⟩) 1 1) := carry hb2 (by first | (simp; done) | (simp; omega)) (by rw [World.cell?_alloc_at _ _ _ _ (by simp)]; rfl)
  have p1 : w2.cell? ⟨w1.heap.size + 1 + 1, 1, none⟩ = some (.slice (some ⟨w1.heap.size + 1, 0, none⟩) 4 4) := carry hb2 (by first | (simp; done) | (simp; omega)) (by rw [World.cell?_alloc_at _ _ _ _ (by simp)]; rfl)
  have fp : ∀ o, w2.frozen? ⟨w1.heap.size + 1 + 1, o, none⟩ = false := fun o => by rw [hb2.frozen (p := ⟨w1.heap.size + 1 + 1, o, none⟩) (by first | (simp; done) | (simp; omega))]; simp [go_sem]
  have fn : ∀ o, w2.frozen? ⟨w1.heap.size + 1, o, none⟩ = false := fun o => by rw [hb2.frozen (p := ⟨w1.heap.size + 1, o, none⟩) (by first | (simp; done) | (simp; omega))]; simp [go_sem]
  have fo : ∀ o, w2.frozen? ⟨w1.heap.size, o, none⟩ = false := fun o => by rw [hb2.frozen (p := ⟨w1.heap.size, o, none⟩) (by first | (simp; done) | (simp; omega))]; simp [go_sem]
  have hO2 : Hid (OArg w2 (some ⟨w1.heap.size, 0, none⟩) 1 fmO) := Lib.hid ((hO0.out.below (w' := (((w1.alloc (.cells #[.string ⟨#[97]⟩, .int .i64 0, .int .i64 0] 48)).alloc (.cells #[.int .i64 0, .int .i64 0, .int .i64 0, .int .i64 0, .int .i64 0, .string ⟨#[120]⟩, .string ⟨#[]⟩, .string ⟨#[]⟩, .string ⟨#[]⟩, .int .i64 0, .int .i64 1, .int .i64 0, .int .i64 0, .int .i64 0, .int .i64 4, .string ⟨#[]⟩, .string ⟨#[]⟩, .string ⟨#[]⟩, .string ⟨#[]⟩, .int .i64 0, .int .i64 8, .int .i64 0, .int .i64 1, .int .i64 0, .int .i64 5, .string ⟨#[]⟩, .string ⟨#[]⟩, .string ⟨#[]⟩, .string ⟨#[]⟩, .int .i64 0, .int .i64 3, .int .i64 2, .int .i64 0, .int .i64 0, .int .i64 0, .string ⟨#[]⟩, .string ⟨#[120]⟩, .string ⟨#[]⟩, .string ⟨#[]⟩, .int .i64 0] 45)).alloc (.cells #[.slice (some ⟨w1.heap.size, 0, none⟩) 1 1, .slice (some ⟨w1.heap.size + 1, 0, none⟩) 4 4] 25))) (by (repeat' (first | with_reducible exact Below.refl _ _ | with_reducible assumption | with_reducible apply Below.setCell | with_reducible apply Below.alloc | with_reducible apply Below.drew | with_reducible apply below_drewN | with_reducible exact Nat.le_refl _ | (simp; done) | (simp; omega) | omega | exact Nat.le_refl _)))).below hb2)
  have hN2 : Hid (NArg w2 (some ⟨w1.heap.size + 1, 0, none⟩) 4 fmN) := Lib.hid (by have := (hN0.out.below (w' := (((w1.alloc (.cells #[.string ⟨#[97]⟩, .int .i64 0, .int .i64 0] 48)).alloc (.cells #[.int .i64 0, .int .i64 0, .int .i64 0, .int .i64 0, .int .i64 0, .string ⟨#[120]⟩, .string ⟨#[]⟩, .string ⟨#[]⟩, .string ⟨#[]⟩, .int .i64 0, .int .i64 1, .int .i64 0, .int .i64 0, .int .i64 0, .int .i64 4, .string ⟨#[]⟩, .string ⟨#[]⟩, .string ⟨#[]⟩, .string ⟨#[]⟩, .int .i64 0, .int .i64 8, .int .i64 0, .int .i64 1, .int .i64 0, .int .i64 5, .string ⟨#[]⟩, .string ⟨#[]⟩, .string ⟨#[]⟩, .string ⟨#[]⟩, .int .i64 0, .int .i64 3, .int .i64 2, .int .i64 0, .int .i64 0, .int .i64 0, .string ⟨#[]⟩, .string ⟨#[120]⟩, .string ⟨#[]⟩, .string ⟨#[]⟩, .int .i64 0] 45)).alloc (.cells #[.slice (some ⟨w1.heap.size, 0, none⟩) 1 1, .slice (some ⟨w1.heap.size + 1, 0, none⟩) 4 4] 25))) (by (repeat' (first | with_reducible exact Below.refl _ _ | with_reducible assumption | with_reducible apply Below.setCell | with_reducible apply Below.alloc | with_reducible apply Below.drew | with_reducible apply below_drewN | with_reducible exact Nat.le_refl _ | (simp; done) | (simp; omega) | omega | exact Nat.le_refl _)))).below hb2; simpa using this)
  have hz2 : w1.heap.size + 1 + 1 < w2.heap.size := by have := hb2.size; (try simp at this); omega
  have hNs : Hid (NdSl w2 (w1.heap.size + 1) 0 fmN) := Lib.hid (by
    rcases hN2.out.2 with h | ⟨b, off, h1, h2, h3⟩
    · cases h
    · injection h1 with h1; injection h1 with h4 h5 _; subst h4; subst h5; exact h2)
  have hOs : Hid (OrSl w2 w1.heap.size 0 fmO) := Lib.hid (by
    rcases hO2.out.2 with h | ⟨b, off, h1, h2, h3⟩
    · cases h
    · injection h1 with h1; injection h1 with h4 h5 _; subst h4; subst h5; exact h2)
  have hOwn2 := Lib.hid (OwnN.below (w1 := w2) (World.ownsRow.alloc (own_lit (B := w1.heap.size + 1) (w1.alloc (.cells #[.string ⟨#[97]⟩, .int .i64 0, .int .i64 0] 48)) #[.int .i64 0, .int .i64 0, .int .i64 0, .int .i64 0, .int .i64 0, .string ⟨#[120]⟩, .string ⟨#[]⟩, .string ⟨#[]⟩, .string ⟨#[]⟩, .int .i64 0, .int .i64 1, .int .i64 0, .int .i64 0, .int .i64 0, .int .i64 4, .string ⟨#[]⟩, .string ⟨#[]⟩, .string ⟨#[]⟩, .string ⟨#[]⟩, .int .i64 0, .int .i64 8, .int .i64 0, .int .i64 1, .int .i64 0, .int .i64 5, .string ⟨#[]⟩, .string ⟨#[]⟩, .string ⟨#[]⟩, .string ⟨#[]⟩, .int .i64 0, .int .i64 3, .int .i64 2, .int .i64 0, .int .i64 0, .int .i64 0, .string ⟨#[]⟩, .string ⟨#[120]⟩, .string ⟨#[]⟩, .string ⟨#[]⟩, .int .i64 0] fmN rfl 4 rfl (by simp) (by omega)) (.cells #[.slice (some ⟨w1.heap.size, 0, none⟩) 1 1, .slice (some ⟨w1.heap.size + 1, 0, none⟩) 4 4] 25)) hb2)
  clear hb2 kM hN0 hO0 hBa
  have hset := Lib.hid (orSl_set (ts' := ([⟨⟨#[97]⟩, 0, 2⟩] : List Or)) hOs.out 2 (.int .i64 2) (.int .i64 0) rfl rfl)
  have fx := fo 2
  have hold : w2.cell? ⟨w1.heap.size, 2, none⟩ = some (.int .i64 0) := by have := orSl_get hOs.out 2 (.int .i64 0) rfl; rwa [Nat.zero_add] at this
  have hB2b := Lib.hid (hB2.out.setCell (p := ⟨w1.heap.size, 2, none⟩) (by show _ ≤ w1.heap.size; omega) (.int .i64 2))
  have hNb : Hid (NArg (w2.setCell ⟨w1.heap.size, 2, none⟩ (.int .i64 2)) (some ⟨w1.heap.size + 1, 0, none⟩) 4 fmN) := Lib.hid ⟨rfl, .inr ⟨w1.heap.size + 1, 0, rfl, fun i hi => by
    have hT := hNs.out i hi
    unfold NdAt at *
    simp only [cell_set _ _ _ _ _ _ _ hold, show ¬ (w1.heap.size + 1 = w1.heap.size) from by omega, false_and, if_false]
    exact hT, by simp; omega⟩⟩
  have hOb : Hid (OArg (w2.setCell ⟨w1.heap.size, 2, none⟩ (.int .i64 2)) (some ⟨w1.heap.size, 0, none⟩) 1 ([⟨⟨#[97]⟩, 0, 2⟩] : List Or)) := Lib.hid ⟨rfl, .inr ⟨w1.heap.size, 0, rfl, hset.out, by simp; omega⟩⟩
  have hgb := Lib.hid (errTy_below hg.out hB2b.out)
  clear hset fn fo fp
  go_wp2_with fail
  refine (kB.out _ _ _ hOb hNb hgb).mono ?_
  rintro e w3 ⟨rfl, hb3⟩
  have hB3 := Lib.hid (belT hB2b.out hb3)
  clear hb3
  go_wp2_with fail
  go_ret
  exact ⟨rfl, hB3.out⟩
set_option maxRecDepth 100000 in
set_option maxHeartbeats 8000000 in
theorem form17 (a0 a1 q d : Int) (hq : 0 ≤ q ∧ q < 1024) (hd : 1 + q = d) (hk : bits .and .i64 a1 1023 = q) (he : (IntKind.u64.wrap a0).tmod 20 = 17) (w : World) (hg : Hid (errTy w)) :
    Calls Tryd.prog 5 #[.int .i64 a0, .int .i64 a1] w (FmPost w) := by
  have hdb : 1 ≤ d ∧ d ≤ 1024 := by omega
  have hd1 : 1 ≤ d := hdb.1
  have hd2 : d ≤ 1024 := hdb.2
  obtain ⟨N, hN⟩ : ∃ N : Nat, 4 + d = (N : Int) := ⟨(4 + d).toNat, by omega⟩
  have hN4 : 4 < N := by omega
  have hmk := fun (W : World) => fo_make N (by omega) W
  have kM := Lib.hid fun (g g2 : Nat) (W : World) (h : Hid (OArg W (some ⟨g, 0, none⟩) 1 fmO)) (h2 : Hid (NArg W (some ⟨g2, 0, none⟩) 4 fmN)) (hg : Hid (errTy W)) => tMay_any (some ⟨g, 0, none⟩) (some ⟨g2, 0, none⟩) 1 1 4 4 fmO fmN W h (Lib.hid fo_sz) (by omega) h2 (Lib.hid fm_sz) (by omega) hg
  rw [fm_may] at kM
  have h0l := hgl hg.out
  go_enter Tryd.func5, Tryd.ntmps5
  go_wp2_with fail
  refine (awake3_any _ hg).mono ?_
  rintro e w1 ⟨rfl, hb1⟩
  have hB1 := Lib.hid hb1
  have hw1s := hb1.size
  clear hb1
  go_wp2_with fail
  have hO0 := Lib.hid (oarg_alloc w1 #[.string ⟨#[97]⟩, .int .i64 0, .int .i64 0] fmO rfl 1 rfl)
  have hN0 := Lib.hid (narg_alloc (w1.alloc (.cells #[.string ⟨#[97]⟩, .int .i64 0, .int .i64 0] 48)) #[.int .i64 0, .int .i64 0, .int .i64 0, .int .i64 0, .int .i64 0, .string ⟨#[120]⟩, .string ⟨#[]⟩, .string ⟨#[]⟩, .string ⟨#[]⟩, .int .i64 0, .int .i64 1, .int .i64 0, .int .i64 0, .int .i64 0, .int .i64 4, .string ⟨#[]⟩, .string ⟨#[]⟩, .string ⟨#[]⟩, .string ⟨#[]⟩, .int .i64 0, .int .i64 8, .int .i64 0, .int .i64 1, .int .i64 0, .int .i64 5, .string ⟨#[]⟩, .string ⟨#[]⟩, .string ⟨#[]⟩, .string ⟨#[]⟩, .int .i64 0, .int .i64 3, .int .i64 2, .int .i64 0, .int .i64 0, .int .i64 0, .string ⟨#[]⟩, .string ⟨#[120]⟩, .string ⟨#[]⟩, .string ⟨#[]⟩, .int .i64 0] fmN rfl 4 rfl)
  have hBa := Lib.hid (show Below w.heap.size w ((w1.alloc (.cells #[.string ⟨#[97]⟩, .int .i64 0, .int .i64 0] 48)).alloc (.cells #[.int .i64 0, .int .i64 0, .int .i64 0, .int .i64 0, .int .i64 0, .string ⟨#[120]⟩, .string ⟨#[]⟩, .string ⟨#[]⟩, .string ⟨#[]⟩, .int .i64 0, .int .i64 1, .int .i64 0, .int .i64 0, .int .i64 0, .int .i64 4, .string ⟨#[]⟩, .string ⟨#[]⟩, .string ⟨#[]⟩, .string ⟨#[]⟩, .int .i64 0, .int .i64 8, .int .i64 0, .int .i64 1, .int .i64 0, .int .i64 5, .string ⟨#[]⟩, .string ⟨#[]⟩, .string ⟨#[]⟩, .string ⟨#[]⟩, .int .i64 0, .int .i64 3, .int .i64 2, .int .i64 0, .int .i64 0, .int .i64 0, .string ⟨#[]⟩, .string ⟨#[120]⟩, .string ⟨#[]⟩, .string ⟨#[]⟩, .int .i64 0] 45)) from by have := hB1.out; (repeat' (first | with_reducible exact Below.refl _ _ | with_reducible assumption | with_reducible apply Below.setCell | with_reducible apply Below.alloc | with_reducible apply Below.drew | with_reducible apply below_drewN | with_reducible exact Nat.le_refl _ | (simp; done) | (simp; omega) | omega | exact Nat.le_refl _)))
  refine (kM.out w1.heap.size (w1.heap.size + 1) _ (Lib.hid (hO0.out.below (by (repeat' (first | with_reducible exact Below.refl _ _ | with_reducible assumption | with_reducible apply Below.setCell | with_reducible apply Below.alloc | with_reducible apply Below.drew | with_reducible apply below_drewN | with_reducible exact Nat.le_refl _ | (simp; done) | (simp; omega) | omega | exact Nat.le_refl _))))) (Lib.hid (by have := hN0.out.below (w' := (((w1.alloc (.cells #[.string ⟨#[97]⟩, .int .i64 0, .int .i64 0] 48)).alloc (.cells #[.int .i64 0, .int .i64 0, .int .i64 0, .int .i64 0, .int .i64 0, .string ⟨#[120]⟩, .string ⟨#[]⟩, .string ⟨#[]⟩, .string ⟨#[]⟩, .int .i64 0, .int .i64 1, .int .i64 0, .int .i64 0, .int .i64 0, .int .i64 4, .string ⟨#[]⟩, .string ⟨#[]⟩, .string ⟨#[]⟩, .string ⟨#[]⟩, .int .i64 0, .int .i64 8, .int .i64 0, .int .i64 1, .int .i64 0, .int .i64 5, .string ⟨#[]⟩, .string ⟨#[]⟩, .string ⟨#[]⟩, .string ⟨#[]⟩, .int .i64 0, .int .i64 3, .int .i64 2, .int .i64 0, .int .i64 0, .int .i64 0, .string ⟨#[]⟩, .string ⟨#[120]⟩, .string ⟨#[]⟩, .string ⟨#[]⟩, .int .i64 0] 45)).alloc (.cells #[.slice (some ⟨w1.heap.size, 0, none⟩) 1 1, .slice (some ⟨w1.heap.size + 1, 0, none⟩) 4 4] 25))) (by (repeat' (first | with_reducible exact Below.refl _ _ | with_reducible assumption | with_reducible apply Below.setCell | with_reducible apply Below.alloc | with_reducible apply Below.drew | with_reducible apply below_drewN | with_reducible exact Nat.le_refl _ | (simp; done) | (simp; omega) | omega | exact Nat.le_refl _))); simpa using this)) (Lib.hid (errTy_below hg.out (by have := hBa.out; have := this.size; (repeat' (first | with_reducible exact Below.refl _ _ | with_reducible assumption | with_reducible apply Below.setCell | with_reducible apply Below.alloc | with_reducible apply Below.drew | with_reducible apply below_drewN | with_reducible exact Nat.le_refl _ | (simp; done) | (simp; omega) | omega | exact Nat.le_refl _)))))).mono ?_
  rintro e w2 ⟨rfl, hb2⟩
  have hB2 := Lib.hid (belT (show Below w.heap.size w _ from by have := hBa.out; have := this.size; (repeat' (first | with_reducible exact Below.refl _ _ | with_reducible assumption | with_reducible apply Below.setCell | with_reducible apply Below.alloc | with_reducible apply Below.drew | with_reducible apply below_drewN | with_reducible exact Nat.le_refl _ | (simp; done) | (simp; omega) | omega | exact Nat.le_refl _))) hb2)
  have p0 : w2.cell? ⟨w1.heap.size + 1 + 1, 0, none⟩ = some (.slice (some ⟨w1.heap.size, 0, none⟩) 1 1) := carry hb2 (by first | (simp; done) | (simp; omega)) (by rw [World.cell?_alloc_at _ _ _ _ (by simp)]; rfl)
  have p1 : w2.cell? ⟨w1.heap.size + 1 + 1, 1, none⟩ = some (.slice (some ⟨w1.heap.size + 1, 0, none⟩) 4 4) := carry hb2 (by first | (simp; done) | (simp; omega)) (by rw [World.cell?_alloc_at _ _ _ _ (by simp)]; rfl)
  have fp : ∀ o, w2.frozen? ⟨w1.heap.size + 1 + 1, o, none⟩ = false := fun o => by rw [hb2.frozen (p := ⟨w1.heap.size + 1 + 1, o, none⟩) (by first | (simp; done) | (simp; omega))]; simp [go_sem]
  have fn : ∀ o, w2.frozen? ⟨w1.heap.size + 1, o, none⟩ = false := fun o => by rw [hb2.frozen (p := ⟨w1.heap.size + 1, o, none⟩) (by first | (simp; done) | (simp; omega))]; simp [go_sem]
  have fo : ∀ o, w2.frozen? ⟨w1.heap.size, o, none⟩ = false := fun o => by rw [hb2.frozen (p := ⟨w1.heap.size, o, none⟩) (by first | (simp; done) | (simp; omega))]; simp [go_sem]
  have hO2 : Hid (OArg w2 (some ⟨w1.heap.size, 0, none⟩) 1 fmO) := Lib.hid ((hO0.out.below (w' := (((w1.alloc (.cells #[.string ⟨#[97]⟩, .int .i64 0, .int .i64 0] 48)).alloc (.cells #[.int .i64 0, .int .i64 0, .int .i64 0, .int .i64 0, .int .i64 0, .string ⟨#[120]⟩, .string ⟨#[]⟩, .string ⟨#[]⟩, .string ⟨#[]⟩, .int .i64 0, .int .i64 1, .int .i64 0, .int .i64 0, .int .i64 0, .int .i64 4, .string ⟨#[]⟩, .string ⟨#[]⟩, .string ⟨#[]⟩, .string ⟨#[]⟩, .int .i64 0, .int .i64 8, .int .i64 0, .int .i64 1, .int .i64 0, .int .i64 5, .string ⟨#[]⟩, .string ⟨#[]⟩, .string ⟨#[]⟩, .string ⟨#[]⟩, .int .i64 0, .int .i64 3, .int .i64 2, .int .i64 0, .int .i64 0, .int .i64 0, .string ⟨#[]⟩, .string ⟨#[120]⟩, .string ⟨#[]⟩, .string ⟨#[]⟩, .int .i64 0] 45)).alloc (.cells #[.slice (some ⟨w1.heap.size, 0, none⟩) 1 1, .slice (some ⟨w1.heap.size + 1, 0, none⟩) 4 4] 25))) (by (repeat' (first | with_reducible exact Below.refl _ _ | with_reducible assumption | with_reducible apply Below.setCell | with_reducible apply Below.alloc | with_reducible apply Below.drew | with_reducible apply below_drewN | with_reducible exact Nat.le_refl _ | (simp; done) | (simp; omega) | omega | exact Nat.le_refl _)))).below hb2)
  have hN2 : Hid (NArg w2 (some ⟨w1.heap.size + 1, 0, none⟩) 4 fmN) := Lib.hid (by have := (hN0.out.below (w' := (((w1.alloc (.cells #[.string ⟨#[97]⟩, .int .i64 0, .int .i64 0] 48)).alloc (.cells #[.int .i64 0, .int .i64 0, .int .i64 0, .int .i64 0, .int .i64 0, .string ⟨#[120]⟩, .string ⟨#[]⟩, .string ⟨#[]⟩, .string ⟨#[]⟩, .int .i64 0, .int .i64 1, .int .i64 0, .int .i64 0, .int .i64 0, .int .i64 4, .string ⟨#[]⟩, .string ⟨#[]⟩, .string ⟨#[]⟩, .string ⟨#[]⟩, .int .i64 0, .int .i64 8, .int .i64 0, .int .i64 1, .int .i64 0, .int .i64 5, .string ⟨#[]⟩, .string ⟨#[]⟩, .string ⟨#[]⟩, .string ⟨#[]⟩, .int .i64 0, .int .i64 3, .int .i64 2, .int .i64 0, .int .i64 0, .int .i64 0, .string ⟨#[]⟩, .string ⟨#[120]⟩, .string ⟨#[]⟩, .string ⟨#[]⟩, .int .i64 0] 45)).alloc (.cells #[.slice (some ⟨w1.heap.size, 0, none⟩) 1 1, .slice (some ⟨w1.heap.size + 1, 0, none⟩) 4 4] 25))) (by (repeat' (first | with_reducible exact Below.refl _ _ | with_reducible assumption | with_reducible apply Below.setCell | with_reducible apply Below.alloc | with_reducible apply Below.drew | with_reducible apply below_drewN | with_reducible exact Nat.le_refl _ | (simp; done) | (simp; omega) | omega | exact Nat.le_refl _)))).below hb2; simpa using this)
  have hz2 : w1.heap.size + 1 + 1 < w2.heap.size := by have := hb2.size; (try simp at this); omega
  have hNs : Hid (NdSl w2 (w1.heap.size + 1) 0 fmN) := Lib.hid (by
    rcases hN2.out.2 with h | ⟨b, off, h1, h2, h3⟩
    · cases h
    · injection h1 with h1; injection h1 with h4 h5 _; subst h4; subst h5; exact h2)
  have hOs : Hid (OrSl w2 w1.heap.size 0 fmO) := Lib.hid (by
    rcases hO2.out.2 with h | ⟨b, off, h1, h2, h3⟩
    · cases h
    · injection h1 with h1; injection h1 with h4 h5 _; subst h4; subst h5; exact h2)
  have hOwn2 := Lib.hid (OwnN.below (w1 := w2) (World.ownsRow.alloc (own_lit (B := w1.heap.size + 1) (w1.alloc (.cells #[.string ⟨#[97]⟩, .int .i64 0, .int .i64 0] 48)) #[.int .i64 0, .int .i64 0, .int .i64 0, .int .i64 0, .int .i64 0, .string ⟨#[120]⟩, .string ⟨#[]⟩, .string ⟨#[]⟩, .string ⟨#[]⟩, .int .i64 0, .int .i64 1, .int .i64 0, .int .i64 0, .int .i64 0, .int .i64 4, .string ⟨#[]⟩, .string ⟨#[]⟩, .string ⟨#[]⟩, .string ⟨#[]⟩, .int .i64 0, .int .i64 8, .int .i64 0, .int .i64 1, .int .i64 0, .int .i64 5, .string ⟨#[]⟩, .string ⟨#[]⟩, .string ⟨#[]⟩, .string ⟨#[]⟩, .int .i64 0, .int .i64 3, .int .i64 2, .int .i64 0, .int .i64 0, .int .i64 0, .string ⟨#[]⟩, .string ⟨#[120]⟩, .string ⟨#[]⟩, .string ⟨#[]⟩, .int .i64 0] fmN rfl 4 rfl (by simp) (by omega)) (.cells #[.slice (some ⟨w1.heap.size, 0, none⟩) 1 1, .slice (some ⟨w1.heap.size + 1, 0, none⟩) 4 4] 25)) hb2)
  clear hb2 kM hN0 hO0 hBa
  have f0 := fp 0
  have hB2b := Lib.hid (fun v => show Below w.heap.size w ((w2.alloc (.cells (madeCells (Value.agg #[.string ByteArray.empty, .int .i64 0, .int .i64 0]).cells (N * 3)) 48)).setCell ⟨w1.heap.size + 1 + 1, 0, none⟩ v) from (hB2.out.alloc (by have := hB2.out.size; omega) _).setCell (p := ⟨w1.heap.size + 1 + 1, 0, none⟩) (by show _ ≤ w1.heap.size + 1 + 1; omega) _)
  clear fn fo fp
  go_wp2_with fail
  refine (tMay_many _ _ _ _ _ _ hN4 _).mono ?_
  rintro e w3 ⟨rfl, hb3⟩
  have hB3 := Lib.hid (belT (show Below w.heap.size w _ from by first | exact hB2b.out _ | (have := hB2b.out (.slice (some ⟨w2.heap.size, 0, none⟩) N N); simpa [World.setCell_alloc_past] using this) | (have := hB2.out; have := this.size; (repeat' (first | with_reducible exact Below.refl _ _ | with_reducible assumption | with_reducible apply Below.setCell | with_reducible apply Below.alloc | with_reducible apply Below.drew | with_reducible apply below_drewN | with_reducible exact Nat.le_refl _ | (simp; done) | (simp; omega) | omega | exact Nat.le_refl _)))) hb3)
  clear hb3
  go_wp2_with fail
  go_ret
  exact ⟨rfl, hB3.out⟩
set_option maxRecDepth 100000 in
set_option maxHeartbeats 8000000 in
theorem form18 (a0 a1 q d : Int) (hq : 0 ≤ q ∧ q < 1024) (hd : 1 + q = d) (hk : bits .and .i64 a1 1023 = q) (he : (IntKind.u64.wrap a0).tmod 20 = 18) (w : World) (hg : Hid (errTy w)) :
    Calls Tryd.prog 5 #[.int .i64 a0, .int .i64 a1] w (FmPost w) := by
  have hdb : 1 ≤ d ∧ d ≤ 1024 := by omega
  have hd1 : 1 ≤ d := hdb.1
  have hd2 : d ≤ 1024 := hdb.2
  have hbad : mayV fmO (fmN.take 2) = false := by refine may_tree _ _ ?_; rw [tree_c]; decide +kernel
  have kB := Lib.hid fun (g g2 : Nat) (W : World) (h : Hid (OArg W (some ⟨g, 0, none⟩) 1 fmO)) (h2 : Hid (NArg W (some ⟨g2, 0, none⟩) 2 (fmN.take 2))) (hg : Hid (errTy W)) => tMay_any (some ⟨g, 0, none⟩) (some ⟨g2, 0, none⟩) 1 1 2 4 fmO (fmN.take 2) W h (Lib.hid fo_sz) (by omega) h2 (Lib.hid fun t ht => fm_sz t (List.mem_of_mem_take ht)) (by omega) hg
  rw [hbad] at kB
  clear hbad
  have kM := Lib.hid fun (g g2 : Nat) (W : World) (h : Hid (OArg W (some ⟨g, 0, none⟩) 1 fmO)) (h2 : Hid (NArg W (some ⟨g2, 0, none⟩) 4 fmN)) (hg : Hid (errTy W)) => tMay_any (some ⟨g, 0, none⟩) (some ⟨g2, 0, none⟩) 1 1 4 4 fmO fmN W h (Lib.hid fo_sz) (by omega) h2 (Lib.hid fm_sz) (by omega) hg
  rw [fm_may] at kM
  have h0l := hgl hg.out
  go_enter Tryd.func5, Tryd.ntmps5
  go_wp2_with fail
  refine (awake3_any _ hg).mono ?_
  rintro e w1 ⟨rfl, hb1⟩
  have hB1 := Lib.hid hb1
  have hw1s := hb1.size
  clear hb1
  go_wp2_with fail
  have hO0 := Lib.hid (oarg_alloc w1 #[.string ⟨#[97]⟩, .int .i64 0, .int .i64 0] fmO rfl 1 rfl)
  have hN0 := Lib.hid (narg_alloc (w1.alloc (.cells #[.string ⟨#[97]⟩, .int .i64 0, .int .i64 0] 48)) #[.int .i64 0, .int .i64 0, .int .i64 0, .int .i64 0, .int .i64 0, .string ⟨#[120]⟩, .string ⟨#[]⟩, .string ⟨#[]⟩, .string ⟨#[]⟩, .int .i64 0, .int .i64 1, .int .i64 0, .int .i64 0, .int .i64 0, .int .i64 4, .string ⟨#[]⟩, .string ⟨#[]⟩, .string ⟨#[]⟩, .string ⟨#[]⟩, .int .i64 0, .int .i64 8, .int .i64 0, .int .i64 1, .int .i64 0, .int .i64 5, .string ⟨#[]⟩, .string ⟨#[]⟩, .string ⟨#[]⟩, .string ⟨#[]⟩, .int .i64 0, .int .i64 3, .int .i64 2, .int .i64 0, .int .i64 0, .int .i64 0, .string ⟨#[]⟩, .string ⟨#[120]⟩, .string ⟨#[]⟩, .string ⟨#[]⟩, .int .i64 0] fmN rfl 4 rfl)
  have hBa := Lib.hid (show Below w.heap.size w ((w1.alloc (.cells #[.string ⟨#[97]⟩, .int .i64 0, .int .i64 0] 48)).alloc (.cells #[.int .i64 0, .int .i64 0, .int .i64 0, .int .i64 0, .int .i64 0, .string ⟨#[120]⟩, .string ⟨#[]⟩, .string ⟨#[]⟩, .string ⟨#[]⟩, .int .i64 0, .int .i64 1, .int .i64 0, .int .i64 0, .int .i64 0, .int .i64 4, .string ⟨#[]⟩, .string ⟨#[]⟩, .string ⟨#[]⟩, .string ⟨#[]⟩, .int .i64 0, .int .i64 8, .int .i64 0, .int .i64 1, .int .i64 0, .int .i64 5, .string ⟨#[]⟩, .string ⟨#[]⟩, .string ⟨#[]⟩, .string ⟨#[]⟩, .int .i64 0, .int .i64 3, .int .i64 2, .int .i64 0, .int .i64 0, .int .i64 0, .string ⟨#[]⟩, .string ⟨#[120]⟩, .string ⟨#[]⟩, .string ⟨#[]⟩, .int .i64 0] 45)) from by have := hB1.out; (repeat' (first | with_reducible exact Below.refl _ _ | with_reducible assumption | with_reducible apply Below.setCell | with_reducible apply Below.alloc | with_reducible apply Below.drew | with_reducible apply below_drewN | with_reducible exact Nat.le_refl _ | (simp; done) | (simp; omega) | omega | exact Nat.le_refl _)))
  refine (kM.out w1.heap.size (w1.heap.size + 1) _ (Lib.hid (hO0.out.below (by (repeat' (first | with_reducible exact Below.refl _ _ | with_reducible assumption | with_reducible apply Below.setCell | with_reducible apply Below.alloc | with_reducible apply Below.drew | with_reducible apply below_drewN | with_reducible exact Nat.le_refl _ | (simp; done) | (simp; omega) | omega | exact Nat.le_refl _))))) (Lib.hid (by have := hN0.out.below (w' := (((w1.alloc (.cells #[.string ⟨#[97]⟩, .int .i64 0, .int .i64 0] 48)).alloc (.cells #[.int .i64 0, .int .i64 0, .int .i64 0, .int .i64 0, .int .i64 0, .string ⟨#[120]⟩, .string ⟨#[]⟩, .string ⟨#[]⟩, .string ⟨#[]⟩, .int .i64 0, .int .i64 1, .int .i64 0, .int .i64 0, .int .i64 0, .int .i64 4, .string ⟨#[]⟩, .string ⟨#[]⟩, .string ⟨#[]⟩, .string ⟨#[]⟩, .int .i64 0, .int .i64 8, .int .i64 0, .int .i64 1, .int .i64 0, .int .i64 5, .string ⟨#[]⟩, .string ⟨#[]⟩, .string ⟨#[]⟩, .string ⟨#[]⟩, .int .i64 0, .int .i64 3, .int .i64 2, .int .i64 0, .int .i64 0, .int .i64 0, .string ⟨#[]⟩, .string ⟨#[120]⟩, .string ⟨#[]⟩, .string ⟨#[]⟩, .int .i64 0] 45)).alloc (.cells #[.slice (some ⟨w1.heap.size, 0, none⟩) 1 1, .slice (some ⟨w1.heap.size + 1, 0, none⟩) 4 4] 25))) (by (repeat' (first | with_reducible exact Below.refl _ _ | with_reducible assumption | with_reducible apply Below.setCell | with_reducible apply Below.alloc | with_reducible apply Below.drew | with_reducible apply below_drewN | with_reducible exact Nat.le_refl _ | (simp; done) | (simp; omega) | omega | exact Nat.le_refl _))); simpa using this)) (Lib.hid (errTy_below hg.out (by have := hBa.out; have := this.size; (repeat' (first | with_reducible exact Below.refl _ _ | with_reducible assumption | with_reducible apply Below.setCell | with_reducible apply Below.alloc | with_reducible apply Below.drew | with_reducible apply below_drewN | with_reducible exact Nat.le_refl _ | (simp; done) | (simp; omega) | omega | exact Nat.le_refl _)))))).mono ?_
  rintro e w2 ⟨rfl, hb2⟩
  have hB2 := Lib.hid (belT (show Below w.heap.size w _ from by have := hBa.out; have := this.size; (repeat' (first | with_reducible exact Below.refl _ _ | with_reducible assumption | with_reducible apply Below.setCell | with_reducible apply Below.alloc | with_reducible apply Below.drew | with_reducible apply below_drewN | with_reducible exact Nat.le_refl _ | (simp; done) | (simp; omega) | omega | exact Nat.le_refl _))) hb2)
  have p0 : w2.cell? ⟨w1.heap.size + 1 + 1, 0, none⟩ = some (.slice (some ⟨w1.heap.size, 0, none⟩) 1 1) := carry hb2 (by first | (simp; done) | (simp; omega)) (by rw [World.cell?_alloc_at _ _ _ _ (by simp)]; rfl)
  have p1 : w2.cell? ⟨w1.heap.size + 1 + 1, 1, none⟩ = some (.slice (some ⟨w1.heap.size + 1, 0, none⟩) 4 4) := carry hb2 (by first | (simp; done) | (simp; omega)) (by rw [World.cell?_alloc_at _ _ _ _ (by simp)]; rfl)
  have fp : ∀ o, w2.frozen? ⟨w1.heap.size + 1 + 1, o, none⟩ = false := fun o => by rw [hb2.frozen (p := ⟨w1.heap.size + 1 + 1, o, none⟩) (by first | (simp; done) | (simp; omega))]; simp [go_sem]
  have fn : ∀ o, w2.frozen? ⟨w1.heap.size + 1, o, none⟩ = false := fun o => by rw [hb2.frozen (p := ⟨w1.heap.size + 1, o, none⟩) (by first | (simp; done) | (simp; omega))]; simp [go_sem]
  have fo : ∀ o, w2.frozen? ⟨w1.heap.size, o, none⟩ = false := fun o => by rw [hb2.frozen (p := ⟨w1.heap.size, o, none⟩) (by first | (simp; done) | (simp; omega))]; simp [go_sem]
  have hO2 : Hid (OArg w2 (some ⟨w1.heap.size, 0, none⟩) 1 fmO) := Lib.hid ((hO0.out.below (w' := (((w1.alloc (.cells #[.string ⟨#[97]⟩, .int .i64 0, .int .i64 0] 48)).alloc (.cells #[.int .i64 0, .int .i64 0, .int .i64 0, .int .i64 0, .int .i64 0, .string ⟨#[120]⟩, .string ⟨#[]⟩, .string ⟨#[]⟩, .string ⟨#[]⟩, .int .i64 0, .int .i64 1, .int .i64 0, .int .i64 0, .int .i64 0, .int .i64 4, .string ⟨#[]⟩, .string ⟨#[]⟩, .string ⟨#[]⟩, .string ⟨#[]⟩, .int .i64 0, .int .i64 8, .int .i64 0, .int .i64 1, .int .i64 0, .int .i64 5, .string ⟨#[]⟩, .string ⟨#[]⟩, .string ⟨#[]⟩, .string ⟨#[]⟩, .int .i64 0, .int .i64 3, .int .i64 2, .int .i64 0, .int .i64 0, .int .i64 0, .string ⟨#[]⟩, .string ⟨#[120]⟩, .string ⟨#[]⟩, .string ⟨#[]⟩, .int .i64 0] 45)).alloc (.cells #[.slice (some ⟨w1.heap.size, 0, none⟩) 1 1, .slice (some ⟨w1.heap.size + 1, 0, none⟩) 4 4] 25))) (by (repeat' (first | with_reducible exact Below.refl _ _ | with_reducible assumption | with_reducible apply Below.setCell | with_reducible apply Below.alloc | with_reducible apply Below.drew | with_reducible apply below_drewN | with_reducible exact Nat.le_refl _ | (simp; done) | (simp; omega) | omega | exact Nat.le_refl _)))).below hb2)
  have hN2 : Hid (NArg w2 (some ⟨w1.heap.size + 1, 0, none⟩) 4 fmN) := Lib.hid (by have := (hN0.out.below (w' := (((w1.alloc (.cells #[.string ⟨#[97]⟩, .int .i64 0, .int .i64 0] 48)).alloc (.cells #[.int .i64 0, .int .i64 0, .int .i64 0, .int .i64 0, .int .i64 0, .string ⟨#[120]⟩, .string ⟨#[]⟩, .string ⟨#[]⟩, .string ⟨#[]⟩, .int .i64 0, .int .i64 1, .int .i64 0, .int .i64 0, .int .i64 0, .int .i64 4, .string ⟨#[]⟩, .string ⟨#[]⟩, .string ⟨#[]⟩, .string ⟨#[]⟩, .int .i64 0, .int .i64 8, .int .i64 0, .int .i64 1, .int .i64 0, .int .i64 5, .string ⟨#[]⟩, .string ⟨#[]⟩, .string ⟨#[]⟩, .string ⟨#[]⟩, .int .i64 0, .int .i64 3, .int .i64 2, .int .i64 0, .int .i64 0, .int .i64 0, .string ⟨#[]⟩, .string ⟨#[120]⟩, .string ⟨#[]⟩, .string ⟨#[]⟩, .int .i64 0] 45)).alloc (.cells #[.slice (some ⟨w1.heap.size, 0, none⟩) 1 1, .slice (some ⟨w1.heap.size + 1, 0, none⟩) 4 4] 25))) (by (repeat' (first | with_reducible exact Below.refl _ _ | with_reducible assumption | with_reducible apply Below.setCell | with_reducible apply Below.alloc | with_reducible apply Below.drew | with_reducible apply below_drewN | with_reducible exact Nat.le_refl _ | (simp; done) | (simp; omega) | omega | exact Nat.le_refl _)))).below hb2; simpa using this)
  have hz2 : w1.heap.size + 1 + 1 < w2.heap.size := by have := hb2.size; (try simp at this); omega
  have hNs : Hid (NdSl w2 (w1.heap.size + 1) 0 fmN) := Lib.hid (by
    rcases hN2.out.2 with h | ⟨b, off, h1, h2, h3⟩
    · cases h
    · injection h1 with h1; injection h1 with h4 h5 _; subst h4; subst h5; exact h2)
  have hOs : Hid (OrSl w2 w1.heap.size 0 fmO) := Lib.hid (by
    rcases hO2.out.2 with h | ⟨b, off, h1, h2, h3⟩
    · cases h
    · injection h1 with h1; injection h1 with h4 h5 _; subst h4; subst h5; exact h2)
  have hOwn2 := Lib.hid (OwnN.below (w1 := w2) (World.ownsRow.alloc (own_lit (B := w1.heap.size + 1) (w1.alloc (.cells #[.string ⟨#[97]⟩, .int .i64 0, .int .i64 0] 48)) #[.int .i64 0, .int .i64 0, .int .i64 0, .int .i64 0, .int .i64 0, .string ⟨#[120]⟩, .string ⟨#[]⟩, .string ⟨#[]⟩, .string ⟨#[]⟩, .int .i64 0, .int .i64 1, .int .i64 0, .int .i64 0, .int .i64 0, .int .i64 4, .string ⟨#[]⟩, .string ⟨#[]⟩, .string ⟨#[]⟩, .string ⟨#[]⟩, .int .i64 0, .int .i64 8, .int .i64 0, .int .i64 1, .int .i64 0, .int .i64 5, .string ⟨#[]⟩, .string ⟨#[]⟩, .string ⟨#[]⟩, .string ⟨#[]⟩, .int .i64 0, .int .i64 3, .int .i64 2, .int .i64 0, .int .i64 0, .int .i64 0, .string ⟨#[]⟩, .string ⟨#[120]⟩, .string ⟨#[]⟩, .string ⟨#[]⟩, .int .i64 0] fmN rfl 4 rfl (by simp) (by omega)) (.cells #[.slice (some ⟨w1.heap.size, 0, none⟩) 1 1, .slice (some ⟨w1.heap.size + 1, 0, none⟩) 4 4] 25)) hb2)
  clear hb2 kM hN0 hO0 hBa
  have f1 := fp 1
  have hB2b := Lib.hid (hB2.out.setCell (p := ⟨w1.heap.size + 1 + 1, 1, none⟩) (by show _ ≤ w1.heap.size + 1 + 1; omega) (.slice (some ⟨w1.heap.size + 1, 0, none⟩) 2 4))
  have hbb := Lib.hid (show Below (w1.heap.size + 1 + 1) w2 (w2.setCell ⟨w1.heap.size + 1 + 1, 1, none⟩ (.slice (some ⟨w1.heap.size + 1, 0, none⟩) 2 4)) from (Below.refl _ _).setCell (p := ⟨w1.heap.size + 1 + 1, 1, none⟩) (Nat.le_refl _) _)
  have hOb : Hid (OArg (w2.setCell ⟨w1.heap.size + 1 + 1, 1, none⟩ (.slice (some ⟨w1.heap.size + 1, 0, none⟩) 2 4)) (some ⟨w1.heap.size, 0, none⟩) 1 fmO) := Lib.hid ⟨rfl, .inr ⟨w1.heap.size, 0, rfl, hOs.out.below hbb.out (by omega), by simp; omega⟩⟩
  have hNb : Hid (NArg (w2.setCell ⟨w1.heap.size + 1 + 1, 1, none⟩ (.slice (some ⟨w1.heap.size + 1, 0, none⟩) 2 4)) (some ⟨w1.heap.size + 1, 0, none⟩) 2 (fmN.take 2)) := Lib.hid ((show NArg _ (some ⟨w1.heap.size + 1, 0, none⟩) 4 fmN from ⟨rfl, .inr ⟨w1.heap.size + 1, 0, rfl, hNs.out.below hbb.out (by omega), by simp; omega⟩⟩).take 2 (by omega))
  have hgb := Lib.hid (errTy_below hg.out hB2b.out)
  clear fn fo fp
  go_wp2_with fail
  refine (kB.out _ _ _ hOb hNb hgb).mono ?_
  rintro e w3 ⟨rfl, hb3⟩
  have hB3 := Lib.hid (belT hB2b.out hb3)
  clear hb3
  go_wp2_with fail
  go_ret
  exact ⟨rfl, hB3.out⟩
/-- as op_nd; nothing but the own block is touched. -/
theorem op_nd2 {ops : Array Oper} {rest : List Oper} {o : Oper} {a : Act} {Q : Exit → Act → World → Prop} (hgd : o.guard = none) (s x : Operand) (W : World) (B : Nat) (hB : B ≤ W.heap.size) (ov : Value) (l ys : List Nd) (arr : Array Value)
    (ho : o.op = .call { callee := .builtin .append, args := #[s, x], argTypes := #[23, 23] })
    (hs : a.eval s = ov) (m : Nat) (hm : m = ys.length) (hx : a.eval x = .slice (some ⟨W.heap.size, 0, none⟩) m m) (harr : arr.toList = ndL ys) (hown : OwnN B W ov l) (hlen : (l.length + ys.length) * 112 ≤ 140737488355328)
    (h : ∀ v' w', OwnN B w' v' (l ++ ys) → Below B W w' → (v' = .slice none 0 0 → ys = []) → (∀ k, k < W.heap.size → ov.ownBlock ≠ some k → w'.heap[k]? = W.heap[k]?) → W.heap.size ≤ w'.heap.size → wpList Tryd.prog ops Q rest (a.put o.dst v') w') :
    wpList Tryd.prog ops Q (o :: rest) a (W.alloc (.cells arr 45)) := by
  subst hm
  obtain ⟨i0, hi, hz0, hz1, hz2⟩ := info_parts infoNd
  refine wpList_append_own _ hgd s x 23 ho B 45 i0 (.agg #[.int .i64 0, .int .i64 0, .int .i64 0, .int .i64 0, .int .i64 0, .string ByteArray.empty, .string ByteArray.empty, .string ByteArray.empty, .string ByteArray.empty, .int .i64 0]) 10 112 Tryd.underlying23 hi hz0 hz1 hz2 rfl (by decide) ov l.length (ndL l) hs (World.ownsRow.alloc hown _) ⟨W.heap.size, 0, none⟩ ys.length ys.length (ndL ys) hx (ndL_len ys) ?_ (ndL_one ys) (by unfold maxLen; omega) (by omega) (by simp; omega) ?_
  · intro j u hj
    have e : (⟨W.heap.size, 0, none⟩ : Addr).add j = ⟨W.heap.size, j, none⟩ := by simp [Addr.add]; try omega
    rw [e, World.cell?_alloc_at _ _ _ _ rfl, ← hj, ← harr, Array.getElem?_toList]
  · intro v' w' hown' hgr hnil
    have hsz := hgr.size
    simp at hsz
    refine h v' w' (by unfold OwnN; rw [ndL_app, List.length_append]; exact hown') ?_ (fun e => List.eq_nil_of_length_eq_zero (hnil.1 e).2) (fun k hk hne => ?_) (by omega)
    · refine ⟨hgr.os, hgr.tape, hgr.output, by omega, fun k hk => ?_⟩
      rw [hgr.block k (by simp; omega) ?_]
      · exact Below.heap_alloc W _ k (by omega)
      · intro e
        rcases hown.2 with ⟨rfl, _⟩ | ⟨g, cap, cur, rfl, hg, _⟩
        · simp [Value.ownBlock] at e
        · simp [Value.ownBlock] at e; omega
    · rw [hgr.block k (by simp; omega) (fun e => hne e.symm)]
      exact Below.heap_alloc W _ k hk
theorem app_facts {B : Nat} {w2 w4 : World} {v' x y : Value} {L : List Nd} {gn n0 c0 : Nat} (h : OwnN B w4 v' L) (hL : L.length = 5) (hh : (ndL L)[0]? ≠ some x) (hblk : ∀ k, k < w2.heap.size → (Value.slice (some ⟨gn, 0, none⟩) n0 c0).ownBlock ≠ some k → w4.heap[k]? = w2.heap[k]?) (hgp : gn + 1 < w2.heap.size)
    (p0 : w2.cell? ⟨gn + 1, 0, none⟩ = some x) (p1 : w2.cell? ⟨gn + 1, 1, none⟩ = some y) (f1 : w2.frozen? ⟨gn + 1, 1, none⟩ = false) :
    ∃ g c, v' = .slice (some ⟨g, 0, none⟩) 5 c ∧ B ≤ g ∧ g < w4.heap.size ∧ 5 ≤ c ∧ NdSl w4 g 0 L ∧ g ≠ gn + 1 ∧ w4.cell? ⟨gn + 1, 0, none⟩ = some x ∧ w4.cell? ⟨gn + 1, 1, none⟩ = some y ∧ w4.frozen? ⟨gn + 1, 1, none⟩ = false := by
  have hb := hblk (gn + 1) hgp (by simp [Value.ownBlock])
  have hL2 := hL
  obtain ⟨g, c, h1, h2, h3, h4, h5, _⟩ : ∃ g c, v' = .slice (some ⟨g, 0, none⟩) L.length c ∧ B ≤ g ∧ g < w4.heap.size ∧ L.length ≤ c ∧ NdSl w4 g 0 L ∧ ∀ o, w4.frozen? ⟨g, o, none⟩ = false := by
    rcases h.cases with ⟨_, rfl⟩ | h
    · cases hL
    · exact h
  rw [hL] at h1 h4
  have c0 : w4.cell? ⟨gn + 1, 0, none⟩ = some x := by rw [← p0]; unfold World.cell?; rw [hb]
  have c1 : w4.cell? ⟨gn + 1, 1, none⟩ = some y := by rw [← p1]; unfold World.cell?; rw [hb]
  have cf : w4.frozen? ⟨gn + 1, 1, none⟩ = false := by rw [← f1]; unfold World.frozen?; rw [hb]
  refine ⟨g, c, h1, h2, h3, h4, h5, fun e => ?_, c0, c1, cf⟩
  have hl0 : ∃ u, (ndL L)[0]? = some u := by
    cases L with
    | nil => cases hL2
    | cons t r => exact ⟨_, rfl⟩
  obtain ⟨u, hu⟩ := hl0
  have := ndSl_get h5 0 u hu
  rw [Nat.zero_add, e, c0] at this
  exact hh (by rw [hu, this])
set_option maxRecDepth 100000 in
set_option maxHeartbeats 8000000 in
theorem form19 (a0 a1 q d : Int) (hq : 0 ≤ q ∧ q < 1024) (hd : 1 + q = d) (hk : bits .and .i64 a1 1023 = q) (he : (IntKind.u64.wrap a0).tmod 20 = 19) (w : World) (hg : Hid (errTy w)) :
    Calls Tryd.prog 5 #[.int .i64 a0, .int .i64 a1] w (FmPost w) := by
  have hdb : 1 ≤ d ∧ d ≤ 1024 := by omega
  have hd1 : 1 ≤ d := hdb.1
  have hd2 : d ≤ 1024 := hdb.2
  have hbad : mayV fmO (fmN ++ [(⟨2, 0, 0, 0, 1 + d, ⟨#[]⟩, ⟨#[]⟩, ⟨#[]⟩, ⟨#[]⟩, 0⟩ : Nd)]) = false := by
    refine may_tree _ _ ?_
    rw [tree_c]; unfold treeC
    rw [show bg (ksN (fmN ++ [(⟨2, 0, 0, 0, 1 + d, ⟨#[]⟩, ⟨#[]⟩, ⟨#[]⟩, ⟨#[]⟩, 0⟩ : Nd)])) (List.length (fmN ++ [(⟨2, 0, 0, 0, 1 + d, ⟨#[]⟩, ⟨#[]⟩, ⟨#[]⟩, ⟨#[]⟩, 0⟩ : Nd)]) - 1) = 4 from bg_nil _ 4 rfl]
    simp
  have kB := Lib.hid fun (g g2 c : Nat) (W : World) (h : Hid (OArg W (some ⟨g, 0, none⟩) 1 fmO)) (h2 : Hid (NArg W (some ⟨g2, 0, none⟩) 5 (fmN ++ [(⟨2, 0, 0, 0, 1 + d, ⟨#[]⟩, ⟨#[]⟩, ⟨#[]⟩, ⟨#[]⟩, 0⟩ : Nd)]))) (hg : Hid (errTy W)) => tMay_any (some ⟨g, 0, none⟩) (some ⟨g2, 0, none⟩) 1 1 5 c fmO (fmN ++ [(⟨2, 0, 0, 0, 1 + d, ⟨#[]⟩, ⟨#[]⟩, ⟨#[]⟩, ⟨#[]⟩, 0⟩ : Nd)]) W h (Lib.hid fo_sz) (by omega) h2 (Lib.hid (by intro t ht; rcases List.mem_append.1 ht with ht | ht; exact fm_sz t ht; simp only [List.mem_cons, List.not_mem_nil, or_false] at ht; subst ht; exact ⟨Nat.zero_le _, Nat.zero_le _, Nat.zero_le _, Nat.zero_le _⟩)) (by omega) hg
  rw [hbad] at kB
  clear hbad
  have kM := Lib.hid fun (g g2 : Nat) (W : World) (h : Hid (OArg W (some ⟨g, 0, none⟩) 1 fmO)) (h2 : Hid (NArg W (some ⟨g2, 0, none⟩) 4 fmN)) (hg : Hid (errTy W)) => tMay_any (some ⟨g, 0, none⟩) (some ⟨g2, 0, none⟩) 1 1 4 4 fmO fmN W h (Lib.hid fo_sz) (by omega) h2 (Lib.hid fm_sz) (by omega) hg
  rw [fm_may] at kM
  have h0l := hgl hg.out
  go_enter Tryd.func5, Tryd.ntmps5
  go_wp2_with fail
  refine (awake3_any _ hg).mono ?_
  rintro e w1 ⟨rfl, hb1⟩
  have hB1 := Lib.hid hb1
  have hw1s := hb1.size
  clear hb1
  go_wp2_with fail
  have hO0 := Lib.hid (oarg_alloc w1 #[.string ⟨#[97]⟩, .int .i64 0, .int .i64 0] fmO rfl 1 rfl)
  have hN0 := Lib.hid (narg_alloc (w1.alloc (.cells #[.string ⟨#[97]⟩, .int .i64 0, .int .i64 0] 48)) #[.int .i64 0, .int .i64 0, .int .i64 0, .int .i64 0, .int .i64 0, .string ⟨#[120]⟩, .string ⟨#[]⟩, .string ⟨#[]⟩, .string ⟨#[]⟩, .int .i64 0, .int .i64 1, .int .i64 0, .int .i64 0, .int .i64 0, .int .i64 4, .string ⟨#[]⟩, .string ⟨#[]⟩, .string ⟨#[]⟩, .string ⟨#[]⟩, .int .i64 0, .int .i64 8, .int .i64 0, .int .i64 1, .int .i64 0, .int .i64 5, .string ⟨#[]⟩, .string ⟨#[]⟩, .string ⟨#[]⟩, .string ⟨#[]⟩, .int .i64 0, .int .i64 3, .int .i64 2, .int .i64 0, .int .i64 0, .int .i64 0, .string ⟨#[]⟩, .string ⟨#[120]⟩, .string ⟨#[]⟩, .string ⟨#[]⟩, .int .i64 0] fmN rfl 4 rfl)
  have hBa := Lib.hid (show Below w.heap.size w ((w1.alloc (.cells #[.string ⟨#[97]⟩, .int .i64 0, .int .i64 0] 48)).alloc (.cells #[.int .i64 0, .int .i64 0, .int .i64 0, .int .i64 0, .int .i64 0, .string ⟨#[120]⟩, .string ⟨#[]⟩, .string ⟨#[]⟩, .string ⟨#[]⟩, .int .i64 0, .int .i64 1, .int .i64 0, .int .i64 0, .int .i64 0, .int .i64 4, .string ⟨#[]⟩, .string ⟨#[]⟩, .string ⟨#[]⟩, .string ⟨#[]⟩, .int .i64 0, .int .i64 8, .int .i64 0, .int .i64 1, .int .i64 0, .int .i64 5, .string ⟨#[]⟩, .string ⟨#[]⟩, .string ⟨#[]⟩, .string ⟨#[]⟩, .int .i64 0, .int .i64 3, .int .i64 2, .int .i64 0, .int .i64 0, .int .i64 0, .string ⟨#[]⟩, .string ⟨#[120]⟩, .string ⟨#[]⟩, .string ⟨#[]⟩, .int .i64 0] 45)) from by have := hB1.out; (repeat' (first | with_reducible exact Below.refl _ _ | with_reducible assumption | with_reducible apply Below.setCell | with_reducible apply Below.alloc | with_reducible apply Below.drew | with_reducible apply below_drewN | with_reducible exact Nat.le_refl _ | (simp; done) | (simp; omega) | omega | exact Nat.le_refl _)))
  refine (kM.out w1.heap.size (w1.heap.size + 1) _ (Lib.hid (hO0.out.below (by (repeat' (first | with_reducible exact Below.refl _ _ | with_reducible assumption | with_reducible apply Below.setCell | with_reducible apply Below.alloc | with_reducible apply Below.drew | with_reducible apply below_drewN | with_reducible exact Nat.le_refl _ | (simp; done) | (simp; omega) | omega | exact Nat.le_refl _))))) (Lib.hid (by have := hN0.out.below (w' := (((w1.alloc (.cells #[.string ⟨#[97]⟩, .int .i64 0, .int .i64 0] 48)).alloc (.cells #[.int .i64 0, .int .i64 0, .int .i64 0, .int .i64 0, .int .i64 0, .string ⟨#[120]⟩, .string ⟨#[]⟩, .string ⟨#[]⟩, .string ⟨#[]⟩, .int .i64 0, .int .i64 1, .int .i64 0, .int .i64 0, .int .i64 0, .int .i64 4, .string ⟨#[]⟩, .string ⟨#[]⟩, .string ⟨#[]⟩, .string ⟨#[]⟩, .int .i64 0, .int .i64 8, .int .i64 0, .int .i64 1, .int .i64 0, .int .i64 5, .string ⟨#[]⟩, .string ⟨#[]⟩, .string ⟨#[]⟩, .string ⟨#[]⟩, .int .i64 0, .int .i64 3, .int .i64 2, .int .i64 0, .int .i64 0, .int .i64 0, .string ⟨#[]⟩, .string ⟨#[120]⟩, .string ⟨#[]⟩, .string ⟨#[]⟩, .int .i64 0] 45)).alloc (.cells #[.slice (some ⟨w1.heap.size, 0, none⟩) 1 1, .slice (some ⟨w1.heap.size + 1, 0, none⟩) 4 4] 25))) (by (repeat' (first | with_reducible exact Below.refl _ _ | with_reducible assumption | with_reducible apply Below.setCell | with_reducible apply Below.alloc | with_reducible apply Below.drew | with_reducible apply below_drewN | with_reducible exact Nat.le_refl _ | (simp; done) | (simp; omega) | omega | exact Nat.le_refl _))); simpa using this)) (Lib.hid (errTy_below hg.out (by have := hBa.out; have := this.size; (repeat' (first | with_reducible exact Below.refl _ _ | with_reducible assumption | with_reducible apply Below.setCell | with_reducible apply Below.alloc | with_reducible apply Below.drew | with_reducible apply below_drewN | with_reducible exact Nat.le_refl _ | (simp; done) | (simp; omega) | omega | exact Nat.le_refl _)))))).mono ?_
  rintro e w2 ⟨rfl, hb2⟩
  have hB2 := Lib.hid (belT (show Below w.heap.size w _ from by have := hBa.out; have := this.size; (repeat' (first | with_reducible exact Below.refl _ _ | with_reducible assumption | with_reducible apply Below.setCell | with_reducible apply Below.alloc | with_reducible apply Below.drew | with_reducible apply below_drewN | with_reducible exact Nat.le_refl _ | (simp; done) | (simp; omega) | omega | exact Nat.le_refl _))) hb2)
  have p0 : w2.cell? ⟨w1.heap.size + 1 + 1, 0, none⟩ = some (.slice (some ⟨w1.heap.size, 0, none⟩) 1 1) := carry hb2 (by first | (simp; done) | (simp; omega)) (by rw [World.cell?_alloc_at _ _ _ _ (by simp)]; rfl)
  have p1 : w2.cell? ⟨w1.heap.size + 1 + 1, 1, none⟩ = some (.slice (some ⟨w1.heap.size + 1, 0, none⟩) 4 4) := carry hb2 (by first | (simp; done) | (simp; omega)) (by rw [World.cell?_alloc_at _ _ _ _ (by simp)]; rfl)
  have fp : ∀ o, w2.frozen? ⟨w1.heap.size + 1 + 1, o, none⟩ = false := fun o => by rw [hb2.frozen (p := ⟨w1.heap.size + 1 + 1, o, none⟩) (by first | (simp; done) | (simp; omega))]; simp [go_sem]
  have fn : ∀ o, w2.frozen? ⟨w1.heap.size + 1, o, none⟩ = false := fun o => by rw [hb2.frozen (p := ⟨w1.heap.size + 1, o, none⟩) (by first | (simp; done) | (simp; omega))]; simp [go_sem]
  have fo : ∀ o, w2.frozen? ⟨w1.heap.size, o, none⟩ = false := fun o => by rw [hb2.frozen (p := ⟨w1.heap.size, o, none⟩) (by first | (simp; done) | (simp; omega))]; simp [go_sem]
  have hO2 : Hid (OArg w2 (some ⟨w1.heap.size, 0, none⟩) 1 fmO) := Lib.hid ((hO0.out.below (w' := (((w1.alloc (.cells #[.string ⟨#[97]⟩, .int .i64 0, .int .i64 0] 48)).alloc (.cells #[.int .i64 0, .int .i64 0, .int .i64 0, .int .i64 0, .int .i64 0, .string ⟨#[120]⟩, .string ⟨#[]⟩, .string ⟨#[]⟩, .string ⟨#[]⟩, .int .i64 0, .int .i64 1, .int .i64 0, .int .i64 0, .int .i64 0, .int .i64 4, .string ⟨#[]⟩, .string ⟨#[]⟩, .string ⟨#[]⟩, .string ⟨#[]⟩, .int .i64 0, .int .i64 8, .int .i64 0, .int .i64 1, .int .i64 0, .int .i64 5, .string ⟨#[]⟩, .string ⟨#[]⟩, .string ⟨#[]⟩, .string ⟨#[]⟩, .int .i64 0, .int .i64 3, .int .i64 2, .int .i64 0, .int .i64 0, .int .i64 0, .string ⟨#[]⟩, .string ⟨#[120]⟩, .string ⟨#[]⟩, .string ⟨#[]⟩, .int .i64 0] 45)).alloc (.cells #[.slice (some ⟨w1.heap.size, 0, none⟩) 1 1, .slice (some ⟨w1.heap.size + 1, 0, none⟩) 4 4] 25))) (by (repeat' (first | with_reducible exact Below.refl _ _ | with_reducible assumption | with_reducible apply Below.setCell | with_reducible apply Below.alloc | with_reducible apply Below.drew | with_reducible apply below_drewN | with_reducible exact Nat.le_refl _ | (simp; done) | (simp; omega) | omega | exact Nat.le_refl _)))).below hb2)
  have hN2 : Hid (NArg w2 (some ⟨w1.heap.size + 1, 0, none⟩) 4 fmN) := Lib.hid (by have := (hN0.out.below (w' := (((w1.alloc (.cells #[.string ⟨#[97]⟩, .int .i64 0, .int .i64 0] 48)).alloc (.cells #[.int .i64 0, .int .i64 0, .int .i64 0, .int .i64 0, .int .i64 0, .string ⟨#[120]⟩, .string ⟨#[]⟩, .string ⟨#[]⟩, .string ⟨#[]⟩, .int .i64 0, .int .i64 1, .int .i64 0, .int .i64 0, .int .i64 0, .int .i64 4, .string ⟨#[]⟩, .string ⟨#[]⟩, .string ⟨#[]⟩, .string ⟨#[]⟩, .int .i64 0, .int .i64 8, .int .i64 0, .int .i64 1, .int .i64 0, .int .i64 5, .string ⟨#[]⟩, .string ⟨#[]⟩, .string ⟨#[]⟩, .string ⟨#[]⟩, .int .i64 0, .int .i64 3, .int .i64 2, .int .i64 0, .int .i64 0, .int .i64 0, .string ⟨#[]⟩, .string ⟨#[120]⟩, .string ⟨#[]⟩, .string ⟨#[]⟩, .int .i64 0] 45)).alloc (.cells #[.slice (some ⟨w1.heap.size, 0, none⟩) 1 1, .slice (some ⟨w1.heap.size + 1, 0, none⟩) 4 4] 25))) (by (repeat' (first | with_reducible exact Below.refl _ _ | with_reducible assumption | with_reducible apply Below.setCell | with_reducible apply Below.alloc | with_reducible apply Below.drew | with_reducible apply below_drewN | with_reducible exact Nat.le_refl _ | (simp; done) | (simp; omega) | omega | exact Nat.le_refl _)))).below hb2; simpa using this)
  have hz2 : w1.heap.size + 1 + 1 < w2.heap.size := by have := hb2.size; (try simp at this); omega
  have hNs : Hid (NdSl w2 (w1.heap.size + 1) 0 fmN) := Lib.hid (by
    rcases hN2.out.2 with h | ⟨b, off, h1, h2, h3⟩
    · cases h
    · injection h1 with h1; injection h1 with h4 h5 _; subst h4; subst h5; exact h2)
  have hOs : Hid (OrSl w2 w1.heap.size 0 fmO) := Lib.hid (by
    rcases hO2.out.2 with h | ⟨b, off, h1, h2, h3⟩
    · cases h
    · injection h1 with h1; injection h1 with h4 h5 _; subst h4; subst h5; exact h2)
  have hOwn2 := Lib.hid (OwnN.below (w1 := w2) (World.ownsRow.alloc (own_lit (B := w1.heap.size + 1) (w1.alloc (.cells #[.string ⟨#[97]⟩, .int .i64 0, .int .i64 0] 48)) #[.int .i64 0, .int .i64 0, .int .i64 0, .int .i64 0, .int .i64 0, .string ⟨#[120]⟩, .string ⟨#[]⟩, .string ⟨#[]⟩, .string ⟨#[]⟩, .int .i64 0, .int .i64 1, .int .i64 0, .int .i64 0, .int .i64 0, .int .i64 4, .string ⟨#[]⟩, .string ⟨#[]⟩, .string ⟨#[]⟩, .string ⟨#[]⟩, .int .i64 0, .int .i64 8, .int .i64 0, .int .i64 1, .int .i64 0, .int .i64 5, .string ⟨#[]⟩, .string ⟨#[]⟩, .string ⟨#[]⟩, .string ⟨#[]⟩, .int .i64 0, .int .i64 3, .int .i64 2, .int .i64 0, .int .i64 0, .int .i64 0, .string ⟨#[]⟩, .string ⟨#[120]⟩, .string ⟨#[]⟩, .string ⟨#[]⟩, .int .i64 0] fmN rfl 4 rfl (by simp) (by omega)) (.cells #[.slice (some ⟨w1.heap.size, 0, none⟩) 1 1, .slice (some ⟨w1.heap.size + 1, 0, none⟩) 4 4] 25)) hb2)
  clear hb2 kM hN0 hO0 hBa
  have hown : Hid (OwnN (w1.heap.size + 1) w2 (.slice (some ⟨w1.heap.size + 1, 0, none⟩) 4 4) fmN) := Lib.hid (by simpa using hOwn2.out)
  have hgp : w1.heap.size + 1 + 1 < w2.heap.size := hz2
  have fp0 := fp 0; have fp1 := fp 1
  clear fn fo fp
  go_wp2_with (at_builtin; refine op_nd2 rfl (.tmp 27) (.tmp 31) w2 (w1.heap.size + 1) (by omega) _ fmN [⟨2, 0, 0, 0, 1 + d, ⟨#[]⟩, ⟨#[]⟩, ⟨#[]⟩, ⟨#[]⟩, 0⟩] _ rfl rfl 1 rfl rfl rfl hown.out (by show (4 + 1) * 112 ≤ _; omega) ?_; intro v' w4 hown4 hb4 hnn hblk hsz4; obtain ⟨g, c, rfl, hg1, hg2, hg3, hsl, hgne, d0, d1, df⟩ := app_facts hown4 (by rfl) (by intro e; cases e) hblk hgp p0 p1 fp1; have hsl' := Lib.hid hsl; have hb4' := Lib.hid hb4; clear hown4 hnn hblk hsl hb4)
  have hB4 := Lib.hid (hB2.out.trans (hb4'.out.mono (by omega)))
  have hO4 := Lib.hid (show OrSl w4 w1.heap.size 0 fmO from hOs.out.below hb4'.out (by omega))
  have hB2b := Lib.hid (hB4.out.setCell (p := ⟨w1.heap.size + 1 + 1, 1, none⟩) (by show _ ≤ w1.heap.size + 1 + 1; omega) (.slice (some ⟨g, 0, none⟩) 5 c))
  have hOb : Hid (OArg (w4.setCell ⟨w1.heap.size + 1 + 1, 1, none⟩ (.slice (some ⟨g, 0, none⟩) 5 c)) (some ⟨w1.heap.size, 0, none⟩) 1 fmO) := Lib.hid ⟨rfl, .inr ⟨w1.heap.size, 0, rfl, hO4.out.below (B := w1.heap.size + 1) ((Below.refl _ _).setCell (p := ⟨w1.heap.size + 1 + 1, 1, none⟩) (by show _ ≤ w1.heap.size + 1 + 1; omega) _) (by omega), by simp; omega⟩⟩
  have hNb : Hid (NArg (w4.setCell ⟨w1.heap.size + 1 + 1, 1, none⟩ (.slice (some ⟨g, 0, none⟩) 5 c)) (some ⟨g, 0, none⟩) 5 (fmN ++ [(⟨2, 0, 0, 0, 1 + d, ⟨#[]⟩, ⟨#[]⟩, ⟨#[]⟩, ⟨#[]⟩, 0⟩ : Nd)])) := Lib.hid ⟨rfl, .inr ⟨g, 0, rfl, fun i hi => by
    have hT := hsl'.out i hi
    unfold NdAt at *
    simp only [cell_set _ _ _ _ _ _ _ d1, hgne, false_and, if_false]
    exact hT, by simp; omega⟩⟩
  have hgb := Lib.hid (errTy_below hg.out hB2b.out)
  clear p0 p1 hOwn2
  refine (kB.out _ _ _ _ hOb hNb hgb).mono ?_
  rintro e w3 ⟨rfl, hb3⟩
  have hB3 := Lib.hid (belT hB2b.out hb3)
  clear hb3
  go_wp2_with fail
  go_ret
  exact ⟨rfl, hB3.out⟩
end Go.Proofs.YtdkpggnnhdoklaaDoor
