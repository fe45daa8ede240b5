/- awake of layer 3. -/
import Derived.Test.YtdkpggnnhdoklaaDoorNaI
import Derived.Test.YtdkpggnnhdoklaaDoorMay
import Derived.Test.YtdkpggnnhdoklaaDoorPrg
namespace Go.Proofs.YtdkpggnnhdoklaaDoor
open Go.RowKit
set_option linter.unusedVariables false
set_option linter.unusedSimpArgs false

/-- the same facts in a form that can be reckoned. -/
def plainC (kd a b c nm : Int) (s1 s2 s3 s4 : List UInt8) : Bool :=
  if kd = 0 then decide (a = 0 ∧ b = 0 ∧ c = 0 ∧ s2 = [] ∧ s3 = [] ∧ s4 = [])
  else if kd = 1 ∨ kd = 2 then decide (a = 0 ∧ b = 0 ∧ c = 0 ∧ s1 = [] ∧ s2 = [] ∧ s3 = [] ∧ s4 = [])
  else if kd = 3 then decide (b = 0 ∧ c = 0 ∧ nm = 0 ∧ s1 = [] ∧ s3 = [] ∧ s4 = [])
  else if kd = 4 then decide (c = 0 ∧ nm = 0 ∧ s1 = [] ∧ s2 = [] ∧ s3 = [] ∧ s4 = [])
  else if kd = 5 then decide (c = 0 ∧ nm = 0 ∧ s1 = [] ∧ s3 = [] ∧ s4 = [])
  else if kd = 6 then decide (c = 0 ∧ nm = 0 ∧ s1 = [] ∧ s4 = [])
  else if kd = 7 then decide (nm = 0 ∧ s1 = [] ∧ s2 = [] ∧ s3 = [] ∧ s4 = [])
  else if kd = 8 then decide (c = 0 ∧ s1 = [] ∧ s2 = [] ∧ s3 = [] ∧ s4 = [])
  else if kd = 9 then decide (b = 0 ∧ c = 0 ∧ s2 = [] ∧ s3 = [] ∧ s4 = [])
  else decide (kd = 10)
theorem plain_c (kd a b c nm : Int) (s1 s2 s3 s4 : ByteArray) : plainB kd a b c nm s1 s2 s3 s4 = plainC kd a b c nm s1.data.toList s2.data.toList s3.data.toList s4.data.toList := by
  unfold plainB plainC; simp only [ByteArray.toList_eq]
def resC (l : List ByteArray) : Bool := l.all fun s => s.data.toList.isEmpty
theorem res_c (l : List ByteArray) : resB l = resC l := by unfold resB resC; simp only [ByteArray.toList_eq]
def okC (named : Bool) (t : Nd) : Bool := plainC t.k t.a t.b t.c t.n t.nm.data.toList t.x.data.toList t.y.data.toList t.z.data.toList && decide (0 ≤ t.p) && decide (t.p ≤ 4096) && numB t.k t.n && (if named then namedB t.k t.n (namesL t.k t.nm t.x t.y t.z) else resC (namesL t.k t.nm t.x t.y t.z))
theorem ok_c (named : Bool) (t : Nd) : okNd (okNm named) t = okC named t := by
  unfold okNd okNm okC; rw [plain_c, res_c]
def treeC (named : Bool) (ts : List Nd) : Bool := decide (1 ≤ ts.length ∧ ts.length ≤ 512) && ts.all (okC named) && decide (bg (ksN ts) (ts.length - 1) = 0)
theorem tree_c (named : Bool) (ts : List Nd) : treeV (okNm named) ts = treeC named ts := by
  unfold treeV treeC; rw [show okNd (okNm named) = okC named from funext (ok_c named)]
def anyC (ts : List Nd) : Bool := treeC true ts || treeC false ts
theorem any_c (ts : List Nd) : anyV ts = anyC ts := by unfold anyV anyC; rw [tree_c, tree_c]
def ndC (t u : Nd) : Bool := t.k == u.k && (t.a == u.a && (t.b == u.b && (t.c == u.c && (t.n == u.n && (t.nm.data.toList == u.nm.data.toList && (t.x.data.toList == u.x.data.toList && (t.y.data.toList == u.y.data.toList && t.z.data.toList == u.z.data.toList)))))))
theorem ndS_c (t u : Nd) : ndS t u = ndC t u := by unfold ndS ndQ ndC; simp only [ByteArray.toList_eq]; simp
theorem ndE_c (t u : Nd) : ndE t u = (ndC t u && t.p == u.p) := by
  unfold ndE ndQ ndC; simp only [ByteArray.toList_eq]
  cases t.k == u.k <;> cases t.a == u.a <;> cases t.b == u.b <;> cases t.c == u.c <;> cases t.n == u.n <;> cases t.nm.data.toList == u.nm.data.toList <;> cases t.x.data.toList == u.x.data.toList <;> cases t.y.data.toList == u.y.data.toList <;> cases t.z.data.toList == u.z.data.toList <;> rfl
theorem sameS_c (l m : List Nd) : sameV ndS l m = sameV ndC l m := by rw [show ndS = ndC from funext fun t => funext (ndS_c t)]

def awN : List Nd := [⟨0, 0, 0, 0, 0, ⟨#[120]⟩, ⟨#[]⟩, ⟨#[]⟩, ⟨#[]⟩, 0⟩, ⟨1, 0, 0, 0, 4, ⟨#[]⟩, ⟨#[]⟩, ⟨#[]⟩, ⟨#[]⟩, 0⟩, ⟨8, 0, 1, 0, 0, ⟨#[]⟩, ⟨#[]⟩, ⟨#[]⟩, ⟨#[]⟩, 0⟩, ⟨3, 2, 0, 0, 0, ⟨#[]⟩, ⟨#[120]⟩, ⟨#[]⟩, ⟨#[]⟩, 0⟩]
def awN9 : List Nd := [⟨0, 0, 0, 0, 0, ⟨#[120]⟩, ⟨#[]⟩, ⟨#[]⟩, ⟨#[]⟩, 9⟩, ⟨1, 0, 0, 0, 4, ⟨#[]⟩, ⟨#[]⟩, ⟨#[]⟩, ⟨#[]⟩, 0⟩, ⟨8, 0, 1, 0, 0, ⟨#[]⟩, ⟨#[]⟩, ⟨#[]⟩, ⟨#[]⟩, 0⟩, ⟨3, 2, 0, 0, 0, ⟨#[]⟩, ⟨#[120]⟩, ⟨#[]⟩, ⟨#[]⟩, 0⟩]
theorem aw_any : anyV awN = true := by rw [any_c]; decide +kernel
theorem aw_any1 : anyV (awN.drop 1) = false := by rw [any_c]; decide +kernel
theorem aw_may : mayV [] awN = true := by unfold mayV; rw [tree_c]; decide +kernel
theorem aw_may0 : mayV [] [] = false := by unfold mayV; rw [tree_c]; decide +kernel
theorem aw_dep : depV awN 3 = (3, 0) := by
  unfold depV hasV; rw [aw_any]; decide +kernel
theorem aw_dep4 : depV awN 4 = (0, 300) := by
  unfold depV hasV; rw [aw_any]; decide +kernel
theorem aw_dep2 : (depV awN 2).2 = 0 := by
  unfold depV hasV; rw [aw_any]; decide +kernel
theorem aw_part : partV awN 2 = awN.take 3 := by
  unfold partV hasV; rw [aw_any]; kernel_rfl
theorem aw_dep1 : (depV (awN.drop 1) 0).2 = 300 := by
  unfold depV hasV; rw [aw_any1]; decide +kernel
theorem aw_same : sameV ndS awN awN9 = true := by rw [sameS_c]; decide +kernel
theorem aw_same3 : sameV ndS awN (awN.take 3) = false := by rw [sameS_c]; decide +kernel
theorem aw_sz : ∀ t ∈ awN, NdSz t := by
  intro t ht
  simp only [awN, List.mem_cons, List.not_mem_nil, or_false] at ht
  rcases ht with rfl | rfl | rfl | rfl <;> (unfold NdSz; decide)
theorem ar_or (h : ∀ t ∈ ([] : List Or), OrSz t) : True := trivial
theorem or_sz0 : ∀ t ∈ ([] : List Or), OrSz t := by intro t ht; cases ht
theorem nd_sz0 : ∀ t ∈ ([] : List Nd), NdSz t := by intro t ht; cases ht
theorem oarg0 (w : World) (c : Option Addr) : OArg w c 0 [] := ⟨rfl, .inl rfl⟩
theorem narg0 (w : World) (c : Option Addr) : NArg w c 0 [] := ⟨rfl, .inl rfl⟩
/-- nodes in a block that was made last. -/
theorem narg_alloc (W : World) (arr : Array Value) (ts : List Nd) (h : arr.toList = ndL ts) (n : Nat) (hn : n = ts.length) : NArg (W.alloc (.cells arr 45)) (some ⟨W.heap.size, 0, none⟩) n ts := by
  refine ⟨hn, .inr ⟨W.heap.size, 0, rfl, ndSl_of fun j u hj => ?_, by simp⟩⟩
  rw [Nat.zero_add, World.cell?_alloc_at _ _ _ _ rfl, ← hj, ← h, Array.getElem?_toList]
theorem NArg.take {w : World} {a : Option Addr} {n : Nat} {ts : List Nd} (h : NArg w a n ts) (k : Nat) (hk : k ≤ n) : NArg w a k (ts.take k) := by
  obtain ⟨h1, h2⟩ := h
  refine ⟨by simp; omega, ?_⟩
  rcases h2 with rfl | ⟨b, off, h3, h4, h5⟩
  · exact .inl (by simp)
  · refine .inr ⟨b, off, h3, fun i hi => ?_, h5⟩
    simp at hi
    have := h4 i (by omega)
    have hik : i < k := by omega
    rw [show (ts.take k).getD i nd0 = ts.getD i nd0 from by rw [List.getD_eq_getElem?_getD, List.getElem?_take, if_pos hik, ← List.getD_eq_getElem?_getD]]
    exact this
theorem NArg.drop {w : World} {b off n : Nat} {ts : List Nd} (h : NArg w (some ⟨b, off, none⟩) n ts) (k : Nat) (hk : k ≤ n) : NArg w (some ⟨b, off + k * 10, none⟩) (n - k) (ts.drop k) := by
  obtain ⟨h1, h2⟩ := h
  refine ⟨by simp; omega, ?_⟩
  rcases h2 with rfl | ⟨b', off', h3, h4, h5⟩
  · exact .inl (by simp)
  · injection h3 with h3; injection h3 with h6 h7 _; subst h6; subst h7
    refine .inr ⟨b, off + k * 10, rfl, fun i hi => ?_, h5⟩
    simp at hi
    have := h4 (k + i) (by omega)
    rw [show (ts.drop k).getD i nd0 = ts.getD (k + i) nd0 from by simp [List.getD_eq_getElem?_getD, List.getElem?_drop]]
    unfold NdAt at *
    rw [show off + k * 10 + i * 10 = off + (k + i) * 10 by omega]
    exact this
theorem nd_setp {w : World} {g : Nat} {t : Nd} {ts : List Nd} (h : NdSl w g 0 (t :: ts)) (v : Int) : NdSl (w.setCell ⟨g, 9, none⟩ (.int .i64 v)) g 0 (⟨t.k, t.a, t.b, t.c, t.n, t.nm, t.x, t.y, t.z, v⟩ :: ts) := by
  have h0 := h 0 (by simp)
  have hold : w.cell? ⟨g, 9, none⟩ = some (.int .i64 t.p) := by have := h0.2.2.2.2.2.2.2.2.2; simpa using this
  intro i hi
  have hT := h i (by simpa using hi)
  unfold NdAt at *
  cases i with
  | zero =>
    simp only [List.getD_cons_zero] at *
    obtain ⟨e0, e1, e2, e3, e4, e5, e6, e7, e8, e9⟩ := hT
    refine ⟨?_, ?_, ?_, ?_, ?_, ?_, ?_, ?_, ?_, ?_⟩ <;> rw [cell_set _ _ _ _ _ _ _ hold]
    · rw [if_neg (by omega)]; exact e0
    · rw [if_neg (by omega)]; exact e1
    · rw [if_neg (by omega)]; exact e2
    · rw [if_neg (by omega)]; exact e3
    · rw [if_neg (by omega)]; exact e4
    · rw [if_neg (by omega)]; exact e5
    · rw [if_neg (by omega)]; exact e6
    · rw [if_neg (by omega)]; exact e7
    · rw [if_neg (by omega)]; exact e8
    · rw [if_pos (by omega)]
  | succ i =>
    simp only [List.getD_cons_succ] at *
    obtain ⟨e0, e1, e2, e3, e4, e5, e6, e7, e8, e9⟩ := hT
    refine ⟨?_, ?_, ?_, ?_, ?_, ?_, ?_, ?_, ?_, ?_⟩ <;> rw [cell_set _ _ _ _ _ _ _ hold, if_neg (by omega)] <;> assumption
theorem aw_sz1 : ∀ t ∈ awN.drop 1, NdSz t := fun t ht => aw_sz t (List.mem_of_mem_drop ht)
set_option maxRecDepth 100000 in
set_option maxHeartbeats 8000000 in
theorem awake3_any (w : World) (hg : Hid (errTy w)) : Calls Tryd.prog 20 #[] w fun e w' => e = .returned (.bool true) ∧ Below w.heap.size w w' := by
  have hsz := Lib.hid aw_sz
  have hsz1 := Lib.hid aw_sz1
  have kD3 := Lib.hid fun (g : Nat) (W : World) (h : Hid (NArg W (some ⟨g, 0, none⟩) 4 awN)) (hg : Hid (errTy W)) => tDepth_any (some ⟨g, 0, none⟩) 4 4 awN 3 W h hsz (by omega) hg
  rw [aw_dep] at kD3
  have kD4 := Lib.hid fun (g : Nat) (W : World) (h : Hid (NArg W (some ⟨g, 0, none⟩) 4 awN)) (hg : Hid (errTy W)) => tDepth_any (some ⟨g, 0, none⟩) 4 4 awN 4 W h hsz (by omega) hg
  rw [aw_dep4] at kD4
  have kP := Lib.hid fun (g : Nat) (W : World) (h : Hid (NArg W (some ⟨g, 0, none⟩) 4 awN)) (hg : Hid (errTy W)) => tPart_any (some ⟨g, 0, none⟩) 4 4 awN 2 W h hsz (by omega) (by omega) hg
  unfold PartPost at kP
  rw [aw_dep2, aw_part] at kP
  have kP1 := Lib.hid fun (g : Nat) (W : World) (h : Hid (NArg W (some ⟨g, 10, none⟩) 3 (awN.drop 1))) (hg : Hid (errTy W)) => tPart_any (some ⟨g, 10, none⟩) 3 3 (awN.drop 1) 0 W h hsz1 (by omega) (by omega) hg
  unfold PartPost at kP1
  rw [aw_dep1] at kP1
  have kM := Lib.hid fun (g : Nat) (W : World) (h : Hid (NArg W (some ⟨g, 0, none⟩) 4 awN)) (hg : Hid (errTy W)) => tMay_any none (some ⟨g, 0, none⟩) 0 0 4 4 [] awN W (Lib.hid (oarg0 W none)) (Lib.hid or_sz0) (by omega) h hsz (by omega) hg
  rw [aw_may] at kM
  have kM0 := Lib.hid fun (W : World) (hg : Hid (errTy W)) => tMay_any none none 0 0 0 0 [] [] W (Lib.hid (oarg0 W none)) (Lib.hid or_sz0) (by omega) (Lib.hid (narg0 W none)) (Lib.hid nd_sz0) (by omega) hg
  rw [aw_may0] at kM0
  have kC := Lib.hid fun (g : Nat) (W : World) (h : Hid (NArg W (some ⟨g, 0, none⟩) 4 awN)) => CopyNodes_any (some ⟨g, 0, none⟩) 4 4 awN W h (by omega)
  have kS := Lib.hid fun (g g' c : Nat) (W : World) (h : Hid (NArg W (some ⟨g, 0, none⟩) 4 awN)) (h' : Hid (NArg W (some ⟨g', 0, none⟩) 4 awN9)) => tSame_any (some ⟨g, 0, none⟩) (some ⟨g', 0, none⟩) 4 4 4 c awN awN9 W h h' (by omega)
  rw [aw_same] at kS
  have kS3 := Lib.hid fun (g : Nat) (W : World) (h : Hid (NArg W (some ⟨g, 0, none⟩) 4 awN)) (h' : Hid (NArg W (some ⟨g, 0, none⟩) 3 (awN.take 3))) => tSame_any (some ⟨g, 0, none⟩) (some ⟨g, 0, none⟩) 4 3 4 4 awN (awN.take 3) W h h' (by omega)
  rw [aw_same3] at kS3
  have kE := Lib.hid fun (a : Option Addr) (g c : Nat) (W : World) (h : Hid (NArg W a 3 (awN.take 3))) (h' : Hid (NArg W (some ⟨g, 0, none⟩) 3 (awN.take 3))) => sameNodes_any a (some ⟨g, 0, none⟩) 3 3 c 4 (awN.take 3) (awN.take 3) W h h' (by omega)
  rw [sameV_self ndE_self] at kE
  have h0l := hgl hg.out
  go_enter Tryd.func20, Tryd.ntmps20
  go_wp2_with fail
  have hN0 := Lib.hid (narg_alloc w #[.int .i64 0, .int .i64 0, .int .i64 0, .int .i64 0, .int .i64 0, .string ⟨#[120]⟩, .string ⟨#[]⟩, .string ⟨#[]⟩, .string ⟨#[]⟩, .int .i64 0, .int .i64 1, .int .i64 0, .int .i64 0, .int .i64 0, .int .i64 4, .string ⟨#[]⟩, .string ⟨#[]⟩, .string ⟨#[]⟩, .string ⟨#[]⟩, .int .i64 0, .int .i64 8, .int .i64 0, .int .i64 1, .int .i64 0, .int .i64 0, .string ⟨#[]⟩, .string ⟨#[]⟩, .string ⟨#[]⟩, .string ⟨#[]⟩, .int .i64 0, .int .i64 3, .int .i64 2, .int .i64 0, .int .i64 0, .int .i64 0, .string ⟨#[]⟩, .string ⟨#[120]⟩, .string ⟨#[]⟩, .string ⟨#[]⟩, .int .i64 0] awN rfl 4 rfl)
  refine (kD3.out _ _ hN0 (Lib.hid (errTy_below hg.out (by (repeat' (first | with_reducible exact Below.refl _ _ | with_reducible assumption | with_reducible apply Below.setCell | with_reducible apply Below.alloc | with_reducible apply Below.drew | with_reducible apply below_drewN | with_reducible exact Nat.le_refl _ | (simp; done) | (simp; omega) | omega | exact Nat.le_refl _)))))).mono ?_
  rintro e w1 ⟨rfl, hb1⟩
  have hN1 := Lib.hid (hN0.out.below hb1)
  have hB1 := Lib.hid (belT (show Below w.heap.size w _ from by (repeat' (first | with_reducible exact Below.refl _ _ | with_reducible assumption | with_reducible apply Below.setCell | with_reducible apply Below.alloc | with_reducible apply Below.drew | with_reducible apply below_drewN | with_reducible exact Nat.le_refl _ | (simp; done) | (simp; omega) | omega | exact Nat.le_refl _))) hb1)
  have hg1 := Lib.hid (errTy_below hg.out hB1.out)
  clear hb1
  go_wp2_with fail
  refine (kP.out _ _ hN1 hg1).mono ?_
  rintro e w2 ⟨v2, rfl, hown2, hb2⟩
  have hN2 := Lib.hid (hN1.out.below hb2)
  have hB2 := Lib.hid (belT hB1.out hb2)
  have hg2 := Lib.hid (errTy_below hg.out hB2.out)
  obtain ⟨a2, c2, rfl⟩ : ∃ a c, v2 = .slice a 3 c := by
    rcases hown2.cases with ⟨_, h⟩ | ⟨g, c, h, _⟩
    · cases h
    · exact ⟨_, _, h⟩
  have hP2 := Lib.hid hown2.arg
  clear hb2 hown2
  go_wp2_with fail
  refine (kD4.out _ _ hN2 hg2).mono ?_
  rintro e w3 ⟨rfl, hb3⟩
  have hN3 := Lib.hid (hN2.out.below hb3)
  have hP3 := Lib.hid (hP2.out.below hb3)
  have hB3 := Lib.hid (belT hB2.out hb3)
  have hg3 := Lib.hid (errTy_below hg.out hB3.out)
  clear hb3
  go_wp2_with fail
  refine (kP1.out _ _ (Lib.hid (hN3.out.drop 1 (by omega))) hg3).mono ?_
  rintro e w4 ⟨v4, rfl, hown4, hb4⟩
  have hN4 := Lib.hid (hN3.out.below hb4)
  have hP4 := Lib.hid (hP3.out.below hb4)
  have hB4 := Lib.hid (belT hB3.out hb4)
  have hg4 := Lib.hid (errTy_below hg.out hB4.out)
  clear hb4 hown4
  go_wp2_with fail
  refine (kC.out _ _ hN4).mono ?_
  rintro e w5 ⟨v5, rfl, hown5, hb5⟩
  obtain ⟨g5, c5, rfl, hg5, hs5, hc5, hsl5, hf5⟩ : ∃ g c, v5 = .slice (some ⟨g, 0, none⟩) 4 c ∧ w4.heap.size ≤ g ∧ g < w5.heap.size ∧ 4 ≤ c ∧ NdSl w5 g 0 awN ∧ ∀ o, w5.frozen? ⟨g, o, none⟩ = false := by
    rcases hown5.cases with ⟨_, h⟩ | ⟨g, c, h1, h2, h3, h4, h5, h6⟩
    · cases h
    · exact ⟨g, c, h1, h2, h3, h4, h5, h6⟩
  have hset := Lib.hid (nd_setp hsl5 9)
  have hB6 := Lib.hid (hb5.setCell (p := ⟨g5, 9, none⟩) hg5 (.int .i64 9))
  have hN6 := Lib.hid (hN4.out.below hB6.out)
  have hP6 := Lib.hid (hP4.out.below hB6.out)
  have hB6w := Lib.hid (belT hB4.out hB6.out)
  have hM6 : Hid (NArg (w5.setCell ⟨g5, 9, none⟩ (.int .i64 9)) (some ⟨g5, 0, none⟩) 4 awN9) := Lib.hid ⟨rfl, .inr ⟨g5, 0, rfl, hset.out, by simpa using hs5⟩⟩
  have hold : w5.cell? ⟨g5, 9, none⟩ = some (.int .i64 0) := by have := (hsl5 0 (by decide)).2.2.2.2.2.2.2.2.2; simpa [awN] using this
  have hf9 := hf5 9
  clear hown5 hb5 hsl5 hf5 hset hg5
  obtain ⟨w6, hw6⟩ : ∃ W, w5.setCell ⟨g5, 9, none⟩ (.int .i64 9) = W := ⟨_, rfl⟩
  rw [hw6] at hN6 hP6 hB6w hM6
  have hg6 := Lib.hid (errTy_below hg.out hB6w.out)
  clear hB6
  go_wp2_with ((go_at_call 12; refine (num_any _ _ (by omega) (by omega)).mono ?_; rintro e w' ⟨rfl, rfl⟩))
  (try rw [hw6])
  refine (kE.out _ _ _ _ hP6 (Lib.hid (hN6.out.take 3 (by omega)))).mono ?_
  rintro e w7 ⟨rfl, hb7⟩
  have hN7 := Lib.hid (hN6.out.below hb7)
  have hM7 := Lib.hid (hM6.out.below hb7)
  have hB7 := Lib.hid (belT hB6w.out hb7)
  have hg7 := Lib.hid (errTy_below hg.out hB7.out)
  clear hb7 hw6 hold hf9
  go_wp2_with ((go_at_call 12; refine (num_any _ _ (by omega) (by omega)).mono ?_; rintro e w' ⟨rfl, rfl⟩))
  refine (kM.out _ _ hN7 hg7).mono ?_
  rintro e w8 ⟨rfl, hb8⟩
  have hN8 := Lib.hid (hN7.out.below hb8)
  have hM8 := Lib.hid (hM7.out.below hb8)
  have hB8 := Lib.hid (belT hB7.out hb8)
  have hg8 := Lib.hid (errTy_below hg.out hB8.out)
  clear hb8
  go_wp2_with fail
  refine (kM0.out _ hg8).mono ?_
  rintro e w9 ⟨rfl, hb9⟩
  have hN9 := Lib.hid (hN8.out.below hb9)
  have hM9 := Lib.hid (hM8.out.below hb9)
  have hB9 := Lib.hid (belT hB8.out hb9)
  clear hb9
  go_wp2_with fail
  refine (kS.out _ _ _ _ hN9 hM9).mono ?_
  rintro e w10 ⟨rfl, hb10⟩
  have hN10 := Lib.hid (hN9.out.below hb10)
  have hB10 := Lib.hid (belT hB9.out hb10)
  clear hb10
  go_wp2_with fail
  refine (kS3.out _ _ hN10 (Lib.hid (hN10.out.take 3 (by omega)))).mono ?_
  rintro e w11 ⟨rfl, hb11⟩
  have hB11 := Lib.hid (belT hB10.out hb11)
  clear hb11
  go_wp2_with fail
  go_ret
  exact ⟨rfl, hB11.out⟩
end Go.Proofs.YtdkpggnnhdoklaaDoor
