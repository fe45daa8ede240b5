/- Parts of trees: moved nodes, tree.Part, the reference's Moved, Cut, Part. -/
import Derived.Test.YtdkpggnnhdoklaaDoorNaG
import Derived.Test.YtdkpggnnhdoklaaDoorNdO
import Derived.Laws.MakeOwn
/- Parts of trees: moved nodes, tree.Part, the reference's Moved, Cut, Part. -/
namespace Go.Proofs.YtdkpggnnhdoklaaDoor
open Go.RowKit
set_option linter.unusedVariables false
set_option linter.unusedSimpArgs false

def mvN (by_ : Int) (t : Nd) : Nd := ⟨t.k, (if 1 ≤ cntN t.k then t.a - by_ else t.a), (if 2 ≤ cntN t.k then t.b - by_ else t.b), (if 3 ≤ cntN t.k then t.c - by_ else t.c), t.n, t.nm, t.x, t.y, t.z, t.p⟩
def partV (ts : List Nd) (at_ : Int) : List Nd := if hasV ts at_ then ((ts.drop (bg (ksN ts) at_.toNat).toNat).take (at_.toNat + 1 - (bg (ksN ts) at_.toNat).toNat)).map (mvN (bg (ksN ts) at_.toNat)) else []
theorem nd_small (k a b c nm : Int) (s1 s2 s3 s4 : ByteArray) (hp : plainB k a b c nm s1 s2 s3 s4 = true) (hk : ∀ x ∈ kidsL k a b c, 0 ≤ x ∧ x ≤ 512) : (0 ≤ a ∧ a ≤ 512) ∧ (0 ≤ b ∧ b ≤ 512) ∧ (0 ≤ c ∧ c ≤ 512) := by
  by_cases h11 : 0 ≤ k ∧ k ≤ 10
  · have hc : k = 0 ∨ k = 1 ∨ k = 2 ∨ k = 3 ∨ k = 4 ∨ k = 5 ∨ k = 6 ∨ k = 7 ∨ k = 8 ∨ k = 9 ∨ k = 10 := by omega
    rcases hc with rfl | rfl | rfl | rfl | rfl | rfl | rfl | rfl | rfl | rfl | rfl <;> simp [plainB] at hp <;> simp [kidsL] at hk <;> omega
  · exfalso
    unfold plainB at hp
    rw [if_neg (by omega), if_neg (by omega), if_neg (by omega), if_neg (by omega), if_neg (by omega), if_neg (by omega), if_neg (by omega), if_neg (by omega), if_neg (by omega), decide_eq_true_eq] at hp
    omega
theorem anyV_all {ts : List Nd} (h : anyV ts = true) {j : Nat} (hj : j < ts.length) : plainB (ts.getD j nd0).k (ts.getD j nd0).a (ts.getD j nd0).b (ts.getD j nd0).c (ts.getD j nd0).n (ts.getD j nd0).nm (ts.getD j nd0).x (ts.getD j nd0).y (ts.getD j nd0).z = true := by
  unfold anyV treeV at h
  simp only [Bool.or_eq_true, Bool.and_eq_true, decide_eq_true_eq] at h
  rcases h with ⟨⟨_, h⟩, _⟩ | ⟨⟨_, h⟩, _⟩ <;>
  · rw [List.all_eq_true] at h
    have := h _ (getN_mem hj)
    unfold okNd at this
    simp only [Bool.and_eq_true] at this
    exact this.1.1.1.1
theorem anyV_small {ts : List Nd} (h : anyV ts = true) {j : Nat} (hj : j < ts.length) : (0 ≤ (ts.getD j nd0).a ∧ (ts.getD j nd0).a ≤ 512) ∧ (0 ≤ (ts.getD j nd0).b ∧ (ts.getD j nd0).b ≤ 512) ∧ (0 ≤ (ts.getD j nd0).c ∧ (ts.getD j nd0).c ≤ 512) := by
  obtain ⟨h1, h2, h3, h4⟩ := anyV_wf h
  refine nd_small _ _ _ _ _ _ _ _ _ (anyV_all h hj) (fun x hx => ?_)
  obtain ⟨a, b, _⟩ := kid_ok (ksN ts) j (h4 j hj) x hx
  exact ⟨a, by omega⟩
theorem moved_nd (t : Nd) (f : Nat) (w : World) (hf : f ≤ 512) (h : (0 ≤ t.a ∧ t.a ≤ 512) ∧ (0 ≤ t.b ∧ t.b ≤ 512) ∧ (0 ≤ t.c ∧ t.c ≤ 512)) :
    Calls Tryd.prog 28 #[.agg #[.int .i64 t.k, .int .i64 t.a, .int .i64 t.b, .int .i64 t.c, .int .i64 t.n, .string t.nm, .string t.x, .string t.y, .string t.z, .int .i64 t.p], .int .i64 f] w fun e w' => e = .returned (.agg #[.int .i64 (mvN f t).k, .int .i64 (mvN f t).a, .int .i64 (mvN f t).b, .int .i64 (mvN f t).c, .int .i64 (mvN f t).n, .string (mvN f t).nm, .string (mvN f t).x, .string (mvN f t).y, .string (mvN f t).z, .int .i64 (mvN f t).p]) ∧ Below w.heap.size w w' :=
  moved_any t.k t.a t.b t.c t.n t.p f t.nm t.x t.y t.z w ⟨by omega, by omega⟩ (by omega)
theorem kidsI_cnt (k : Int) : kidsI k = cntN k ∨ (kidsI k = -1 ∧ cntN k = 0) := by
  unfold kidsI cntN
  by_cases h0 : k = 0 ∨ k = 1 ∨ k = 2
  · rw [if_pos h0, if_neg (by omega), if_neg (by omega), if_neg (by omega)]; exact .inl rfl
  rw [if_neg h0]
  (repeat' split) <;> first | exact .inl rfl | exact .inr ⟨rfl, rfl⟩
set_option maxRecDepth 100000 in
set_option maxHeartbeats 4000000 in
theorem rmoved_any (kd a b c nm at_ f : Int) (s1 s2 s3 s4 : ByteArray) (w : World) (hb : 0 ≤ f ∧ f ≤ 1073741823) (ha : 0 ≤ a ∧ a ≤ 1073741823 ∧ 0 ≤ b ∧ b ≤ 1073741823 ∧ 0 ≤ c ∧ c ≤ 1073741823) :
    Calls Tryd.prog 44 #[.agg #[.int .i64 kd, .int .i64 a, .int .i64 b, .int .i64 c, .int .i64 nm, .string s1, .string s2, .string s3, .string s4, .int .i64 at_], .int .i64 (-f)] w
      fun e w' => e = .returned (.agg #[.int .i64 kd, .int .i64 (if 1 ≤ cntN kd then a - f else a), .int .i64 (if 2 ≤ cntN kd then b - f else b), .int .i64 (if 3 ≤ cntN kd then c - f else c), .int .i64 nm, .string s1, .string s2, .string s3, .string s4, .int .i64 at_]) ∧ Below w.heap.size w w' := by
  have kK := Lib.hid fun (W : World) => kids_any kd W
  have hke := kidsI_cnt kd
  have hn : cntN kd = 0 ∨ cntN kd = 1 ∨ cntN kd = 2 ∨ cntN kd = 3 := by unfold cntN; (repeat' split) <;> omega
  generalize cntN kd = n at hke hn ⊢
  generalize kidsI kd = m at kK hke
  have hm : (m = -1 ∧ n = 0) ∨ (m = 0 ∧ n = 0) ∨ (m = 1 ∧ n = 1) ∨ (m = 2 ∧ n = 2) ∨ (m = 3 ∧ n = 3) := by omega
  clear hke hn
  have x1 := Lib.hid (show a + -f = a - f by omega)
  have x2 := Lib.hid (show b + -f = b - f by omega)
  have x3 := Lib.hid (show c + -f = c - f by omega)
  obtain ⟨nf, hnf⟩ : ∃ x, -f = x := ⟨_, rfl⟩
  rw [hnf] at x1 x2 x3 ⊢
  have hnf' := Lib.hid hnf
  have hb1 : nf ≤ 0 := by omega
  have hb2 : -1073741823 ≤ nf := by omega
  clear hnf
  rcases hm with ⟨rfl, rfl⟩ | ⟨rfl, rfl⟩ | ⟨rfl, rfl⟩ | ⟨rfl, rfl⟩ | ⟨rfl, rfl⟩
  all_goals
    go_enter Tryd.func44, Tryd.ntmps44
    go_wp2_with fail
    refine (kK.out _).mono ?_
    rintro e w1 ⟨rfl, hb1⟩
    have hB1 : Hid (Below w.heap.size w w1) := Lib.hid (belT (by (repeat' (first | with_reducible exact Below.refl _ _ | with_reducible assumption | with_reducible apply Below.setCell | with_reducible apply Below.alloc | with_reducible apply Below.drew | with_reducible apply below_drewN | with_reducible exact Nat.le_refl _ | (simp; done) | (simp; omega) | omega | exact Nat.le_refl _))) hb1)
    have g0 : w1.cell? ⟨w.heap.size, 0, none⟩ = some (.int .i64 kd) := carry hb1 (by simp; try omega) (by simp)
    have g1 : w1.cell? ⟨w.heap.size, 1, none⟩ = some (.int .i64 a) := carry hb1 (by simp; try omega) (by simp)
    have g2 : w1.cell? ⟨w.heap.size, 2, none⟩ = some (.int .i64 b) := carry hb1 (by simp; try omega) (by simp)
    have g3 : w1.cell? ⟨w.heap.size, 3, none⟩ = some (.int .i64 c) := carry hb1 (by simp; try omega) (by simp)
    have g4 : w1.cell? ⟨w.heap.size, 4, none⟩ = some (.int .i64 nm) := carry hb1 (by simp; try omega) (by simp)
    have g5 : w1.cell? ⟨w.heap.size, 5, none⟩ = some (.string s1) := carry hb1 (by simp; try omega) (by simp)
    have g6 : w1.cell? ⟨w.heap.size, 6, none⟩ = some (.string s2) := carry hb1 (by simp; try omega) (by simp)
    have g7 : w1.cell? ⟨w.heap.size, 7, none⟩ = some (.string s3) := carry hb1 (by simp; try omega) (by simp)
    have g8 : w1.cell? ⟨w.heap.size, 8, none⟩ = some (.string s4) := carry hb1 (by simp; try omega) (by simp)
    have g9 : w1.cell? ⟨w.heap.size, 9, none⟩ = some (.int .i64 at_) := carry hb1 (by simp; try omega) (by simp)
    have f1 : w1.frozen? ⟨w.heap.size, 1, none⟩ = false := by rw [hb1.frozen (p := ⟨w.heap.size, 1, none⟩) (by simp; try omega)]; simp [go_sem]
    have f2 : w1.frozen? ⟨w.heap.size, 2, none⟩ = false := by rw [hb1.frozen (p := ⟨w.heap.size, 2, none⟩) (by simp; try omega)]; simp [go_sem]
    have f3 : w1.frozen? ⟨w.heap.size, 3, none⟩ = false := by rw [hb1.frozen (p := ⟨w.heap.size, 3, none⟩) (by simp; try omega)]; simp [go_sem]
    have k0 : ∀ o, w1.frozen? ⟨w.heap.size + 1, o, none⟩ = false := fun o => by rw [hb1.frozen (p := ⟨w.heap.size + 1, o, none⟩) (by simp; try omega)]; simp [go_sem]
    have k00 := k0 0; have k01 := k0 1; have k02 := k0 2; have k03 := k0 3; have k04 := k0 4; have k05 := k0 5; have k06 := k0 6; have k07 := k0 7; have k08 := k0 8; have k09 := k0 9
    clear k0
    have hz1 : w.heap.size < w1.heap.size := by have := hb1.size; simp at this; omega
    have hz2 : w.heap.size + 1 < w1.heap.size := by have := hb1.size; simp at this; omega
    obtain ⟨hc1, hf1⟩ := bcell hb1
    clear hb1
    have y1 := x1.out; have y2 := x2.out; have y3 := x3.out
    go_wp2_with fail
  · have hbb := hB1.out
    exact bodyPost_ret (v := .agg #[.int .i64 kd, .int .i64 (a), .int .i64 (b), .int .i64 (c), .int .i64 nm, .string s1, .string s2, .string s3, .string s4, .int .i64 at_]) (by simp [results, Tryd.results44, go_sem, *]) rfl ⟨rfl, by (repeat' (first | with_reducible exact Below.refl _ _ | with_reducible assumption | with_reducible apply Below.setCell | with_reducible apply Below.alloc | with_reducible apply Below.drew | with_reducible apply below_drewN | with_reducible exact Nat.le_refl _ | (simp; done) | (simp; omega) | omega | exact Nat.le_refl _))⟩
  · have hbb := hB1.out
    exact bodyPost_ret (v := .agg #[.int .i64 kd, .int .i64 (a), .int .i64 (b), .int .i64 (c), .int .i64 nm, .string s1, .string s2, .string s3, .string s4, .int .i64 at_]) (by simp [results, Tryd.results44, go_sem, *]) rfl ⟨rfl, by (repeat' (first | with_reducible exact Below.refl _ _ | with_reducible assumption | with_reducible apply Below.setCell | with_reducible apply Below.alloc | with_reducible apply Below.drew | with_reducible apply below_drewN | with_reducible exact Nat.le_refl _ | (simp; done) | (simp; omega) | omega | exact Nat.le_refl _))⟩
  · have hbb := hB1.out
    exact bodyPost_ret (v := .agg #[.int .i64 kd, .int .i64 (a - f), .int .i64 (b), .int .i64 (c), .int .i64 nm, .string s1, .string s2, .string s3, .string s4, .int .i64 at_]) (by simp [results, Tryd.results44, go_sem, *]) rfl ⟨rfl, by (repeat' (first | with_reducible exact Below.refl _ _ | with_reducible assumption | with_reducible apply Below.setCell | with_reducible apply Below.alloc | with_reducible apply Below.drew | with_reducible apply below_drewN | with_reducible exact Nat.le_refl _ | (simp; done) | (simp; omega) | omega | exact Nat.le_refl _))⟩
  · have hbb := hB1.out
    exact bodyPost_ret (v := .agg #[.int .i64 kd, .int .i64 (a - f), .int .i64 (b - f), .int .i64 (c), .int .i64 nm, .string s1, .string s2, .string s3, .string s4, .int .i64 at_]) (by simp [results, Tryd.results44, go_sem, *]) rfl ⟨rfl, by (repeat' (first | with_reducible exact Below.refl _ _ | with_reducible assumption | with_reducible apply Below.setCell | with_reducible apply Below.alloc | with_reducible apply Below.drew | with_reducible apply below_drewN | with_reducible exact Nat.le_refl _ | (simp; done) | (simp; omega) | omega | exact Nat.le_refl _))⟩
  · have hbb := hB1.out
    exact bodyPost_ret (v := .agg #[.int .i64 kd, .int .i64 (a - f), .int .i64 (b - f), .int .i64 (c - f), .int .i64 nm, .string s1, .string s2, .string s3, .string s4, .int .i64 at_]) (by simp [results, Tryd.results44, go_sem, *]) rfl ⟨rfl, by (repeat' (first | with_reducible exact Below.refl _ _ | with_reducible assumption | with_reducible apply Below.setCell | with_reducible apply Below.alloc | with_reducible apply Below.drew | with_reducible apply below_drewN | with_reducible exact Nat.le_refl _ | (simp; done) | (simp; omega) | omega | exact Nat.le_refl _))⟩
end Go.Proofs.YtdkpggnnhdoklaaDoor

/- Parts of trees: tree.Part, the reference's Cut and Part. -/
namespace Go.Proofs.YtdkpggnnhdoklaaDoor
open Go.RowKit
set_option linter.unusedVariables false
set_option linter.unusedSimpArgs false

/-- what Part of both tells. -/
def PartPost (ts : List Nd) (at_ : Int) (w : World) (e : Ending) (w' : World) : Prop := ∃ v, e = .returned (.tuple #[v, .int .i64 (depV ts at_).2]) ∧ OwnN w.heap.size w' v (partV ts at_) ∧ Below w.heap.size w w'
theorem part_no {ts : List Nd} {at_ : Int} {w w' : World} (h : hasV ts at_ = false) (hb : Below w.heap.size w w') : PartPost ts at_ w (.returned (.tuple #[.slice none 0 0, .int .i64 300])) w' := by
  refine ⟨_, by rw [depV_no h], ?_, hb⟩
  unfold partV; rw [h]; exact OwnN.nil _ _
theorem map_take_succ (l : List Nd) (f : Nat) (g : Nd → Nd) (j : Nat) (h : f + j < l.length) : ((l.drop f).take (j + 1)).map g = ((l.drop f).take j).map g ++ [g (l.getD (f + j) nd0)] := by
  have h2 : j < (l.drop f).length := by simp; omega
  rw [List.take_succ_eq_append_getElem h2, List.map_append]
  simp [List.getD_eq_getElem?_getD, h]
theorem nd_lh (b off n cp l h : Nat) (h1 : l ≤ h) (h2 : h ≤ cp) (h3 : l < h) (W : World) : (Instr.slice 23 (.slice (some ⟨b, off, none⟩) n cp) (some (.int .i64 l)) (some (.int .i64 h)) none).run Tryd.prog W = .ok (.slice (some ⟨b, off + l * 10, none⟩) (h - l) (cp - l)) W := by
  have hs : ∀ W : World, (sizeOf 45).run Tryd.prog W = .ok 10 W := fun _ => by kernel_rfl
  have he : Tryd.prog.elem 23 = 45 := by kernel_rfl
  rw [run_slice_lh W 23 (some ⟨b, off, none⟩) n cp (by rw [he]; exact Tryd.underlying23) .i64 .i64 (l : Int) (h : Int) (by omega) (by omega) (by omega), he, hs]
  have hne : ¬ cp = l := by omega
  simp [Result.andThen, sliced, Addr.add, hne]
theorem nd_make (c : Nat) (hc : c ≤ 512) (W : World) : (Instr.makeSlice 23 (.int .i64 0) (.int .i64 c)).run Tryd.prog W = .ok (.slice (some ⟨W.heap.size, 0, none⟩) 0 c) (W.alloc (.cells (madeCells (Value.agg #[.int .i64 0, .int .i64 0, .int .i64 0, .int .i64 0, .int .i64 0, .string ByteArray.empty, .string ByteArray.empty, .string ByteArray.empty, .string ByteArray.empty, .int .i64 0]).cells (c * 10)) 45)) := by
  obtain ⟨i0, hi, hz0, hz1, hz2⟩ := info_parts infoNd
  have h := run_make (P := Tryd.prog) W 23 45 i0 _ Tryd.underlying23 hi hz0 .i64 .i64 0 (c : Int) (by omega) (by omega) (by rw [hz2]; omega) (by omega)
  rw [h, hz1]; simp
theorem nd_made (c : Nat) (hc : c ≤ 512) (B : Nat) (W : World) (hB : B ≤ W.heap.size) : OwnN B (W.alloc (.cells (madeCells (Value.agg #[.int .i64 0, .int .i64 0, .int .i64 0, .int .i64 0, .int .i64 0, .string ByteArray.empty, .string ByteArray.empty, .string ByteArray.empty, .string ByteArray.empty, .int .i64 0]).cells (c * 10)) 45)) (.slice (some ⟨W.heap.size, 0, none⟩) 0 c) [] :=
  World.ownsRow_made W _ c hB (by unfold maxLen; omega) (size_madeCells _ _)
set_option maxRecDepth 100000 in
set_option maxHeartbeats 4000000 in
theorem tPart_any (a : Option Addr) (n c : Nat) (ts : List Nd) (at_ : Int) (w : World) (h : Hid (NArg w a n ts)) (hsz : Hid (∀ t ∈ ts, NdSz t)) (hl : n ≤ 140737488351232) (hnc : n ≤ c) (hg : Hid (errTy w)) :
    Calls Tryd.prog 10 #[.slice a n c, .int .i64 at_] w (PartPost ts at_ w) := by
  have k1 := Lib.hid fun (W : World) (hW : Hid (NArg W a n ts)) (hg : Hid (errTy W)) => has_any a n c ts at_ W hW hsz hl hg
  cases hh : hasV ts at_
  · rw [hh] at k1
    have hh' := Lib.hid hh
    clear hh hnc
    go_enter Tryd.func10, Tryd.ntmps10
    go_wp2_with fail
    refine (k1.out _ h hg).mono ?_
    rintro e w1 ⟨rfl, hb1⟩
    have hb1' := Lib.hid hb1; clear hb1
    go_wp2_with fail
    go_ret2
    exact part_no hh'.out hb1'.out
  · obtain ⟨k, rfl, h1, h2, h3, h3a⟩ := hasV_wf hh
    have ha : anyV ts = true := by unfold hasV at hh; rw [Bool.and_eq_true] at hh; exact hh.2
    have hsm := Lib.hid fun (j : Nat) (hj : j < ts.length) => anyV_small ha hj
    have hval : Hid (PartPost ts k w = fun e w' => ∃ v, e = .returned (.tuple #[v, .int .i64 0]) ∧ OwnN w.heap.size w' v (((ts.drop (bg (ksN ts) k).toNat).take (k + 1 - (bg (ksN ts) k).toNat)).map (mvN (bg (ksN ts) k))) ∧ Below w.heap.size w w') := Lib.hid (by
      funext e w'
      unfold PartPost partV
      rw [depV_yes hh, hh]; rfl)
    rw [hval.out]
    rw [hh] at k1
    obtain ⟨rfl, h4⟩ := h.out
    obtain ⟨b, off, rfl, h5, h6⟩ : ∃ b off, a = some ⟨b, off, none⟩ ∧ NdSl w b off ts ∧ b < w.heap.size := by
      rcases h4 with rfl | h4
      · simp at h1
      · exact h4
    have k2 := Lib.hid fun (W : World) (hW : Hid (NdSl W b off ts)) (hb : b < W.heap.size) => tbegin_any b off c ts h2 (k + 1) k W (by omega) h1 h3 hW hb
    have h5' := Lib.hid h5
    have hle := bg_le (ksN ts) k
    clear hval
    obtain ⟨f, hf⟩ := Int.eq_ofNat_of_zero_le h3
    rw [hf] at k2 hle ⊢
    rw [Int.toNat_natCast]
    clear h5 h3 hh h4 ha h3a hf
    have hfk : f ≤ k := by omega
    clear hle
    obtain ⟨m, hm⟩ : ∃ m, k + 1 - f = m := ⟨_, rfl⟩
    rw [hm]
    have hmi : (k : Int) + 1 - (f : Int) = (m : Int) := by omega
    have hm' := Lib.hid hm
    have hmk := fun (W : World) => nd_make m (by omega) W
    have hlh := fun (W : World) => nd_lh b off ts.length c f (k + 1) (by omega) (by omega) (by omega) W
    rw [hm, show ((k + 1 : Nat) : Int) = (k : Int) + 1 from rfl] at hlh
    clear hm hnc
    go_enter Tryd.func10, Tryd.ntmps10
    go_wp2_with fail
    refine (k1.out _ h hg).mono ?_
    rintro e w1 ⟨rfl, hb1⟩
    have hb1' := Lib.hid hb1; clear hb1
    go_wp2_with fail
    refine (k2.out _ (Lib.hid (h5'.out.below hb1'.out h6)) (by have := hb1'.out.size; omega)).mono ?_
    rintro e w2 ⟨rfl, hb2⟩
    have hb2' := Lib.hid (belT hb1'.out hb2); clear hb2
    go_wp2_with fail
    have hown0 := Lib.hid (nd_made m (by have := hm'.out; omega) w.heap.size w2 hb2'.out.size)
    have hB0 := Lib.hid (show Below w.heap.size w (w2.alloc (.cells (madeCells (Value.agg #[.int .i64 0, .int .i64 0, .int .i64 0, .int .i64 0, .int .i64 0, .string ByteArray.empty, .string ByteArray.empty, .string ByteArray.empty, .string ByteArray.empty, .int .i64 0]).cells (m * 10)) 45)) from hb2'.out.alloc hb2'.out.size _)
    clear hmk hlh hmi
    go_loopw [7, 28] (fun pv iv wr => ∃ j : Nat, j ≤ m ∧ iv = .int .i64 j ∧ Below w.heap.size w wr ∧ Hid (OwnN w.heap.size wr pv (((ts.drop f).take j).map (mvN f)))) (fun _ iv _ => m - (intOf iv).toNat)
    case atStart => exact ⟨0, by omega, rfl, hB0.out, hown0⟩
    case round =>
      obtain ⟨j, hj, rfl, hbw, hown⟩ := hrel
      have hws := hbw.size
      by_cases hlt : j < m
      · have hfj : f + j < ts.length := by have := hm'.out; omega
        have hT := (h5'.out (f + j) hfj).below hbw h6
        have hsj := Lib.hid (hsm.out (f + j) hfj)
        have hsuc := Lib.hid (map_take_succ ts f (mvN f) j hfj)
        have hlen : Hid ((((ts.drop f).take j).map (mvN f)).length ≤ 512) := Lib.hid (by simp; omega)
        generalize ts.getD (f + j) nd0 = t at hT hsj hsuc
        generalize ((ts.drop f).take j).map (mvN f) = acc at hown hsuc hlen
        have kM := Lib.hid fun (W : World) => moved_nd t f W (by omega) hsj.out
        generalize mvN f t = u at kM hsuc
        obtain ⟨e0, e1, e2, e3, e4, e5, e6, e7, e8, e9⟩ := hT
        rw [show off + (f + j) * 10 = off + f * 10 + j * 10 by omega] at e0 e1 e2 e3 e4 e5 e6 e7 e8 e9
        have hlt' : (j : Int) < (m : Int) := by omega
        have hj0 : (0 : Int) ≤ (j : Int) := by omega
        go_wp2_with fail
        refine (kM.out _).mono ?_
        rintro e w3 ⟨rfl, hb3⟩
        have hB3 := Lib.hid (belT (show Below w.heap.size w _ from by (repeat' (first | with_reducible exact Below.refl _ _ | with_reducible assumption | with_reducible apply Below.setCell | with_reducible apply Below.alloc | with_reducible apply Below.drew | with_reducible apply below_drewN | with_reducible exact Nat.le_refl _ | (simp; done) | (simp; omega) | omega | exact Nat.le_refl _))) hb3)
        have hown3 := Lib.hid (OwnN.below (B := w.heap.size) (l := acc) (World.ownsRow.alloc hown.out _) hb3)
        clear hb3 e0 e1 e2 e3 e4 e5 e6 e7 e8 e9
        go_wp2_with (at_builtin; refine op_nd rfl (.tmp 32) (.tmp 36) w3 w.heap.size hB3.out.size _ acc [u] _ rfl rfl 1 rfl rfl rfl hown3.out (by have := hlen.out; simp; omega) ?_; intro v' w4 hown4 hb4 _)
        have hB4 := Lib.hid (hB3.out.trans hb4)
        have hown4' := Lib.hid hown4
        clear hown4 hb4
        go_wp2_with fail
        go_roundw
        case rel => exact ⟨j + 1, by omega, by go_num, hB4.out, Lib.hid (by rw [hsuc.out]; exact hown4'.out)⟩
        case measure => simp [intOf]; omega
      · obtain rfl : j = m := by omega
        go_wp2_with fail
        go_ret2
        exact ⟨_, rfl, hown.out, hbw⟩
theorem rmoved_nd (t : Nd) (f : Nat) (w : World) (hf : f ≤ 512) (h : (0 ≤ t.a ∧ t.a ≤ 512) ∧ (0 ≤ t.b ∧ t.b ≤ 512) ∧ (0 ≤ t.c ∧ t.c ≤ 512)) :
    Calls Tryd.prog 44 #[.agg #[.int .i64 t.k, .int .i64 t.a, .int .i64 t.b, .int .i64 t.c, .int .i64 t.n, .string t.nm, .string t.x, .string t.y, .string t.z, .int .i64 t.p], .int .i64 (-(f : Int))] w fun e w' => e = .returned (.agg #[.int .i64 (mvN f t).k, .int .i64 (mvN f t).a, .int .i64 (mvN f t).b, .int .i64 (mvN f t).c, .int .i64 (mvN f t).n, .string (mvN f t).nm, .string (mvN f t).x, .string (mvN f t).y, .string (mvN f t).z, .int .i64 (mvN f t).p]) ∧ Below w.heap.size w w' :=
  rmoved_any t.k t.a t.b t.c t.n t.p f t.nm t.x t.y t.z w ⟨by omega, by omega⟩ (by omega)
def OwnPost (L : List Nd) (w : World) (e : Ending) (w' : World) : Prop := ∃ v, e = .returned v ∧ OwnN w.heap.size w' v L ∧ Below w.heap.size w w'
set_option maxRecDepth 100000 in
set_option maxHeartbeats 4000000 in
theorem cut_any (b off cp k f m : Nat) (ts : List Nd) (w : World) (h5' : Hid (NdSl w b off ts)) (h6 : b < w.heap.size) (h1 : k < ts.length) (h2 : ts.length ≤ 512) (hf : bg (ksN ts) k = (f : Int)) (hfk : f ≤ k) (hm : k + 1 - f = m)
    (hsm : Hid (∀ j, j < ts.length → (0 ≤ (ts.getD j nd0).a ∧ (ts.getD j nd0).a ≤ 512) ∧ (0 ≤ (ts.getD j nd0).b ∧ (ts.getD j nd0).b ≤ 512) ∧ (0 ≤ (ts.getD j nd0).c ∧ (ts.getD j nd0).c ≤ 512))) :
    Calls Tryd.prog 29 #[.slice (some ⟨b, off, none⟩) ts.length cp, .int .i64 k] w (OwnPost (((ts.drop f).take m).map (mvN f)) w) := by
  have k2 := Lib.hid (rbegin_any b off cp ts (by omega) (k + 1) k w (by omega) h1 h5' h6)
  rw [hf] at k2
  have hm' := Lib.hid hm
  clear hm hf
  obtain ⟨L, hL⟩ : ∃ L, ((ts.drop f).take m).map (mvN f) = L := ⟨_, rfl⟩
  rw [hL]
  have hL' := Lib.hid hL
  clear hL
  go_enter Tryd.func29, Tryd.ntmps29
  go_wp2_with fail
  refine k2.out.mono ?_
  rintro e w2 ⟨rfl, hb2⟩
  have hb2' := Lib.hid hb2; clear hb2
  go_wp2_with fail
  go_loopw [6, 7] (fun pv iv wr => ∃ j : Nat, j ≤ m ∧ iv = .int .i64 ((f + j : Nat) : Int) ∧ Below w.heap.size w wr ∧ Hid (OwnN w.heap.size wr pv (((ts.drop f).take j).map (mvN f)))) (fun _ iv _ => f + m - (intOf iv).toNat)
  case atStart => exact ⟨0, by omega, rfl, hb2'.out, Lib.hid (OwnN.nil _ _)⟩
  case round =>
    obtain ⟨j, hj, rfl, hbw, hown⟩ := hrel
    have hws := hbw.size
    by_cases hlt : j < m
    · have hfj : f + j < ts.length := by have := hm'.out; omega
      have hT := (h5'.out (f + j) hfj).below hbw h6
      have hsj := Lib.hid (hsm.out (f + j) hfj)
      have hsuc := Lib.hid (map_take_succ ts f (mvN f) j hfj)
      have hlen : Hid ((((ts.drop f).take j).map (mvN f)).length ≤ 512) := Lib.hid (by simp; omega)
      generalize ts.getD (f + j) nd0 = t at hT hsj hsuc
      generalize ((ts.drop f).take j).map (mvN f) = acc at hown hsuc hlen
      have kM := Lib.hid fun (W : World) => rmoved_nd t f W (by omega) hsj.out
      generalize mvN f t = u at kM hsuc
      obtain ⟨q, hq⟩ : ∃ q, f + j = q := ⟨_, rfl⟩
      rw [hq] at hT hfj ⊢
      have hqk : (q : Int) ≤ (k : Int) := by have := hm'.out; omega
      have hq' := Lib.hid hq
      have hqm : Hid (f + (j + 1) = q + 1 ∧ q + 1 ≤ f + m) := Lib.hid (by omega)
      clear hq
      obtain ⟨e0, e1, e2, e3, e4, e5, e6, e7, e8, e9⟩ := hT
      have hlt' : (q : Int) < (ts.length : Int) := by omega
      have hj0 : (0 : Int) ≤ (q : Int) := by omega
      go_wp2_with fail
      refine (kM.out _).mono ?_
      rintro e w3 ⟨rfl, hb3⟩
      have hB3 := Lib.hid (belT (show Below w.heap.size w _ from by (repeat' (first | with_reducible exact Below.refl _ _ | with_reducible assumption | with_reducible apply Below.setCell | with_reducible apply Below.alloc | with_reducible apply Below.drew | with_reducible apply below_drewN | with_reducible exact Nat.le_refl _ | (simp; done) | (simp; omega) | omega | exact Nat.le_refl _))) hb3)
      have hown3 := Lib.hid (OwnN.below (B := w.heap.size) (l := acc) hown.out hb3)
      clear hb3 e0 e1 e2 e3 e4 e5 e6 e7 e8 e9
      go_wp2_with (at_builtin; refine op_nd rfl (.tmp 17) (.tmp 25) w3 w.heap.size hB3.out.size _ acc [u] _ rfl rfl 1 rfl rfl rfl hown3.out (by have := hlen.out; simp; omega) ?_; intro v' w4 hown4 hb4 _)
      have hB4 := Lib.hid (hB3.out.trans hb4)
      have hown4' := Lib.hid hown4
      clear hown4 hb4
      go_wp2_with fail
      go_roundw
      case rel => exact ⟨j + 1, by omega, by rw [hqm.out.1]; go_num, hB4.out, Lib.hid (by rw [hsuc.out]; exact hown4'.out)⟩
      case measure => simp [intOf]; have := hqm.out; omega
    · obtain rfl : j = m := by omega
      have hgt : ¬ (((f + j : Nat) : Int) ≤ (k : Int)) := by have := hm'.out; omega
      obtain ⟨q, hq⟩ : ∃ q, f + j = q := ⟨_, rfl⟩
      rw [hq] at hgt ⊢
      rw [hL'.out] at hown
      go_wp2_with fail
      go_ret
      exact ⟨_, rfl, hown.out, hbw⟩
set_option maxRecDepth 100000 in
set_option maxHeartbeats 4000000 in
theorem rPart_any (a : Option Addr) (n c : Nat) (ts : List Nd) (at_ : Int) (w : World) (h : Hid (NArg w a n ts)) (hsz : Hid (∀ t ∈ ts, NdSz t)) (hl : n ≤ 140737488351232) :
    Calls Tryd.prog 11 #[.slice a n c, .int .i64 at_] w (PartPost ts at_ w) := by
  have k1 := Lib.hid fun (W : World) (hW : Hid (NArg W a n ts)) => anyShape_any a n c ts W hW hsz hl
  have hn := h.out.1
  cases hh : hasV ts at_
  · have hh' := Lib.hid hh
    cases ha : anyV ts
    · rw [ha] at k1
      clear hn hh ha
      go_enter Tryd.func11, Tryd.ntmps11
      go_wp2_with fail
      refine (k1.out _ h).mono ?_
      rintro e w1 ⟨rfl, hb1⟩
      have hb1' := Lib.hid hb1; clear hb1
      go_wp2_with fail
      go_ret2
      exact part_no hh'.out hb1'.out
    · rw [ha] at k1
      have hx : at_ < 0 ∨ (¬ at_ < 0 ∧ (n : Int) ≤ at_) := by
        unfold hasV at hh
        rw [ha, Bool.and_true, decide_eq_false_iff_not] at hh
        omega
      clear hn hh ha
      rcases hx with hx | ⟨hx, hy⟩
      all_goals
        go_enter Tryd.func11, Tryd.ntmps11
        go_wp2_with fail
        refine (k1.out _ h).mono ?_
        rintro e w1 ⟨rfl, hb1⟩
        have hb1' := Lib.hid hb1; clear hb1
        go_wp2_with fail
        go_ret2
        exact part_no hh'.out hb1'.out
  · obtain ⟨k, rfl, h1, h2, h3, _⟩ := hasV_wf hh
    have ha : anyV ts = true := by unfold hasV at hh; rw [Bool.and_eq_true] at hh; exact hh.2
    have hsm := Lib.hid fun (j : Nat) (hj : j < ts.length) => anyV_small ha hj
    have hval : Hid (PartPost ts k w = fun e w' => ∃ v, e = .returned (.tuple #[v, .int .i64 0]) ∧ OwnN w.heap.size w' v (((ts.drop (bg (ksN ts) k).toNat).take (k + 1 - (bg (ksN ts) k).toNat)).map (mvN (bg (ksN ts) k))) ∧ Below w.heap.size w w') := Lib.hid (by
      funext e w'
      unfold PartPost partV
      rw [depV_yes hh, hh]; rfl)
    rw [hval.out]
    rw [ha] at k1
    obtain ⟨rfl, h4⟩ := h.out
    obtain ⟨b, off, rfl, h5, h6⟩ : ∃ b off, a = some ⟨b, off, none⟩ ∧ NdSl w b off ts ∧ b < w.heap.size := by
      rcases h4 with rfl | h4
      · simp at h1
      · exact h4
    have h5' := Lib.hid h5
    have hle := bg_le (ksN ts) k
    obtain ⟨f, hf⟩ := Int.eq_ofNat_of_zero_le h3
    have k2 := Lib.hid fun (W : World) (hW : Hid (NdSl W b off ts)) (hb : b < W.heap.size) => cut_any b off c k f _ ts W hW hb h1 h2 hf (by rw [hf] at hle; omega) rfl hsm
    rw [hf, Int.toNat_natCast]
    generalize ((ts.drop f).take (k + 1 - f)).map (mvN f) = L at k2 ⊢
    clear hval h5 h3 hh h4 hn ha hle hf
    have hk1 : ¬ (ts.length : Int) ≤ (k : Int) := by omega
    go_enter Tryd.func11, Tryd.ntmps11
    go_wp2_with fail
    refine (k1.out _ h).mono ?_
    rintro e w1 ⟨rfl, hb1⟩
    have hb1' := Lib.hid hb1; clear hb1
    go_wp2_with fail
    refine (k2.out _ (Lib.hid (h5'.out.below hb1'.out h6)) (by have := hb1'.out.size; omega)).mono ?_
    rintro e w2 ⟨v, rfl, hown, hb2⟩
    have hb2' := Lib.hid (belT hb1'.out hb2)
    have hown' : Hid (OwnN w.heap.size w2 v L) := Lib.hid (by
      refine ⟨hown.1, ?_⟩
      rcases hown.2 with h | ⟨g, cap, cur, h1, h2, h3⟩
      · exact .inl h
      · exact .inr ⟨g, cap, cur, h1, by have := hb1'.out.size; omega, h3⟩)
    clear hb2 hown
    go_wp2_with fail
    go_ret2
    exact ⟨_, rfl, hown'.out, hb2'.out⟩
end Go.Proofs.YtdkpggnnhdoklaaDoor
