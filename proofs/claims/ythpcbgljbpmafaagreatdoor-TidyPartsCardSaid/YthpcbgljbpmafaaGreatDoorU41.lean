/- Tidying a tree with a node or two behind it. Plain. -/
import Derived.Test.YthpcbgljbpmafaaGreatDoorU23
import Derived.Test.YthpcbgljbpmafaaGreatDoorU31
import Derived.Test.YthpcbgljbpmafaaGreatDoorU37
import Derived.Test.YthpcbgljbpmafaaGreatDoorU40
import Derived.BigRegion
set_option maxRecDepth 100000
set_option maxHeartbeats 8000000
namespace Go.Proofs.YthpcbgljbpmafaaGreatDoor
open Go.RowKit
set_option linter.unusedVariables false
set_option linter.unusedSimpArgs false
theorem tre_m {os : List Or} {ts : List Nd} (h : smayV os ts = true) : Tre ts := by
 rw [smay_r] at h
 simp only [Bool.and_eq_true] at h
 exact tre_of h.2.1
theorem getD_app {l r : List Nd} {i : Nat} (h : i < l.length) : (l ++ r).getD i nd0 = l.getD i nd0 := by
 rw [List.getD_eq_getElem?_getD, List.getD_eq_getElem?_getD, List.getElem?_append_left h]
theorem getD_at {l r : List Nd} {x : Nd} : (l ++ x :: r).getD l.length nd0 = x := by
 rw [List.getD_eq_getElem?_getD, List.getElem?_append_right (Nat.le_refl _), Nat.sub_self]; rfl
theorem numsV_app (no : Nat) (ts us : List Nd) : ∀ (f i d : Nat), i < ts.length → 0 ≤ bg (ksN ts) i → numsV no f (ts ++ us) i d = numsV no f ts i d
 | 0, _, _, _, _ => rfl
 | f + 1, i, d, hi, hb => by
  unfold numsV
  rw [getD_app hi]
  congr 1
  rw [Bool.eq_iff_iff, List.all_eq_true, List.all_eq_true]
  have key : ∀ c ∈ kidsS (ts.getD i nd0), numsV no f (ts ++ us) c.1.toNat (d + c.2.length) = numsV no f ts c.1.toNat (d + c.2.length) := fun c hc => by
   have hm : c.1 ∈ ksN ts i := by rw [← kids_ks]; exact List.mem_map_of_mem hc
   obtain ⟨h1, h2, h3⟩ := kid_ok (ksN ts) i hb _ hm
   exact numsV_app no ts us f c.1.toNat _ (by omega) h3
  exact ⟨fun h c hc => by rw [← key c hc]; exact h c hc, fun h c hc => by rw [key c hc]; exact h c hc⟩
theorem nmBd_mono {no d d' : Nat} {t : Nd} (h : nmBd no d t = true) (hd : d ≤ d') : nmBd no d' t = true := by
 unfold nmBd at h ⊢
 split
 ·rename_i h1; rw [if_pos h1] at h; exact h
 ·rename_i h1
  rw [if_neg h1] at h
  split
  ·rename_i h2; rw [if_pos h2, decide_eq_true_eq] at h; rw [decide_eq_true_eq]; omega
  ·rfl
theorem numsV_mono (no : Nat) (ts : List Nd) : ∀ (f f' i d d' : Nat), f ≤ f' → d ≤ d' → numsV no f ts i d = true → numsV no f' ts i d' = true
 | 0, _, _, _, _, _, _, h => by cases h
 | f + 1, f', i, d, d', hf, hd, h => by
  obtain ⟨g, rfl⟩ : ∃ g, f' = g + 1 := ⟨f' - 1, by omega⟩
  unfold numsV at h ⊢
  rw [Bool.and_eq_true, List.all_eq_true] at h ⊢
  exact ⟨nmBd_mono h.1 hd, fun c hc => numsV_mono no ts f g _ _ _ (by omega) (by omega) (h.2 c hc)⟩
theorem smay_parts {os : List Or} {ts : List Nd} (h : smayV os ts = true) : opsV os = true ∧ (1 ≤ ts.length ∧ ts.length ≤ 512) ∧ (∀ t ∈ ts, okNd (okNm false) t = true) ∧ bg (ksN ts) (ts.length - 1) = 0 ∧ dupB (opN os) = false ∧ numsV os.length ts.length ts (ts.length - 1) 0 = true := by
 rw [smay_r] at h
 simp only [Bool.and_eq_true, Bool.not_eq_true'] at h
 obtain ⟨h1, h2, h3, h4⟩ := h
 unfold treeV at h2
 simp only [Bool.and_eq_true, decide_eq_true_eq, List.all_eq_true] at h2
 exact ⟨h1, h2.1.1, h2.1.2, h2.2, h3, h4⟩
theorem smay_mk {os : List Or} {ts : List Nd} (h1 : opsV os = true) (h2 : 1 ≤ ts.length ∧ ts.length ≤ 512) (h3 : ∀ t ∈ ts, okNd (okNm false) t = true) (h4 : bg (ksN ts) (ts.length - 1) = 0) (h5 : dupB (opN os) = false) (h6 : numsV os.length ts.length ts (ts.length - 1) 0 = true) : smayV os ts = true := by
 rw [smay_r]
 unfold treeV
 simp only [Bool.and_eq_true, Bool.not_eq_true', decide_eq_true_eq, List.all_eq_true]
 exact ⟨h1, ⟨⟨h2, h3⟩, h4⟩, h5, h6⟩
theorem z00 : (⟨#[]⟩ : ByteArray).toList = [] := by rw [ByteArray.toList_eq]
theorem ok_int1 {n : Int} (hn : 0 ≤ n ∧ n ≤ 1073741823) : okNd (okNm false) (lfN 1 n 0) = true := by
 unfold okNd plainB numB okNm resB namesL lfN
 simp [z00]; omega
theorem ok_two {k a b n : Int} (hk : k = 4 ∧ n = 0 ∨ k = 8 ∧ 0 ≤ n ∧ n ≤ 5) : okNd (okNm false) ⟨k, a, b, 0, n, ⟨#[]⟩, ⟨#[]⟩, ⟨#[]⟩, ⟨#[]⟩, 0⟩ = true := by
 rcases hk with ⟨rfl, rfl⟩ | ⟨rfl, h1, h2⟩
 ·unfold okNd plainB numB okNm resB namesL
  simp [z00]
 ·unfold okNd plainB numB okNm resB namesL
  simp [z00]; omega
def biN (k n : Int) (ts : List Nd) : Nd := ⟨k, ((ts.length - 1 : Nat) : Int), (ts.length : Int), 0, n, ⟨#[]⟩, ⟨#[]⟩, ⟨#[]⟩, ⟨#[]⟩, 0⟩
theorem smay_bi {os : List Or} {ts : List Nd} {k n v : Int} (h : smayV os ts = true) (hl : ts.length + 2 ≤ 512) (hv : 0 ≤ v ∧ v ≤ 1073741823) (hk : k = 4 ∧ n = 0 ∨ k = 8 ∧ 0 ≤ n ∧ n ≤ 5) : smayV os (ts ++ [lfN 1 v 0, biN k n ts]) = true := by
 obtain ⟨h1, h2, h3, h4, h5, h6⟩ := smay_parts h
 have hkl : kidsL k ((ts.length - 1 : Nat) : Int) (ts.length : Int) 0 = [((ts.length - 1 : Nat) : Int), (ts.length : Int)] := by
  rcases hk with ⟨rfl, _⟩ | ⟨rfl, _⟩ <;> simp [kidsL]
 have hb1 : bg (ksN (ts ++ [lfN 1 v 0])) ts.length = ts.length := part0 (by simp [lfN, kidsL])
 have hb0 : bg (ksN (ts ++ [lfN 1 v 0])) (ts.length - 1) = ((0 : Nat) : Int) := by rw [bg_app _ _ _ (by omega), h4]; rfl
 have hb : bg (ksN ((ts ++ [lfN 1 v 0]) ++ [biN k n ts])) (ts ++ [lfN 1 v 0]).length = ((0 : Nat) : Int) :=
  part2 (a := ts.length - 1) (b := ts.length) (x := biN k n ts) hkl (by simp) (by omega) (by rw [hb1]; omega) hb0
 rw [show ts ++ [lfN 1 v 0, biN k n ts] = (ts ++ [lfN 1 v 0]) ++ [biN k n ts] by simp]
 refine smay_mk h1 (by simp; omega) (fun t ht => ?_) (by simpa using hb) h5 ?_
 ·rcases List.mem_append.1 ht with ht | ht
  ·rcases List.mem_append.1 ht with ht | ht
   ·exact h3 t ht
   ·rw [List.mem_singleton.1 ht]; exact ok_int1 hv
  ·rw [List.mem_singleton.1 ht]; exact ok_two hk
 ·rw [List.length_append, List.length_singleton, Nat.add_sub_cancel]
  unfold numsV
  rw [getD_at (r := [])]
  have m := numsV_mono os.length ts ts.length (ts ++ [lfN 1 v 0]).length (ts.length - 1) 0 0 (by simp) (by omega) h6
  rw [← numsV_app os.length ts ([lfN 1 v 0] ++ [biN k n ts]) _ (ts.length - 1) 0 (by omega) (by omega), ← List.append_assoc] at m
  have m2 : numsV os.length (ts ++ [lfN 1 v 0]).length ((ts ++ [lfN 1 v 0]) ++ [biN k n ts]) ts.length 0 = true := by
   rw [List.length_append, List.length_singleton]
   unfold numsV
   rw [getD_app (by simp), getD_at (r := [])]
   simp [lfN, nmBd, kidsS]
  have hks : kidsS (biN k n ts) = [(((ts.length - 1 : Nat) : Int), []), ((ts.length : Int), [])] := by
   rcases hk with ⟨rfl, _⟩ | ⟨rfl, _⟩ <;> simp [kidsS, biN]
  have hnm : nmBd os.length 0 (biN k n ts) = true := by
   rcases hk with ⟨rfl, _⟩ | ⟨rfl, _⟩ <;> simp [nmBd, biN]
  rw [hks, hnm]
  simp only [List.all_cons, List.all_nil, Bool.and_true, Bool.true_and, List.length_nil, Nat.add_zero, Int.toNat_natCast, Bool.and_eq_true]
  exact ⟨m, m2⟩
theorem td_app {os : List Or} {ts us : List Nd} (h : smayV os ts = true) (h' : smayV os (ts ++ us) = true) (i : Nat) (hi : i < ts.length) (m : List Nd) : td (ts ++ us) i m = td ts i m := by
 have hT := tre_m h
 have hT' := tre_m h'
 exact (td_congr (fun j hj => hT.kidB hj) (fun j hj => hT'.kidB hj) i hi (by simp; omega) (fun j hj => (getD_app (by omega)).symm) m).symm
theorem td_bi {os : List Or} {ts : List Nd} {k n v : Int} (h : smayV os ts = true) (hl : ts.length + 2 ≤ 512) (hv : 0 ≤ v ∧ v ≤ 1073741823) (hk : k = 4 ∧ n = 0 ∨ k = 8 ∧ 0 ≤ n ∧ n ≤ 5) (m : List Nd) : td (ts ++ [lfN 1 v 0, biN k n ts]) (ts.length + 1) m =
  (if k = 8 then
   (match knownV (biN k n ts) ((td ts (ts.length - 1) m ++ [lfN 1 v 0]).getD (lstI (td ts (ts.length - 1) m)) nd0) (lfN 1 v 0) with
    | some y => (td ts (ts.length - 1) m ++ [lfN 1 v 0]).take (lstI (td ts (ts.length - 1) m)) ++ [y]
    | none => (td ts (ts.length - 1) m ++ [lfN 1 v 0]) ++ [setAB (biN k n ts) (lstI (td ts (ts.length - 1) m)) (td ts (ts.length - 1) m).length])
  else (td ts (ts.length - 1) m ++ [lfN 1 v 0]) ++ [setAB (biN k n ts) (lstI (td ts (ts.length - 1) m)) (td ts (ts.length - 1) m).length]) := by
 have h' := smay_bi h hl hv hk
 have h0 := (smay_parts h).2.1
 have hT' := tre_m h'
 have ex : (ts ++ [lfN 1 v 0, biN k n ts]).getD (ts.length + 1) nd0 = biN k n ts := by
  rw [show ts ++ [lfN 1 v 0, biN k n ts] = (ts ++ [lfN 1 v 0]) ++ [biN k n ts] by simp, show ts.length + 1 = (ts ++ [lfN 1 v 0]).length by simp, getD_at (r := [])]
 rw [td_eq _ (fun j hj => hT'.kidB hj) _ (by simp), ex]
 have e := td_app h h' (ts.length - 1) (by omega) m
 have ek : (biN k n ts).a.toNat = ts.length - 1 := by simp [biN]
 have eb : (biN k n ts).b.toNat = ts.length := by simp [biN]
 have ey : ∀ m, td (ts ++ [lfN 1 v 0, biN k n ts]) ts.length m = m ++ [lfN 1 v 0] := fun m => by
  rw [td_eq _ (fun j hj => hT'.kidB hj) _ (by simp), getD_at]
  simp [tdS, lfN]
 have hkk : (biN k n ts).k = k := rfl
 generalize hR : td ts (ts.length - 1) m = R at e ⊢
 have el : lstI (R ++ [lfN 1 v 0]) = R.length := by simp [lstI]
 have eg : (R ++ [lfN 1 v 0]).getD R.length nd0 = lfN 1 v 0 := getD_at (r := [])
 unfold tdS
 rw [hkk, ek, eb]
 rcases hk with ⟨rfl, rfl⟩ | ⟨rfl, hn⟩
 ·rw [if_neg (by decide)]
  dsimp only
  rw [e]
  simp only [ey]
  rw [el]
  simp
 ·rw [if_neg (by decide)]
  dsimp only
  rw [e]
  simp only [ey]
  rw [el, eg]
  simp
  rfl
open Go.RowKit
theorem own_at {B : Nat} {w : World} {a : Option Addr} {n c : Nat} {m : List Nd} (h : OwnN B w (.slice a n c) m) {p : Nat} (hp : p < m.length) : ∃ g, a = some ⟨g, 0, none⟩ ∧ B ≤ g ∧ g < w.heap.size ∧ n = m.length ∧ n ≤ c ∧ NdSl w g 0 m := by
 rcases h.cases with ⟨h1, rfl⟩ | ⟨g, c', h1, h2, h3, h4, h5, _⟩
 ·simp at hp
 ·injection h1 with h0 h1 h6
  subst h0 h1 h6
  exact ⟨g, rfl, h2, h3, rfl, h4, h5⟩
theorem tchoose_any (B G : Nat) (sv : Value) (ts : List Nd) (w : World) (mv : Value) (m R : List Nd) (k b c n : Int) (nm u y z : ByteArray) (at_ : Int) (p : Nat) (h : Hid (TdW B G sv ts w mv m)) (hp : p < m.length)
  (ih1 : Hid ((m.getD p nd0).n = 1 → ∀ W mv1, Hid (TdW B G sv ts W mv1 (m.take p)) → Calls Tryz.prog 22 #[.pointer (some ⟨G, 0, none⟩), .int .i64 b] W (TdN B G sv ts W mv1 R)))
  (ih2 : Hid (¬ (m.getD p nd0).n = 1 → ∀ W mv1, Hid (TdW B G sv ts W mv1 (m.take p)) → Calls Tryz.prog 22 #[.pointer (some ⟨G, 0, none⟩), .int .i64 c] W (TdN B G sv ts W mv1 R))) :
  Calls Tryz.prog 39 #[.pointer (some ⟨G, 0, none⟩), .agg #[.int .i64 k, .int .i64 p, .int .i64 b, .int .i64 c, .int .i64 n, .string nm, .string u, .string y, .string z, .int .i64 at_]] w (TdN B G sv ts w mv R) := by
 obtain ⟨a, cp, rfl⟩ := own_sl h.out.own
 obtain ⟨g, rfl, hBg, hgs, _, hnc, hT⟩ := own_at h.out.own hp
 have hGl : G < w.heap.size := by have := h.out.gB; have := h.out.bl; omega
 have hml : m.length ≤ 600 := h.out.ml
 obtain ⟨_, _, _, _, t4, _, _, _, _, _⟩ := hT p hp
 simp only [Nat.zero_add] at t4
 obtain ⟨q, hq⟩ : ∃ q, (m.getD p nd0).n = q := ⟨_, rfl⟩
 rw [hq] at t4 ih1 ih2
 clear hT hq
 go_enter Tryz.func39, Tryz.ntmps39
 go_upto_region 1 with fail
 obtain ⟨W0, hW0⟩ : ∃ W, w.alloc (.cells #[.int .i64 k, .int .i64 p, .int .i64 b, .int .i64 c, .int .i64 n, .string nm, .string u, .string y, .string z, .int .i64 at_] 45) = W := ⟨_, rfl⟩
 obtain ⟨⟨y0, y1, y2, y3, y4, y5, y6, y7, y8, y9⟩, hb0, hs0⟩ := nd_box w W0 ⟨k, p, b, c, n, nm, u, y, z, at_⟩ hW0
 simp only at y0 y1 y2 y3 y4 y5 y6 y7 y8 y9
 rw [hW0]
 clear hW0
 have h2 := Lib.hid (h.out.below hb0)
 have hn := h2.out.cm
 have hfr := h2.out.fg 1
 have hGW : G < W0.heap.size := by omega
 have hgW : g < W0.heap.size := by omega
 have t4' : W0.cell? ⟨g, p * 10 + 4, none⟩ = some (.int .i64 q) := carry hb0 hgs t4
 have hp1 : (p : Int) < (m.length : Int) := by omega
 have hp0 : (0 : Int) ≤ (p : Int) := by omega
 have hpc : p ≤ cp := by omega
 have hM : Hid (∀ Wd, Below (W0.setCell ⟨G, 1, none⟩ (.slice (some ⟨g, 0, none⟩) p cp)).heap.size (W0.setCell ⟨G, 1, none⟩ (.slice (some ⟨g, 0, none⟩) p cp)) Wd → TdW B G sv ts Wd (.slice (some ⟨g, 0, none⟩) p cp) (m.take p) ∧ Stp G w (.slice (some ⟨g, 0, none⟩) m.length cp) Wd (.slice (some ⟨g, 0, none⟩) p cp)) := Lib.hid fun Wd hd => by
  have k1 := TdW.setM h2.out (Bar.refl _ _) (h2.out.own.take p (by omega)) (fun g hg => .inl hg) (by rw [List.length_take]; have := h2.out.ml; omega)
  exact ⟨k1.1.below hd, ((Stp.below hb0).trans k1.2).next hd⟩
 clear t4 h hml
 go_region
 go_upto_region 2 with fail
 go_region
 by_cases hq : q = 1
 ·subst hq
  go_wp2_with fail
  refine (ih1.out (by first | rfl | trivial) _ _ (Lib.hid (hM.out _ ((Below.refl _ _).drew.drew)).1)).mono ?_
  rintro e w2 ⟨rfl, mv', k1, k2⟩
  have k1 := Lib.hid k1
  have k3 := Lib.hid (((hM.out _ ((Below.refl _ _).drew.drew)).2).trans k2)
  go_wp2_with fail
  go_ret
  exact ⟨rfl, mv', k1.out, k3.out⟩
 ·go_wp2_with fail
  refine (ih2.out hq _ _ (Lib.hid (hM.out _ ((Below.refl _ _).drew.drew)).1)).mono ?_
  rintro e w2 ⟨rfl, mv', k1, k2⟩
  have k1 := Lib.hid k1
  have k3 := Lib.hid (((hM.out _ ((Below.refl _ _).drew.drew)).2).trans k2)
  go_wp2_with fail
  go_ret
  exact ⟨rfl, mv', k1.out, k3.out⟩
end Go.Proofs.YthpcbgljbpmafaaGreatDoor
