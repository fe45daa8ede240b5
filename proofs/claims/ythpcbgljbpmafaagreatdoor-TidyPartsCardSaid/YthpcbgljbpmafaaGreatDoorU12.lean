/- Trees in rows: plain facts on begins and depths. -/
import Derived.Test.YthpcbgljbpmafaaGreatDoorU5
import Derived.Test.YthpcbgljbpmafaaGreatDoorU11
set_option maxRecDepth 100000
set_option maxHeartbeats 8000000
namespace Go.Proofs.YthpcbgljbpmafaaGreatDoor
set_option linter.unusedVariables false
set_option linter.unusedSimpArgs false
theorem bgK_mem (g : Nat → Int) (hg : ∀ j, g j ≤ j) : ∀ (cs : List Int) (k : Int), 0 ≤ bgK g cs k → ∀ c ∈ cs, 0 ≤ c ∧ c < k ∧ 0 ≤ g c.toNat := by
 intro cs
 induction cs with
 | nil => intro k _ c hc; cases hc
 | cons d cs ih =>
  intro k h c hc
  unfold bgK at h
  by_cases h1 : d = k - 1 ∧ 1 ≤ k
  ·rw [if_pos h1] at h
   by_cases h2 : g (k - 1).toNat < 0
   ·rw [if_pos h2] at h; omega
   ·rw [if_neg h2] at h
    rcases List.mem_cons.1 hc with rfl | hc
    ·obtain ⟨h3, h4⟩ := h1
     refine ⟨by omega, by omega, ?_⟩
     rw [h3]; omega
    ·obtain ⟨a, b, e⟩ := ih _ h c hc
     have := hg (k - 1).toNat
     exact ⟨a, by omega, e⟩
  ·rw [if_neg h1] at h; omega
theorem kid_ok (ks : Nat → List Int) (i : Nat) (h : 0 ≤ bg ks i) : ∀ c ∈ ks i, 0 ≤ c ∧ c < i ∧ 0 ≤ bg ks c.toNat := by
 rw [bg_eq] at h
 intro c hc
 exact bgK_mem (bg ks) (bg_le ks) _ _ h c (by simpa using hc)
def mxL (g : Nat → Int) : List Int → Int → Int
 | [], d => d
 | c :: cs, d => mxL g cs (max d (g c.toNat))
def dpF (ks : Nat → List Int) : Nat → Nat → Int
 | 0, _ => 0
 | f + 1, i => mxL (dpF ks f) (ks i) 0 + 1
def dp (ks : Nat → List Int) (i : Nat) : Int := dpF ks (i + 1) i
theorem mxL_congr (g h : Nat → Int) : ∀ (cs : List Int) (d : Int), (∀ c ∈ cs, g c.toNat = h c.toNat) → mxL g cs d = mxL h cs d := by
 intro cs
 induction cs with
 | nil => intro d _; rfl
 | cons c cs ih =>
  intro d hk
  unfold mxL
  rw [hk c (by simp)]
  exact ih _ (fun e he => hk e (by simp [he]))
theorem dpF_fuel (ks : Nat → List Int) : ∀ (f i g : Nat), 0 ≤ bg ks i → i < f → i < g → dpF ks f i = dpF ks g i := by
 intro f
 induction f with
 | zero => intro i g _ h; omega
 | succ f ih =>
  intro i g h0 h1 h2
  cases g with
  | zero => omega
  | succ g =>
   unfold dpF
   rw [mxL_congr _ _ _ _ (fun c hc => by
    obtain ⟨a, b, e⟩ := kid_ok ks i h0 c hc
    exact ih c.toNat g e (by omega) (by omega))]
theorem dp_eq (ks : Nat → List Int) (i : Nat) (h : 0 ≤ bg ks i) : dp ks i = mxL (dp ks) (ks i) 0 + 1 := by
 conv => lhs; unfold dp dpF
 rw [mxL_congr (dpF ks i) (dp ks) _ _ (fun c hc => by
  obtain ⟨a, b, e⟩ := kid_ok ks i h c hc
  show dpF ks i c.toNat = dpF ks (c.toNat + 1) c.toNat
  exact dpF_fuel ks i c.toNat (c.toNat + 1) e (by omega) (by omega))]
theorem mxL_bd (g : Nat → Int) : ∀ (cs : List Int) (d m : Int), 0 ≤ d → d ≤ m → (∀ c ∈ cs, 0 ≤ g c.toNat ∧ g c.toNat ≤ m) → 0 ≤ mxL g cs d ∧ mxL g cs d ≤ m := by
 intro cs
 induction cs with
 | nil => intro d m h0 h1 _; exact ⟨h0, h1⟩
 | cons c cs ih =>
  intro d m h0 h1 hk
  unfold mxL
  have := hk c (by simp)
  exact ih _ m (by omega) (by omega) (fun e he => hk e (by simp [he]))
theorem dp_bd (ks : Nat → List Int) : ∀ (n i : Nat), i < n → 0 ≤ bg ks i → 1 ≤ dp ks i ∧ dp ks i ≤ i + 1 := by
 intro n
 induction n with
 | zero => intro i h; omega
 | succ n ih =>
  intro i hi h0
  rw [dp_eq ks i h0]
  have := mxL_bd (dp ks) (ks i) 0 i (by omega) (by omega) (fun c hc => by
   obtain ⟨a, b, e⟩ := kid_ok ks i h0 c hc
   have := ih c.toNat (by omega) e
   omega)
  omega
open Go.RowKit
theorem chL (ts : List Nd) (i : Nat) : kidV (ksN ts i) = .agg #[.int .i64 (ksN ts i).length, .int .i64 ((ksN ts i).getD 0 0), .int .i64 ((ksN ts i).getD 1 0), .int .i64 ((ksN ts i).getD 2 0)] := rfl
open Go.RowKit
theorem drop_getD (l : List Int) (j : Nat) (h : j < l.length) : l.drop j = l.getD j 0 :: l.drop (j + 1) := by
 rw [List.drop_eq_getElem_cons h]; simp [h]
theorem getI_mem {l : List Int} {j : Nat} (hj : j < l.length) : l.getD j 0 ∈ l := by
 rw [List.getD_eq_getElem?_getD, List.getElem?_eq_getElem hj]; exact List.getElem_mem hj
theorem kcell (g : Nat) (w : World) (n : Nat) (l : List Int) (hl : l.length = n) (h : w.cell? ⟨g, 1, none⟩ = some (.int .i64 (l.getD 0 0)) ∧ w.cell? ⟨g, 2, none⟩ = some (.int .i64 (l.getD 1 0)) ∧ w.cell? ⟨g, 3, none⟩ = some (.int .i64 (l.getD 2 0))) :
  ∀ j, j < 3 → w.cell? ⟨g, 1 + j, none⟩ = some (.int .i64 (l.getD j 0)) := by
 intro j hj
 have : j = 0 ∨ j = 1 ∨ j = 2 := by omega
 rcases this with rfl | rfl | rfl
 ·exact h.1
 ·exact h.2.1
 ·exact h.2.2
theorem sl3_0 (g : Nat) (W : World) : (Instr.sliceAt 121 (.pointer (some ⟨g, 1, none⟩)) none (some (.int .i64 ((0 : Nat) : Int))) none).run Tryz.prog W = .ok (.slice (some ⟨g, 1, none⟩) 0 3) W := by kernel_rfl
theorem sl3_1 (g : Nat) (W : World) : (Instr.sliceAt 121 (.pointer (some ⟨g, 1, none⟩)) none (some (.int .i64 ((1 : Nat) : Int))) none).run Tryz.prog W = .ok (.slice (some ⟨g, 1, none⟩) 1 3) W := by kernel_rfl
theorem sl3_2 (g : Nat) (W : World) : (Instr.sliceAt 121 (.pointer (some ⟨g, 1, none⟩)) none (some (.int .i64 ((2 : Nat) : Int))) none).run Tryz.prog W = .ok (.slice (some ⟨g, 1, none⟩) 2 3) W := by kernel_rfl
theorem sl3_3 (g : Nat) (W : World) : (Instr.sliceAt 121 (.pointer (some ⟨g, 1, none⟩)) none (some (.int .i64 ((3 : Nat) : Int))) none).run Tryz.prog W = .ok (.slice (some ⟨g, 1, none⟩) 3 3) W := by kernel_rfl
theorem sl3 (g : Nat) (n : Nat) (h : n ≤ 3) (W : World) : (Instr.sliceAt 121 (.pointer (some ⟨g, 1, none⟩)) none (some (.int .i64 n)) none).run Tryz.prog W = .ok (.slice (some ⟨g, 1, none⟩) n 3) W := by
 have : n = 0 ∨ n = 1 ∨ n = 2 ∨ n = 3 := by omega
 rcases this with rfl | rfl | rfl | rfl
 ·exact sl3_0 g W
 ·exact sl3_1 g W
 ·exact sl3_2 g W
 ·exact sl3_3 g W
theorem tdepth_any (b off cp : Nat) (ts : List Nd) (hl : ts.length ≤ 512) : ∀ (n at_ : Nat) (w : World), at_ < n → at_ < ts.length → 0 ≤ bg (ksN ts) at_ → Hid (NdSl w b off ts) → b < w.heap.size →
  Calls Tryz.prog 58 #[.slice (some ⟨b, off, none⟩) ts.length cp, .int .i64 at_] w fun e w' => e = .returned (.int .i64 (dp (ksN ts) at_)) ∧ Below w.heap.size w w' := by
 intro n
 induction n with
 | zero => intro at_ w h; omega
 | succ n ih =>
  intro at_ w hn hat h0 h hbs
  have hT := h.out at_ hat
  have kC := Lib.hid fun (W : World) => tchildren_any (ts.getD at_ nd0).k (ts.getD at_ nd0).a (ts.getD at_ nd0).b (ts.getD at_ nd0).c (ts.getD at_ nd0).n (ts.getD at_ nd0).p (ts.getD at_ nd0).nm (ts.getD at_ nd0).x (ts.getD at_ nd0).y (ts.getD at_ nd0).z W
  have hks : kidsL (ts.getD at_ nd0).k (ts.getD at_ nd0).a (ts.getD at_ nd0).b (ts.getD at_ nd0).c = ksN ts at_ := rfl
  rw [hks, chL] at kC
  clear hks
  have hkid := Lib.hid fun (c : Int) (hc : c ∈ ksN ts at_) => (show 0 ≤ c ∧ c < at_ ∧ 0 ≤ bg (ksN ts) c.toNat ∧ 1 ≤ dp (ksN ts) c.toNat ∧ dp (ksN ts) c.toNat ≤ c + 1 from by
   obtain ⟨a1, a2, a3⟩ := kid_ok (ksN ts) at_ h0 c hc
   have := dp_bd (ksN ts) (c.toNat + 1) c.toNat (by omega) a3
   refine ⟨a1, a2, a3, this.1, by omega⟩)
  have hdp := Lib.hid (dp_eq (ksN ts) at_ h0)
  have hk3 : (ksN ts at_).length ≤ 3 := kidsL_len _ _ _ _
  obtain ⟨R, hR⟩ : ∃ r, dp (ksN ts) at_ = r := ⟨_, rfl⟩
  rw [hR] at hdp ⊢
  clear hR h0
  generalize ksN ts at_ = l at kC hkid hdp hk3
  generalize ts.getD at_ nd0 = t at hT kC
  obtain ⟨e0, e1, e2, e3, e4, e5, e6, e7, e8, e9⟩ := hT
  go_enter Tryz.func58, Tryz.ntmps58
  go_wp2_with fail
  refine (kC.out _).mono ?_
  rintro e w1 ⟨rfl, hb1⟩
  have hB1 := Lib.hid (belT (show Below w.heap.size w w from Below.refl _ _) hb1)
  have hsz1 := hb1.size
  clear hb1 kC e0 e1 e2 e3 e4 e5 e6 e7 e8 e9
  have hat512 : (at_ : Int) ≤ 512 := by omega
  obtain ⟨x0, hx0⟩ : ∃ x, l.getD 0 0 = x := ⟨_, rfl⟩
  obtain ⟨x1, hx1⟩ : ∃ x, l.getD 1 0 = x := ⟨_, rfl⟩
  obtain ⟨x2, hx2⟩ : ∃ x, l.getD 2 0 = x := ⟨_, rfl⟩
  rw [hx0, hx1, hx2]
  have hx0' := Lib.hid hx0; have hx1' := Lib.hid hx1; have hx2' := Lib.hid hx2
  clear hx0 hx1 hx2
  have hsl := fun (W : World) => sl3 w1.heap.size l.length hk3 W
  go_wp2_with fail
  clear hsl
  go_loopw [5, 19] (fun d i wr => ∃ (j : Nat) (D : Int), j ≤ l.length ∧ i = .int .i64 j ∧ d = .int .i64 D ∧ 0 ≤ D ∧ D ≤ at_ ∧ Below w.heap.size w wr ∧ w1.heap.size < wr.heap.size ∧ Hid (mxL (dp (ksN ts)) (l.drop j) D + 1 = R) ∧ wr.cell? ⟨w1.heap.size, 1, none⟩ = some (.int .i64 x0) ∧ wr.cell? ⟨w1.heap.size, 2, none⟩ = some (.int .i64 x1) ∧ wr.cell? ⟨w1.heap.size, 3, none⟩ = some (.int .i64 x2)) (fun _ i _ => l.length - (intOf i).toNat)
  case atStart => exact ⟨0, 0, by omega, rfl, rfl, by omega, by omega, by have := hB1.out; (repeat' (first | (with_reducible first | exact bR _ _ | assumption | apply bS | apply bA | apply bD | apply bN | exact bL _) | (simp; done) | (simp; omega) | omega | exact bL _)), by simp, Lib.hid hdp.out.symm, by simp, by simp, by simp⟩
  case round =>
   obtain ⟨j, D, hj, rfl, rfl, hD0, hD1, hbw, hwr, hmx, c1, c2, c3⟩ := hrel
   by_cases hlt : j < l.length
   ·obtain ⟨k0, k1, k2, k3, k4⟩ := hkid.out _ (getI_mem hlt)
    have hdr := Lib.hid (drop_getD l j hlt)
    have hc := kcell w1.heap.size wr _ l rfl (by rw [hx0'.out, hx1'.out, hx2'.out]; exact ⟨c1, c2, c3⟩) j (by omega)
    obtain ⟨y, hy⟩ := Int.eq_ofNat_of_zero_le k0
    rw [hy] at hdr hc k1 k2 k3 k4
    clear hy k0
    have k2' := Lib.hid k2; clear k2
    rw [Int.toNat_natCast] at k2' k3 k4
    obtain ⟨d, hd⟩ : ∃ d, dp (ksN ts) y = d := ⟨_, rfl⟩
    have hI := Lib.hid fun (W : World) => ih y W (by omega) (by omega) k2'.out
    rw [hd] at k3 k4 hI
    have hmx2 : Hid (mxL (dp (ksN ts)) (l.drop (j + 1)) (max D d) + 1 = R) := Lib.hid (by
     have := hmx.out
     rw [hdr.out] at this
     unfold mxL at this
     rw [Int.toNat_natCast, hd] at this
     exact this)
    have c123 := Lib.hid (And.intro c1 (And.intro c2 c3))
    clear hd hmx c1 c2 c3
    go_wp2_with fail
    refine (hI.out _ (Lib.hid (h.out.below hbw hbs)) (by omega)).mono ?_
    rintro e w2 ⟨rfl, hb2⟩
    have hbw2 := Lib.hid (belT hbw hb2)
    have c1 := carry hb2 hwr c123.out.1
    have c2 := carry hb2 hwr c123.out.2.1
    have c3 := carry hb2 hwr c123.out.2.2
    have hwr2 : w1.heap.size < w2.heap.size := by have := hb2.size; omega
    clear hb2 hc
    by_cases hm : D < d
    ·have hm2 : Hid (max D d = d) := Lib.hid (by omega)
     go_wp2_with fail
     all_goals
      go_roundw
      case rel => exact ⟨j + 1, d, by omega, by go_num, rfl, by omega, by omega, hbw2.out, hwr2, Lib.hid (by rw [← hm2.out]; exact hmx2.out), c1, c2, c3⟩
      case measure => simp [intOf]; omega
    ·have hm2 : Hid (max D d = D) := Lib.hid (by omega)
     go_wp2_with fail
     all_goals
      go_roundw
      case rel => exact ⟨j + 1, D, by omega, by go_num, rfl, by omega, by omega, hbw2.out, hwr2, Lib.hid (by rw [← hm2.out]; exact hmx2.out), c1, c2, c3⟩
      case measure => simp [intOf]; omega
   ·have hv : Hid (D + 1 = R) := Lib.hid (by have := hmx.out; rw [List.drop_eq_nil_of_le (by omega)] at this; exact this)
    go_wp2_with fail
    go_ret
    exact ⟨ret_ii0 hv.out, hbw⟩
open Go.RowKit
theorem kidsI_len (k a b c : Int) : kidsI k = (kidsL k a b c).length ∨ (kidsI k = -1 ∧ kidsL k a b c = []) := by
 unfold kidsI kidsL
 by_cases h0 : k = 0 ∨ k = 1 ∨ k = 2
 ·rw [if_pos h0, if_neg (by omega), if_neg (by omega), if_neg (by omega)]; exact .inl rfl
 rw [if_neg h0]
 (repeat' split) <;> first | exact .inl rfl | exact .inr ⟨rfl, rfl⟩
theorem kidsL_get (k a b c : Int) : (1 ≤ (kidsL k a b c).length → (kidsL k a b c).getD 0 0 = a) ∧ (2 ≤ (kidsL k a b c).length → (kidsL k a b c).getD 1 0 = b) ∧ (3 ≤ (kidsL k a b c).length → (kidsL k a b c).getD 2 0 = c) := by
 unfold kidsL
 (repeat' split) <;> refine ⟨fun h => ?_, fun h => ?_, fun h => ?_⟩ <;> first | rfl | (simp at h)
theorem rbegin_any (b off cp : Nat) (ts : List Nd) (hl : ts.length ≤ 140737488351232) : ∀ (n at_ : Nat) (w : World), at_ < n → at_ < ts.length → Hid (NdSl w b off ts) → b < w.heap.size →
  Calls Tryz.prog 65 #[.slice (some ⟨b, off, none⟩) ts.length cp, .int .i64 at_] w fun e w' => e = .returned (.int .i64 (bg (ksN ts) at_)) ∧ Below w.heap.size w w' := by
 intro n
 induction n with
 | zero => intro at_ w h; omega
 | succ n ih =>
  intro at_ w hn hat h hbs
  have hT := h.out at_ hat
  have kK := Lib.hid fun (W : World) => kids_any (ts.getD at_ nd0).k W
  have hke := kidsI_len (ts.getD at_ nd0).k (ts.getD at_ nd0).a (ts.getD at_ nd0).b (ts.getD at_ nd0).c
  have hkg := Lib.hid (kidsL_get (ts.getD at_ nd0).k (ts.getD at_ nd0).a (ts.getD at_ nd0).b (ts.getD at_ nd0).c)
  have hks : kidsL (ts.getD at_ nd0).k (ts.getD at_ nd0).a (ts.getD at_ nd0).b (ts.getD at_ nd0).c = ksN ts at_ := rfl
  rw [hks] at hke hkg
  clear hks
  have hbe := Lib.hid (bg_eq (ksN ts) at_)
  have hk3 : (ksN ts at_).length ≤ 3 := kidsL_len _ _ _ _
  obtain ⟨R, hR⟩ : ∃ r, bg (ksN ts) at_ = r := ⟨_, rfl⟩
  rw [hR] at hbe ⊢
  clear hR
  generalize ksN ts at_ = l at hke hkg hbe hk3
  generalize ts.getD at_ nd0 = t at hT kK hke hkg
  generalize kidsI t.k = kc at kK hke
  obtain ⟨e0, e1, e2, e3, e4, e5, e6, e7, e8, e9⟩ := hT
  go_enter Tryz.func65, Tryz.ntmps65
  go_wp2_with fail
  refine (kK.out _).mono ?_
  rintro e w1 ⟨rfl, hb1⟩
  have hB1 := Lib.hid (belT (show Below w.heap.size w w from Below.refl _ _) hb1)
  have hsz1 := hb1.size
  have hke' := Lib.hid hke
  have hE := Lib.hid (And.intro (carry hb1 hbs e1) (And.intro (carry hb1 hbs e2) (carry hb1 hbs e3)))
  clear hb1 kK e0 e1 e2 e3 e4 e5 e6 e7 e8 e9 hke
  go_wp2_with fail
  go_loopw [5, 6] (fun kv cv wr => ∃ (k m : Nat) (c : Int), m ≤ l.length ∧ kv = .int .i64 k ∧ cv = .int .i64 c ∧ Hid (c = m ∨ (c = -1 ∧ m = 0)) ∧ k ≤ at_ ∧ Below w.heap.size w wr ∧ Hid (bgK (bg (ksN ts)) (l.take m).reverse k = R)) (fun _ cv _ => (intOf cv + 1).toNat)
  case atStart =>
   refine ⟨at_, l.length, kc, by omega, rfl, rfl, Lib.hid ?_, by omega, by have := hB1.out; (repeat' (first | (with_reducible first | exact bR _ _ | assumption | apply bS | apply bA | apply bD | apply bN | exact bL _) | (simp; done) | (simp; omega) | omega | exact bL _)), Lib.hid ?_⟩
   ·rcases hke'.out with h | ⟨h, h2⟩
    ·exact .inl h
    ·exact .inr ⟨h, by rw [h2]; rfl⟩
   ·rw [List.take_length]; exact hbe.out.symm
  case round =>
   obtain ⟨k, m, c, hm, rfl, rfl, hc, hk, hbw, hbk⟩ := hrel
   by_cases hm0 : m = 0
   ·have hv : Hid ((k : Int) = R) := Lib.hid (by have := hbk.out; rw [hm0] at this; exact this)
    have hc0 : ¬ (0 : Int) < c := by rcases hc.out with h | h <;> omega
    go_wp2_with fail
    go_ret
    exact ⟨ret_ii0 hv.out, hbw⟩
   ·have hcm : c = m := by rcases hc.out with h | h <;> omega
    subst hcm
    have hrev := Lib.hid (take_rev l m (by omega) hm)
    have hx : (m = 1 ∧ l.getD (m - 1) 0 = t.a) ∨ (m = 2 ∧ l.getD (m - 1) 0 = t.b) ∨ (m = 3 ∧ l.getD (m - 1) 0 = t.c) := by
     have : m = 1 ∨ m = 2 ∨ m = 3 := by omega
     rcases this with h1 | h1 | h1
     ·exact .inl ⟨h1, by rw [h1]; exact hkg.out.1 (by omega)⟩
     ·exact .inr (.inl ⟨h1, by rw [h1]; exact hkg.out.2.1 (by omega)⟩)
     ·exact .inr (.inr ⟨h1, by rw [h1]; exact hkg.out.2.2 (by omega)⟩)
    obtain ⟨y, hy⟩ : ∃ y, l.getD (m - 1) 0 = y := ⟨_, rfl⟩
    rw [hy] at hx hrev
    clear hy
    have e1 : wr.cell? ⟨b, off + at_ * 10 + 1, none⟩ = some (.int .i64 t.a) := by rw [hbw.cell (p := ⟨b, _, none⟩) hbs, ← hB1.out.cell (p := ⟨b, _, none⟩) hbs]; exact hE.out.1
    have e2 : wr.cell? ⟨b, off + at_ * 10 + 2, none⟩ = some (.int .i64 t.b) := by rw [hbw.cell (p := ⟨b, _, none⟩) hbs, ← hB1.out.cell (p := ⟨b, _, none⟩) hbs]; exact hE.out.2.1
    have e3 : wr.cell? ⟨b, off + at_ * 10 + 3, none⟩ = some (.int .i64 t.c) := by rw [hbw.cell (p := ⟨b, _, none⟩) hbs, ← hB1.out.cell (p := ⟨b, _, none⟩) hbs]; exact hE.out.2.2
    by_cases hbad : ¬ (y = (k : Int) - 1 ∧ (1 : Int) ≤ k)
    ·have hv : Hid (R = -1) := Lib.hid (by rw [← hbk.out, hrev.out]; unfold bgK; rw [if_neg hbad])
     have hd2 : ¬ y = (k : Int) - 1 ∨ ¬ (1 : Int) ≤ k := by omega
     by_cases hy1 : y = (k : Int) - 1
     ·have hk1 : (k : Int) < 1 := by omega
      have hb1 : (y == (k : Int) - 1) = true := by simpa using hy1
      have hb2 : (y != (k : Int) - 1) = false := by simpa using hy1
      have hy1' := Lib.hid hy1
      clear hy1 hbad hd2
      rcases hx with ⟨rfl, hx⟩ | ⟨rfl, hx⟩ | ⟨rfl, hx⟩
      all_goals
       subst hx
       go_wp2_with fail
       go_ret
       exact ⟨ret_ii0 hv.out.symm, hbw⟩
     ·have hb1 : (y == (k : Int) - 1) = false := by simpa using hy1
      have hb2 : (y != (k : Int) - 1) = true := by simpa using hy1
      clear hy1 hbad hd2
      rcases hx with ⟨rfl, hx⟩ | ⟨rfl, hx⟩ | ⟨rfl, hx⟩
      all_goals
       subst hx
       go_wp2_with fail
       go_ret
       exact ⟨ret_ii0 hv.out.symm, hbw⟩
    ·have hgood : y = (k : Int) - 1 ∧ (1 : Int) ≤ k := by omega
     obtain ⟨q, rfl⟩ : ∃ q, k = q + 1 := ⟨k - 1, by omega⟩
     have hyq : y = q := by omega
     subst hyq
     obtain ⟨gq, hgq⟩ : ∃ z, bg (ksN ts) q = z := ⟨_, rfl⟩
     have hI := Lib.hid fun (W : World) => ih q W (by omega) (by omega)
     have hle := bg_le (ksN ts) q
     rw [hgq] at hI hle
     have hbk2 : Hid ((if gq < 0 then -1 else bgK (bg (ksN ts)) (l.take (m - 1)).reverse gq) = R) := Lib.hid (by
      have := hbk.out
      rw [hrev.out] at this
      conv at this => lhs; unfold bgK
      rw [if_pos (by omega), show (((q + 1 : Nat) : Int) - 1).toNat = q from by omega, hgq] at this
      exact this)
     clear hgq hgood hbad hbk
     rcases hx with ⟨rfl, hx⟩ | ⟨rfl, hx⟩ | ⟨rfl, hx⟩
     all_goals
      simp only [← hx] at e1 e2 e3
      clear hx
      go_wp2_with fail
      refine (hI.out _ (Lib.hid (h.out.below hbw hbs)) (by have := hbw.size; omega)).mono ?_
      rintro e w2 ⟨rfl, hb2⟩
      have hbw2 := Lib.hid (belT hbw hb2)
      clear hb2
      by_cases hneg : gq < 0
      ·have hv : Hid (R = -1) := Lib.hid (by rw [← hbk2.out, if_pos hneg])
       go_wp2_with fail
       go_ret
       exact ⟨ret_ii0 hv.out.symm, hbw2.out⟩
      ·obtain ⟨g, rfl⟩ := Int.eq_ofNat_of_zero_le (by omega : 0 ≤ gq)
       have hv := Lib.hid (show bgK (bg (ksN ts)) (l.take _).reverse g = R from by have := hbk2.out; rw [if_neg hneg] at this; exact this)
       go_wp2_with fail
       go_roundw
       case rel => exact ⟨g, _, _, by omega, rfl, rfl, Lib.hid (.inl (by first | rfl | omega)), by omega, hbw2.out, hv⟩
       case measure => simp [intOf]
open Go.RowKit
end Go.Proofs.YthpcbgljbpmafaaGreatDoor
