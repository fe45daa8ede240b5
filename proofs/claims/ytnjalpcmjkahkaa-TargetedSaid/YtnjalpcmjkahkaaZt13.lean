/- What a target term is, plain: places, names, numbers. -/
import Derived.Test.YtnjalpcmjkahkaaZt6
import Derived.Test.YtnjalpcmjkahkaaZt12
set_option maxRecDepth 100000
set_option maxHeartbeats 8000000
namespace Go.Proofs.Ytnjalpcmjkahkaa
open Go.RowKit
set_option linter.unusedVariables false
set_option linter.unusedSimpArgs false
theorem bgK_in {g : Nat → Int} (hg : ∀ j, g j ≤ j) : ∀ (cs : List Int) (k : Int), 0 ≤ bgK g cs k → ∀ c ∈ cs, 0 ≤ c ∧ c < k
 | [], k, _, c, hc => by cases hc
 | d :: cs, k, h, c, hc => by
  unfold bgK at h
  split at h
  ·next hd =>
   split at h
   ·omega
   ·next hn =>
    have hle := hg (k - 1).toNat
    rcases List.mem_cons.1 hc with rfl | hc
    ·omega
    ·have := bgK_in hg cs _ h c hc
     omega
  ·omega
theorem bg_in {ks : Nat → List Int} {i : Nat} (h : 0 ≤ bg ks i) {c : Int} (hc : c ∈ ks i) : 0 ≤ c ∧ c < i := by
 rw [bg_eq] at h
 exact bgK_in (bg_le ks) _ _ h c (List.mem_reverse.2 hc)
theorem may_parts {ts : List Tg} (h : mayV ts = true) : (1 ≤ ts.length ∧ ts.length ≤ 8192) ∧ (∀ i, i < ts.length → okT (ts.getD i tg0) = true) ∧ ∀ i, i < ts.length → ∀ c ∈ ksT ts i, 0 ≤ c ∧ c < i := by
 unfold mayV at h
 simp only [Bool.and_eq_true, decide_eq_true_eq, List.all_eq_true] at h
 obtain ⟨⟨h1, h2⟩, h3⟩ := h
 refine ⟨h1, fun i hi => h2 _ ?_, fun i hi c hc => bg_in (bg_all h3 i (by omega)) hc⟩
 rw [List.getD_eq_getElem?_getD, List.getElem?_eq_getElem hi]; exact List.getElem_mem hi
theorem okT_parts {t : Tg} (h : okT t = true) : plainT t.k t.a t.b t.c t.n t.x t.y t.z t.w = true ∧ numT t.k t.n = true ∧ okNames t.k t.n t.x t.y t.z t.w = true := by
 unfold okT at h
 simp only [Bool.and_eq_true] at h
 exact ⟨h.1.1, h.1.2, h.2⟩
theorem kids_a {k a b c : Int} (h : k = 3 ∨ k = 4 ∨ k = 9 ∨ k = 5 ∨ k = 6 ∨ k = 8 ∨ k = 10 ∨ k = 11 ∨ k = 7 ∨ k = 12) : a ∈ kidsL k a b c := by
 unfold kidsL; repeat' split
 all_goals first | (exfalso; omega) | simp
theorem kids_b {k a b c : Int} (h : k = 5 ∨ k = 6 ∨ k = 8 ∨ k = 10 ∨ k = 11 ∨ k = 7 ∨ k = 12) : b ∈ kidsL k a b c := by
 unfold kidsL; repeat' split
 all_goals first | (exfalso; omega) | simp
theorem kids_c {k a b c : Int} (h : k = 7 ∨ k = 12) : c ∈ kidsL k a b c := by
 unfold kidsL; repeat' split
 all_goals first | (exfalso; omega) | simp
theorem plainT_kind {k a b c n x y z w : Int} (h : plainT k a b c n x y z w = true) : 0 ≤ k ∧ k ≤ 12 := by
 unfold plainT at h
 repeat' (split at h)
 all_goals first | omega | (simp at h; omega)
theorem kidLt_of {ts : List Tg} (h : mayV ts = true) : KidLt ts := fun i hi => by
 obtain ⟨_, h2, h3⟩ := may_parts h
 have hk := plainT_kind (okT_parts (h2 i hi)).1
 have h3 := h3 i hi
 unfold ksT at h3
 exact ⟨fun h0 h1 h2 => h3 _ (kids_a (by omega)), fun h0 => h3 _ (kids_b (by omega)), fun h0 => h3 _ (kids_c (by omega))⟩
theorem kidIn_of {ts : List Tg} (h : mayV ts = true) : KidIn ts := fun i hi => by
 obtain ⟨h1, h2, h3⟩ := may_parts h
 have hp := okT_parts (h2 i hi)
 have hk := plainT_kind hp.1
 have h3 := h3 i hi
 have hpl := hp.1
 have hn := hp.2.1
 unfold ksT at h3
 unfold numT at hn
 simp only [decide_eq_true_eq] at hn
 generalize ts.getD i tg0 = t at *
 refine ⟨hn.2.2.1, fun h => by have := hn.1 h; omega, ?_, ?_, ?_⟩
 ·by_cases h0 : t.k = 3 ∨ t.k = 4 ∨ t.k = 9 ∨ t.k = 5 ∨ t.k = 6 ∨ t.k = 8 ∨ t.k = 10 ∨ t.k = 11 ∨ t.k = 7 ∨ t.k = 12
  ·have := h3 _ (kids_a (b := t.b) (c := t.c) h0); omega
  ·unfold plainT at hpl
   rw [if_pos (by omega)] at hpl
   simp only [decide_eq_true_eq] at hpl
   omega
 ·by_cases h0 : t.k = 5 ∨ t.k = 6 ∨ t.k = 8 ∨ t.k = 10 ∨ t.k = 11 ∨ t.k = 7 ∨ t.k = 12
  ·have := h3 _ (kids_b (a := t.a) (c := t.c) h0); omega
  ·have hb : t.b = 0 := by
    unfold plainT at hpl
    repeat' (split at hpl)
    all_goals first | (simp only [decide_eq_true_eq] at hpl; omega) | omega
   omega
 ·by_cases h0 : t.k = 7 ∨ t.k = 12
  ·have := h3 _ (kids_c (a := t.a) (b := t.b) h0); omega
  ·have hb : t.c = 0 := by
    unfold plainT at hpl
    repeat' (split at hpl)
    all_goals first | (simp only [decide_eq_true_eq] at hpl; omega) | omega
   omega
theorem namIn_of {ts : List Tg} (h : mayV ts = true) : NamIn ts := fun i hi => by
 obtain ⟨h1, h2, h3⟩ := may_parts h
 have hp := okT_parts (h2 i hi)
 have hk := plainT_kind hp.1
 have hpl := hp.1
 have hok := hp.2.2
 generalize ts.getD i tg0 = t at *
 obtain ⟨k, a, b, c, n, x, y, z, w⟩ := t
 dsimp only at hk hpl hok ⊢
 clear hp h2 h3 h1 h
 have hk : k = 0 ∨ k = 1 ∨ k = 2 ∨ k = 3 ∨ k = 4 ∨ k = 5 ∨ k = 6 ∨ k = 7 ∨ k = 8 ∨ k = 9 ∨ k = 10 ∨ k = 11 ∨ k = 12 := by omega
 rcases hk with rfl | rfl | rfl | rfl | rfl | rfl | rfl | rfl | rfl | rfl | rfl | rfl | rfl
 all_goals
  simp [plainT] at hpl
  simp [okNames, namesT, nameT] at hok
  omega
def runV (ts : List Tg) (fuel : Int) : ((Int × Int) × Nat) × Int :=
 if mayV ts = true ∧ 0 ≤ fuel ∧ fuel ≤ 1048576 then (rRun ts (furV ts) fuel.toNat 0 (.ev [] ((ts.length : Int) - 1) .nil), 0) else (((0, 0), 0), 2100)
def runR (x : ((Int × Int) × Nat) × Int) : Value := .tuple #[.agg #[.int .i64 x.1.1.1, .int .i64 x.1.1.2], .int .i64 x.1.2, .int .i64 x.2]
open Go.RowKit
def idx : List Int → Int → Int
 | [], _ => -1
 | y :: s, x => if y = x then 0 else (if idx s x = -1 then -1 else idx s x + 1)
theorem idx_bd (s : List Int) (x : Int) : -1 ≤ idx s x ∧ idx s x < s.length := by
 induction s with
 | nil => exact ⟨by show (-1 : Int) ≤ -1; omega, by show (-1 : Int) < 0; omega⟩
 | cons y s ih =>
  unfold idx
  rw [List.length_cons]
  split
  ·omega
  ·split <;> omega
def LvS (f : Lv) (s : List Int) : Prop := f.ok s.length ∧ ∀ x, findV f x s.length = idx s x
theorem LvS.no : LvS Lv.no [] := ⟨Lv.ok_no, fun _ => rfl⟩
theorem LvS.up {f : Lv} {s : List Int} (h : LvS f s) (x : Int) : LvS (f.up x s.length) (x :: s) := by
 refine ⟨by have := Lv.ok_up (x := x) h.1 (by omega); rwa [show ((x :: s).length : Int) = (s.length : Int) + 1 by simp], fun y => ?_⟩
 have hy := h.2 y
 unfold findV Lv.up idx
 unfold findV at hy
 rw [show ((x :: s).length : Int) = (s.length : Int) + 1 by simp]
 by_cases e : y = x
 ·subst e
  rw [if_pos rfl, if_pos rfl]
  show (s.length : Int) + 1 - 1 - (s.length : Int) = 0
  omega
 ·rw [if_neg e, if_neg (fun h => e h.symm)]
  cases hf : f y with
  | none =>
   rw [hf] at hy
   have hy : (-1 : Int) = idx s y := hy
   rw [← hy, if_pos rfl]
  | some l =>
   rw [hf] at hy
   have hy : (s.length : Int) - 1 - l = idx s y := hy
   have hl := h.1 y l hf
   show (s.length : Int) + 1 - 1 - l = _
   rw [if_neg (by omega)]; omega
def ScOk (ts : List Tg) (fur : List Int) : Nat → Int → List Int → Prop
 | 0, _, _ => True
 | n + 1, i, s =>
  let t := ndT ts i
  (t.k = 0 → fur.getD i.toNat 0 = idx s t.n) ∧ (t.k = 3 → ScOk ts fur n t.a (t.x :: s)) ∧ (t.k = 4 → ScOk ts fur n t.a (t.y :: t.x :: s)) ∧ (t.k = 9 → ScOk ts fur n t.a s) ∧
  (t.k = 6 ∨ t.k = 11 → ScOk ts fur n t.a s ∧ ScOk ts fur n t.b (t.x :: s)) ∧
  (t.k = 12 → fur.getD i.toNat 0 = idx s t.w ∧ ScOk ts fur n t.a s ∧ ScOk ts fur n t.b (t.x :: s) ∧ ScOk ts fur n t.c (t.z :: t.y :: s)) ∧
  (t.k = 7 → ScOk ts fur n t.a s ∧ ScOk ts fur n t.b s ∧ ScOk ts fur n t.c s) ∧ (t.k = 5 ∨ t.k = 8 ∨ t.k = 10 → ScOk ts fur n t.a s ∧ ScOk ts fur n t.b s)
theorem part_1 {ks : Nat → List Int} {i : Nat} {a : Int} (hk : ks i = [a]) (h : 0 ≤ bg ks i) : a = i - 1 ∧ 0 ≤ a ∧ bg ks i = bg ks a.toNat ∧ 0 ≤ bg ks a.toNat := by
 have e0 : bg ks i = bgK (bg ks) [a] i := by rw [bg_eq, hk]; rfl
 rw [e0] at h ⊢
 simp only [bgK] at h ⊢
 split at h
 ·next hd =>
  split at h
  ·omega
  ·next hn =>
   rw [if_pos hd, if_neg hn]
   have e : ((i : Int) - 1).toNat = a.toNat := by rw [hd.1]
   exact ⟨hd.1, by omega, by rw [e], by rw [← e]; exact h⟩
 ·omega
theorem part_2 {ks : Nat → List Int} {i : Nat} {a b : Int} (hk : ks i = [a, b]) (h : 0 ≤ bg ks i) : b = i - 1 ∧ 0 ≤ b ∧ 0 ≤ bg ks b.toNat ∧ a = bg ks b.toNat - 1 ∧ 0 ≤ a ∧ bg ks i = bg ks a.toNat ∧ 0 ≤ bg ks a.toNat := by
 have e0 : bg ks i = bgK (bg ks) [b, a] i := by rw [bg_eq, hk]; rfl
 rw [e0] at h ⊢
 simp only [bgK] at h ⊢
 split at h
 ·next hd =>
  split at h
  ·omega
  ·next hn =>
   rw [if_pos hd, if_neg hn]
   have e : ((i : Int) - 1).toNat = b.toNat := by rw [hd.1]
   rw [e] at h hn ⊢
   split at h
   ·next hd2 =>
    split at h
    ·omega
    ·next hn2 =>
     rw [if_pos hd2, if_neg hn2]
     have e2 : (bg ks b.toNat - 1).toNat = a.toNat := by rw [hd2.1]
     exact ⟨hd.1, by omega, by omega, hd2.1, by omega, by rw [e2], by rw [← e2]; exact h⟩
   ·omega
 ·omega
theorem part_3 {ks : Nat → List Int} {i : Nat} {a b c : Int} (hk : ks i = [a, b, c]) (h : 0 ≤ bg ks i) : c = i - 1 ∧ 0 ≤ c ∧ 0 ≤ bg ks c.toNat ∧ b = bg ks c.toNat - 1 ∧ 0 ≤ b ∧ 0 ≤ bg ks b.toNat ∧ a = bg ks b.toNat - 1 ∧ 0 ≤ a ∧ bg ks i = bg ks a.toNat ∧ 0 ≤ bg ks a.toNat := by
 have e0 : bg ks i = bgK (bg ks) [c, b, a] i := by rw [bg_eq, hk]; rfl
 rw [e0] at h ⊢
 simp only [bgK] at h ⊢
 split at h
 ·next hd =>
  split at h
  ·omega
  ·next hn =>
   rw [if_pos hd, if_neg hn]
   have e : ((i : Int) - 1).toNat = c.toNat := by rw [hd.1]
   rw [e] at h hn ⊢
   split at h
   ·next hd2 =>
    split at h
    ·omega
    ·next hn2 =>
     rw [if_pos hd2, if_neg hn2]
     have e2 : (bg ks c.toNat - 1).toNat = b.toNat := by rw [hd2.1]
     rw [e2] at h hn2 ⊢
     split at h
     ·next hd3 =>
      split at h
      ·omega
      ·next hn3 =>
       rw [if_pos hd3, if_neg hn3]
       have e3 : (bg ks b.toNat - 1).toNat = a.toNat := by rw [hd3.1]
       exact ⟨hd.1, by omega, by omega, hd2.1, by omega, by omega, hd3.1, by omega, by rw [e3], by rw [← e3]; exact h⟩
     ·omega
   ·omega
 ·omega
theorem ks_1 {ts : List Tg} {i : Int} (h : (ndT ts i).k = 3 ∨ (ndT ts i).k = 4 ∨ (ndT ts i).k = 9) : ksT ts i.toNat = [(ndT ts i).a] := by
 unfold ksT kidsL; exact if_pos h
theorem ks_2 {ts : List Tg} {i : Int} (h : (ndT ts i).k = 5 ∨ (ndT ts i).k = 6 ∨ (ndT ts i).k = 8 ∨ (ndT ts i).k = 10 ∨ (ndT ts i).k = 11) : ksT ts i.toNat = [(ndT ts i).a, (ndT ts i).b] := by
 have h1 : ¬ ((ndT ts i).k = 3 ∨ (ndT ts i).k = 4 ∨ (ndT ts i).k = 9) := by omega
 unfold ksT kidsL; exact (if_neg h1).trans (if_pos h)
theorem ks_3 {ts : List Tg} {i : Int} (h : (ndT ts i).k = 7 ∨ (ndT ts i).k = 12) : ksT ts i.toNat = [(ndT ts i).a, (ndT ts i).b, (ndT ts i).c] := by
 have h1 : ¬ ((ndT ts i).k = 3 ∨ (ndT ts i).k = 4 ∨ (ndT ts i).k = 9) := by omega
 have h2 : ¬ ((ndT ts i).k = 5 ∨ (ndT ts i).k = 6 ∨ (ndT ts i).k = 8 ∨ (ndT ts i).k = 10 ∨ (ndT ts i).k = 11) := by omega
 unfold ksT kidsL; exact (if_neg h1).trans ((if_neg h2).trans (if_pos h))
theorem getD_set {l : List Int} {i j : Nat} {v : Int} (h : i ≠ j) : (l.set i v).getD j 0 = l.getD j 0 := by
 rw [List.getD_eq_getElem?_getD, List.getD_eq_getElem?_getD, List.getElem?_set_ne h]
theorem getD_self {l : List Int} {i : Nat} {v : Int} (h : i < l.length) : (l.set i v).getD i 0 = v := by
 rw [List.getD_eq_getElem?_getD, List.getElem?_set_self h]; rfl
def bgI (ts : List Tg) (i : Int) : Int := bg (ksT ts) i.toNat
theorem kid_1 {ts : List Tg} {i : Int} (hi : 0 ≤ i) (hp : 0 ≤ bgI ts i) (h : (ndT ts i).k = 3 ∨ (ndT ts i).k = 4 ∨ (ndT ts i).k = 9) : (0 ≤ (ndT ts i).a ∧ (ndT ts i).a < i) ∧ bgI ts (ndT ts i).a = bgI ts i := by
 obtain ⟨h1, h2, h3, _⟩ := part_1 (ks_1 h) hp
 exact ⟨by omega, h3.symm⟩
theorem kid_2 {ts : List Tg} {i : Int} (hi : 0 ≤ i) (hp : 0 ≤ bgI ts i) (h : (ndT ts i).k = 5 ∨ (ndT ts i).k = 6 ∨ (ndT ts i).k = 8 ∨ (ndT ts i).k = 10 ∨ (ndT ts i).k = 11) :
  (0 ≤ (ndT ts i).a ∧ (ndT ts i).a < i) ∧ (0 ≤ (ndT ts i).b ∧ (ndT ts i).b < i) ∧ bgI ts (ndT ts i).a = bgI ts i ∧ (ndT ts i).a = bgI ts (ndT ts i).b - 1 := by
 obtain ⟨h1, h2, h3, h4, h5, h6, h7⟩ := part_2 (ks_2 h) hp
 have := bg_le (ksT ts) (ndT ts i).b.toNat
 exact ⟨by omega, by omega, h6.symm, h4⟩
theorem kid_3 {ts : List Tg} {i : Int} (hi : 0 ≤ i) (hp : 0 ≤ bgI ts i) (h : (ndT ts i).k = 7 ∨ (ndT ts i).k = 12) :
  (0 ≤ (ndT ts i).a ∧ (ndT ts i).a < i) ∧ (0 ≤ (ndT ts i).b ∧ (ndT ts i).b < i) ∧ (0 ≤ (ndT ts i).c ∧ (ndT ts i).c < i) ∧ bgI ts (ndT ts i).a = bgI ts i ∧ (ndT ts i).a = bgI ts (ndT ts i).b - 1 ∧ (ndT ts i).b = bgI ts (ndT ts i).c - 1 := by
 obtain ⟨h1, h2, h3, h4, h5, h6, h7, h8, h9, h10⟩ := part_3 (ks_3 h) hp
 have := bg_le (ksT ts) (ndT ts i).b.toNat
 have := bg_le (ksT ts) (ndT ts i).c.toNat
 exact ⟨by omega, by omega, by omega, h9.symm, h7, h4⟩
theorem bgI_le {ts : List Tg} {i : Int} (hi : 0 ≤ i) : bgI ts i ≤ i := by have := bg_le (ksT ts) i.toNat; unfold bgI; omega
theorem rsW_out {ts : List Tg} (hp : ∀ i : Int, 0 ≤ i → i < ts.length → 0 ≤ bgI ts i) : ∀ (n : Nat) (i b : Int) (f : Lv) (fur : List Int), 0 ≤ i → i < ts.length → ∀ j : Nat, ((j : Int) < bgI ts i ∨ i < j) → (rsW ts n i b f fur).getD j 0 = fur.getD j 0
 | 0, _, _, _, _, _, _, _, _ => rfl
 | n + 1, i, b, f, fur, hi0, hi1, j, hj => by
  have hpi := hp i hi0 hi1
  have hle := bgI_le (ts := ts) hi0
  unfold rsW
  dsimp only
  by_cases h0 : (ndT ts i).k = 0
  ·rw [if_pos h0]; exact getD_set (by omega)
  rw [if_neg h0]
  by_cases h3 : (ndT ts i).k = 3
  ·rw [if_pos h3]
   obtain ⟨ka, e1⟩ := kid_1 hi0 hpi (by omega)
   exact rsW_out hp n _ _ _ _ ka.1 (by omega) j (by omega)
  rw [if_neg h3]
  by_cases h4 : (ndT ts i).k = 4
  ·rw [if_pos h4]
   obtain ⟨ka, e1⟩ := kid_1 hi0 hpi (by omega)
   exact rsW_out hp n _ _ _ _ ka.1 (by omega) j (by omega)
  rw [if_neg h4]
  by_cases h9 : (ndT ts i).k = 9
  ·rw [if_pos h9]
   obtain ⟨ka, e1⟩ := kid_1 hi0 hpi (by omega)
   exact rsW_out hp n _ _ _ _ ka.1 (by omega) j (by omega)
  rw [if_neg h9]
  by_cases h6 : (ndT ts i).k = 6 ∨ (ndT ts i).k = 11
  ·rw [if_pos h6]
   obtain ⟨ka, kb, e1, e2⟩ := kid_2 hi0 hpi (by omega)
   have := hp _ kb.1 (by omega)
   have := bgI_le (ts := ts) ka.1
   rw [rsW_out hp n _ _ _ _ kb.1 (by omega) j (by omega)]
   exact rsW_out hp n _ _ _ _ ka.1 (by omega) j (by omega)
  rw [if_neg h6]
  by_cases h12 : (ndT ts i).k = 12
  ·rw [if_pos h12]
   obtain ⟨ka, kb, kc, e1, e2, e3⟩ := kid_3 hi0 hpi (by omega)
   have := bgI_le (ts := ts) ka.1
   have := bgI_le (ts := ts) kb.1
   rw [rsW_out hp n _ _ _ _ kc.1 (by omega) j (by omega), rsW_out hp n _ _ _ _ kb.1 (by omega) j (by omega), rsW_out hp n _ _ _ _ ka.1 (by omega) j (by omega)]
   exact getD_set (by omega)
  rw [if_neg h12]
  by_cases h7 : (ndT ts i).k = 7
  ·rw [if_pos h7]
   obtain ⟨ka, kb, kc, e1, e2, e3⟩ := kid_3 hi0 hpi (by omega)
   have := bgI_le (ts := ts) ka.1
   have := bgI_le (ts := ts) kb.1
   rw [rsW_out hp n _ _ _ _ kb.1 (by omega) j (by omega), rsW_out hp n _ _ _ _ ka.1 (by omega) j (by omega)]
   exact rsW_out hp n _ _ _ _ kc.1 (by omega) j (by omega)
  rw [if_neg h7]
  by_cases h5 : (ndT ts i).k = 5 ∨ (ndT ts i).k = 8 ∨ (ndT ts i).k = 10
  ·rw [if_pos h5]
   obtain ⟨ka, kb, e1, e2⟩ := kid_2 hi0 hpi (by omega)
   have := bgI_le (ts := ts) ka.1
   rw [rsW_out hp n _ _ _ _ kb.1 (by omega) j (by omega)]
   exact rsW_out hp n _ _ _ _ ka.1 (by omega) j (by omega)
  rw [if_neg h5]
theorem ScOk.congr {ts : List Tg} (hp : ∀ i : Int, 0 ≤ i → i < ts.length → 0 ≤ bgI ts i) {fur fur' : List Int} : ∀ (n : Nat) (i : Int) (s : List Int), 0 ≤ i → i < ts.length → (∀ j : Nat, bgI ts i ≤ j → (j : Int) ≤ i → fur'.getD j 0 = fur.getD j 0) → ScOk ts fur n i s → ScOk ts fur' n i s
 | 0, _, _, _, _, _, _ => trivial
 | n + 1, i, s, hi0, hi1, he, h => by
  have hpi := hp i hi0 hi1
  have hle := bgI_le (ts := ts) hi0
  have hei := he i.toNat (by omega) (by omega)
  obtain ⟨c0, c3, c4, c9, c6, c12, c7, c5⟩ := h
  refine ⟨fun k => ?_, fun k => ?_, fun k => ?_, fun k => ?_, fun k => ?_, fun k => ?_, fun k => ?_, fun k => ?_⟩
  ·rw [hei]; exact c0 k
  ·obtain ⟨ka, e1⟩ := kid_1 hi0 hpi (by omega)
   exact congr hp n _ _ ka.1 (by omega) (fun j h1 h2 => he j (by omega) (by omega)) (c3 k)
  ·obtain ⟨ka, e1⟩ := kid_1 hi0 hpi (by omega)
   exact congr hp n _ _ ka.1 (by omega) (fun j h1 h2 => he j (by omega) (by omega)) (c4 k)
  ·obtain ⟨ka, e1⟩ := kid_1 hi0 hpi (by omega)
   exact congr hp n _ _ ka.1 (by omega) (fun j h1 h2 => he j (by omega) (by omega)) (c9 k)
  ·obtain ⟨ka, kb, e1, e2⟩ := kid_2 hi0 hpi (by omega)
   have := bgI_le (ts := ts) ka.1
   exact ⟨congr hp n _ _ ka.1 (by omega) (fun j h1 h2 => he j (by omega) (by omega)) (c6 k).1, congr hp n _ _ kb.1 (by omega) (fun j h1 h2 => he j (by omega) (by omega)) (c6 k).2⟩
  ·obtain ⟨ka, kb, kc, e1, e2, e3⟩ := kid_3 hi0 hpi (by omega)
   have := bgI_le (ts := ts) ka.1
   have := bgI_le (ts := ts) kb.1
   exact ⟨by rw [hei]; exact (c12 k).1, congr hp n _ _ ka.1 (by omega) (fun j h1 h2 => he j (by omega) (by omega)) (c12 k).2.1, congr hp n _ _ kb.1 (by omega) (fun j h1 h2 => he j (by omega) (by omega)) (c12 k).2.2.1, congr hp n _ _ kc.1 (by omega) (fun j h1 h2 => he j (by omega) (by omega)) (c12 k).2.2.2⟩
  ·obtain ⟨ka, kb, kc, e1, e2, e3⟩ := kid_3 hi0 hpi (by omega)
   have := bgI_le (ts := ts) ka.1
   have := bgI_le (ts := ts) kb.1
   exact ⟨congr hp n _ _ ka.1 (by omega) (fun j h1 h2 => he j (by omega) (by omega)) (c7 k).1, congr hp n _ _ kb.1 (by omega) (fun j h1 h2 => he j (by omega) (by omega)) (c7 k).2.1, congr hp n _ _ kc.1 (by omega) (fun j h1 h2 => he j (by omega) (by omega)) (c7 k).2.2⟩
  ·obtain ⟨ka, kb, e1, e2⟩ := kid_2 hi0 hpi (by omega)
   have := bgI_le (ts := ts) ka.1
   exact ⟨congr hp n _ _ ka.1 (by omega) (fun j h1 h2 => he j (by omega) (by omega)) (c5 k).1, congr hp n _ _ kb.1 (by omega) (fun j h1 h2 => he j (by omega) (by omega)) (c5 k).2⟩
theorem rs_sc {ts : List Tg} (hp : ∀ i : Int, 0 ≤ i → i < ts.length → 0 ≤ bgI ts i) : ∀ (n : Nat) (i : Int) (s : List Int) (f : Lv) (fur : List Int), 0 ≤ i → i < ts.length → i < n → LvS f s → fur.length = ts.length → ∀ m, ScOk ts (rsW ts n i s.length f fur) m i s
 | 0, i, _, _, _, h0, _, hn, _, _, _ => by omega
 | n + 1, i, s, f, fur, hi0, hi1, hin, hf, hl, 0 => trivial
 | n + 1, i, s, f, fur, hi0, hi1, hin, hf, hl, m + 1 => by
  have hpi := hp i hi0 hi1
  have hle := bgI_le (ts := ts) hi0
  have e1s : ∀ x : Int, ((x :: s).length : Int) = (s.length : Int) + 1 := fun x => by simp
  have e2s : ∀ x y : Int, ((x :: y :: s).length : Int) = (s.length : Int) + 2 := fun x y => by simp; omega
  have hf1 := fun x => hf.up x
  have hf2 : ∀ x y, LvS ((f.up x s.length).up y ((s.length : Int) + 1)) (y :: x :: s) := fun x y => by
   have := (hf.up x).up y
   rwa [e1s] at this
  have go : ∀ (t : List Int) (g : Lv) (c : Int) (b : Int) (fr : List Int) (q : Nat), b = t.length → 0 ≤ c → c < i → LvS g t → fr.length = ts.length → ScOk ts (rsW ts n c b g fr) q c t := fun t g c b fr q hb h0 h1 hg hr => by
   subst hb; exact rs_sc hp n c t g fr h0 (by omega) (by omega) hg hr q
  -- what was told stays when another part is gone over
  have keep : ∀ (t : List Int) (c d b : Int) (g : Lv) (fr : List Int) (q : Nat), 0 ≤ c → c < i → 0 ≤ d → d < i → (c < bgI ts d ∨ d < bgI ts c) → ScOk ts fr q c t → ScOk ts (rsW ts n d b g fr) q c t := fun t c d b g fr q h0 h1 h2 h3 hd h =>
   ScOk.congr hp q c t h0 (by omega) (fun j hj1 hj2 => rsW_out hp n d b g fr h2 (by omega) j (by omega)) h
  unfold rsW
  dsimp only
  by_cases h0 : (ndT ts i).k = 0
  ·rw [if_pos h0]
   refine ⟨fun _ => ?_, fun k => by omega, fun k => by omega, fun k => by omega, fun k => by omega, fun k => by omega, fun k => by omega, fun k => by omega⟩
   rw [getD_self (by omega)]; exact hf.2 _
  rw [if_neg h0]
  by_cases h3 : (ndT ts i).k = 3
  ·rw [if_pos h3]
   obtain ⟨ka, e1⟩ := kid_1 hi0 hpi (by omega)
   exact ⟨fun k => by omega, fun _ => go _ _ _ _ _ _ (e1s _).symm ka.1 ka.2 (hf1 _) hl, fun k => by omega, fun k => by omega, fun k => by omega, fun k => by omega, fun k => by omega, fun k => by omega⟩
  rw [if_neg h3]
  by_cases h4 : (ndT ts i).k = 4
  ·rw [if_pos h4]
   obtain ⟨ka, e1⟩ := kid_1 hi0 hpi (by omega)
   exact ⟨fun k => by omega, fun k => by omega, fun _ => go _ _ _ _ _ _ (e2s _ _).symm ka.1 ka.2 (hf2 _ _) hl, fun k => by omega, fun k => by omega, fun k => by omega, fun k => by omega, fun k => by omega⟩
  rw [if_neg h4]
  by_cases h9 : (ndT ts i).k = 9
  ·rw [if_pos h9]
   obtain ⟨ka, e1⟩ := kid_1 hi0 hpi (by omega)
   exact ⟨fun k => by omega, fun k => by omega, fun k => by omega, fun _ => go _ _ _ _ _ _ rfl ka.1 ka.2 hf hl, fun k => by omega, fun k => by omega, fun k => by omega, fun k => by omega⟩
  rw [if_neg h9]
  by_cases h6 : (ndT ts i).k = 6 ∨ (ndT ts i).k = 11
  ·rw [if_pos h6]
   obtain ⟨ka, kb, e1, e2⟩ := kid_2 hi0 hpi (by omega)
   exact ⟨fun k => by omega, fun k => by omega, fun k => by omega, fun k => by omega, fun _ => ⟨keep _ _ _ _ _ _ _ ka.1 ka.2 kb.1 kb.2 (by omega) (go _ _ _ _ _ _ rfl ka.1 ka.2 hf hl), go _ _ _ _ _ _ (e1s _).symm kb.1 kb.2 (hf1 _) (by rw [rsW_len]; exact hl)⟩, fun k => by omega, fun k => by omega, fun k => by omega⟩
  rw [if_neg h6]
  by_cases h12 : (ndT ts i).k = 12
  ·rw [if_pos h12]
   obtain ⟨ka, kb, kc, e1, e2, e3⟩ := kid_3 hi0 hpi (by omega)
   have la := bgI_le (ts := ts) ka.1
   have lb := bgI_le (ts := ts) kb.1
   refine ⟨fun k => by omega, fun k => by omega, fun k => by omega, fun k => by omega, fun k => by omega, fun _ => ⟨?_, ?_, ?_, ?_⟩, fun k => by omega, fun k => by omega⟩
   ·rw [rsW_out hp n _ _ _ _ kc.1 (by omega) _ (by omega), rsW_out hp n _ _ _ _ kb.1 (by omega) _ (by omega), rsW_out hp n _ _ _ _ ka.1 (by omega) _ (by omega), getD_self (by omega)]
    exact hf.2 _
   ·exact keep _ _ _ _ _ _ _ ka.1 ka.2 kc.1 kc.2 (by omega) (keep _ _ _ _ _ _ _ ka.1 ka.2 kb.1 kb.2 (by omega) (go _ _ _ _ _ _ rfl ka.1 ka.2 hf (by rw [List.length_set]; exact hl)))
   ·exact keep _ _ _ _ _ _ _ kb.1 kb.2 kc.1 kc.2 (by omega) (go _ _ _ _ _ _ (e1s _).symm kb.1 kb.2 (hf1 _) (by rw [rsW_len, List.length_set]; exact hl))
   ·exact go _ _ _ _ _ _ (e2s _ _).symm kc.1 kc.2 (hf2 _ _) (by rw [rsW_len, rsW_len, List.length_set]; exact hl)
  rw [if_neg h12]
  by_cases h7 : (ndT ts i).k = 7
  ·rw [if_pos h7]
   obtain ⟨ka, kb, kc, e1, e2, e3⟩ := kid_3 hi0 hpi (by omega)
   have la := bgI_le (ts := ts) ka.1
   have lb := bgI_le (ts := ts) kb.1
   refine ⟨fun k => by omega, fun k => by omega, fun k => by omega, fun k => by omega, fun k => by omega, fun k => by omega, fun _ => ⟨?_, ?_, ?_⟩, fun k => by omega⟩
   ·exact keep _ _ _ _ _ _ _ ka.1 ka.2 kb.1 kb.2 (by omega) (go _ _ _ _ _ _ rfl ka.1 ka.2 hf (by rw [rsW_len]; exact hl))
   ·exact go _ _ _ _ _ _ rfl kb.1 kb.2 hf (by rw [rsW_len, rsW_len]; exact hl)
   ·exact keep _ _ _ _ _ _ _ kc.1 kc.2 kb.1 kb.2 (by omega) (keep _ _ _ _ _ _ _ kc.1 kc.2 ka.1 ka.2 (by omega) (go _ _ _ _ _ _ rfl kc.1 kc.2 hf hl))
  rw [if_neg h7]
  by_cases h5 : (ndT ts i).k = 5 ∨ (ndT ts i).k = 8 ∨ (ndT ts i).k = 10
  ·rw [if_pos h5]
   obtain ⟨ka, kb, e1, e2⟩ := kid_2 hi0 hpi (by omega)
   exact ⟨fun k => by omega, fun k => by omega, fun k => by omega, fun k => by omega, fun k => by omega, fun k => by omega, fun k => by omega, fun _ => ⟨keep _ _ _ _ _ _ _ ka.1 ka.2 kb.1 kb.2 (by omega) (go _ _ _ _ _ _ rfl ka.1 ka.2 hf hl), go _ _ _ _ _ _ rfl kb.1 kb.2 hf (by rw [rsW_len]; exact hl)⟩⟩
  rw [if_neg h5]
  exact ⟨fun k => by omega, fun k => by omega, fun k => by omega, fun k => by omega, fun k => by omega, fun k => by omega, fun k => by omega, fun k => by omega⟩
theorem furV_sc {ts : List Tg} (hm : mayV ts = true) (m : Nat) : ScOk ts (furV ts) m ((ts.length : Int) - 1) [] := by
 have h := may_parts hm
 have hb : bg (ksT ts) (ts.length - 1) = 0 := by
  unfold mayV at hm
  simp only [Bool.and_eq_true, decide_eq_true_eq] at hm
  exact hm.2
 have hp : ∀ i : Int, 0 ≤ i → i < ts.length → 0 ≤ bgI ts i := fun i h0 h1 => bg_all hb i.toNat (by omega)
 unfold furV
 exact rs_sc hp ts.length _ [] Lv.no _ (by omega) (by omega) (by omega) LvS.no (by simp) m
end Go.Proofs.Ytnjalpcmjkahkaa
