/- Parts of trees: plain facts. A part of a tree is a tree; its nodes are as deep as they were; none is deeper than the whole. -/
import Derived.Test.YtdkpggnnhdoklaaDoorNaI
import Derived.Test.YtdkpggnnhdoklaaDoorMay
namespace Go.Proofs.YtdkpggnnhdoklaaDoor
open Go.RowKit
set_option linter.unusedVariables false
set_option linter.unusedSimpArgs false

theorem bgK_in (g : Nat → Int) (hg : ∀ j, g j ≤ j) : ∀ (cs : List Int) (k : Int), 0 ≤ k → 0 ≤ bgK g cs k →
    (∀ j : Nat, (j : Int) < k → 0 ≤ g j → ∀ m : Nat, g j ≤ m → m ≤ j → g j ≤ g m) →
    ∀ m : Nat, bgK g cs k ≤ m → (m : Int) < k → bgK g cs k ≤ g m := by
  intro cs
  induction cs with
  | nil => intro k _ _ _ m h1 h2; unfold bgK at h1; omega
  | cons c cs ih =>
    intro k hk hpos hcov m h1 h2
    unfold bgK at hpos h1 ⊢
    by_cases hc : c = k - 1 ∧ 1 ≤ k
    · rw [if_pos hc] at hpos h1 ⊢
      by_cases hn : g (k - 1).toNat < 0
      · rw [if_pos hn] at hpos; omega
      · rw [if_neg hn] at hpos h1 ⊢
        have hgk := hg (k - 1).toNat
        by_cases hm : (m : Int) < g (k - 1).toNat
        · exact ih _ (by omega) hpos (fun j hj h0 => hcov j (by omega) h0) m h1 hm
        · have h3 := hcov (k - 1).toNat (by omega) (by omega) m (by omega) (by omega)
          have h4 := bgK_le g hg cs (g (k - 1).toNat) (by omega)
          omega
    · rw [if_neg hc] at hpos; omega
/-- a part's nodes have their parts in it. -/
theorem bg_in (ks : Nat → List Int) : ∀ (n i : Nat), i < n → 0 ≤ bg ks i → ∀ m : Nat, bg ks i ≤ m → m ≤ i → bg ks i ≤ bg ks m := by
  intro n
  induction n with
  | zero => intro i h; omega
  | succ n ih =>
    intro i hi h0 m h1 h2
    by_cases hm : m = i
    · rw [hm]; exact Int.le_refl _
    · rw [bg_eq ks i] at h0 h1 ⊢
      exact bgK_in (bg ks) (bg_le ks) _ i (by omega) h0 (fun j hj h0j m' h1' h2' => ih j (by omega) h0j m' h1' h2') m h1 (by omega)
theorem bgK_memle (g : Nat → Int) (hg : ∀ j, g j ≤ j) : ∀ (cs : List Int) (k : Int), 0 ≤ k → 0 ≤ bgK g cs k → ∀ c ∈ cs, bgK g cs k ≤ g c.toNat := by
  intro cs
  induction cs with
  | nil => intro k _ _ c hc; cases hc
  | cons d cs ih =>
    intro k hk h c hc
    unfold bgK at h ⊢
    by_cases h1 : d = k - 1 ∧ 1 ≤ k
    · rw [if_pos h1] at h ⊢
      by_cases h2 : g (k - 1).toNat < 0
      · rw [if_pos h2] at h; omega
      · rw [if_neg h2] at h ⊢
        rcases List.mem_cons.1 hc with rfl | hc
        · rw [h1.1]; exact bgK_le g hg cs _ (by omega)
        · exact ih _ (by omega) h c hc
    · rw [if_neg h1] at h; omega
theorem kid_in (ks : Nat → List Int) (i : Nat) (h : 0 ≤ bg ks i) : ∀ c ∈ ks i, bg ks i ≤ bg ks c.toNat := by
  rw [bg_eq ks i] at h ⊢
  intro c hc
  exact bgK_memle (bg ks) (bg_le ks) _ _ (by omega) h c (by simpa using hc)
theorem bgK_find (g : Nat → Int) (hg : ∀ j, g j ≤ j) : ∀ (cs : List Int) (k : Int), 0 ≤ k → 0 ≤ bgK g cs k → ∀ m : Nat, bgK g cs k ≤ m → (m : Int) < k → ∃ c ∈ cs, g c.toNat ≤ m ∧ m ≤ c.toNat := by
  intro cs
  induction cs with
  | nil => intro k _ _ m h1 h2; unfold bgK at h1; omega
  | cons d cs ih =>
    intro k hk h m h3 h4
    unfold bgK at h h3
    by_cases h1 : d = k - 1 ∧ 1 ≤ k
    · rw [if_pos h1] at h h3
      by_cases h2 : g (k - 1).toNat < 0
      · rw [if_pos h2] at h; omega
      · rw [if_neg h2] at h h3
        by_cases hm : (m : Int) < g (k - 1).toNat
        · obtain ⟨c, hc, h5⟩ := ih _ (by omega) h m h3 hm
          exact ⟨c, by simp [hc], h5⟩
        · refine ⟨d, by simp, ?_⟩
          rw [h1.1]; omega
    · rw [if_neg h1] at h; omega
theorem mxL_ge (g : Nat → Int) : ∀ (cs : List Int) (d : Int), d ≤ mxL g cs d ∧ ∀ c ∈ cs, g c.toNat ≤ mxL g cs d := by
  intro cs
  induction cs with
  | nil => intro d; exact ⟨Int.le_refl _, fun c hc => by cases hc⟩
  | cons e cs ih =>
    intro d
    unfold mxL
    obtain ⟨h1, h2⟩ := ih (max d (g e.toNat))
    refine ⟨by omega, fun c hc => ?_⟩
    rcases List.mem_cons.1 hc with rfl | hc
    · omega
    · exact h2 c hc
/-- no node of a part is deeper than the part. -/
theorem dp_in (ks : Nat → List Int) : ∀ (n i : Nat), i < n → 0 ≤ bg ks i → ∀ m : Nat, bg ks i ≤ m → m ≤ i → dp ks m ≤ dp ks i := by
  intro n
  induction n with
  | zero => intro i h; omega
  | succ n ih =>
    intro i hi h0 m h1 h2
    by_cases hm : m = i
    · rw [hm]; exact Int.le_refl _
    · have h0' := h0
      have h1' := h1
      rw [bg_eq ks i] at h0' h1'
      obtain ⟨c, hc, h3, h4⟩ := bgK_find (bg ks) (bg_le ks) _ i (by omega) h0' m h1' (by omega)
      have hc : c ∈ ks i := by simpa using hc
      obtain ⟨a, b, e⟩ := kid_ok ks i h0 c hc
      have h5 := ih c.toNat (by omega) e m h3 h4
      have h6 := (mxL_ge (dp ks) (ks i) 0).2 c hc
      rw [dp_eq ks i h0]
      omega
theorem bgK_shift (g g' : Nat → Int) (f : Nat) (hg : ∀ j, g j ≤ j) : ∀ (cs : List Int) (k : Int), (f : Int) ≤ k → (f : Int) ≤ bgK g cs k →
    (∀ j : Nat, (j : Int) < k → f ≤ j → (f : Int) ≤ g j → g' (j - f) = g j - f) → bgK g' (cs.map (· - (f : Int))) (k - f) = bgK g cs k - f := by
  intro cs
  induction cs with
  | nil => intro k _ _ _; rfl
  | cons c cs ih =>
    intro k hk hf hs
    rw [List.map_cons]
    unfold bgK at hf ⊢
    by_cases h1 : c = k - 1 ∧ 1 ≤ k
    · rw [if_pos h1] at hf ⊢
      by_cases h2 : g (k - 1).toNat < 0
      · rw [if_pos h2] at hf; omega
      · rw [if_neg h2] at hf ⊢
        have h3 := bgK_le g hg cs (g (k - 1).toNat) (by omega)
        have h4 := hg (k - 1).toNat
        have h5 := hs (k - 1).toNat (by omega) (by omega) (by omega)
        rw [show (k - 1).toNat - f = (k - f - 1).toNat from by omega] at h5
        rw [if_pos (by omega), h5, if_neg (by omega)]
        exact ih _ (by omega) hf (fun j hj hj2 hj3 => hs j (by omega) hj2 hj3)
    · rw [if_neg h1] at hf; omega
theorem bg_shift (ks ks' : Nat → List Int) (f m : Nat) (hk : ∀ j, j < m → ks' j = (ks (f + j)).map (· - (f : Int))) : ∀ (n j : Nat), j < n → j < m → (f : Int) ≤ bg ks (f + j) → bg ks' j = bg ks (f + j) - f := by
  intro n
  induction n with
  | zero => intro j h; omega
  | succ n ih =>
    intro j hj hm hf
    rw [bg_eq ks' j, hk j hm, ← List.map_reverse]
    rw [bg_eq ks (f + j)] at hf ⊢
    rw [show (j : Int) = ((f + j : Nat) : Int) - f from by omega]
    refine bgK_shift (bg ks) (bg ks') f (bg_le ks) _ _ (by omega) hf (fun x hx hx2 hx3 => ?_)
    have := ih (x - f) (by omega) (by omega) (by rw [show f + (x - f) = x from by omega]; exact hx3)
    rw [this, show f + (x - f) = x from by omega]
theorem mxL_map (g g' : Nat → Int) (f : Int) : ∀ (cs : List Int) (d : Int), (∀ c ∈ cs, g' (c - f).toNat = g c.toNat) → mxL g' (cs.map (· - f)) d = mxL g cs d := by
  intro cs
  induction cs with
  | nil => intro d _; rfl
  | cons c cs ih =>
    intro d hk
    rw [List.map_cons]
    unfold mxL
    rw [hk c (by simp)]
    exact ih _ (fun e he => hk e (by simp [he]))
theorem dp_shift (ks ks' : Nat → List Int) (f m : Nat) (hk : ∀ j, j < m → ks' j = (ks (f + j)).map (· - (f : Int))) : ∀ (n j : Nat), j < n → j < m → (f : Int) ≤ bg ks (f + j) → dp ks' j = dp ks (f + j) := by
  intro n
  induction n with
  | zero => intro j h; omega
  | succ n ih =>
    intro j hj hm hf
    have h1 := bg_shift ks ks' f m hk (j + 1) j (by omega) hm hf
    rw [dp_eq ks' j (by omega), dp_eq ks (f + j) (by omega), hk j hm]
    rw [mxL_map (dp ks) (dp ks') f _ _ (fun c hc => by
      obtain ⟨a, b, e⟩ := kid_ok ks (f + j) (by omega) c hc
      have h2 := kid_in ks (f + j) (by omega) c hc
      have h3 := bg_le ks c.toNat
      have h4 := ih (c.toNat - f) (by omega) (by omega) (by rw [show f + (c.toNat - f) = c.toNat from by omega]; omega)
      rw [show f + (c.toNat - f) = c.toNat from by omega] at h4
      rw [show (c - (f : Int)).toNat = c.toNat - f from by omega]
      exact h4)]

theorem kidsL_mv (t : Nd) (f : Int) : kidsL (mvN f t).k (mvN f t).a (mvN f t).b (mvN f t).c = (kidsL t.k t.a t.b t.c).map (· - f) := by
  unfold kidsL mvN cntN
  simp only
  (repeat' split) <;> simp_all
theorem plain_mv (t : Nd) (f : Int) : plainB (mvN f t).k (mvN f t).a (mvN f t).b (mvN f t).c (mvN f t).n (mvN f t).nm (mvN f t).x (mvN f t).y (mvN f t).z = plainB t.k t.a t.b t.c t.n t.nm t.x t.y t.z := by
  obtain ⟨k, a, b, c, n, nm, x, y, z, p⟩ := t
  by_cases h11 : 0 ≤ k ∧ k ≤ 10
  · have hc : k = 0 ∨ k = 1 ∨ k = 2 ∨ k = 3 ∨ k = 4 ∨ k = 5 ∨ k = 6 ∨ k = 7 ∨ k = 8 ∨ k = 9 ∨ k = 10 := by omega
    rcases hc with rfl | rfl | rfl | rfl | rfl | rfl | rfl | rfl | rfl | rfl | rfl <;> rfl
  · have hm : mvN f ⟨k, a, b, c, n, nm, x, y, z, p⟩ = ⟨k, a, b, c, n, nm, x, y, z, p⟩ := by
      have hc : cntN k = 0 := by unfold cntN; rw [if_neg (by omega), if_neg (by omega), if_neg (by omega)]
      unfold mvN
      simp [hc]
    rw [hm]
theorem okNd_mv (nmd : Bool) (t : Nd) (f : Int) : okNd (okNm nmd) (mvN f t) = okNd (okNm nmd) t := by
  have h := plain_mv t f
  unfold okNd okNm
  rw [h]
  rfl
theorem ndSz_mv {t : Nd} (f : Int) (h : NdSz t) : NdSz (mvN f t) := h
theorem mvN_zero (t : Nd) : mvN 0 t = t := by
  unfold mvN
  simp

theorem part_get (ts : List Nd) (f k : Nat) (hf : f ≤ k) (hk : k < ts.length) (j : Nat) (hj : j < k + 1 - f) :
    (((ts.drop f).take (k + 1 - f)).map (mvN f)).getD j nd0 = mvN f (ts.getD (f + j) nd0) := by
  rw [List.getD_eq_getElem?_getD, List.getElem?_map, List.getElem?_take_of_lt hj, List.getElem?_drop, List.getD_eq_getElem?_getD, List.getElem?_eq_getElem (by omega)]
  rfl
theorem part_len (ts : List Nd) (f k : Nat) (hf : f ≤ k) (hk : k < ts.length) : (((ts.drop f).take (k + 1 - f)).map (mvN f)).length = k + 1 - f := by
  simp; omega
/-- what is known of the part at k of a tree of named nodes. -/
theorem part_facts {ts : List Nd} (ht : treeV (okNm true) ts = true) (k : Nat) (hk : k < ts.length) : ∃ (f : Nat) (ns : List Nd),
    f ≤ k ∧ partV ts k = ns ∧ ns.length = k + 1 - f ∧ (∀ j, j < ns.length → ns.getD j nd0 = mvN f (ts.getD (f + j) nd0)) ∧
    treeV (okNm true) ns = true ∧ dp (ksN ns) (ns.length - 1) = dp (ksN ts) k ∧ dp (ksN ts) k ≤ dp (ksN ts) (ts.length - 1) ∧ ts.length ≤ 512 ∧ (k = ts.length - 1 → ns = ts) ∧
    hasV ts k = true := by
  have ha : anyV ts = true := by unfold anyV; rw [ht]; rfl
  obtain ⟨h1, h2, h3, h4⟩ := anyV_wf ha
  have hh : hasV ts k = true := by unfold hasV; rw [ha, decide_eq_true (by omega)]; rfl
  have hb0 := h4 k hk
  have hb1 := bg_le (ksN ts) k
  obtain ⟨f, hf⟩ : ∃ f : Nat, bg (ksN ts) k = f := ⟨(bg (ksN ts) k).toNat, by omega⟩
  have hp : partV ts k = ((ts.drop f).take (k + 1 - f)).map (mvN f) := by
    unfold partV
    rw [if_pos hh, Int.toNat_natCast, hf, Int.toNat_natCast]
  have hl := part_len ts f k (by omega) hk
  have hg := part_get ts f k (by omega) hk
  generalize hns : ((ts.drop f).take (k + 1 - f)).map (mvN f) = ns at hp hl hg
  have hks : ∀ j, j < k + 1 - f → ksN ns j = (ksN ts (f + j)).map (· - (f : Int)) := by
    intro j hj
    unfold ksN
    rw [hg j hj]
    exact kidsL_mv _ _
  have hlast : f + (k + 1 - f - 1) = k := by omega
  have hbl := bg_shift (ksN ts) (ksN ns) f (k + 1 - f) hks (k + 1) (k + 1 - f - 1) (by omega) (by omega) (by rw [hlast, hf]; omega)
  have hdl := dp_shift (ksN ts) (ksN ns) f (k + 1 - f) hks (k + 1) (k + 1 - f - 1) (by omega) (by omega) (by rw [hlast, hf]; omega)
  rw [hlast] at hbl hdl
  refine ⟨f, ns, by omega, hp, hl, fun j hj => hg j (by omega), ?_, by rw [hl]; exact hdl, dp_in (ksN ts) ts.length (ts.length - 1) (by omega) (by omega) k (by omega) (by omega), h1, ?_, hh⟩
  · have hall : ns.all (okNd (okNm true)) = true := by
      rw [List.all_eq_true]
      intro t htm
      rw [← hns] at htm
      obtain ⟨u, hu, rfl⟩ := List.mem_map.1 htm
      have hu' : u ∈ ts := List.mem_of_mem_drop (List.mem_of_mem_take hu)
      rw [okNd_mv]
      unfold treeV at ht
      simp only [Bool.and_eq_true] at ht
      exact List.all_eq_true.1 ht.1.2 u hu'
    unfold treeV
    rw [hall, decide_eq_true (by omega), hl, hbl, hf, decide_eq_true (by omega)]
    rfl
  · intro hkl
    have hf0 : f = 0 := by rw [hkl] at hf; omega
    rw [← hns, hf0, List.drop_zero, show k + 1 - 0 = ts.length from by omega, List.take_length]
    conv => rhs; rw [← List.map_id ts]
    exact List.map_congr_left fun t _ => mvN_zero t
theorem part_sz {ts : List Nd} (h : ∀ t ∈ ts, NdSz t) (at_ : Int) : ∀ t ∈ partV ts at_, NdSz t := by
  unfold partV
  split
  · intro t ht
    obtain ⟨u, hu, rfl⟩ := List.mem_map.1 ht
    exact h u (List.mem_of_mem_drop (List.mem_of_mem_take hu))
  · intro t ht; cases ht
end Go.Proofs.YtdkpggnnhdoklaaDoor
