/- Types as trees: plain facts. -/
import Derived.Test.YtfkdcconmecaoaaDoorTyH
namespace Go.Proofs.YtfkdcconmecaoaaDoor
set_option linter.unusedVariables false
set_option linter.unusedSimpArgs false

inductive TT where
  | base (k : Int)
  | var (v : Int)
  | fn (a : TT) (r : Rw) (b : TT)
  deriving DecidableEq
def TT.sz : TT → Nat
  | .base _ => 1
  | .var _ => 1
  | .fn a _ b => a.sz + b.sz + 1
theorem TT.sz_pos : ∀ T : TT, 1 ≤ T.sz
  | .base _ => Nat.le_refl _
  | .var _ => Nat.le_refl _
  | .fn a _ b => by simp [TT.sz]
def Rw.may (r : Rw) : Bool := mayR r.a r.b r.c r.d r.t
def TT.ok : TT → Bool
  | .base k => k == 0 || k == 1
  | .var v => decide (0 ≤ v) && decide (v < 4096)
  | .fn a r b => a.ok && r.may && b.ok
/-- a function's node. -/
def fnT (a b : Int) (r : Rw) : Ty := ⟨3, 0, a, b, r.a, r.b, r.c, r.d, r.t⟩
def bsT (k : Int) : Ty := ⟨k, 0, 0, 0, 0, 0, 0, 0, 0⟩
def vrT (v : Int) : Ty := ⟨2, v, 0, 0, 0, 0, 0, 0, 0⟩
/-- a tree's nodes, behind o others. -/
def fl : Nat → TT → List Ty
  | _, .base k => [bsT k]
  | _, .var v => [vrT v]
  | o, .fn a r b => fl o a ++ fl (o + a.sz) b ++ [fnT ((o + a.sz : Nat) - 1) ((o + a.sz + b.sz : Nat) - 1) r]
theorem fl_len : ∀ (T : TT) (o : Nat), (fl o T).length = T.sz
  | .base _, _ => rfl
  | .var _, _ => rfl
  | .fn a r b, o => by simp [fl, fl_len a, fl_len b, TT.sz]; omega

/-- may a node stand in a type? -/
def tyOk (t : Ty) : Bool :=
  if t.k = 3 then decide (t.v = 0) && mayR t.c0 t.c1 t.c2 t.c3 t.t
  else if t.k = 2 then decide (0 ≤ t.v ∧ t.v < 4096) && tyE { t with v := 0 } (bsT 2)
  else if t.k = 0 ∨ t.k = 1 then tyE t (bsT t.k) else false
def kT (k a b : Int) : List Int := if k = 3 then [a, b] else []
def ksT (ts : List Ty) (i : Nat) : List Int := kT (ts.getD i ty0).k (ts.getD i ty0).a (ts.getD i ty0).b
def tyV (ts : List Ty) : Bool := decide (1 ≤ ts.length ∧ ts.length ≤ 256) && ts.all tyOk && decide (bg (ksT ts) (ts.length - 1) = 0)

theorem bgK_ge (g : Nat → Int) (hg : ∀ j, -1 ≤ g j) : ∀ (cs : List Int) (k : Int), -1 ≤ k → -1 ≤ bgK g cs k := by
  intro cs
  induction cs with
  | nil => intro k hk; exact hk
  | cons c cs ih =>
    intro k hk
    unfold bgK
    by_cases h1 : c = k - 1 ∧ 1 ≤ k
    · rw [if_pos h1]
      by_cases h2 : g (k - 1).toNat < 0
      · rw [if_pos h2]; omega
      · rw [if_neg h2]; exact ih _ (hg _)
    · rw [if_neg h1]; omega
theorem bgF_ge (ks : Nat → List Int) : ∀ (f i : Nat), -1 ≤ bgF ks f i := by
  intro f
  induction f with
  | zero => intro i; unfold bgF; omega
  | succ f ih => intro i; unfold bgF; exact bgK_ge _ ih _ _ (by omega)
theorem bg_ge (ks : Nat → List Int) (i : Nat) : -1 ≤ bg ks i := bgF_ge ks _ i
/-- where the part of a function's node begins. -/
theorem bg_two (ks : Nat → List Int) (i : Nat) (a b : Int) (h : ks i = [a, b]) :
    bg ks i = if b = i - 1 ∧ 1 ≤ i then (if bg ks (i - 1) < 1 then -1 else if a = bg ks (i - 1) - 1 then bg ks (bg ks (i - 1) - 1).toNat else -1) else -1 := by
  rw [bg_eq, h]
  simp only [List.reverse_cons, List.reverse_nil, List.nil_append, List.cons_append]
  unfold bgK
  have e : ((i : Int) - 1).toNat = i - 1 := by omega
  by_cases h1 : b = i - 1 ∧ 1 ≤ i
  · rw [if_pos ⟨h1.1, by omega⟩, if_pos h1, e]
    by_cases h2 : bg ks (i - 1) < 1
    · rw [if_pos h2]
      by_cases h3 : bg ks (i - 1) < 0
      · rw [if_pos h3]
      · rw [if_neg h3]; unfold bgK; rw [if_neg (by omega)]
    · rw [if_neg h2, if_neg (by omega)]
      unfold bgK
      by_cases h4 : a = bg ks (i - 1) - 1
      · rw [if_pos ⟨h4, by omega⟩, if_pos h4]
        have := bg_ge ks (bg ks (i - 1) - 1).toNat
        by_cases h5 : bg ks (bg ks (i - 1) - 1).toNat < 0
        · rw [if_pos h5]; omega
        · rw [if_neg h5]; rfl
      · rw [if_neg (by omega), if_neg h4]
  · rw [if_neg (by omega), if_neg h1]
theorem bg_none (ks : Nat → List Int) (i : Nat) (h : ks i = []) : bg ks i = i := by
  rw [bg_eq, h]; rfl

/-- the tree at a node. -/
def SubAt (ts : List Ty) : TT → Nat → Prop
  | .base k, i => i < ts.length ∧ ts.getD i ty0 = bsT k
  | .var v, i => i < ts.length ∧ ts.getD i ty0 = vrT v
  | .fn a r b, i => i < ts.length ∧ ∃ j k : Nat, ts.getD i ty0 = fnT j k r ∧ j < i ∧ k < i ∧ SubAt ts a j ∧ SubAt ts b k
theorem SubAt.lt {ts : List Ty} {T : TT} {i : Nat} (h : SubAt ts T i) : i < ts.length := by
  cases T <;> exact h.1
theorem getD_seg (ts : List Ty) (i : Nat) (h : i < ts.length) : (ts.drop i).take 1 = [ts.getD i ty0] := by
  rw [List.drop_eq_getElem_cons h, List.getD_eq_getElem?_getD, List.getElem?_eq_getElem h]; rfl
theorem tyOk_cases {t : Ty} (h : tyOk t = true) : (∃ k, (k = 0 ∨ k = 1) ∧ t = bsT k) ∨ (∃ v, 0 ≤ v ∧ v < 4096 ∧ t = vrT v) ∨ ∃ a b r, Rw.may r = true ∧ t = fnT a b r := by
  unfold tyOk at h
  obtain ⟨k, v, a, b, c0, c1, c2, c3, tl⟩ := t
  simp only [] at h
  by_cases h3 : k = 3
  · subst h3
    rw [if_pos rfl, Bool.and_eq_true, decide_eq_true_eq] at h
    obtain ⟨rfl, h2⟩ := h
    exact .inr (.inr ⟨a, b, ⟨c0, c1, c2, c3, tl⟩, h2, rfl⟩)
  · rw [if_neg h3] at h
    by_cases h2 : k = 2
    · subst h2
      rw [if_pos rfl, Bool.and_eq_true, decide_eq_true_eq, tyE_iff, decide_eq_true_eq] at h
      obtain ⟨h4, h5⟩ := h
      unfold bsT at h5
      simp only [Ty.mk.injEq] at h5
      obtain ⟨_, _, rfl, rfl, rfl, rfl, rfl, rfl, rfl⟩ := h5
      exact .inr (.inl ⟨v, h4.1, h4.2, rfl⟩)
    · rw [if_neg h2] at h
      by_cases h1 : k = 0 ∨ k = 1
      · rw [if_pos h1, tyE_iff, decide_eq_true_eq] at h
        exact .inl ⟨k, h1, h⟩
      · rw [if_neg h1] at h; cases h
/-- a node whose part is well bears a tree. -/
theorem tree_at (ts : List Ty) (hok : ∀ j, j < ts.length → tyOk (ts.getD j ty0) = true) : ∀ (n i : Nat), i < n → i < ts.length → ∀ s : Nat, bg (ksT ts) i = s →
    s ≤ i ∧ ∃ T : TT, T.ok = true ∧ SubAt ts T i ∧ T.sz = i + 1 - s ∧ (ts.drop s).take (i + 1 - s) = fl s T := by
  intro n
  induction n with
  | zero => intro i h; omega
  | succ n ih =>
    intro i hi hl s hs
    rcases tyOk_cases (hok i hl) with ⟨k, hk, ht⟩ | ⟨v, hv0, hv1, ht⟩ | ⟨a, b, r, hr, ht⟩
    · have hks : ksT ts i = [] := by unfold ksT kT; rw [ht]; exact if_neg (fun h => by have h' : k = 3 := h; omega)
      rw [bg_none _ _ hks] at hs
      obtain rfl : i = s := by omega
      refine ⟨Nat.le_refl _, .base k, by rcases hk with rfl | rfl <;> rfl, ⟨hl, ht⟩, by simp only [TT.sz]; omega, ?_⟩
      rw [show i + 1 - i = 1 by omega, getD_seg ts i hl, ht]; rfl
    · have hks : ksT ts i = [] := by unfold ksT kT; rw [ht]; exact if_neg (by unfold vrT; simp)
      rw [bg_none _ _ hks] at hs
      obtain rfl : i = s := by omega
      refine ⟨Nat.le_refl _, .var v, by unfold TT.ok; rw [decide_eq_true hv0, decide_eq_true hv1]; rfl, ⟨hl, ht⟩, by simp only [TT.sz]; omega, ?_⟩
      rw [show i + 1 - i = 1 by omega, getD_seg ts i hl, ht]; rfl
    · have hks : ksT ts i = [a, b] := by unfold ksT kT; rw [ht]; rfl
      rw [bg_two _ _ a b hks] at hs
      by_cases h1 : b = i - 1 ∧ 1 ≤ i
      · rw [if_pos h1] at hs
        by_cases h2 : bg (ksT ts) (i - 1) < 1
        · rw [if_pos h2] at hs; omega
        · rw [if_neg h2] at hs
          by_cases h3 : a = bg (ksT ts) (i - 1) - 1
          · rw [if_pos h3] at hs
            obtain ⟨m, hm⟩ := Int.eq_ofNat_of_zero_le (show 0 ≤ bg (ksT ts) (i - 1) by omega)
            obtain ⟨hmi, B, hB, hBs, hBz, hBf⟩ := ih (i - 1) (by omega) (by omega) m hm
            have e : (bg (ksT ts) (i - 1) - 1).toNat = m - 1 := by omega
            rw [e] at hs
            obtain ⟨hsm, A, hA, hAs, hAz, hAf⟩ := ih (m - 1) (by omega) (by omega) s hs
            have hm1 : 1 ≤ m := by omega
            have ea : s + A.sz = m := by omega
            refine ⟨by omega, .fn A r B, by unfold TT.ok; rw [hA, hB, hr]; rfl, ⟨hl, m - 1, i - 1, ?_, by omega, by omega, hAs, hBs⟩, by simp only [TT.sz]; omega, ?_⟩
            · rw [ht]; congr 1 <;> omega
            · unfold fl
              rw [ea, show (m + B.sz : Nat) = i by omega]
              rw [← hAf, ← hBf, show i + 1 - s = (m - 1 + 1 - s) + ((i - 1 + 1 - m) + 1) by omega, List.take_add, List.drop_drop, show s + (m - 1 + 1 - s) = m by omega, List.take_add, List.drop_drop, show m + (i - 1 + 1 - m) = i by omega, getD_seg ts i hl, ht, List.append_assoc]
              congr 3
              congr 1 <;> omega
          · rw [if_neg h3] at hs; omega
      · rw [if_neg h1] at hs; omega
/-- what may be is a tree's nodes. -/
theorem tyV_tree {ts : List Ty} (h : tyV ts = true) : ∃ T : TT, T.ok = true ∧ ts = fl 0 T ∧ T.sz = ts.length ∧ T.sz ≤ 256 ∧ SubAt ts T (ts.length - 1) := by
  unfold tyV at h
  simp only [Bool.and_eq_true, decide_eq_true_eq, List.all_eq_true] at h
  obtain ⟨⟨⟨h1, h2⟩, h3⟩, h4⟩ := h
  obtain ⟨_, T, hT, hs, hz, hf⟩ := tree_at ts (fun j hj => h3 _ (getT_mem hj)) ts.length (ts.length - 1) (by omega) (by omega) 0 h4
  rw [List.drop_zero, List.take_of_length_le (by omega)] at hf
  exact ⟨T, hT, hf, by omega, by omega, hs⟩

theorem bsT_ok {k : Int} (h : k = 0 ∨ k = 1) : tyOk (bsT k) = true := by rcases h with rfl | rfl <;> rfl
theorem vrT_ok {v : Int} (h : 0 ≤ v ∧ v < 4096) : tyOk (vrT v) = true := by
  unfold tyOk
  rw [if_neg (by unfold vrT; simp), if_pos (show (vrT v).k = 2 from rfl), tyE_iff]
  rw [show (vrT v).v = v from rfl, decide_eq_true h]
  simp [vrT, bsT]
theorem fnT_ok {a b : Int} {r : Rw} (h : r.may = true) : tyOk (fnT a b r) = true := by
  unfold tyOk
  rw [if_pos (show (fnT a b r).k = 3 from rfl)]
  show (decide ((0 : Int) = 0) && mayR r.a r.b r.c r.d r.t) = true
  rw [show mayR r.a r.b r.c r.d r.t = true from h]; rfl
theorem fl_ok : ∀ (T : TT) (o : Nat), T.ok = true → (fl o T).all tyOk = true
  | .base k, o, h => by simp only [fl, List.all_cons, List.all_nil, Bool.and_true]; exact bsT_ok (by simpa [TT.ok] using h)
  | .var v, o, h => by simp only [fl, List.all_cons, List.all_nil, Bool.and_true]; exact vrT_ok (by simpa [TT.ok] using h)
  | .fn a r b, o, h => by
    unfold TT.ok at h
    simp only [Bool.and_eq_true] at h
    simp only [fl, List.all_append, List.all_cons, List.all_nil, Bool.and_true, Bool.and_eq_true]
    exact ⟨⟨fl_ok a _ h.1.1, fl_ok b _ h.2⟩, fnT_ok h.1.2⟩
theorem getD_appl {l m : List Ty} {j : Nat} (h : j < l.length) : (l ++ m).getD j ty0 = l.getD j ty0 := by
  rw [List.getD_eq_getElem?_getD, List.getD_eq_getElem?_getD, List.getElem?_append_left h]
theorem getD_appr {l m : List Ty} {j n : Nat} (h : l.length = n) : (l ++ m).getD (n + j) ty0 = m.getD j ty0 := by
  rw [List.getD_eq_getElem?_getD, List.getD_eq_getElem?_getD, List.getElem?_append_right (by omega), show n + j - l.length = j by omega]
theorem fl_fn (o : Nat) (a b : TT) (r : Rw) : fl o (.fn a r b) = fl o a ++ fl (o + a.sz) b ++ [fnT ((o + a.sz : Nat) - 1) ((o + a.sz + b.sz : Nat) - 1) r] := rfl
theorem fl_fn_a (o : Nat) (a b : TT) (r : Rw) {j : Nat} (h : j < a.sz) : (fl o (.fn a r b)).getD j ty0 = (fl o a).getD j ty0 := by
  rw [fl_fn, List.append_assoc, getD_appl (by rw [fl_len]; exact h)]
theorem fl_fn_b (o : Nat) (a b : TT) (r : Rw) {j : Nat} (h : j < b.sz) : (fl o (.fn a r b)).getD (a.sz + j) ty0 = (fl (o + a.sz) b).getD j ty0 := by
  rw [fl_fn, List.append_assoc, getD_appr (fl_len a o), getD_appl (by rw [fl_len]; exact h)]
theorem fl_fn_r (o : Nat) (a b : TT) (r : Rw) : (fl o (.fn a r b)).getD (a.sz + b.sz) ty0 = fnT ((o + a.sz : Nat) - 1) ((o + a.sz + b.sz : Nat) - 1) r := by
  rw [fl_fn, show a.sz + b.sz = (a.sz + b.sz) + 0 by omega, getD_appr (by rw [List.length_append, fl_len, fl_len])]
  rfl
/-- the nodes of a tree that stand in a row bear it. -/
theorem fl_at (ts : List Ty) : ∀ (T : TT) (o : Nat), T.ok = true → o + T.sz ≤ ts.length → (∀ j, j < T.sz → ts.getD (o + j) ty0 = (fl o T).getD j ty0) → bg (ksT ts) (o + T.sz - 1) = o ∧ SubAt ts T (o + T.sz - 1) := by
  intro T
  induction T with
  | base k =>
    intro o hk hl h
    have ht : ts.getD o ty0 = bsT k := by have := h 0 (by simp [TT.sz]); simpa [fl] using this
    simp only [TT.sz] at *
    rw [show o + 1 - 1 = o by omega]
    refine ⟨bg_none _ _ ?_, by omega, ht⟩
    unfold ksT kT; rw [ht]
    have hk' : k = 0 ∨ k = 1 := by simpa [TT.ok] using hk
    exact if_neg (by unfold bsT; simp only []; omega)
  | var v =>
    intro o _ hl h
    have ht : ts.getD o ty0 = vrT v := by have := h 0 (by simp [TT.sz]); simpa [fl] using this
    simp only [TT.sz] at *
    rw [show o + 1 - 1 = o by omega]
    exact ⟨bg_none _ _ (by unfold ksT kT; rw [ht]; exact if_neg (by unfold vrT; simp)), by omega, ht⟩
  | fn a r b iha ihb =>
    intro o hk hl h
    unfold TT.ok at hk
    simp only [Bool.and_eq_true] at hk
    have e : (TT.fn a r b).sz = a.sz + b.sz + 1 := rfl
    rw [e] at hl h ⊢
    have pa := a.sz_pos
    have pb := b.sz_pos
    obtain ⟨ga, sa⟩ := iha o hk.1.1 (by omega) (fun j hj => by rw [h j (by omega), fl_fn_a o a b r hj])
    obtain ⟨gb, sb⟩ := ihb (o + a.sz) hk.2 (by omega) (fun j hj => by rw [Nat.add_assoc, h (a.sz + j) (by omega), fl_fn_b o a b r hj])
    have ht : ts.getD (o + a.sz + b.sz) ty0 = fnT ((o + a.sz : Nat) - 1) ((o + a.sz + b.sz : Nat) - 1) r := by
      rw [Nat.add_assoc, h (a.sz + b.sz) (by omega), fl_fn_r o a b r, Nat.add_assoc]
    rw [show o + (a.sz + b.sz + 1) - 1 = o + a.sz + b.sz by omega]
    refine ⟨?_, by omega, o + a.sz - 1, o + a.sz + b.sz - 1, ?_, by omega, by omega, sa, sb⟩
    · have hks : ksT ts (o + a.sz + b.sz) = [((o + a.sz : Nat) : Int) - 1, ((o + a.sz + b.sz : Nat) : Int) - 1] := by
        unfold ksT kT; rw [ht]; rfl
      rw [bg_two _ _ _ _ hks, if_pos ⟨by omega, by omega⟩, gb, if_neg (by omega), if_pos (by omega)]
      rw [show (((o + a.sz : Nat) : Int) - 1).toNat = o + a.sz - 1 by omega, ga]
    · rw [ht]; congr 1 <;> omega
theorem fl_may {T : TT} (h : T.ok = true) (hs : T.sz ≤ 256) : tyV (fl 0 T) = true := by
  have hp := T.sz_pos
  obtain ⟨h1, _⟩ := fl_at (fl 0 T) T 0 h (by rw [fl_len]; omega) (fun j hj => by rw [Nat.zero_add])
  unfold tyV
  rw [fl_len, fl_ok T 0 h, decide_eq_true (show 1 ≤ T.sz ∧ T.sz ≤ 256 from ⟨hp, hs⟩)]
  rw [Nat.zero_add] at h1
  rw [h1]; rfl
theorem fl_sub {T : TT} (h : T.ok = true) : SubAt (fl 0 T) T (T.sz - 1) := by
  have := (fl_at (fl 0 T) T 0 h (by rw [fl_len]; omega) (fun j hj => by rw [Nat.zero_add])).2
  rwa [Nat.zero_add] at this
end Go.Proofs.YtfkdcconmecaoaaDoor
