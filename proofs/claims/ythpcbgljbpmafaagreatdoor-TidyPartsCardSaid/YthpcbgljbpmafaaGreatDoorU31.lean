/- What Resolve finds is a resolved tree: plain. -/
import Derived.Test.YthpcbgljbpmafaaGreatDoorU22
import Derived.Test.YthpcbgljbpmafaaGreatDoorU24
import Derived.Test.YthpcbgljbpmafaaGreatDoorU25
import Derived.Test.YthpcbgljbpmafaaGreatDoorU30
set_option maxRecDepth 100000
set_option maxHeartbeats 8000000
namespace Go.Proofs.YthpcbgljbpmafaaGreatDoor
open Go.RowKit
set_option linter.unusedVariables false
set_option linter.unusedSimpArgs false
def MOk (t : Nd) (m : Int) : Prop := 0 ≤ m ∧ (¬ (t.k = 0 ∨ t.k = 9 ∨ t.k = 10) → m = t.n)
def Put (st st' : List Nd) (lo hi : Int) : Prop :=
 st'.length = st.length ∧ (∀ i : Nat, (i : Int) < lo ∨ hi ≤ i → st'.getD i nd0 = st.getD i nd0) ∧ (∀ i : Nat, lo ≤ i → (i : Int) < hi → ∃ m, MOk (st.getD i nd0) m ∧ st'.getD i nd0 = bare (st.getD i nd0) m)
theorem Put.refl (st : List Nd) (b : Int) : Put st st b b := ⟨rfl, fun _ _ => rfl, fun i h1 h2 => by omega⟩
theorem Put.trans {a b c : List Nd} {x y z : Int} (h : Put a b x y) (h' : Put b c y z) (hxy : x ≤ y) (hyz : y ≤ z) : Put a c x z := by
 refine ⟨h'.1.trans h.1, fun i hi => (h'.2.1 i (by omega)).trans (h.2.1 i (by omega)), fun i h1 h2 => ?_⟩
 by_cases h3 : (i : Int) < y
 ·obtain ⟨m, h4, h5⟩ := h.2.2 i h1 h3
  exact ⟨m, h4, (h'.2.1 i (by omega)).trans h5⟩
 ·obtain ⟨m, h4, h5⟩ := h'.2.2 i (by omega) h2
  rw [h.2.1 i (by omega)] at h4 h5
  exact ⟨m, h4, h5⟩
theorem Put.ks {a b : List Nd} {x y : Int} (h : Put a b x y) : ksN b = ksN a := by
 funext i
 by_cases h1 : (i : Int) < x ∨ y ≤ i
 ·unfold ksN; rw [h.2.1 i h1]
 ·obtain ⟨m, _, h2⟩ := h.2.2 i (by omega) (by omega)
  unfold ksN; rw [h2]; rfl
theorem Put.pos {a b : List Nd} {x y : Int} (h : Put a b x y) (hp : ∀ i, 0 ≤ (a.getD i nd0).n) (i : Nat) : 0 ≤ (b.getD i nd0).n := by
 by_cases h1 : (i : Int) < x ∨ y ≤ i
 ·rw [h.2.1 i h1]; exact hp i
 ·obtain ⟨m, h3, h2⟩ := h.2.2 i (by omega) (by omega)
  rw [h2]; exact h3.1
theorem kids_ks (st : List Nd) (i : Nat) : (kidsS (st.getD i nd0)).map (·.1) = ksN st i := by rw [kidsS_kids]; rfl
theorem numsV_congr (no : Nat) : ∀ (f : Nat) (st s2 : List Nd) (at_ bound : Nat), 0 ≤ bg (ksN st) at_ → (∀ i : Nat, bg (ksN st) at_ ≤ i → i ≤ at_ → s2.getD i nd0 = st.getD i nd0) → numsV no f s2 at_ bound = numsV no f st at_ bound
 | 0, _, _, _, _, _, _ => rfl
 | f + 1, st, s2, at_, bound, hb, h => by
  unfold numsV
  have h0 := h at_ (bg_le _ _) (Nat.le_refl _)
  rw [h0]
  congr 1
  have hs := seg_bg _ _ hb
  rw [Bool.eq_iff_iff, List.all_eq_true, List.all_eq_true]
  have key : ∀ c ∈ kidsS (st.getD at_ nd0), numsV no f s2 c.1.toNat (bound + c.2.length) = numsV no f st c.1.toNat (bound + c.2.length) := by
   intro c hc
   have hm : c.1 ∈ ksN st at_ := by rw [← kids_ks]; exact List.mem_map.2 ⟨c, hc, rfl⟩
   obtain ⟨h1, h2, h3⟩ := seg_mem (bg_le _) hs c.1 hm
   exact numsV_congr no f st s2 c.1.toNat _ (by omega) fun i h4 h5 => h i (by omega) (by omega)
  exact ⟨fun hh c hc => by rw [← key c hc]; exact hh c hc, fun hh c hc => by rw [key c hc]; exact hh c hc⟩
theorem kids_run {no : Nat} {f : Nat} {g : Nat → Int} {rec : List Nd → Nat → List ByteArray → Except (Int × Int) (List Nd)} (hg : ∀ j, g j ≤ j) (bd : List ByteArray)
  (hrec : ∀ st c bs st', ksN st = ksN st → bg (ksN st) = g → (∀ i, 0 ≤ (st.getD i nd0).n) → c < st.length → 0 ≤ g c → rec st c bs = .ok st' → Put st st' (g c) (c + 1) ∧ numsV no f st' c bs.length = true) :
  ∀ (l : List (Int × List ByteArray)) (b e : Int) (st st' : List Nd), Seg g b (l.map (·.1)) e → 0 ≤ b → e ≤ st.length → bg (ksN st) = g → (∀ i, 0 ≤ (st.getD i nd0).n) → kidsRun rec st l bd = .ok st' →
   Put st st' b e ∧ ∀ c ∈ l, numsV no f st' c.1.toNat (bd.length + c.2.length) = true
 | [], b, e, st, st', hs, _, _, _, _, h => by
  have hs : b = e := hs
  subst hs
  have h : Except.ok st = Except.ok st' := h
  injection h with h
  subst h
  exact ⟨Put.refl _ _, fun c hc => by cases hc⟩
 | (c, bs) :: l, b, e, st, st', hs, hb, he, hk, hp, h => by
  obtain ⟨h0, h1, h2⟩ := hs
  have h0 : 0 ≤ c := h0
  have h1 : g c.toNat = b := h1
  have h2 : Seg g (c + 1) (l.map (·.1)) e := h2
  have hle := seg_le hg h2
  have hgc := hg c.toNat
  unfold kidsRun at h
  cases hr : rec st c.toNat (bd ++ bs) with
  | error x => rw [hr] at h; cases h
  | ok s1 =>
   rw [hr] at h
   have h : kidsRun rec s1 l bd = .ok st' := h
   obtain ⟨p1, n1⟩ := hrec st c.toNat (bd ++ bs) s1 rfl hk hp (by omega) (by omega) hr
   rw [show ((c.toNat : Nat) : Int) + 1 = c + 1 by omega] at p1
   have hk1 : bg (ksN s1) = g := by rw [p1.ks]; exact hk
   obtain ⟨p2, n2⟩ := kids_run hg bd hrec l (c + 1) e s1 st' h2 (by omega) (by rw [p1.1]; exact he) hk1 (p1.pos hp) h
   refine ⟨Put.trans (y := c + 1) (by rw [← h1]; exact p1) p2 (by omega) hle, fun d hd => ?_⟩
   rcases List.mem_cons.1 hd with rfl | hd
   ·rw [List.length_append] at n1
    rw [← n1]
    refine numsV_congr no f s1 st' c.toNat _ (by rw [hk1]; omega) fun i h4 h5 => ?_
    exact p2.2.1 i (by left; omega)
   ·exact n2 d hd
theorem kidsS_bare2 (t : Nd) (m : Int) : (kidsS (bare t m)).map (fun c => (c.1, c.2.length)) = (kidsS t).map (fun c => (c.1, c.2.length)) := by
 unfold kidsS bare
 simp only
 (repeat' split) <;> simp_all
theorem find_lt {l : List ByteArray} {p : ByteArray → Bool} {i : Nat} (h : l.findIdx? p = some i) : i < l.length := by
 rw [List.findIdx?_eq_some_iff_getElem] at h
 exact h.1
theorem mean_ok {ops bd : List ByteArray} {t : Nd} {m : Int} (h : meanV ops bd t = .ok m) (hn : 0 ≤ t.n) : MOk t m ∧ nmBd ops.length bd.length (bare t m) = true := by
 unfold meanV at h
 unfold nmBd bare MOk
 simp only
 by_cases h0 : t.k = 0
 ·rw [if_pos h0] at h
  rw [if_neg (by omega), if_pos h0]
  cases hi : nearI bd t.nm with
  | none => rw [hi] at h; cases h
  | some i =>
   rw [hi] at h
   injection h with h
   have := find_lt hi
   rw [List.length_reverse] at this
   subst h
   exact ⟨⟨by omega, fun h => absurd (.inl h0) h⟩, decide_eq_true (by omega)⟩
 ·rw [if_neg h0] at h
  by_cases h9 : t.k = 9 ∨ t.k = 10
  ·rw [if_pos h9] at h ⊢
   cases hi : placeI ops t.nm with
   | none => rw [hi] at h; cases h
   | some i =>
    rw [hi] at h
    injection h with h
    have := find_lt hi
    subst h
    exact ⟨⟨by omega, fun h => absurd (.inr h9) h⟩, decide_eq_true (by omega)⟩
  ·rw [if_neg h9] at h ⊢
   rw [if_neg h0]
   injection h with h
   subst h
   exact ⟨⟨hn, fun _ => rfl⟩, rfl⟩
theorem res_put (ops : List ByteArray) : ∀ (f : Nat) (st : List Nd) (at_ : Nat) (bd : List ByteArray) (st' : List Nd), at_ < st.length → 0 ≤ bg (ksN st) at_ → (∀ i, 0 ≤ (st.getD i nd0).n) → resS ops f st at_ bd = .ok st' →
  Put st st' (bg (ksN st) at_) (at_ + 1) ∧ numsV ops.length f st' at_ bd.length = true
 | 0, st, at_, bd, st', _, _, _, h => by cases h
 | f + 1, st, at_, bd, st', hat, hb, hp, h => by
  unfold resS at h
  cases hm : meanV ops bd (st.getD at_ nd0) with
  | error x => rw [hm] at h; cases h
  | ok m =>
   rw [hm] at h
   cases hk : kidsRun (resS ops f) st (kidsS (st.getD at_ nd0)) bd with
   | error x => simp only [hk] at h; cases h
   | ok s1 =>
    simp only [hk] at h
    injection h with h
    obtain ⟨hm0, hm1⟩ := mean_ok hm (hp at_)
    have hs := seg_bg _ _ hb
    rw [← kids_ks] at hs
    obtain ⟨p1, n1⟩ := kids_run (no := ops.length) (f := f) (g := bg (ksN st)) (bg_le _) bd (fun s c bs s' _ hg hp' hc hb' hr => by
     have := res_put ops f s c bs s' hc (by rw [hg]; exact hb') hp' hr
     rw [hg] at this
     exact this) (kidsS (st.getD at_ nd0)) _ _ st s1 hs hb (by omega) rfl hp hk
    have hl1 : at_ < s1.length := by rw [p1.1]; exact hat
    have hself : st'.getD at_ nd0 = bare (st.getD at_ nd0) m := by
     rw [← h, List.getD_eq_getElem?_getD, List.getElem?_set_self hl1, Option.getD_some]
    have hoth : ∀ i, i ≠ at_ → st'.getD i nd0 = s1.getD i nd0 := fun i hi => by
     rw [← h, List.getD_eq_getElem?_getD, List.getElem?_set_ne (Ne.symm hi), ← List.getD_eq_getElem?_getD]
    have hble := bg_le (ksN st) at_
    have hput : Put st st' (bg (ksN st) at_) (at_ + 1) := by
     refine ⟨by rw [← h, List.length_set, p1.1], fun i hi => ?_, fun i h1 h2 => ?_⟩
     ·rw [hoth i (by omega)]; exact p1.2.1 i (by omega)
     ·by_cases hi : i = at_
      ·subst hi; exact ⟨m, hm0, hself⟩
      ·rw [hoth i hi]; exact p1.2.2 i h1 (by omega)
    refine ⟨hput, ?_⟩
    unfold numsV
    rw [hself, hm1, Bool.true_and, List.all_eq_true]
    intro c hc
    have hmem : (c.1, c.2.length) ∈ (kidsS (bare (st.getD at_ nd0) m)).map (fun c => (c.1, c.2.length)) := List.mem_map.2 ⟨c, hc, rfl⟩
    rw [kidsS_bare2] at hmem
    obtain ⟨d, hd, e⟩ := List.mem_map.1 hmem
    injection e with e1 e2
    have := n1 d hd
    rw [e1, e2] at this
    rw [← this]
    have hdm : d.1 ∈ (kidsS (st.getD at_ nd0)).map (·.1) := List.mem_map.2 ⟨d, hd, rfl⟩
    obtain ⟨g1, g2, g3⟩ := seg_mem (bg_le _) hs d.1 hdm
    rw [e1] at g1 g2 g3
    refine numsV_congr ops.length f s1 st' c.1.toNat _ (by rw [p1.ks]; omega) fun i _ h5 => hoth i (by omega)
theorem kids_bad {at_ : Nat} {g : Nat → Int} {rec : List Nd → Nat → List ByteArray → Except (Int × Int) (List Nd)} (hg : ∀ j, g j ≤ j) (bd : List ByteArray)
  (hrec : ∀ st c bs st', bg (ksN st) = g → (∀ i, 0 ≤ (st.getD i nd0).n) → c < st.length → 0 ≤ g c → rec st c bs = .ok st' → Put st st' (g c) (c + 1))
  (hbad : ∀ st c bs e, c < at_ → bg (ksN st) = g → (∀ i, 0 ≤ (st.getD i nd0).n) → (∀ i, 0 ≤ (st.getD i nd0).p) → c < st.length → 0 ≤ g c → rec st c bs = .error e → (e.1 = 601 ∨ e.1 = 602) ∧ 0 ≤ e.2) :
  ∀ (l : List (Int × List ByteArray)) (b : Int) (st : List Nd) (e : Int × Int), Seg g b (l.map (·.1)) at_ → 0 ≤ b → at_ < st.length → bg (ksN st) = g → (∀ i, 0 ≤ (st.getD i nd0).n) → (∀ i, 0 ≤ (st.getD i nd0).p) → kidsRun rec st l bd = .error e → (e.1 = 601 ∨ e.1 = 602) ∧ 0 ≤ e.2
 | [], b, st, e, _, _, _, _, _, _, h => by cases h
 | (c, bs) :: l, b, st, e, hs, hb, he, hk, hp, hq, h => by
  obtain ⟨h0, h1, h2⟩ := hs
  have h0 : 0 ≤ c := h0
  have h1 : g c.toNat = b := h1
  have h2 : Seg g (c + 1) (l.map (·.1)) at_ := h2
  have hle := seg_le hg h2
  have hgc := hg c.toNat
  unfold kidsRun at h
  cases hr : rec st c.toNat (bd ++ bs) with
  | error x =>
   rw [hr] at h
   injection h with h
   subst h
   exact hbad st c.toNat _ x (by omega) hk hp hq (by omega) (by omega) hr
  | ok s1 =>
   rw [hr] at h
   have h : kidsRun rec s1 l bd = .error e := h
   have p1 := hrec st c.toNat (bd ++ bs) s1 hk hp (by omega) (by omega) hr
   refine kids_bad hg bd hrec hbad l (c + 1) s1 e h2 (by omega) (by rw [p1.1]; exact he) (by rw [p1.ks]; exact hk) (p1.pos hp) (fun i => ?_) h
   by_cases h3 : (i : Int) < g c.toNat ∨ ((c.toNat : Nat) : Int) + 1 ≤ i
   ·rw [p1.2.1 i h3]; exact hq i
   ·obtain ⟨m, _, h5⟩ := p1.2.2 i (by omega) (by omega)
    rw [h5]; exact hq i
theorem res_bad (ops : List ByteArray) : ∀ (f : Nat) (st : List Nd) (at_ : Nat) (bd : List ByteArray) (e : Int × Int), at_ < f → at_ < st.length → 0 ≤ bg (ksN st) at_ → (∀ i, 0 ≤ (st.getD i nd0).n) → (∀ i, 0 ≤ (st.getD i nd0).p) → resS ops f st at_ bd = .error e → (e.1 = 601 ∨ e.1 = 602) ∧ 0 ≤ e.2
 | 0, st, at_, bd, e, hf, _, _, _, _, _ => by omega
 | f + 1, st, at_, bd, e, hf, hat, hb, hp, hq, h => by
  unfold resS at h
  cases hm : meanV ops bd (st.getD at_ nd0) with
  | error x =>
   rw [hm] at h
   injection h with h
   subst h
   refine ⟨?_, hq at_⟩
   unfold meanV at hm
   by_cases h0 : (st.getD at_ nd0).k = 0
   ·rw [if_pos h0] at hm
    cases hi : nearI bd (st.getD at_ nd0).nm with
    | some i => rw [hi] at hm; cases hm
    | none => rw [hi] at hm; injection hm with hm; exact .inl hm.symm
   ·rw [if_neg h0] at hm
    by_cases h9 : (st.getD at_ nd0).k = 9 ∨ (st.getD at_ nd0).k = 10
    ·rw [if_pos h9] at hm
     cases hi : placeI ops (st.getD at_ nd0).nm with
     | some i => rw [hi] at hm; cases hm
     | none => rw [hi] at hm; injection hm with hm; exact .inr hm.symm
    ·rw [if_neg h9] at hm; cases hm
  | ok m =>
   rw [hm] at h
   cases hk : kidsRun (resS ops f) st (kidsS (st.getD at_ nd0)) bd with
   | ok s1 => simp only [hk] at h; cases h
   | error x =>
    simp only [hk] at h
    injection h with h
    subst h
    have hs := seg_bg _ _ hb
    rw [← kids_ks] at hs
    exact kids_bad (at_ := at_) (g := bg (ksN st)) (bg_le _) bd (fun s c bs s' hg hp' hc hb' hr => by
     have := (res_put ops f s c bs s' hc (by rw [hg]; exact hb') hp' hr).1
     rw [hg] at this
     exact this) (fun s c bs e' hca hg hp' hq' hc hb' hr => res_bad ops f s c bs e' (by omega) hc (by rw [hg]; exact hb') hp' hq' hr) (kidsS (st.getD at_ nd0)) _ st x hs hb hat rfl hp hq hk
theorem ok_pos {t : Nd} (h : okNd (okNm true) t = true) : 0 ≤ t.n ∧ 0 ≤ t.p := by
 unfold okNd plainB numB okNm namedB at h
 simp only [Bool.and_eq_true, decide_eq_true_eq, if_pos] at h
 obtain ⟨⟨⟨⟨h1, h2⟩, h3⟩, h4⟩, h5, h6⟩ := h
 refine ⟨?_, h2⟩
 by_cases k0 : t.k = 0 ∨ t.k = 9 ∨ t.k = 10
 ·rw [if_pos k0] at h5; have := of_decide_eq_true h5; omega
 ·by_cases k1 : t.k = 1
  ·rw [if_pos k1] at h4; have := of_decide_eq_true h4; omega
  ·rw [if_neg k1] at h4
   by_cases k2 : t.k = 2
   ·rw [if_pos k2] at h4; have := of_decide_eq_true h4; omega
   ·rw [if_neg k2] at h4
    by_cases k8 : t.k = 8
    ·rw [if_pos k8] at h4; have := of_decide_eq_true h4; omega
    ·rw [if_neg (by omega), if_neg (by omega)] at h1
     by_cases k3 : t.k = 3
     ·rw [if_pos k3] at h1; have := of_decide_eq_true h1; omega
     ·rw [if_neg k3] at h1
      by_cases k4 : t.k = 4
      ·rw [if_pos k4] at h1; have := of_decide_eq_true h1; omega
      ·rw [if_neg k4] at h1
       by_cases k5 : t.k = 5
       ·rw [if_pos k5] at h1; have := of_decide_eq_true h1; omega
       ·rw [if_neg k5] at h1
        by_cases k6 : t.k = 6
        ·rw [if_pos k6] at h1; have := of_decide_eq_true h1; omega
        ·rw [if_neg k6] at h1
         by_cases k7 : t.k = 7
         ·rw [if_pos k7] at h1; have := of_decide_eq_true h1; omega
         ·rw [if_neg k7, if_neg k8, if_neg (by omega)] at h1; have := of_decide_eq_true h1; omega
theorem toList0 : (⟨#[]⟩ : ByteArray).toList = [] := by rw [ByteArray.toList_eq]
theorem ok_bare {t : Nd} {m : Int} (h : okNd (okNm true) t = true) (hm : MOk t m) : okNd (okNm false) (bare t m) = true := by
 have hres : okNm false (bare t m) = true := by
  unfold okNm resB namesL bare
  simp only [Bool.false_eq_true, if_false]
  (repeat' split) <;> simp [toList0]
 have hp := h
 unfold okNd at h
 simp only [Bool.and_eq_true] at h
 obtain ⟨⟨⟨⟨h1, h2⟩, h3⟩, h4⟩, h5⟩ := h
 obtain ⟨hm0, hm1⟩ := hm
 have hpl : plainB (bare t m).k (bare t m).a (bare t m).b (bare t m).c (bare t m).n (bare t m).nm (bare t m).x (bare t m).y (bare t m).z = true := by
  unfold plainB at h1 ⊢
  unfold bare
  simp only [toList0]
  by_cases k0 : t.k = 0 ∨ t.k = 9 ∨ t.k = 10
  ·rcases k0 with k | k | k
   ·simp only [k] at h1 ⊢; simp at h1 ⊢; omega
   ·simp only [k] at h1 ⊢; simp at h1 ⊢; omega
   ·simp only [k] at h1 ⊢; simp
  ·have := hm1 k0
   subst this
   (repeat' split at h1) <;> simp_all
 have hnb : numB (bare t m).k (bare t m).n = true := by
  by_cases k0 : t.k = 0 ∨ t.k = 9 ∨ t.k = 10
  ·unfold numB bare
   simp only
   rw [if_neg (by omega), if_neg (by omega), if_neg (by omega)]
  ·have := hm1 k0
   subst this
   exact h4
 unfold okNd
 rw [hpl, hnb, hres]
 show (true && decide (0 ≤ t.p) && decide (t.p ≤ 4096) && true && true) = true
 rw [h2, h3]; rfl
theorem shape_ok {os : List Or} {ts ss : List Nd} (h : resV os ts = .ok ss) : ss.length = ts.length ∧ smayV os ss = true ∧ ∀ i, i < ts.length → ∃ m, 0 ≤ m ∧ ss.getD i nd0 = bare (ts.getD i nd0) m := by
 unfold resV at h
 by_cases hmay : mayV os ts = true
 ·rw [if_pos hmay] at h
  by_cases hd : dupB (opN os) = true
  ·rw [if_pos hd] at h; cases h
  ·rw [if_neg hd] at h
   obtain ⟨t1, t2, t3, t4⟩ := mayV_tree hmay
   unfold mayV treeV at hmay
   simp only [Bool.and_eq_true, List.all_eq_true, decide_eq_true_eq] at hmay
   obtain ⟨m1, ⟨m2, m3⟩, m4⟩ := hmay
   have hok : ∀ i, i < ts.length → okNd (okNm true) (ts.getD i nd0) = true := fun i hi => m3 _ (by rw [List.getD_eq_getElem?_getD, List.getElem?_eq_getElem hi]; exact List.getElem_mem hi)
   have hpos : ∀ i, 0 ≤ (ts.getD i nd0).n := fun i => by
    by_cases hi : i < ts.length
    ·exact (ok_pos (hok i hi)).1
    ·rw [List.getD_eq_getElem?_getD, List.getElem?_eq_none (by omega)]; exact Int.le_refl 0
   obtain ⟨p1, n1⟩ := res_put (opN os) _ _ _ _ _ (by omega) (by omega) hpos h
   have hl := p1.1
   have hall : ∀ i, i < ts.length → ∃ m, MOk (ts.getD i nd0) m ∧ ss.getD i nd0 = bare (ts.getD i nd0) m := fun i hi => p1.2.2 i (by rw [t4]; omega) (by omega)
   refine ⟨hl, ?_, fun i hi => by obtain ⟨m, h1, h2⟩ := hall i hi; exact ⟨m, h1.1, h2⟩⟩
   have hget : ∀ u ∈ ss, ∃ i, i < ts.length ∧ ss.getD i nd0 = u := fun u hu => by
    obtain ⟨i, hi, e⟩ := List.mem_iff_getElem.1 hu
    exact ⟨i, by omega, by rw [List.getD_eq_getElem?_getD, List.getElem?_eq_getElem hi, Option.getD_some, e]⟩
   have htree : treeV (okNm false) ss = true := by
    unfold treeV
    simp only [Bool.and_eq_true, List.all_eq_true, decide_eq_true_eq]
    refine ⟨⟨by omega, fun u hu => ?_⟩, by rw [p1.ks, hl]; exact t4⟩
    obtain ⟨i, hi, rfl⟩ := hget u hu
    obtain ⟨m, h1, h2⟩ := hall i hi
    rw [h2]; exact ok_bare (hok i hi) h1
   unfold smayV hasV anyV
   have hd' : dupB (opN os) = false := by cases hh : dupB (opN os); rfl; exact absurd hh hd
   have hbare : ss.all bareB = true := by
    rw [List.all_eq_true]
    intro u hu
    obtain ⟨i, hi, rfl⟩ := hget u hu
    obtain ⟨m, h1, h2⟩ := hall i hi
    rw [h2]
    unfold bareB bare
    simp [toList0]
   have hol : (opN os).length = os.length := by unfold opN; rw [List.length_map]
   rw [hol] at n1
   rw [m1, hd', htree, hbare, hl]
   have n1 : numsV os.length ts.length ss (ts.length - 1) 0 = true := n1
   rw [n1, Bool.or_true]
   simp
   omega
 ·rw [if_neg hmay] at h; cases h
theorem shape_bad {os : List Or} {ts : List Nd} {e : Int × Int} (h : resV os ts = .error e) : (e.1 = 600 ∨ e.1 = 601 ∨ e.1 = 602) ∧ 0 ≤ e.2 := by
 unfold resV at h
 by_cases hmay : mayV os ts = true
 ·rw [if_pos hmay] at h
  by_cases hd : dupB (opN os) = true
  ·rw [if_pos hd] at h; injection h with h; subst h; exact ⟨.inr (.inr rfl), Int.le_refl 0⟩
  ·rw [if_neg hd] at h
   obtain ⟨t1, t2, t3, t4⟩ := mayV_tree hmay
   unfold mayV treeV at hmay
   simp only [Bool.and_eq_true, List.all_eq_true, decide_eq_true_eq] at hmay
   obtain ⟨m1, ⟨m2, m3⟩, m4⟩ := hmay
   have hpos : ∀ i, 0 ≤ (ts.getD i nd0).n ∧ 0 ≤ (ts.getD i nd0).p := fun i => by
    by_cases hi : i < ts.length
    ·exact ok_pos (m3 _ (by rw [List.getD_eq_getElem?_getD, List.getElem?_eq_getElem hi]; exact List.getElem_mem hi))
    ·rw [List.getD_eq_getElem?_getD, List.getElem?_eq_none (by omega)]; exact ⟨Int.le_refl 0, Int.le_refl 0⟩
   have := res_bad (opN os) _ _ _ _ _ (by omega) (by omega) (by omega) (fun i => (hpos i).1) (fun i => (hpos i).2) h
   exact ⟨.inr this.1, this.2⟩
 ·rw [if_neg hmay] at h; injection h with h; subst h; exact ⟨.inl rfl, Int.le_refl 0⟩
open Go.RowKit
abbrev RS := List Nd × Int × Int
def failR (s : RS) (c p : Int) : RS := if s.2.1 = 0 then (s.1, c, p) else s
def meanR (ops bd : List ByteArray) (t : Nd) : Int × Int :=
 if t.k = 0 then match nearI bd t.nm with
  | some i => (i, 0)
  | none => (bd.length, 601)
 else if t.k = 9 ∨ t.k = 10 then match placeI ops t.nm with
  | some i => (i, 0)
  | none => (0, 602)
 else (t.n, 0)
def kidsR (rec : RS → Nat → List ByteArray → RS) : RS → List (Int × List ByteArray) → List ByteArray → RS
 | s, [], _ => s
 | s, (c, bs) :: l, bd => kidsR rec (rec s c.toNat (bd ++ bs)) l bd
def startR (s : RS) (m : Int × Int) (p : Int) : RS := if m.2 = 0 then s else failR s m.2 p
def walkR (ops : List ByteArray) : Nat → RS → Nat → List ByteArray → RS
 | 0, s, _, _ => s
 | f + 1, s, at_, bd =>
  ((kidsR (walkR ops f) (startR s (meanR ops bd (s.1.getD at_ nd0)) (s.1.getD at_ nd0).p) (kidsS (s.1.getD at_ nd0)) bd).1.set at_ (bare (s.1.getD at_ nd0) (meanR ops bd (s.1.getD at_ nd0)).1),
   (kidsR (walkR ops f) (startR s (meanR ops bd (s.1.getD at_ nd0)) (s.1.getD at_ nd0).p) (kidsS (s.1.getD at_ nd0)) bd).2)
theorem startR_fst (s : RS) (m : Int × Int) (p : Int) : (startR s m p).1 = s.1 := by unfold startR failR; (repeat' split) <;> rfl
theorem startR_keep {s : RS} (h : s.2.1 ≠ 0) (m : Int × Int) (p : Int) : startR s m p = s := by unfold startR failR; rw [if_neg h, ite_self]
theorem kidsR_keep {rec : RS → Nat → List ByteArray → RS} (hr : ∀ s c bs, s.2.1 ≠ 0 → (rec s c bs).2 = s.2) : ∀ (l : List (Int × List ByteArray)) (s : RS) (bd : List ByteArray), s.2.1 ≠ 0 → (kidsR rec s l bd).2 = s.2
 | [], s, bd, h => rfl
 | (c, bs) :: l, s, bd, h => by
  have h1 := hr s c.toNat (bd ++ bs) h
  have h2 := kidsR_keep hr l (rec s c.toNat (bd ++ bs)) bd (by rw [h1]; exact h)
  unfold kidsR
  rw [h2, h1]
theorem walkR_keep (ops : List ByteArray) : ∀ (f : Nat) (s : RS) (at_ : Nat) (bd : List ByteArray), s.2.1 ≠ 0 → (walkR ops f s at_ bd).2 = s.2
 | 0, s, at_, bd, h => rfl
 | f + 1, s, at_, bd, h => by
  unfold walkR
  rw [startR_keep h]
  exact kidsR_keep (fun s c bs hs => walkR_keep ops f s c bs hs) _ _ _ h
theorem mean_ok_r {ops bd : List ByteArray} {t : Nd} {m : Int} (h : meanV ops bd t = .ok m) : meanR ops bd t = (m, 0) := by
 unfold meanV at h
 unfold meanR
 by_cases h0 : t.k = 0
 ·rw [if_pos h0] at h ⊢
  cases hi : nearI bd t.nm with
  | none => rw [hi] at h; cases h
  | some i => rw [hi] at h; injection h with h; subst h; rfl
 ·rw [if_neg h0] at h ⊢
  by_cases h9 : t.k = 9 ∨ t.k = 10
  ·rw [if_pos h9] at h ⊢
   cases hi : placeI ops t.nm with
   | none => rw [hi] at h; cases h
   | some i => rw [hi] at h; injection h with h; subst h; rfl
  ·rw [if_neg h9] at h ⊢
   injection h with h; subst h; rfl
theorem mean_no_r {ops bd : List ByteArray} {t : Nd} {c : Int} (h : meanV ops bd t = .error c) : (meanR ops bd t).2 = c ∧ c ≠ 0 := by
 unfold meanV at h
 unfold meanR
 by_cases h0 : t.k = 0
 ·rw [if_pos h0] at h ⊢
  cases hi : nearI bd t.nm with
  | none => rw [hi] at h; injection h with h; subst h; exact ⟨rfl, by decide⟩
  | some i => rw [hi] at h; cases h
 ·rw [if_neg h0] at h ⊢
  by_cases h9 : t.k = 9 ∨ t.k = 10
  ·rw [if_pos h9] at h ⊢
   cases hi : placeI ops t.nm with
   | none => rw [hi] at h; injection h with h; subst h; exact ⟨rfl, by decide⟩
   | some i => rw [hi] at h; cases h
  ·rw [if_neg h9] at h; cases h
def AgreeR (s : RS) (r : Except (Int × Int) (List Nd)) (s2 : RS) : Prop := match r with
 | .ok ss => s2 = (ss, s.2)
 | .error e => e.1 ≠ 0 → s2.2 = e
theorem kidsR_agree {rec : RS → Nat → List ByteArray → RS} {rv : List Nd → Nat → List ByteArray → Except (Int × Int) (List Nd)} (hk : ∀ s c bs, s.2.1 ≠ 0 → (rec s c bs).2 = s.2) (hr : ∀ s c bs, s.2.1 = 0 → AgreeR s (rv s.1 c bs) (rec s c bs)) :
  ∀ (l : List (Int × List ByteArray)) (s : RS) (bd : List ByteArray), s.2.1 = 0 → AgreeR s (kidsRun rv s.1 l bd) (kidsR rec s l bd)
 | [], s, bd, h => rfl
 | (c, bs) :: l, s, bd, h => by
  have h1 := hr s c.toNat (bd ++ bs) h
  unfold kidsRun kidsR
  cases hv : rv s.1 c.toNat (bd ++ bs) with
  | error e =>
   rw [hv] at h1
   intro he
   have h1 := h1 he
   rw [kidsR_keep hk l _ bd (by rw [h1]; exact he), h1]
  | ok ss =>
   rw [hv] at h1
   have h1 : rec s c.toNat (bd ++ bs) = (ss, s.2) := h1
   rw [h1]
   exact kidsR_agree hk hr l (ss, s.2) bd h
theorem walkR_agree (ops : List ByteArray) : ∀ (f : Nat) (s : RS) (at_ : Nat) (bd : List ByteArray), s.2.1 = 0 → AgreeR s (resS ops f s.1 at_ bd) (walkR ops f s at_ bd)
 | 0, s, at_, bd, h => by intro he; exact absurd rfl he
 | f + 1, s, at_, bd, h => by
  unfold resS walkR
  cases hm : meanV ops bd (s.1.getD at_ nd0) with
  | error c =>
   obtain ⟨h1, h2⟩ := mean_no_r hm
   intro _
   have hs : startR s (meanR ops bd (s.1.getD at_ nd0)) (s.1.getD at_ nd0).p = (s.1, c, (s.1.getD at_ nd0).p) := by
    unfold startR failR; rw [h1, if_neg h2, if_pos h]
   rw [hs]
   exact kidsR_keep (fun s c bs hs => walkR_keep ops f s c bs hs) _ (s.1, c, (s.1.getD at_ nd0).p) _ h2
  | ok m =>
   rw [mean_ok_r hm]
   have hs : startR s (m, 0) (s.1.getD at_ nd0).p = s := rfl
   rw [hs]
   have h1 := kidsR_agree (rv := resS ops f) (fun s c bs hs => walkR_keep ops f s c bs hs) (fun s c bs hs => walkR_agree ops f s c bs hs) (kidsS (s.1.getD at_ nd0)) s bd h
   simp only
   cases hk : kidsRun (resS ops f) s.1 (kidsS (s.1.getD at_ nd0)) bd with
   | error e => rw [hk] at h1; exact h1
   | ok ss =>
    rw [hk] at h1
    have h1 : kidsR (walkR ops f) s (kidsS (s.1.getD at_ nd0)) bd = (ss, s.2) := h1
    rw [h1]; rfl
theorem same_set {a b : List Nd} (h : Same a b) (at_ : Nat) (m : Int) : Same a (b.set at_ (bare (a.getD at_ nd0) m)) := by
 refine ⟨by rw [List.length_set]; exact h.len, fun i => ?_⟩
 by_cases e : i = at_ ∧ i < b.length
 ·obtain ⟨rfl, hi⟩ := e
  rw [List.getD_eq_getElem?_getD, List.getElem?_set_self hi, Option.getD_some, kidsS_bare]
 ·rw [List.getD_eq_getElem?_getD, List.getElem?_set]
  rw [← h.shape i, List.getD_eq_getElem?_getD (l := b)]
  by_cases e2 : at_ = i
  ·subst e2
   rw [if_pos rfl]
   rw [if_neg (by omega), List.getElem?_eq_none (by omega)]
  ·rw [if_neg e2]
theorem kidsR_same {rec : RS → Nat → List ByteArray → RS} (hr : ∀ s c bs, Same s.1 (rec s c bs).1) : ∀ (l : List (Int × List ByteArray)) (s : RS) (bd : List ByteArray), Same s.1 (kidsR rec s l bd).1
 | [], s, bd => Same.refl _
 | (c, bs) :: l, s, bd => (hr s c.toNat (bd ++ bs)).trans (kidsR_same hr l _ bd)
theorem walkR_same (ops : List ByteArray) : ∀ (f : Nat) (s : RS) (at_ : Nat) (bd : List ByteArray), Same s.1 (walkR ops f s at_ bd).1
 | 0, s, at_, bd => Same.refl _
 | f + 1, s, at_, bd => by
  unfold walkR
  have h := kidsR_same (fun s c bs => walkR_same ops f s c bs) (kidsS (s.1.getD at_ nd0)) (startR s (meanR ops bd (s.1.getD at_ nd0)) (s.1.getD at_ nd0).p) bd
  rw [startR_fst] at h
  exact same_set h at_ _
open Go.RowKit
structure SkW (N G : Nat) (ao : Option Addr) (no co cp : Nat) (os : List Or) (w : World) (s : RS) : Prop where
 o : w.cell? ⟨G, 0, none⟩ = some (.slice ao no co)
 r : w.cell? ⟨G, 1, none⟩ = some (.slice (some ⟨N, 0, none⟩) s.1.length cp)
 c : w.cell? ⟨G, 2, none⟩ = some (.int .i64 s.2.1)
 p : w.cell? ⟨G, 3, none⟩ = some (.int .i64 s.2.2)
 gl : G < w.heap.size
 fg : ∀ o, w.frozen? ⟨G, o, none⟩ = false
 nd : NdSl w N 0 s.1
 nl : N < w.heap.size
 fz : ∀ o, w.frozen? ⟨N, o, none⟩ = false
 op : OArg w ao no os
theorem OArg.bar2 {S : Nat → Prop} {w w' : World} {a : Option Addr} {n : Nat} {ts : List Or} (h : OArg w a n ts) (hb : Bar S w w') (hn : ts ≠ [] → ∀ b off, a = some ⟨b, off, none⟩ → ¬ S b) : OArg w' a n ts := by
 by_cases h0 : ts = []
 ·exact ⟨h.1, .inl h0⟩
 ·exact h.bar hb (hn h0)
theorem StArg.bar2 {S : Nat → Prop} {w w' : World} {a : Option Addr} {n : Nat} {l : List ByteArray} (h : StArg w a n l) (hb : Bar S w w') (hn : l ≠ [] → ∀ b off, a = some ⟨b, off, none⟩ → ¬ S b) : StArg w' a n l := by
 by_cases h0 : l = []
 ·exact ⟨h.1, .inl h0⟩
 ·exact h.bar hb (hn h0)
theorem OArg.lt {w : World} {a : Option Addr} {n : Nat} {ts : List Or} (h : OArg w a n ts) (h0 : ts ≠ []) : ∀ b off, a = some ⟨b, off, none⟩ → b < w.heap.size := by
 rcases h.2 with h1 | ⟨b, off, h1, _, h2⟩
 ·exact absurd h1 h0
 ·intro b' off' e; rw [h1] at e; injection e with e; injection e with e _ _; omega
theorem StArg.lt {w : World} {a : Option Addr} {n : Nat} {ts : List ByteArray} (h : StArg w a n ts) (h0 : ts ≠ []) : ∀ b off, a = some ⟨b, off, none⟩ → b < w.heap.size := by
 rcases h.2 with h1 | ⟨b, off, h1, _, h2⟩
 ·exact absurd h1 h0
 ·intro b' off' e; rw [h1] at e; injection e with e; injection e with e _ _; omega
theorem ownS_env {B : Nat} {w : World} {v : Value} {l : List ByteArray} (h : OwnS B w v l) : ∃ a c, v = .slice a l.length c ∧ StArg w a l.length l ∧ (a = none → c = 0) ∧ ∀ b off, a = some ⟨b, off, none⟩ → B ≤ b := by
 have hh := h
 rcases h.2 with ⟨rfl, h0⟩ | ⟨g, cap, cur, rfl, hB, _⟩
 ·refine ⟨none, 0, by rw [h0], ⟨rfl, .inl (List.eq_nil_of_length_eq_zero h0)⟩, fun _ => rfl, fun b off e => by cases e⟩
 ·exact ⟨_, cap, rfl, OwnS.arg hh, (fun e => by cases e), fun b off e => by injection e with e; injection e with e _ _; omega⟩
theorem SkW.bar {S : Nat → Prop} {N G : Nat} {ao : Option Addr} {no co cp : Nat} {os : List Or} {w w' : World} {s : RS} (h : SkW N G ao no co cp os w s) (hb : Bar S w w') (hN : ¬ S N) (hG : ¬ S G) (hA : os ≠ [] → ∀ b off, ao = some ⟨b, off, none⟩ → ¬ S b) : SkW N G ao no co cp os w' s :=
 ⟨hb.cell h.o hG, hb.cell h.r hG, hb.cell h.c hG, hb.cell h.p hG, by have := hb.size; have := h.gl; omega, fun o => by rw [hb.frozen (a := ⟨G, o, none⟩) h.gl hG]; exact h.fg o, h.nd.bar hb hN, by have := hb.size; have := h.nl; omega, fun o => by rw [hb.frozen (a := ⟨N, o, none⟩) h.nl hN]; exact h.fz o, h.op.bar2 hb hA⟩
theorem SkW.below {N G : Nat} {ao : Option Addr} {no co cp : Nat} {os : List Or} {w w' : World} {s : RS} (h : SkW N G ao no co cp os w s) (hb : Below w.heap.size w w') : SkW N G ao no co cp os w' s :=
 h.bar (Bar.of_below (S := fun _ => False) hb) id id (fun _ _ _ _ => id)
def Apart (N G : Nat) (ao : Option Addr) (os : List Or) : Prop := N ≠ G ∧ (os ≠ [] → ∀ b off, ao = some ⟨b, off, none⟩ → b ≠ G ∧ b ≠ N)
theorem SkW.err {N G : Nat} {ao : Option Addr} {no co cp : Nat} {os : List Or} {w : World} {s : RS} (h : SkW N G ao no co cp os w s) (hA : Apart N G ao os) (c p : Int) :
  SkW N G ao no co cp os ((w.setCell ⟨G, 2, none⟩ (.int .i64 c)).setCell ⟨G, 3, none⟩ (.int .i64 p)) (s.1, c, p) ∧ Bar (fun k => k = G) w ((w.setCell ⟨G, 2, none⟩ (.int .i64 c)).setCell ⟨G, 3, none⟩ (.int .i64 p)) := by
 have ne : ∀ a b : Nat, a ≠ b → (⟨G, a, none⟩ : Addr) ≠ ⟨G, b, none⟩ := fun a b hab e => by injection e with _ e2 _; exact hab e2
 have hb : Bar (fun k => k = G) w ((w.setCell ⟨G, 2, none⟩ (.int .i64 c)).setCell ⟨G, 3, none⟩ (.int .i64 p)) := (Bar.set (S := fun k => k = G) ⟨G, 2, none⟩ _ rfl).trans (Bar.set (S := fun k => k = G) ⟨G, 3, none⟩ _ rfl) fun _ _ h => h
 refine ⟨⟨setO (setO h.o (ne _ _ (by decide))) (ne _ _ (by decide)), setO (setO h.r (ne _ _ (by decide))) (ne _ _ (by decide)), setO (setS h.c) (ne _ _ (by decide)), setS (setO h.p (ne _ _ (by decide))), by simpa using h.gl, fun o => by simp only [World.frozen?_setCell]; exact h.fg o, h.nd.bar hb hA.1, by simpa using h.nl, fun o => by simp only [World.frozen?_setCell]; exact h.fz o, h.op.bar2 hb (fun h0 b off e => (hA.2 h0 b off e).1)⟩, hb⟩
def FlPost (N G : Nat) (ao : Option Addr) (no co cp : Nat) (os : List Or) (s : RS) (w : World) (w' : World) : Prop := SkW N G ao no co cp os w' s ∧ Bar (fun k => k = G) w w'
theorem fail_any (N G : Nat) (ao : Option Addr) (no co cp : Nat) (os : List Or) (s : RS) (c p : Int) (w : World) (h : Hid (SkW N G ao no co cp os w s)) (hA : Hid (Apart N G ao os)) :
  Calls Tryz.prog 72 #[.pointer (some ⟨G, 0, none⟩), .int .i64 c, .int .i64 p] w fun e w' => e = .returned (.tuple #[]) ∧ FlPost N G ao no co cp os (failR s c p) w w' := by
 have hc := h.out.c
 have hp := h.out.p
 have hf := h.out.fg
 have hgl := h.out.gl
 go_enter Tryz.func72, Tryz.ntmps72
 by_cases h0 : s.2.1 = 0
 ·have hr : Hid (failR s c p = (s.1, c, p)) := Lib.hid (by unfold failR; rw [if_pos h0])
  have hb0 : (s.2.1 == 0) = true := beq_iff_eq.2 h0
  have hh := Lib.hid h0
  clear h0
  go_wp2_with fail
  go_end0
  rw [hr.out]
  exact ⟨rfl, h.out.err hA.out c p⟩
 ·have hr : Hid (failR s c p = s) := Lib.hid (by unfold failR; rw [if_neg h0])
  have hb0 : (s.2.1 == 0) = false := beq_eq_false_iff_ne.2 h0
  clear h0
  go_wp2_with fail
  go_end0
  rw [hr.out]
  exact ⟨rfl, h.out, Bar.refl _ _⟩
theorem bar_bel {S : Nat → Prop} {w W W' : World} (h : Below w.heap.size w W) (hb : Bar S W W') (hs : ∀ k, S k → w.heap.size ≤ k) : Below w.heap.size w W' :=
 ⟨hb.os.trans h.os, hb.tape.trans h.tape, hb.output.trans h.output, Nat.le_trans h.size hb.size, fun k hk => (hb.block k (by have := h.size; omega) (fun e => by have := hs k e; omega)).trans (h.block k hk)⟩
theorem ownS_fresh (w : World) : OwnS w.heap.size (w.alloc (.cells #[] 9)) (.slice (some ⟨w.heap.size, 0, none⟩) 0 0) [] :=
 ⟨rfl, .inr ⟨w.heap.size, 0, #[], rfl, Nat.le_refl _, by show (w.heap.push _)[w.heap.size]? = _; simp, Nat.le_refl _, by decide, rfl, rfl⟩⟩
theorem with_any (a a2 : Option Addr) (n c n2 c2 : Nat) (bd ys : List ByteArray) (w : World) (h : Hid (StArg w a n bd)) (hn : a = none → c = 0) (h2 : Hid (StArg w a2 n2 ys)) (hn2 : a2 = none → c2 = 0) (hl : bd.length + ys.length ≤ 1000000) :
  Calls Tryz.prog 73 #[.slice a n c, .slice a2 n2 c2] w fun e w' => ∃ v, e = .returned v ∧ OwnS w.heap.size w' v (bd ++ ys) ∧ Below w.heap.size w w' := by
 have h0 := Lib.hid (ownS_fresh w)
 have hA := Lib.hid (h.out.below (below_alc w (.cells #[] 9)))
 have hA2 := Lib.hid (h2.out.below (below_alc w (.cells #[] 9)))
 have hB := Lib.hid (below_alc w (.cells #[] 9))
 have hs := hB.out.size
 go_enter Tryz.func73, Tryz.ntmps73
 go_upto_region 2 with (at_builtin; refine op_st rfl (.tmp 6) (.tmp 7) (w.alloc (.cells #[] 9)) w.heap.size hs _ [] rfl rfl a n c bd rfl hA.out hn h0.out (by simp; omega) ?_; intro v1 w1 hv1 _ hbar1 _ hob1)
 have hb1 : Below w.heap.size w w1 := bar_bel hB.out hbar1 (fun k e => by have e : some w.heap.size = some k := e; injection e with e; omega)
 rw [List.nil_append] at hv1
 have hv1 := Lib.hid hv1
 have hA1 := Lib.hid (h2.out.below hb1)
 have hB1 := Lib.hid hb1
 have hs1 := hb1.size
 clear hbar1 hb1 hA hA2 h0 hob1
 go_upto_region 3 with (at_builtin; refine op_st rfl (.tmp 9) (.tmp 10) w1 w.heap.size hs1 _ bd rfl rfl a2 n2 c2 ys rfl hA1.out hn2 hv1.out hl ?_; intro v2 w2 hv2 _ hbar2 _ hob2)
 have hb2 := Lib.hid (bar_bel hB1.out hbar2 (fun k e => (own_lt hv1.out k e).1))
 have hv2 := Lib.hid hv2
 clear hbar2 hob2
 go_wp2_with fail
 go_ret
 exact ⟨_, rfl, hv2.out, hb2.out⟩
def placeR (os : List Or) (nm : ByteArray) : Int × Int := match placeI (opN os) nm with
 | some i => (i, 0)
 | none => (0, 602)
theorem placeR_at {os : List Or} {nm : ByteArray} {j : Nat} (hj : j < os.length) (h1 : ∀ i, i < j → eqS (os.getD i or0).nm nm = false) (h2 : eqS (os.getD j or0).nm nm = true) : placeR os nm = ((j : Int), 0) := by
 have e : placeI (opN os) nm = some j := by
  unfold placeI opN
  rw [List.findIdx?_map, List.findIdx?_eq_some_iff_getElem]
  refine ⟨hj, ?_, fun i hi => ?_⟩
  ·have := h2; rw [List.getD_eq_getElem?_getD, List.getElem?_eq_getElem hj] at this; exact this
  ·have := h1 i hi; rw [List.getD_eq_getElem?_getD, List.getElem?_eq_getElem (by omega)] at this
   have this : eqS os[i].nm nm = false := this
   simp only [Function.comp]; rw [this]; simp
 unfold placeR; rw [e]
theorem placeR_no {os : List Or} {nm : ByteArray} (h1 : ∀ i, i < os.length → eqS (os.getD i or0).nm nm = false) : placeR os nm = (0, 602) := by
 have e : placeI (opN os) nm = none := by
  unfold placeI opN
  rw [List.findIdx?_map, List.findIdx?_eq_none_iff]
  intro t ht
  obtain ⟨i, hi, rfl⟩ := List.mem_iff_getElem.1 ht
  have := h1 i hi
  rw [List.getD_eq_getElem?_getD, List.getElem?_eq_getElem hi] at this
  exact this
 unfold placeR; rw [e]
theorem op_any (N G : Nat) (ao : Option Addr) (no co cp : Nat) (os : List Or) (s : RS) (nm : ByteArray) (p : Int) (w : World) (h : Hid (SkW N G ao no co cp os w s)) (hA : Hid (Apart N G ao os)) (hl : no ≤ 1000000) :
  Calls Tryz.prog 74 #[.pointer (some ⟨G, 0, none⟩), .string nm, .int .i64 p] w fun e w' => e = .returned (.int .i64 (placeR os nm).1) ∧ FlPost N G ao no co cp os (startR s (placeR os nm) p) w w' := by
 obtain rfl : no = os.length := h.out.op.1
 have ho := h.out.o
 have hgl := h.out.gl
 obtain ⟨r, hr⟩ : ∃ r, placeR os nm = r := ⟨_, rfl⟩
 have kF := Lib.hid (fail_any N G ao os.length co cp os s 602 p w h hA)
 have hyes := Lib.hid fun (j : Nat) (hj : j < os.length) h1 h2 => (placeR_at (os := os) (nm := nm) hj h1 h2).symm.trans hr
 have hno := Lib.hid fun h1 => (placeR_no (os := os) (nm := nm) h1).symm.trans hr
 rw [hr]
 clear hr
 go_enter Tryz.func74, Tryz.ntmps74
 go_wp2_with fail
 go_loopw [7] (fun iv wr => ∃ j : Nat, j ≤ os.length ∧ iv = .int .i64 j ∧ wr = w ∧ Hid (∀ i, i < j → eqS (os.getD i or0).nm nm = false)) (fun iv _ => os.length - (intOf iv).toNat)
 case atStart => exact ⟨0, by omega, rfl, rfl, Lib.hid fun i hi => by omega⟩
 case round =>
  obtain ⟨j, hj, rfl, rfl, hI⟩ := hrel
  by_cases hlt : j < os.length
  ·rcases h.out.op.2 with h0 | ⟨b, off, rfl, hs, hbl⟩
   ·rw [h0] at hlt; simp at hlt
   obtain ⟨e0, _, _⟩ := hs j hlt
   have hy := Lib.hid (hyes.out j hlt hI.out)
   obtain ⟨q, hq⟩ : ∃ q, eqS (os.getD j or0).nm nm = q := ⟨_, rfl⟩
   have hn : Hid (q = false → ∀ i, i < j + 1 → eqS (os.getD i or0).nm nm = false) := Lib.hid fun e i hi => by
    by_cases hij : i = j
    ·subst hij; rw [hq, e]
    ·exact hI.out i (by omega)
   rw [hq] at hy
   unfold eqS at hq
   generalize (os.getD j or0).nm = u at e0 hq
   have hji : (j : Int) < (os.length : Int) := by omega
   have hj0 : (0 : Int) ≤ (j : Int) := by omega
   clear hs
   cases q
   ·clear hy
    go_wp2_with fail
    go_roundw
    case rel => exact ⟨j + 1, by omega, by go_num, by first | rfl | trivial, Lib.hid (hn.out (by first | rfl | trivial))⟩
    case measure => simp [intOf]; omega
   ·have hz := Lib.hid (hy.out (by first | rfl | trivial))
    clear hn hy
    go_wp2_with fail
    go_ret
    rw [← hz.out]
    exact ⟨rfl, h.out, Bar.refl _ _⟩
  ·obtain rfl : j = os.length := by omega
   have hy := Lib.hid (hno.out hI.out)
   go_wp2_with fail
   refine kF.out.mono ?_
   rintro e w1 ⟨rfl, hp⟩
   have hp := Lib.hid hp
   go_wp2_with fail
   go_ret
   rw [← hy.out]
   exact ⟨rfl, hp.out⟩
open Go.RowKit
theorem nd10_num {W : World} {g : Nat} {t : Nd} {m0 : Int} (h : Nd10 W g (bare t m0)) (m : Int) : Nd10 (W.setCell ⟨g, 4, none⟩ (.int .i64 m)) g (bare t m) ∧ Bar (fun k => k = g) W (W.setCell ⟨g, 4, none⟩ (.int .i64 m)) := by
 obtain ⟨hl, h0, h1, h2, h3, h4, h5, h6, h7, h8, h9, hf⟩ := h
 have ne : ∀ a b : Nat, a ≠ b → (⟨g, a, none⟩ : Addr) ≠ ⟨g, b, none⟩ := fun a b hab e => by injection e with _ e2 _; exact hab e2
 exact ⟨⟨by simpa using hl, setO h0 (ne _ _ (by decide)), setO h1 (ne _ _ (by decide)), setO h2 (ne _ _ (by decide)), setO h3 (ne _ _ (by decide)), setS h4, setO h5 (ne _ _ (by decide)), setO h6 (ne _ _ (by decide)), setO h7 (ne _ _ (by decide)), setO h8 (ne _ _ (by decide)), setO h9 (ne _ _ (by decide)), fun o => by simp only [World.frozen?_setCell]; exact hf o⟩, Bar.set ⟨g, 4, none⟩ _ rfl⟩
def NG (N G : Nat) (k : Nat) : Prop := k = N ∨ k = G
theorem SkW.put {N G : Nat} {ao : Option Addr} {no co cp : Nat} {os : List Or} {w : World} {s : RS} (h : SkW N G ao no co cp os w s) (hA : Apart N G ao os) {i : Nat} (hi : i < s.1.length) (t : Nd) : SkW N G ao no co cp os (st10 w N (i * 10) t) (s.1.set i t, s.2) ∧ Bar (NG N G) w (st10 w N (i * 10) t) := by
 obtain ⟨r1, r2, r3⟩ := st10_rest w N (i * 10) t
 have hg : ¬ G = N := fun e => hA.1 e.symm
 exact ⟨⟨r3.cell h.o hg, by rw [List.length_set]; exact r3.cell h.r hg, r3.cell h.c hg, r3.cell h.p hg, by rw [r2]; exact h.gl, fun o => by rw [r1]; exact h.fg o, st10_sl h.nd hi, by rw [r2]; exact h.nl, fun o => by rw [r1]; exact h.fz o, h.op.bar2 r3 (fun h0 b off e => (hA.2 h0 b off e).2)⟩, r3.mono fun k e => .inl e⟩
def MidK (N G : Nat) (ao : Option Addr) (no co cp : Nat) (os : List Or) (f at_ : Nat) (bd : List ByteArray) (s : RS) (t : Nd) (w W : World) : Prop :=
 ∃ s2 m, walkR (opN os) (f + 1) s at_ bd = (s2.1.set at_ (bare t m), s2.2) ∧ s2.1.length = s.1.length ∧ SkW N G ao no co cp os W s2 ∧ Nd10 W (w.heap.size + 1) (bare t m) ∧ Bar (NG N G) w W
structure SkL (N G : Nat) (ao : Option Addr) (no co cp : Nat) (os : List Or) (a : Option Addr) (n : Nat) (bd : List ByteArray) (t : Nd) (m : Int) (L : List Nd) (w : World) (s : RS) (W : World) : Prop where
 sk : SkW N G ao no co cp os W s
 x : Nd10 W w.heap.size t
 y : Nd10 W (w.heap.size + 1) (bare t m)
 e : StArg W a n bd
 bar : Bar (NG N G) w W
 sm : Same L s.1
 lN : N < w.heap.size
 lG : G < w.heap.size
 ea : bd ≠ [] → ∀ b off, a = some ⟨b, off, none⟩ → b ≠ N ∧ b ≠ G
theorem SkL.next {N G : Nat} {ao : Option Addr} {no co cp : Nat} {os : List Or} {a : Option Addr} {n : Nat} {bd : List ByteArray} {t : Nd} {m : Int} {L : List Nd} {w W W' : World} {s s' : RS} (h : SkL N G ao no co cp os a n bd t m L w s W) (hb : Bar (NG N G) W W') (hs : SkW N G ao no co cp os W' s') (hm : Same s.1 s'.1) : SkL N G ao no co cp os a n bd t m L w s' W' :=
 ⟨hs, h.x.bar hb (fun e => by have := h.lN; have := h.lG; rcases e with e | e <;> omega), h.y.bar hb (fun e => by have := h.lN; have := h.lG; rcases e with e | e <;> omega), h.e.bar2 hb (fun h0 b off e hs => by have := h.ea h0 b off e; rcases hs with e2 | e2 <;> omega), h.bar.trans hb fun _ _ e => e, h.sm.trans hm, h.lN, h.lG, h.ea⟩
theorem SkL.below {N G : Nat} {ao : Option Addr} {no co cp : Nat} {os : List Or} {a : Option Addr} {n : Nat} {bd : List ByteArray} {t : Nd} {m : Int} {L : List Nd} {w W W' : World} {s : RS} (h : SkL N G ao no co cp os a n bd t m L w s W) (hb : Below W.heap.size W W') : SkL N G ao no co cp os a n bd t m L w s W' :=
 h.next (Bar.of_below hb) (h.sk.below hb) (Same.refl _)
theorem SkL.num {N G : Nat} {ao : Option Addr} {no co cp : Nat} {os : List Or} {a : Option Addr} {n : Nat} {bd : List ByteArray} {t : Nd} {m : Int} {L : List Nd} {w W : World} {s : RS} (h : SkL N G ao no co cp os a n bd t m L w s W) (he : bd ≠ [] → ∀ b off, a = some ⟨b, off, none⟩ → b < w.heap.size) (ha : os ≠ [] → ∀ b off, ao = some ⟨b, off, none⟩ → b < w.heap.size) (m' : Int) :
  SkL N G ao no co cp os a n bd t m' L w s (W.setCell ⟨w.heap.size + 1, 4, none⟩ (.int .i64 m')) := by
 obtain ⟨h1, h2⟩ := nd10_num h.y m'
 have hN := h.lN
 have hG := h.lG
 refine ⟨h.sk.bar h2 (by omega) (by omega) (fun h0 b off e => by have := ha h0 b off e; omega), h.x.bar h2 (by omega), h1, h.e.bar2 h2 (fun h0 b off e => by have := he h0 b off e; omega), h.bar.trans h2 (fun k hk e => False.elim (by omega)), h.sm, h.lN, h.lG, h.ea⟩
def WkSpec (N G : Nat) (ao : Option Addr) (no co cp : Nat) (os : List Or) (f : Nat) : Prop := ∀ (at_ : Nat) (bd : List ByteArray) (a : Option Addr) (n c : Nat) (s : RS) (w : World), at_ < f → at_ < s.1.length → s.1.length ≤ 100000 → Downs s.1 → bd.length + 2 * at_ ≤ 1000000 → Hid (SkW N G ao no co cp os w s) → Hid (StArg w a n bd) → (a = none → c = 0) → Hid (bd ≠ [] → ∀ b off, a = some ⟨b, off, none⟩ → b ≠ N ∧ b ≠ G) →
  Calls Tryz.prog 55 #[.pointer (some ⟨G, 0, none⟩), .int .i64 at_, .slice a n c] w fun e w' => e = .returned (.tuple #[]) ∧ SkW N G ao no co cp os w' (walkR (opN os) f s at_ bd) ∧ Bar (NG N G) w w'
end Go.Proofs.YthpcbgljbpmafaaGreatDoor
