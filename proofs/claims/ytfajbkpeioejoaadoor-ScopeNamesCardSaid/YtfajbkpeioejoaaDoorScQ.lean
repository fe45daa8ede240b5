/- Other names for what is bound: plain, for ScopeNames. -/
import Derived.Test.YtfajbkpeioejoaaDoorScJ
import Derived.Test.YtfajbkpeioejoaaDoorScK
namespace Go.Proofs.YtfajbkpeioejoaaDoor
open Go.RowKit
set_option linter.unusedVariables false
set_option linter.unusedSimpArgs false

/-- a name with a sign behind it. -/
def us (s : ByteArray) : ByteArray := if s.data.toList = [] then s else s ++ ⟨#[95]⟩
theorem us_data (s : ByteArray) : (us s).data.toList = if s.data.toList = [] then [] else s.data.toList ++ [95] := by
  unfold us
  by_cases h : s.data.toList = []
  · rw [if_pos h, if_pos h, h]
  · rw [if_neg h, if_neg h, ByteArray.data_append, Array.toList_append]
theorem us_inj {a b : ByteArray} : us a = us b ↔ a = b := by
  refine ⟨fun h => ba_of ?_, fun h => by rw [h]⟩
  have h := congrArg (fun s => s.data.toList) h
  simp only [us_data] at h
  by_cases h1 : a.data.toList = [] <;> by_cases h2 : b.data.toList = []
  · rw [h1, h2]
  · simp [h1, h2] at h
  · simp [h1, h2] at h
  · simpa [h1, h2] using h
theorem us_nil (s : ByteArray) : (us s).toList = [] ↔ s.toList = [] := by
  rw [ByteArray.toList_eq, ByteArray.toList_eq, us_data]
  by_cases h : s.data.toList = [] <;> simp [h]
theorem us_size (s : ByteArray) : (us s).size ≤ s.size + 1 := by
  unfold us
  split
  · omega
  · rw [ByteArray.size_append]; exact Nat.le_refl _
def ren (t : Nd) : Nd := { t with nm := if t.k = 0 then us t.nm else t.nm, x := us t.x, y := us t.y, z := us t.z }
theorem near_us (bd : List ByteArray) (s : ByteArray) : nearI (bd.map us) (us s) = nearI bd s := by
  unfold nearI
  rw [← List.map_reverse, List.findIdx?_map]
  congr 1
  funext u
  show eqS (us u) (us s) = eqS u s
  rw [Bool.eq_iff_iff, eqS_iff, eqS_iff, us_inj]
theorem mean_ren (ops bd : List ByteArray) (t : Nd) : meanV ops (bd.map us) (ren t) = meanV ops bd t := by
  unfold meanV ren
  by_cases h0 : t.k = 0
  · simp only [h0, if_true]; rw [near_us]
  · simp only [h0, if_false]
theorem kids_ren (t : Nd) : kidsS (ren t) = (kidsS t).map fun c => (c.1, c.2.map us) := by
  unfold kidsS ren
  simp only
  (repeat' split) <;> rfl
theorem run_ren {rec : List Nd → Nat → List ByteArray → Except (Int × Int) (List Nd)} (hrec : ∀ st c bs, rec (st.map ren) c (bs.map us) = (rec st c bs).map (List.map ren)) :
    ∀ (l : List (Int × List ByteArray)) (st : List Nd) (bd : List ByteArray), kidsRun rec (st.map ren) (l.map fun c => (c.1, c.2.map us)) (bd.map us) = (kidsRun rec st l bd).map (List.map ren)
  | [], st, bd => rfl
  | (c, bs) :: l, st, bd => by
    show kidsRun rec (st.map ren) ((c, bs.map us) :: l.map fun c => (c.1, c.2.map us)) (bd.map us) = _
    unfold kidsRun
    rw [← List.map_append, hrec]
    cases rec st c.toNat (bd ++ bs) with
    | error e => rfl
    | ok s => exact run_ren hrec l s bd
theorem getD_ren (st : List Nd) (i : Nat) : (st.map ren).getD i nd0 = ren (st.getD i nd0) := by
  rw [List.getD_eq_getElem?_getD, List.getD_eq_getElem?_getD, List.getElem?_map]
  cases st[i]? with
  | none => rfl
  | some t => rfl
theorem us0 : us ⟨#[]⟩ = ⟨#[]⟩ := rfl
theorem ren_bare (t : Nd) (m : Int) : ren (bare t m) = bare t m := by
  unfold ren bare
  simp only [us0, ite_self]
theorem bare_ren (t : Nd) (m : Int) : bare (ren t) m = bare t m := rfl
theorem res_ren (ops : List ByteArray) : ∀ (f : Nat) (st : List Nd) (at_ : Nat) (bd : List ByteArray), resS ops f (st.map ren) at_ (bd.map us) = (resS ops f st at_ bd).map (List.map ren)
  | 0, st, at_, bd => rfl
  | f + 1, st, at_, bd => by
    unfold resS
    rw [getD_ren, mean_ren, kids_ren]
    cases meanV ops bd (st.getD at_ nd0) with
    | error c => rfl
    | ok m =>
      simp only
      rw [run_ren (res_ren ops f)]
      cases kidsRun (resS ops f) st (kidsS (st.getD at_ nd0)) bd with
      | error e => rfl
      | ok s =>
        show Except.ok ((s.map ren).set at_ (bare (ren (st.getD at_ nd0)) m)) = Except.ok ((s.set at_ (bare (st.getD at_ nd0) m)).map ren)
        rw [List.map_set, ren_bare, bare_ren]
theorem kw_us (l : List UInt8) : kwB (l ++ [95]) = false := by
  unfold kwB
  rw [Bool.eq_false_iff]
  intro hc
  have hw := List.contains_iff_mem.1 hc
  have hall : kwL.all (fun w => w.getLast? != some 95) = true := by decide
  have h := List.all_eq_true.1 hall _ hw
  simp at h
theorem nm_us {s : ByteArray} (h : nmB s.data.toList = true) (hs : s.size + 1 ≤ 16) : nmB (us s).data.toList = true := by
  unfold nmB at h ⊢
  simp only [Bool.and_eq_true, decide_eq_true_eq, Bool.not_eq_true'] at h ⊢
  obtain ⟨⟨h1, h2⟩, h3⟩ := h
  have hne := (letB_all h2).2
  rw [us_data, if_neg hne]
  have hsz : s.data.toList.length = s.size := Array.length_toList
  refine ⟨⟨by rw [List.length_append]; simp only [List.length_cons, List.length_nil]; omega, ?_⟩, kw_us _⟩
  cases hl : s.data.toList with
  | nil => exact absurd hl hne
  | cons c t =>
    rw [hl] at h2
    rw [letB_cons, Bool.and_eq_true] at h2
    rw [List.cons_append, letB_cons, h2.1, List.all_append, h2.2]
    rfl
/-- names so short that one sign more may be. -/
def Short (t : Nd) : Prop := t.nm.size + 1 ≤ 16 ∧ t.x.size + 1 ≤ 16 ∧ t.y.size + 1 ≤ 16 ∧ t.z.size + 1 ≤ 16
theorem ok_ren {t : Nd} (h : okNd (okNm true) t = true) (hs : Short t) : okNd (okNm true) (ren t) = true := by
  obtain ⟨s1, s2, s3, s4⟩ := hs
  unfold okNd at h ⊢
  simp only [Bool.and_eq_true] at h ⊢
  obtain ⟨⟨⟨⟨h1, h2⟩, h3⟩, h4⟩, h5⟩ := h
  refine ⟨⟨⟨⟨?_, h2⟩, h3⟩, h4⟩, ?_⟩
  · unfold ren
    unfold plainB at h1 ⊢
    simp only [us_nil]
    by_cases k0 : t.k = 0
    · simp only [k0, if_true] at h1 ⊢; exact h1
    · simp only [k0, if_false] at h1 ⊢; exact h1
  · unfold okNm namedB namesL at h5 ⊢
    simp only [if_true, Bool.and_eq_true, List.all_eq_true] at h5 ⊢
    refine ⟨h5.1, ?_⟩
    have h5 := h5.2
    unfold ren
    simp only
    by_cases k0 : t.k = 0
    · simp only [k0, true_or, if_true] at h5 ⊢
      intro s hm
      rw [List.mem_singleton] at hm
      rw [hm]; exact nm_us (h5 _ (List.mem_singleton.2 rfl)) s1
    · by_cases k9 : t.k = 9
      · simp only [k9, or_true, if_true] at h5 ⊢
        intro s hm
        exact h5 s hm
      · rw [if_neg (by omega)] at h5 ⊢
        rw [if_neg k0]
        by_cases k3 : t.k = 3 ∨ t.k = 5
        · rw [if_pos k3] at h5 ⊢
          intro s hm
          rw [List.mem_singleton] at hm
          rw [hm]; exact nm_us (h5 _ (List.mem_singleton.2 rfl)) s2
        · rw [if_neg k3] at h5 ⊢
          by_cases k6 : t.k = 6
          · rw [if_pos k6] at h5 ⊢
            intro s hm
            simp only [List.mem_cons, List.not_mem_nil, or_false] at hm h5
            rcases hm with rfl | rfl
            · exact nm_us (h5 _ (.inl rfl)) s2
            · exact nm_us (h5 _ (.inr rfl)) s3
          · rw [if_neg k6] at h5 ⊢
            by_cases k10 : t.k = 10
            · rw [if_pos k10] at h5 ⊢
              intro s hm
              simp only [List.mem_cons, List.not_mem_nil, or_false] at hm h5
              rcases hm with rfl | rfl | rfl | rfl
              · exact h5 _ (.inl rfl)
              · exact nm_us (h5 _ (.inr (.inl rfl))) s2
              · exact nm_us (h5 _ (.inr (.inr (.inl rfl)))) s3
              · exact nm_us (h5 _ (.inr (.inr (.inr rfl)))) s4
            · rw [if_neg k10] at h5 ⊢
              exact h5
theorem ks_ren (ts : List Nd) : ksN (ts.map ren) = ksN ts := by
  funext i
  unfold ksN
  rw [getD_ren]; rfl
theorem may_ren {os : List Or} {ts : List Nd} (hs : ∀ t ∈ ts, Short t) (h : mayV os ts = true) : mayV os (ts.map ren) = true := by
  unfold mayV treeV at h ⊢
  simp only [Bool.and_eq_true, List.all_eq_true, decide_eq_true_eq] at h ⊢
  obtain ⟨m1, ⟨m2, m3⟩, m4⟩ := h
  rw [List.length_map, ks_ren]
  refine ⟨m1, ⟨m2, fun u hu => ?_⟩, m4⟩
  obtain ⟨t, ht, rfl⟩ := List.mem_map.1 hu
  exact ok_ren (m3 t ht) (hs t ht)
/-- other names resolve to the same. -/
theorem names_res {os : List Or} {ts : List Nd} (hs : ∀ t ∈ ts, Short t) (h : mayV os ts = true) : resV os (ts.map ren) = resV os ts := by
  have hh : ∀ ss, resV os ts = .ok ss → ss.map ren = ss := by
    intro ss hr
    obtain ⟨hl, _, hel⟩ := shape_ok hr
    apply List.ext_getElem (by rw [List.length_map])
    intro i h1 h2
    obtain ⟨m, _, h3⟩ := hel i (by omega)
    rw [List.getElem_map]
    have e2 : ss.getD i nd0 = ss[i] := by rw [List.getD_eq_getElem?_getD, List.getElem?_eq_getElem h2, Option.getD_some]
    rw [← e2, h3, ren_bare]
  have hm := may_ren hs h
  unfold resV at hh ⊢
  rw [if_pos hm, if_pos h]
  rw [if_pos h] at hh
  by_cases hd : dupB (opN os) = true
  · rw [if_pos hd, if_pos hd]
  · rw [if_neg hd] at hh ⊢
    rw [if_neg hd]
    have hr := res_ren (opN os) ts.length ts (ts.length - 1) []
    rw [List.map_nil] at hr
    rw [List.length_map, hr]
    cases hq : resS (opN os) ts.length ts (ts.length - 1) [] with
    | error e => rfl
    | ok ss =>
      show Except.ok (ss.map ren) = Except.ok ss
      rw [hh ss hq]
theorem mid_len (ts : List Nd) (j : Nat) : ((ts.take j).map ren ++ ts.drop j).length = ts.length := by
  rw [List.length_append, List.length_map, List.length_take, List.length_drop]; omega
theorem mid_get (ts : List Nd) (j : Nat) (h : j < ts.length) : ((ts.take j).map ren ++ ts.drop j).getD j nd0 = ts.getD j nd0 := by
  rw [List.getD_eq_getElem?_getD, List.getD_eq_getElem?_getD, List.getElem?_append_right (by rw [List.length_map, List.length_take]; omega), List.length_map, List.length_take, Nat.min_eq_left (by omega), Nat.sub_self, List.getElem?_drop, Nat.add_zero]
theorem mid_set (ts : List Nd) (j : Nat) (h : j < ts.length) : ((ts.take j).map ren ++ ts.drop j).set j (ren (ts.getD j nd0)) = (ts.take (j + 1)).map ren ++ ts.drop (j + 1) := by
  have hl : ((ts.take j).map ren).length = j := by rw [List.length_map, List.length_take]; omega
  rw [List.set_append_right _ _ (by omega), hl, Nat.sub_self, List.drop_eq_getElem_cons h, List.set_cons_zero, List.take_succ_eq_append_getElem h, List.map_append, List.append_assoc, List.getD_eq_getElem?_getD, List.getElem?_eq_getElem h]
  rfl
theorem short_snoc {ts : List Nd} {j : Nat} (h : j < ts.length) (hs : ∀ t ∈ ts.take j, Short t) (ht : Short (ts.getD j nd0)) : ∀ t ∈ ts.take (j + 1), Short t := by
  intro t hm
  rw [List.take_succ_eq_append_getElem h, List.mem_append, List.mem_singleton] at hm
  rcases hm with hm | rfl
  · exact hs t hm
  · rw [List.getD_eq_getElem?_getD, List.getElem?_eq_getElem h] at ht; exact ht
theorem short_sz {ts : List Nd} (h : ∀ t ∈ ts, Short t) : ∀ t ∈ ts.map ren, NdSz t := by
  intro u hu
  obtain ⟨t, ht, rfl⟩ := List.mem_map.1 hu
  obtain ⟨h1, h2, h3, h4⟩ := h t ht
  have a2 := us_size t.x
  have a3 := us_size t.y
  have a4 := us_size t.z
  refine ⟨?_, by show (us t.x).size ≤ _; omega, by show (us t.y).size ≤ _; omega, by show (us t.z).size ≤ _; omega⟩
  show (if t.k = 0 then us t.nm else t.nm).size ≤ _
  have a1 := us_size t.nm
  split <;> omega
theorem res_may {os : List Or} {ts : List Nd} (h : mayV os ts = false) : resV os ts = .error (600, 0) := by
  unfold resV; rw [if_neg (by rw [h]; exact Bool.false_ne_true)]
end Go.Proofs.YtfajbkpeioejoaaDoor
