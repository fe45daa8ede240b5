/- Plain facts on what lex.Tokens tells: two texts with a line's end between. -/
import Derived.Test.YtidlljookjicpaaGreatDoorSrcF
import Derived.Test.YtidlljookjicpaaGreatDoorLxV
namespace Go.Proofs.YtidlljookjicpaaGreatDoor
open Go.RowKit
set_option linter.unusedVariables false
set_option linter.unusedSimpArgs false

theorem low128 (c : Int) : 128 ≤ lowF c := by unfold lowF; (repeat' split) <;> omega
def nlB : ByteArray := ⟨#[10]⟩
theorem nl_size : nlB.size = 1 := rfl
theorem nl_assoc (s t : ByteArray) : s ++ nlB ++ t = s ++ (nlB ++ t) := ba_ext (by simp)
theorem nl_list (s t : ByteArray) : (s ++ nlB ++ t).data.toList = s.data.toList ++ 10 :: t.data.toList := by
  rw [app_list, app_list]; simp [nlB]
theorem nl_whole (s t : ByteArray) : (s ++ nlB ++ t).size = s.size + 1 + t.size := by
  rw [app_size, app_size]; rfl
theorem widF_nl (s t : ByteArray) (a : Nat) (ha : a < s.size) (h : widF s a = 0) : widF (s ++ (nlB ++ t)) a = 0 := by
  by_cases hz : widF (s ++ (nlB ++ t)) a = 0
  · exact hz
  have hf := widF_app_far s (nlB ++ t) a ha h hz
  have hl := widF_lead _ a hz
  exfalso
  have hb : bAt (s ++ (nlB ++ t)) (a + (s.size - a)) = 10 := by
    rw [show a + (s.size - a) = s.size + 0 by omega, bAt_app_r, bAt_app_l _ _ _ (by decide)]; rfl
  have hall : allB (s ++ (nlB ++ t)) a (leadF (bAt (s ++ (nlB ++ t)) a)).toNat = true := by
    unfold widF at hz
    by_cases hc : (decide ((a : Int) + leadF (bAt (s ++ (nlB ++ t)) a) ≤ (s ++ (nlB ++ t)).size) && allB (s ++ (nlB ++ t)) a (leadF (bAt (s ++ (nlB ++ t)) a)).toNat) = true
    · exact (Bool.and_eq_true _ _ ▸ hc).2
    · rw [if_neg hc] at hz; exact absurd rfl hz
  unfold allB at hall
  rw [List.all_eq_true] at hall
  have h1 := hall (s.size - a) (by rw [List.mem_range]; omega)
  have h2 : ((s.size - a) == 0) = false := beq_eq_false_iff_ne.2 (by omega)
  rw [h2, Bool.false_or] at h1
  unfold okB at h1
  by_cases h3 : s.size - a = 1
  · rw [if_pos h3] at h1
    rw [h3] at hb
    rw [hb] at h1
    have := low128 (bAt (s ++ (nlB ++ t)) a)
    simp only [Bool.and_eq_true, decide_eq_true_eq] at h1
    omega
  · rw [if_neg h3, hb] at h1
    simp at h1
theorem vaV_nl1 (s t : ByteArray) (h : (vaV s).2 = false) : vaV (s ++ nlB ++ t) = vaV s := by
  rw [nl_assoc]
  rw [vaV_eq] at h
  rw [vaV_eq s, vaV_eq (s ++ (nlB ++ t))]
  rcases vaAt_cases s _ 0 (Nat.le_refl _) (by omega) with ⟨ha, hb⟩ | ⟨a, _, h2, h3, h4, h5⟩
  · rw [ha] at h; cases h
  · rw [h4, h5]
    exact vaAt_bad (by rw [app_size]; omega) (widF_nl s t a h2 h3)
theorem vaV_nl0 (t : ByteArray) : vaV (nlB ++ t) = (if (vaV t).2 then (0, true) else (1 + (vaV t).1, false)) := by
  have := vaV_app nlB t (by decide +kernel)
  rw [this, nl_size]; rfl
theorem vaV_nl2 (s t : ByteArray) (h : (vaV s).2 = true) (h2 : (vaV t).2 = false) : vaV (s ++ nlB ++ t) = ((s.size : Int) + 1 + (vaV t).1, false) := by
  rw [nl_assoc, vaV_app s _ h, vaV_nl0, h2]
  simp; omega
theorem vaV_nl3 (s t : ByteArray) (h : (vaV s).2 = true) (h2 : (vaV t).2 = true) : (vaV (s ++ nlB ++ t)).2 = true := by
  rw [nl_assoc, vaV_app s _ h, vaV_nl0, h2]
  simp

theorem skip_app (m : List UInt8) : ∀ (l : List UInt8) (r : Bool), skipF r (l ++ 10 :: m) = if skipF r l < l.length then skipF r l else l.length + 1 + skipF false m
  | [], r => by
    rw [List.nil_append, skipF_cons, if_pos (by decide)]
    simp [skipF]; omega
  | c :: l, r => by
    rw [List.cons_append, skipF_cons, skipF_cons, skip_app m l false, skip_app m l r, skip_app m l true]
    have h1 := skipF_le l false
    have h2 := skipF_le l r
    have h3 := skipF_le l true
    simp only [List.length_cons]
    (repeat' split) <;> omega
theorem runN_apy (m : List UInt8) : ∀ l : List UInt8, runN (l ++ 10 :: m) = runN l
  | [] => by rw [List.nil_append, runN_no (by decide)]; rfl
  | c :: l => by
    rw [List.cons_append]
    cases h : isN c
    · rw [runN_no h, runN_no h]
    · rw [runN_yes h, runN_yes h, runN_apy m l]
theorem signF_app (m : List UInt8) (c : UInt8) (l : List UInt8) : signF (c :: l ++ 10 :: m) = signF (c :: l) := by
  match l with
  | [] => simp [signF]
  | d :: l => rfl
theorem firstF_app (m : List UInt8) {l : List UInt8} (h : l ≠ []) : firstF (l ++ 10 :: m) = firstF l := by
  match l, h with
  | c :: l, _ =>
    have h1 : (c :: (l ++ 10 :: m)).take (runN (c :: (l ++ 10 :: m))) = (c :: l).take (runN (c :: l)) := by
      rw [← List.cons_append, runN_apy, List.take_append_of_le_length (runN_le _)]
    have h2 : (c :: (l ++ 10 :: m)).take (signF (c :: (l ++ 10 :: m))) = (c :: l).take (signF (c :: l)) := by
      rw [← List.cons_append, signF_app, List.take_append_of_le_length (signF_le _).1]
    rw [List.cons_append]
    simp only [firstF]
    rw [h1, h2]
theorem lxAt_app (m : List UInt8) : ∀ (n : Nat) (l : List UInt8) (hl : l.length ≤ n) (p : Nat) (acc : List Tk),
    lxAt (l ++ 10 :: m) p acc = if (lxAt l p acc).2.2 = 0 then lxAt m (p + l.length + 1) (lxAt l p acc).1 else lxAt l p acc := by
  intro n
  induction n with
  | zero =>
    intro l hl p acc
    obtain rfl : l = [] := List.eq_nil_of_length_eq_zero (by omega)
    rw [lxAt_nil, if_pos rfl, List.nil_append, lxAt_blank (by decide)]; rfl
  | succ n ih =>
    intro l hl p acc
    have hk := skipF_le l false
    have hs := skip_app m l false
    by_cases hd : l.drop (skipF false l) = []
    · have hk2 : l.length ≤ skipF false l := by
        have := congrArg List.length hd
        rw [List.length_drop] at this; simp at this; omega
      rw [if_neg (by omega)] at hs
      rw [lxAt_end hd, if_pos rfl]
      have hdr : (l ++ 10 :: m).drop (l.length + 1) = m := by
        rw [show l ++ 10 :: m = (l ++ [10]) ++ m by simp, show l.length + 1 = (l ++ [10]).length by simp, List.drop_left]
      rw [skip_drop (l := l ++ 10 :: m) (l.length + 1) (by rw [hdr, hs]) p acc, hdr]; rfl
    · have hk2 : skipF false l < l.length := by
        rcases Nat.lt_or_ge (skipF false l) l.length with h | h
        · exact h
        · exact absurd (List.drop_eq_nil_of_le h) hd
      rw [if_pos hk2] at hs
      have hdr : (l ++ 10 :: m).drop (skipF false (l ++ 10 :: m)) = l.drop (skipF false l) ++ 10 :: m := by
        rw [hs, List.drop_append_of_le_length (by omega)]
      have hne : l.drop (skipF false l) ++ 10 :: m ≠ [] := by simp
      have hfa := firstF_app m hd
      by_cases he : (firstF (l.drop (skipF false l))).2.2 = 0
      · obtain ⟨⟨t, k, er⟩, hq⟩ : ∃ q, firstF (l.drop (skipF false l)) = q := ⟨_, rfl⟩
        have hp := firstF_pos hd he
        rw [hq] at he hp
        obtain rfl : er = 0 := he
        have hp2 : 0 < k ∧ k ≤ (l.drop (skipF false l)).length := hp
        have hdl : (l.drop (skipF false l)).length = l.length - skipF false l := List.length_drop
        have e1 := lxAt_step (p := p) (acc := acc) hd hq
        have e2 := lxAt_step (l := l ++ 10 :: m) (p := p) (acc := acc) (t := t) (n := k) (by rw [hdr]; exact hne) (by rw [hdr, hfa]; exact hq)
        rw [hdr, hs, List.drop_append_of_le_length hp2.2] at e2
        rw [e2, e1]
        have hdl2 : ((l.drop (skipF false l)).drop k).length = l.length - skipF false l - k := by rw [List.length_drop, hdl]
        rw [ih _ (by omega), hdl2]
        rw [show p + skipF false l + k + (l.length - skipF false l - k) + 1 = p + l.length + 1 by omega]
      · have e1 := lxAt_bad (p := p) (acc := acc) hd he
        have e2 := lxAt_bad (l := l ++ 10 :: m) (p := p) (acc := acc) (by rw [hdr]; exact hne) (by rw [hdr, hfa]; exact he)
        rw [e2, e1, hdr, hfa, hs]
        simp only []
        rw [if_neg he]
/-- a token N bytes on. -/
def sh (N : Nat) (t : Tk) : Tk := ⟨t.kind, t.text, t.num, t.at_ + N⟩
theorem lxAt_sh (N : Nat) (pre : List Tk) : ∀ (n : Nat) (l : List UInt8) (hl : l.length ≤ n) (p : Nat) (acc : List Tk),
    lxAt l (p + N) (pre ++ acc.map (sh N)) = if (lxAt l p acc).2.2 = 0 then (pre ++ (lxAt l p acc).1.map (sh N), 0, 0) else ([], (lxAt l p acc).2.1 + N, (lxAt l p acc).2.2) := by
  intro n
  induction n with
  | zero =>
    intro l hl p acc
    obtain rfl : l = [] := List.eq_nil_of_length_eq_zero (by omega)
    rw [lxAt_nil, lxAt_nil, if_pos rfl]
  | succ n ih =>
    intro l hl p acc
    by_cases hd : l.drop (skipF false l) = []
    · rw [lxAt_end hd, lxAt_end hd, if_pos rfl]
    · have hdl : (l.drop (skipF false l)).length = l.length - skipF false l := List.length_drop
      by_cases he : (firstF (l.drop (skipF false l))).2.2 = 0
      · obtain ⟨⟨t, k, er⟩, hq⟩ : ∃ q, firstF (l.drop (skipF false l)) = q := ⟨_, rfl⟩
        have hp := firstF_pos hd he
        rw [hq] at he hp
        obtain rfl : er = 0 := he
        have hp2 : 0 < k ∧ k ≤ (l.drop (skipF false l)).length := hp
        have e1 := lxAt_step (p := p) (acc := acc) hd hq
        have e2 := lxAt_step (p := p + N) (acc := pre ++ acc.map (sh N)) hd hq
        rw [e2, e1]
        have hdl2 : ((l.drop (skipF false l)).drop k).length = l.length - skipF false l - k := by rw [List.length_drop, hdl]
        rw [← ih _ (by omega)]
        congr 1
        · omega
        · rw [List.map_append, List.append_assoc]
          congr 2
          simp only [List.map_cons, List.map_nil, sh]
          congr 2
          omega
      · rw [lxAt_bad hd he, lxAt_bad hd he]
        simp only []
        rw [if_neg he]
        congr 2
        omega
theorem firstF_no (l : List UInt8) : (firstF l).2.2 ≠ 200 := by
  match l with
  | [] => simp [firstF]
  | c :: t => simp only [firstF]; (repeat' split) <;> simp
theorem lx_no : ∀ (f : Nat) (l : List UInt8) (p : Nat) (acc : List Tk), (lx f l p acc).2.2 ≠ 200
  | 0, _, _, _ => by simp [lx]
  | f + 1, l, p, acc => by
    unfold lx
    simp only []
    split
    · simp
    · split
      · exact lx_no f _ _ _
      · exact firstF_no _
theorem lexR_size (s : ByteArray) : (lexR s).1.length ≤ s.size := by
  unfold lexR
  split
  · simp
  · split
    · simp
    · have := lx_len (s.data.toList.length + 1) s.data.toList 0 []
      rw [len_list] at this
      unfold lxAt
      rw [len_list]
      simpa using this
theorem lexR_ok (s : ByteArray) (hs : s.size ≤ 4096) (hv : (vaV s).2 = true) : lexR s = lxAt s.data.toList 0 [] := by
  unfold lexR; rw [if_neg (by omega), if_neg (by rw [hv]; simp)]
theorem lexR_form (s : ByteArray) (hs : s.size ≤ 4096) (hv : (vaV s).2 = false) : lexR s = ([], (vaV s).1, 200) := by
  unfold lexR; rw [if_neg (by omega), if_pos hv]
theorem lexR_far (s : ByteArray) (hs : 4096 < s.size) : lexR s = ([], 0, 200) := by
  unfold lexR; rw [if_pos hs]
/-- what two texts with a line's end between come to. -/
def joinR (n : Nat) (A B : List Tk × Int × Int) : List Tk × Int × Int :=
  if A.2.2 = 200 then ([], A.2.1, 200) else if B.2.2 = 200 then ([], (n : Int) + 1 + B.2.1, 200) else if A.2.2 = 0 then (if B.2.2 = 0 then (A.1 ++ B.1.map (sh (n + 1)), 0, 0) else ([], (n : Int) + 1 + B.2.1, B.2.2)) else A
theorem lexR_join (s t : ByteArray) (h : s.size + 1 + t.size ≤ 4096) : lexR (s ++ nlB ++ t) = joinR s.size (lexR s) (lexR t) := by
  have hw : (s ++ nlB ++ t).size ≤ 4096 := by rw [nl_whole]; exact h
  unfold joinR
  cases hv : (vaV s).2
  · rw [lexR_form s (by omega) hv, lexR_form _ hw (by rw [vaV_nl1 s t hv]; exact hv), vaV_nl1 s t hv]; rfl
  · have h1 := lexR_ok s (by omega) hv
    have h2 : (lexR s).2.2 ≠ 200 := by rw [h1]; exact lx_no _ _ _ _
    rw [if_neg h2]
    cases hv2 : (vaV t).2
    · rw [lexR_form t (by omega) hv2, lexR_form _ hw (by rw [vaV_nl2 s t hv hv2]), vaV_nl2 s t hv hv2]; rfl
    · have h3 := lexR_ok t (by omega) hv2
      have h4 : (lexR t).2.2 ≠ 200 := by rw [h3]; exact lx_no _ _ _ _
      rw [if_neg h4, lexR_ok _ hw (vaV_nl3 s t hv hv2), nl_list, lxAt_app _ _ _ (Nat.le_refl _), ← h1]
      by_cases he : (lexR s).2.2 = 0
      · rw [if_pos he, if_pos he]
        have := lxAt_sh (s.size + 1) (lexR s).1 _ t.data.toList (Nat.le_refl _) 0 []
        rw [List.map_nil, List.append_nil, ← h3] at this
        rw [len_list, show 0 + s.size + 1 = 0 + (s.size + 1) by omega, this]
        by_cases he2 : (lexR t).2.2 = 0
        · rw [if_pos he2, if_pos he2]
        · rw [if_neg he2, if_neg he2]
          congr 2
          omega
      · rw [if_neg he, if_neg he]
theorem lx_place : ∀ (f : Nat) (l : List UInt8) (p : Nat) (acc : List Tk), 0 ≤ (lx f l p acc).2.1 ∧ (lx f l p acc).2.1 ≤ p + l.length
  | 0, _, _, _ => ⟨by simp [lx], by simp [lx]; omega⟩
  | f + 1, l, p, acc => by
    have hk := skipF_le l false
    unfold lx
    simp only []
    split
    · exact ⟨by simp, by simp; omega⟩
    · rename_i hm
      split
      · rename_i he
        have hp := firstF_pos hm he
        have ih := lx_place f ((l.drop (skipF false l)).drop (firstF (l.drop (skipF false l))).2.1) (p + skipF false l + (firstF (l.drop (skipF false l))).2.1) (acc ++ [⟨(firstF (l.drop (skipF false l))).1.kind, (firstF (l.drop (skipF false l))).1.text, (firstF (l.drop (skipF false l))).1.num, ((p + skipF false l : Nat) : Int)⟩])
        refine ⟨ih.1, Int.le_trans ih.2 ?_⟩
        simp only [List.length_drop] at hp ⊢
        omega
      · exact ⟨by simp; omega, by simp; omega⟩
theorem lexR_place (s : ByteArray) : 0 ≤ (lexR s).2.1 ∧ (lexR s).2.1 ≤ s.size := by
  unfold lexR
  split
  · exact ⟨by simp, by simp⟩
  · split
    · rename_i h
      have := vaV_bd s h
      exact ⟨this.1, by simp; omega⟩
    · have := lx_place (s.data.toList.length + 1) s.data.toList 0 []
      unfold lxAt
      rw [len_list] at *
      exact ⟨this.1, by have := this.2; simp at this; simpa using this⟩
end Go.Proofs.YtidlljookjicpaaGreatDoor
