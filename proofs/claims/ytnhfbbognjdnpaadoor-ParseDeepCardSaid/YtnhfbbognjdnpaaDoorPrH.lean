/- A text in brackets. -/
import Derived.Test.YtnhfbbognjdnpaaDoorPrF
import Derived.Test.YtnhfbbognjdnpaaDoorPaX
namespace Go.Proofs.YtnhfbbognjdnpaaDoor
open Go.RowKit
set_option linter.unusedVariables false
set_option linter.unusedSimpArgs false

section
variable {ts : List Tk} {en : Int} {E : PS → Except PE (Nat × PS)}
/-- an expression at a bracket that opens: what is in the brackets; nothing may go on behind it. -/
theorem brk_at {i : Nat} {ns : List Nd} {t : Tk} (ht : ts[i]? = some t) (hk : t.kind = 3) (hx : t.text = sgOpen) : atomP ts en E ⟨i, ns⟩ = (E ⟨i + 1, ns⟩ >>= fun p => wantP ts en sgShut p.2 >>= fun s => .ok (p.1, s)) := by
  have hi : ∀ u, isP ts i u = (sgOpen == u) := fun u => by unfold isP; rw [ht]; dsimp only; rw [hk, hx]; rfl
  unfold atomP
  simp only [ht]
  rw [if_neg (by rw [hk]; decide), if_neg (by rw [hk]; decide), hi, hi, hi, if_neg (by decide), if_neg (by decide), if_pos (by decide)]
theorem brk_first {i : Nat} {ns : List Nd} {t : Tk} (ht : ts[i]? = some t) (hk : t.kind = 3) (hx : t.text = sgOpen) : firstP ts en E ⟨i, ns⟩ = atomP ts en E ⟨i, ns⟩ := by
  have hi : ∀ u, isP ts i u = (sgOpen == u) := fun u => by unfold isP; rw [ht]; dsimp only; rw [hk, hx]; rfl
  unfold firstP
  rw [hi, if_neg (by decide)]
theorem open_first {i : Nat} {ns : List Nd} (h0 : isP ts i kwFun = false) (h1 : isP ts i kwLet = false) (h2 : isP ts i kwIf = false) {e : PE} (h : firstP ts en E ⟨i, ns⟩ = .error e) : openP ts en E ⟨i, ns⟩ = .error e := by
  unfold openP
  rw [if_neg (by rw [h0]; decide), if_neg (by rw [h1]; decide), if_neg (by rw [h2]; decide)]
  unfold compareP sumP productP applyP
  rw [h]
  rfl
theorem isP_end {i : Nat} (h : ts.length ≤ i) (u : List UInt8) : isP ts i u = false := by unfold isP; rw [List.getElem?_eq_none h]
theorem starts_end {i : Nat} (h : ts.length ≤ i) : startsP ts i = false := by unfold startsP; rw [List.getElem?_eq_none h]
theorem open_last {i : Nat} {ns : List Nd} (h0 : isP ts i kwFun = false) (h1 : isP ts i kwLet = false) (h2 : isP ts i kwIf = false) {a : Nat} {st : PS} (h : firstP ts en E ⟨i, ns⟩ = .ok (a, st)) (hl : ts.length ≤ st.i) : openP ts en E ⟨i, ns⟩ = .ok (a, st) := by
  unfold openP
  rw [if_neg (by rw [h0]; decide), if_neg (by rw [h1]; decide), if_neg (by rw [h2]; decide)]
  have ha : applyP ts en E ⟨i, ns⟩ = .ok (a, st) := by
    unfold applyP
    rw [h]
    show appLoop ts en E _ (ts.length + 1) a st = _
    unfold appLoop
    rw [if_neg (by rw [starts_end hl]; decide)]
  have hr : ∀ (u v : List UInt8) (nu nv : Int) (o : PS → Except PE (Nat × PS)), rankLoop ts en u v nu nv o (ts.length + 1) a st = .ok (a, st) := fun u v nu nv o => by
    unfold rankLoop
    rw [if_neg (by rw [isP_end hl]; decide), if_neg (by rw [isP_end hl]; decide)]
  have hp : productP ts en E ⟨i, ns⟩ = .ok (a, st) := by
    unfold productP
    rw [ha]
    exact hr _ _ _ _ _
  have hs : sumP ts en E ⟨i, ns⟩ = .ok (a, st) := by
    unfold sumP
    rw [hp]
    exact hr _ _ _ _ _
  unfold compareP
  rw [hs]
  show (if isP ts st.i sgEq2 then _ else if isP ts st.i sgLess then _ else _) = _
  rw [if_neg (by rw [isP_end hl]; decide), if_neg (by rw [isP_end hl]; decide)]
/-- where 'op' stands, no expression begins. -/
theorem op_err {i : Nat} {ns : List Nd} {t : Tk} (ht : ts[i]? = some t) (hk : t.kind = 2 ∨ t.kind = 3) (hx : t.text = kwOp) : openP ts en E ⟨i, ns⟩ = .error (403, hereP ts en i) := by
  have hi : ∀ u, isP ts i u = (kwOp == u) := fun u => by unfold isP; rw [ht]; rcases hk with h | h <;> (dsimp only; rw [h, hx]; rfl)
  refine open_first (by rw [hi]; decide) (by rw [hi]; decide) (by rw [hi]; decide) ?_
  unfold firstP
  rw [hi, if_neg (by decide)]
  unfold atomP
  simp only [ht]
  rw [if_neg (by rcases hk with h | h <;> rw [h] <;> decide), if_neg (by rcases hk with h | h <;> rw [h] <;> decide), hi, hi, hi, hi, if_neg (by decide), if_neg (by decide), if_neg (by decide), if_neg (by decide)]
theorem declLoop_len : ∀ (f : Nat) (os os' : List Or) (st s1 : PS), declLoop ts en f os st = .ok (os', s1) → os.length ≤ os'.length
  | 0, os, os', st, s1, h => by cases h
  | f + 1, os, os', st, s1, h => by
    unfold declLoop at h
    by_cases h0 : isP ts st.i kwOp = true
    · rw [if_pos h0] at h
      simp only [ex_ok, Prod.exists] at h
      obtain ⟨o2, s2, h1, h2⟩ := h
      obtain ⟨_, _, _, _, o, rfl, _⟩ := declP_ok h1
      have := declLoop_len f _ _ _ _ h2
      simp at this
      omega
    · rw [if_neg h0] at h
      injection h with h; injection h with h1 h2; subst h1; exact Nat.le_refl _
end
/-- the tokens of a text in brackets. -/
def brT (ts : List Tk) (c : Int) : List Tk := ⟨3, sgOpen, 0, 0⟩ :: (ts.map (shT 1) ++ [⟨3, sgShut, 0, c⟩])
theorem br_emb (ts : List Tk) (c : Int) : Emb ts (brT ts c) 1 1 := by
  refine ⟨fun i t h => ?_, fun t h => ?_, by unfold brT; simp; omega⟩
  · have hl := (List.getElem?_eq_some_iff.1 h).1
    show (ts.map (shT 1) ++ [⟨3, sgShut, 0, c⟩])[i]? = _
    rw [List.getElem?_append_left (by simpa using hl), List.getElem?_map, h]
    rfl
  · have h : (ts.map (shT 1) ++ [⟨3, sgShut, 0, c⟩])[ts.length]? = some t := h
    rw [List.getElem?_append_right (by simp)] at h
    simp at h
    subst h
    exact ⟨rfl, rfl⟩
theorem br_len (ts : List Tk) (c : Int) : (brT ts c).length = ts.length + 2 := by unfold brT; simp
theorem br_isP (ts : List Tk) (c : Int) (u : List UInt8) : isP (brT ts c) 0 u = (sgOpen == u) := rfl
theorem br_shut (ts : List Tk) (c : Int) : isP (brT ts c) (ts.length + 1) sgShut = true := by
  unfold isP
  have h : (brT ts c)[ts.length + 1]? = some ⟨3, sgShut, 0, c⟩ := by
    show (ts.map (shT 1) ++ [⟨3, sgShut, 0, c⟩])[ts.length]? = _
    rw [List.getElem?_append_right (by simp)]
    simp
  rw [h]
  rfl
/-- what a text with brackets around it comes to. -/
theorem br_prog {ts : List Tk} {en c en' : Int} {os : List Or} {ns : List Nd} (h : progP ts en = .ok (os, ns)) :
    (os ≠ [] → ∃ p, progP (brT ts c) en' = .error (403, p)) ∧ (os = [] → (progP (brT ts c) en' = .ok ([], ns.map (shN 1)) ∨ ∃ p, progP (brT ts c) en' = .error (401, p))) := by
  have hd0 : ∀ R, (declLoop (brT ts c) en' ((brT ts c).length + 1) [] ⟨0, []⟩ >>= R) = (R ([], ⟨0, []⟩) : Except PE (List Or × List Nd)) := fun R => by
    rw [declLoop, if_neg (by rw [br_isP]; decide)]
    rfl
  have hf0 : ∀ E : PS → Except PE (Nat × PS), firstP (brT ts c) en' E ⟨0, []⟩ = (E ⟨1, []⟩ >>= fun p => wantP (brT ts c) en' sgShut p.2 >>= fun s => .ok (p.1, s)) := fun E => by
    rw [brk_first (t := ⟨3, sgOpen, 0, 0⟩) rfl rfl rfl, brk_at (t := ⟨3, sgOpen, 0, 0⟩) rfl rfl rfl]
  have hi : ∀ u, isP (brT ts c) (0 : Nat) u = (sgOpen == u) := br_isP ts c
  unfold progP at h
  obtain ⟨⟨os1, s1⟩, h1, h2⟩ := ex_ok.1 h
  obtain ⟨⟨a, s2⟩, h3, h4⟩ := ex_ok.1 h2
  dsimp only at h3 h4
  split at h4
  · cases h4
  rename_i hlt
  injection h4 with h4
  injection h4 with h5 h6
  subst h5 h6
  rw [show progP (brT ts c) en' = (declLoop (brT ts c) en' ((brT ts c).length + 1) [] ⟨0, []⟩ >>= fun x => (exprP (brT ts c) en' 40 x.2 >>= fun y => if y.2.i < (brT ts c).length then .error (403, hereP (brT ts c) en' y.2.i) else .ok (x.1, y.2.ns))) from rfl, hd0]
  dsimp only
  by_cases hop : isP ts 0 kwOp = true
  · refine ⟨fun _ => ?_, fun hn => ?_⟩
    · have hl := isP_lt hop
      have ht : (brT ts c)[1]? = some (shT 1 ts[0]) := (br_emb ts c).get 0 _ (List.getElem?_eq_getElem hl)
      unfold isP at hop
      rw [List.getElem?_eq_getElem hl] at hop
      simp only [Bool.and_eq_true, Bool.or_eq_true, beq_iff_eq] at hop
      have he : exprP (brT ts c) en' 39 ⟨1, []⟩ = .error (403, hereP (brT ts c) en' 1) := op_err ht hop.1 hop.2
      have h40 : exprP (brT ts c) en' 40 ⟨0, []⟩ = .error (403, hereP (brT ts c) en' 1) := by
        refine open_first (by rw [hi]; decide) (by rw [hi]; decide) (by rw [hi]; decide) ?_
        rw [hf0, he]
        rfl
      exact ⟨_, by rw [h40]; rfl⟩
    · subst hn
      rw [declLoop, if_pos hop] at h1
      obtain ⟨⟨o2, s3⟩, h7, h8⟩ := ex_ok.1 h1
      obtain ⟨_, _, _, _, o, rfl, _⟩ := declP_ok h7
      have := declLoop_len _ _ _ _ _ h8
      simp at this
  · rw [declLoop, if_neg hop] at h1
    injection h1 with h1
    injection h1 with h7 h8
    subst h7 h8
    refine ⟨fun hn => absurd rfl hn, fun _ => ?_⟩
    have hem := expr_em (br_emb ts c) (en := en) (en' := en') 39 ⟨0, []⟩ ⟨1, []⟩ ⟨rfl, rfl, Nat.zero_le _⟩ _ h3
    rcases hem with ⟨⟨a', s'⟩, he, hva, hsi, hsn, hsl⟩ | ⟨p, he⟩
    · left
      dsimp only at hva hsi hsn hsl
      have hs2 : s2.i = ts.length := by omega
      have h40 : exprP (brT ts c) en' 40 ⟨0, []⟩ = .ok (a', ⟨s'.i + 1, s'.ns⟩) := by
        refine open_last (by rw [hi]; decide) (by rw [hi]; decide) (by rw [hi]; decide) ?_ ?_
        · rw [hf0, he]
          show (wantP (brT ts c) en' sgShut s' >>= fun s => .ok (a', s)) = _
          unfold wantP
          rw [if_pos (by rw [hsi, hs2]; exact br_shut ts c)]
          rfl
        · rw [br_len]; dsimp only; omega
      rw [h40]
      show (if s'.i + 1 < (brT ts c).length then _ else _) = _
      rw [if_neg (by rw [br_len]; omega), hsn]
    · right
      have h40 : exprP (brT ts c) en' 40 ⟨0, []⟩ = .error (401, p) := by
        refine open_first (by rw [hi]; decide) (by rw [hi]; decide) (by rw [hi]; decide) ?_
        rw [hf0, he]
        rfl
      exact ⟨p, by rw [h40]; rfl⟩
/-- the same, of texts. -/
theorem lexR_br {s : ByteArray} (hs : s.size ≤ 4093) (h0 : (lexR s).2.2 = 0) : lexR (⟨#[40]⟩ ++ (s ++ nlB ++ ⟨#[41]⟩)) = (brT (lexR s).1 (s.size + 2), 0, 0) := by
  have h1 : (⟨#[41]⟩ : ByteArray).size = 1 := rfl
  have h2 : (⟨#[40]⟩ : ByteArray).size = 1 := rfl
  have hj := lexR_join s ⟨#[41]⟩ (by omega)
  have hl : lexR ⟨#[41]⟩ = ([⟨3, sgShut, 0, 0⟩], 0, 0) := by decide +kernel
  rw [hl] at hj
  unfold joinR at hj
  rw [if_neg (by rw [h0]; decide), if_neg (by decide), if_pos h0, if_pos rfl] at hj
  have hxs : (s ++ nlB ++ ⟨#[41]⟩ : ByteArray).size = s.size + 2 := by rw [nl_whole, h1]
  obtain ⟨x, hx⟩ : ∃ x, (s ++ nlB ++ ⟨#[41]⟩ : ByteArray) = x := ⟨_, rfl⟩
  rw [hx] at hj hxs ⊢
  have hw : (⟨#[40]⟩ ++ x : ByteArray).size ≤ 4096 := by rw [app_size, h2]; omega
  have hv : (vaV x).2 = true := by
    cases hv : (vaV x).2
    · rw [lexR_form x (by omega) hv] at hj
      have := congrArg (fun q => q.2.2) hj
      simp at this
    · rfl
  have hva := vaV_app ⟨#[40]⟩ x (by decide +kernel)
  rw [hv] at hva
  simp only [if_true] at hva
  rw [lexR_ok _ (by omega) hv] at hj
  rw [lexR_ok _ hw (by rw [hva]), app_list]
  show lxAt (40 :: x.data.toList) 0 [] = _
  have hsk : skipF false (40 :: x.data.toList) = 0 := rfl
  have hff : firstF (40 :: x.data.toList) = (⟨3, sgOpen, 0, 0⟩, 1, 0) := by
    have hsg : signF (40 :: x.data.toList) = 1 := by
      cases hx : x.data.toList with
      | nil => rfl
      | cons d l =>
        show (if ((40 : UInt8) = 45 ∧ d = 62) ∨ ((40 : UInt8) = 61 ∧ d = 61) then 2 else if signL.contains 40 then 1 else 0) = 1
        rw [if_neg (by rintro (⟨h, _⟩ | ⟨h, _⟩) <;> exact absurd h (by decide)), if_pos (by decide)]
    unfold firstF
    simp only [show isL 40 = false from by decide, show isD 40 = false from by decide, Bool.false_eq_true, if_false, hsg, List.take_succ_cons, List.take_zero]
    rfl
  have hst := lxAt_step (l := 40 :: x.data.toList) (p := 0) (acc := []) (by rw [hsk]; simp) (by rw [hsk, List.drop_zero]; exact hff)
  rw [hst, hsk]
  have h3 := lxAt_sh 1 [⟨3, sgOpen, 0, 0⟩] _ x.data.toList (Nat.le_refl _) 0 []
  rw [hj, if_pos rfl] at h3
  show lxAt x.data.toList (0 + 1) ([⟨3, sgOpen, 0, 0⟩] ++ [].map (sh 1)) = _
  rw [h3]
  unfold brT
  rw [List.map_append]
  show (_ :: ((lexR s).1.map (shT 1) ++ [(⟨3, sgShut, 0, (0 : Int) + ((s.size + 1 : Nat) : Int) + 1⟩ : Tk)]), (0 : Int), (0 : Int)) = _
  rw [show (0 : Int) + ((s.size + 1 : Nat) : Int) + 1 = s.size + 2 by omega]
theorem parse_br {s : ByteArray} (hs : s.size ≤ 4093) {os : List Or} {ns : List Nd} (h : parseV s = .ok (os, ns)) :
    (os ≠ [] → ∃ p, parseV (⟨#[40]⟩ ++ (s ++ nlB ++ ⟨#[41]⟩)) = .error (403, p)) ∧ (os = [] → (parseV (⟨#[40]⟩ ++ (s ++ nlB ++ ⟨#[41]⟩)) = .ok ([], ns.map (shN 1)) ∨ ∃ p, parseV (⟨#[40]⟩ ++ (s ++ nlB ++ ⟨#[41]⟩)) = .error (401, p))) := by
  have h0 : (lexR s).2.2 = 0 := by
    by_cases h0 : (lexR s).2.2 = 0
    · exact h0
    · unfold parseV at h; rw [if_neg h0] at h; cases h
  have hp : progP (lexR s).1 s.size = .ok (os, ns) := by unfold parseV at h; rw [if_pos h0] at h; exact h
  have e : parseV (⟨#[40]⟩ ++ (s ++ nlB ++ ⟨#[41]⟩)) = progP (brT (lexR s).1 (s.size + 2)) ((⟨#[40]⟩ ++ (s ++ nlB ++ ⟨#[41]⟩) : ByteArray).size : Int) := by
    unfold parseV; rw [lexR_br hs h0]; rfl
  rw [e]
  exact br_prog hp
end Go.Proofs.YtnhfbbognjdnpaaDoor
