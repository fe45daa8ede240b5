/- The tokens of what is printed: plain. -/
import Derived.Test.YtidlljookjicpaaGreatDoorPwS
import Derived.Test.YtidlljookjicpaaGreatDoorPwA
import Derived.Test.YtidlljookjicpaaGreatDoorPrB
import Derived.Test.YtidlljookjicpaaGreatDoorLxW
import Derived.Test.YtidlljookjicpaaGreatDoorMay
/- The tokens of what is printed: plain. -/
namespace Go.Proofs.YtidlljookjicpaaGreatDoor
open Go.RowKit
set_option linter.unusedVariables false
set_option linter.unusedSimpArgs false

/-- a token without its place. -/
def b0 (t : Tk) : Tk := ⟨t.kind, t.text, t.num, 0⟩
def kT (u : List UInt8) : Tk := ⟨2, u, 0, 0⟩
def sT (u : List UInt8) : Tk := ⟨3, u, 0, 0⟩
def nT (u : List UInt8) : Tk := ⟨0, u, 0, 0⟩
def iT (n : Int) : Tk := ⟨1, [], n, 0⟩
def brK (b : Bool) (l : List Tk) : List Tk := if b then l else sT sgOpen :: (l ++ [sT sgShut])
def sgU (n : Int) : List UInt8 := if n = 0 then sgAdd else if n = 1 then sgSub else if n = 2 then sgMul else if n = 3 then sgDiv else if n = 4 then sgEq2 else sgLess
def PT.tk : PT → List Tk
  | .var nm => [nT nm.data.toList] | .int n => [iT n] | .bol n => [kT (if n = 1 then kwTrue else kwFalse)]
  | .fn x a => [kT kwFun, nT x.data.toList, sT sgArrow] ++ a.tk
  | .app a b => brK a.atm a.tk ++ brK b.atm b.tk
  | .lt x a b => [kT kwLet, nT x.data.toList, sT sgEq] ++ (a.tk ++ ([kT kwIn] ++ b.tk))
  | .rc x y a b => [kT kwLet, kT kwRec, nT x.data.toList, nT y.data.toList, sT sgEq] ++ (a.tk ++ ([kT kwIn] ++ b.tk))
  | .cd a b c => [kT kwIf] ++ (a.tk ++ ([kT kwThen] ++ (b.tk ++ ([kT kwElse] ++ c.tk))))
  | .pr n a b => brK a.atm a.tk ++ ([sT (sgU n)] ++ brK b.atm b.tk)
  | .ac nm a => [kT kwDo, nT nm.data.toList] ++ brK a.atm a.tk
  | .hn nm x y z a b c => [kT kwHandle] ++ (a.tk ++ ([kT kwWith, nT nm.data.toList, nT x.data.toList, nT y.data.toList, sT sgArrow] ++ (b.tk ++ ([kT kwReturn, nT z.data.toList, sT sgArrow] ++ (c.tk ++ [kT kwEnd])))))
/-- the bytes are lexed so, whatever follows. -/
def Lxf (l : List UInt8) (K : List Tk) : Prop := ∀ (r : List UInt8) (p : Nat) (acc : List Tk), ∃ toks, toks.map b0 = K ∧ lxAt (l ++ r) p acc = lxAt r (p + l.length) (acc ++ toks)
/-- the bytes are lexed so, where no letter follows. -/
def Lxs (l : List UInt8) (K : List Tk) : Prop := ∀ (r : List UInt8) (p : Nat) (acc : List Tk), runN r = 0 → ∃ toks, toks.map b0 = K ∧ lxAt (l ++ r) p acc = lxAt r (p + l.length) (acc ++ toks)
theorem Lxf.s {l : List UInt8} {K : List Tk} (h : Lxf l K) : Lxs l K := fun r p acc _ => h r p acc
theorem Lxf.app {l l' : List UInt8} {K K' : List Tk} (h : Lxf l K) (h' : Lxf l' K') : Lxf (l ++ l') (K ++ K') := by
  intro r p acc
  obtain ⟨t1, e1, h1⟩ := h (l' ++ r) p acc
  obtain ⟨t2, e2, h2⟩ := h' r (p + l.length) (acc ++ t1)
  exact ⟨t1 ++ t2, by rw [List.map_append, e1, e2], by rw [List.append_assoc, h1, h2, List.length_append, List.append_assoc, Nat.add_assoc]⟩
theorem Lxf.apps {l l' : List UInt8} {K K' : List Tk} (h : Lxf l K) (h' : Lxs l' K') : Lxs (l ++ l') (K ++ K') := by
  intro r p acc hr
  obtain ⟨t1, e1, h1⟩ := h (l' ++ r) p acc
  obtain ⟨t2, e2, h2⟩ := h' r (p + l.length) (acc ++ t1) hr
  exact ⟨t1 ++ t2, by rw [List.map_append, e1, e2], by rw [List.append_assoc, h1, h2, List.length_append, List.append_assoc, Nat.add_assoc]⟩
theorem Lxs.app {l : List UInt8} {c : UInt8} {m : List UInt8} {K K' : List Tk} (h : Lxs l K) (h' : Lxf (c :: m) K') (hc : isN c = false) : Lxf (l ++ c :: m) (K ++ K') := by
  intro r p acc
  obtain ⟨t1, e1, h1⟩ := h ((c :: m) ++ r) p acc (by rw [List.cons_append]; exact runN_no hc)
  obtain ⟨t2, e2, h2⟩ := h' r (p + l.length) (acc ++ t1)
  exact ⟨t1 ++ t2, by rw [List.map_append, e1, e2], by rw [List.append_assoc, h1, h2, List.length_append, List.append_assoc, Nat.add_assoc]⟩
theorem Lxs.apps {l : List UInt8} {c : UInt8} {m : List UInt8} {K K' : List Tk} (h : Lxs l K) (h' : Lxs (c :: m) K') (hc : isN c = false) : Lxs (l ++ c :: m) (K ++ K') := by
  intro r p acc hr
  obtain ⟨t1, e1, h1⟩ := h ((c :: m) ++ r) p acc (by rw [List.cons_append]; exact runN_no hc)
  obtain ⟨t2, e2, h2⟩ := h' r (p + l.length) (acc ++ t1) hr
  exact ⟨t1 ++ t2, by rw [List.map_append, e1, e2], by rw [List.append_assoc, h1, h2, List.length_append, List.append_assoc, Nat.add_assoc]⟩
theorem lxf_blank : Lxf [32] [] := fun r p acc => ⟨[], rfl, by rw [List.singleton_append, lxAt_blank (by decide), List.append_nil]; rfl⟩
/-- one token. -/
theorem lx_one {l r : List UInt8} {t : Tk} (p : Nat) (acc : List Tk) (hs : skipF false (l ++ r) = 0) (hne : l ≠ []) (hf : firstF (l ++ r) = (t, l.length, 0)) (ht : t.at_ = 0) : ∃ toks, toks.map b0 = [t] ∧ lxAt (l ++ r) p acc = lxAt r (p + l.length) (acc ++ toks) := by
  refine ⟨[⟨t.kind, t.text, t.num, (p : Int)⟩], ?_, ?_⟩
  · obtain ⟨k, x, n, a⟩ := t
    have ht : a = 0 := ht
    subst ht; rfl
  · rw [lxAt_more hs (by intro h; exact hne (List.append_eq_nil_iff.1 h).1) hf, List.drop_left]
theorem isL_bdP {c : UInt8} (h : isL c = true) : 97 ≤ (c.toNat : Int) ∧ (c.toNat : Int) ≤ 122 := by
  unfold isL at h
  simp only [Bool.and_eq_true, decide_eq_true_eq] at h
  exact h
theorem skip_letP {c : UInt8} {l : List UInt8} (h : isL c = true) : skipF false (c :: l) = 0 := by
  have := isL_bdP h
  rw [skipF_cons, if_neg (by omega), if_neg (by omega), if_neg (by omega)]; rfl
theorem word_first {c : UInt8} {x r : List UInt8} (h : isL c = true) (hx : (c :: x).all isN = true) (hr : runN r = 0) : firstF ((c :: x) ++ r) = if kwB (c :: x) then (⟨2, c :: x, 0, 0⟩, (c :: x).length, 0) else if (c :: x).length > 16 then (⟨0, [], 0, 0⟩, (c :: x).length, 201) else (⟨0, c :: x, 0, 0⟩, (c :: x).length, 0) := by
  have hrun := runN_app (r := r) hx
  rw [hr, Nat.add_zero] at hrun
  rw [List.cons_append] at hrun ⊢
  have htk : ((c :: (x ++ r)).take (c :: x).length) = c :: x := by rw [← List.cons_append]; exact List.take_left' rfl
  unfold firstF
  simp only
  rw [if_pos h, hrun, htk]
theorem lxs_kw {c : UInt8} {x : List UInt8} (h : isL c = true) (hx : (c :: x).all isN = true) (hk : kwB (c :: x) = true) : Lxs (c :: x) [kT (c :: x)] := fun r p acc hr =>
  lx_one p acc (by rw [List.cons_append]; exact skip_letP h) (by simp) (by rw [word_first h hx hr, if_pos hk]; rfl) rfl
theorem lxs_name {u : List UInt8} (h : nmB u = true) : Lxs u [nT u] := by
  unfold nmB at h
  simp only [Bool.and_eq_true, decide_eq_true_eq, Bool.not_eq_true'] at h
  obtain ⟨⟨h1, h2⟩, h3⟩ := h
  cases u with
  | nil => cases h2
  | cons c x =>
    rw [letB_cons, Bool.and_eq_true] at h2
    have hx : (c :: x).all isN = true := by rw [List.all_cons, isL_isN h2.1, h2.2]; rfl
    exact fun r p acc hr => lx_one p acc (by rw [List.cons_append]; exact skip_letP h2.1) (by simp) (by rw [word_first h2.1 hx hr, if_neg (by rw [h3]; decide), if_neg (by omega)]; rfl) rfl
theorem lxs_int {n : Int} (h0 : 0 ≤ n) (h1 : n ≤ 1073741823) : Lxs (Lib.itoa n) [iT n] := by
  obtain ⟨y, rfl⟩ := Int.eq_ofNat_of_zero_le h0
  rw [show Lib.itoa ((y : Nat) : Int) = Lib.decDigits y from itoa_nat y]
  have hok := dd_ok (n := y) (by omega)
  have hv := dd_val y
  obtain ⟨c, x, hd, hc, hx⟩ := dd_cons y
  rw [hd] at hok hv ⊢
  intro r p acc hr
  have hf := first_num (r := r) hc hx hr
  rw [(num_yes hok).1, (num_yes hok).2, hv] at hf
  exact lx_one p acc (by rw [List.cons_append]; exact skip_dig hc) (by simp) hf rfl
theorem lxf_open : Lxf [40] [sT sgOpen] := fun r p acc => lx_one p acc (by rfl) (by simp) (by cases r <;> rfl) rfl
theorem lxf_shut : Lxf [41] [sT sgShut] := fun r p acc => lx_one p acc (by rfl) (by simp) (by cases r <;> rfl) rfl
theorem sg1 {u : List UInt8} (hs : ∀ r, skipF false (u ++ 32 :: r) = 0) (hne : u ≠ []) (hf : ∀ r, firstF (u ++ 32 :: r) = (⟨3, u, 0, 0⟩, u.length, 0)) : Lxf (u ++ [32]) [sT u] := by
  intro r p acc
  obtain ⟨t, e, h⟩ := lx_one p acc (hs r) hne (hf r) rfl
  refine ⟨t, e, ?_⟩
  rw [show u ++ [32] ++ r = u ++ 32 :: r by simp, h, lxAt_blank (by decide), List.length_append]; rfl
theorem pc_sg {u : List UInt8} (h : u ∈ [sgArrow, sgEq, sgEq2, sgLess, sgAdd, sgSub, sgMul, sgDiv, sgColon]) : Lxf (32 :: (u ++ [32])) [sT u] := by
  have h1 : Lxf (u ++ [32]) [sT u] := by
    simp only [List.mem_cons, List.not_mem_nil, or_false] at h
    rcases h with rfl | rfl | rfl | rfl | rfl | rfl | rfl | rfl | rfl
    all_goals exact sg1 (fun r => rfl) (by decide) (fun r => rfl)
  exact lxf_blank.app h1
theorem pc_kw {c : UInt8} {x : List UInt8} (h : isL c = true) (hx : (c :: x).all isN = true) (hk : kwB (c :: x) = true) : Lxf ((c :: x) ++ [32]) [kT (c :: x)] := by
  have := (lxs_kw h hx hk).app lxf_blank (by decide)
  rwa [List.append_nil] at this
theorem pc_kwb {c : UInt8} {x : List UInt8} (h : isL c = true) (hx : (c :: x).all isN = true) (hk : kwB (c :: x) = true) : Lxf ([32] ++ ((c :: x) ++ [32])) [kT (c :: x)] := lxf_blank.app (pc_kw h hx hk)
theorem pc_fun : Lxf [102, 117, 110, 32] [kT kwFun] := pc_kw (c := 102) (x := [117, 110]) (by decide) (by decide) (by decide)
theorem pc_let : Lxf [108, 101, 116, 32] [kT kwLet] := pc_kw (c := 108) (x := [101, 116]) (by decide) (by decide) (by decide)
theorem pc_rec : Lxf [114, 101, 99, 32] [kT kwRec] := pc_kw (c := 114) (x := [101, 99]) (by decide) (by decide) (by decide)
theorem pc_if : Lxf [105, 102, 32] [kT kwIf] := pc_kw (c := 105) (x := [102]) (by decide) (by decide) (by decide)
theorem pc_do : Lxf [100, 111, 32] [kT kwDo] := pc_kw (c := 100) (x := [111]) (by decide) (by decide) (by decide)
theorem pc_op : Lxf [111, 112, 32] [kT kwOp] := pc_kw (c := 111) (x := [112]) (by decide) (by decide) (by decide)
theorem pc_handle : Lxf [104, 97, 110, 100, 108, 101, 32] [kT kwHandle] := pc_kw (c := 104) (x := [97, 110, 100, 108, 101]) (by decide) (by decide) (by decide)
theorem pc_in : Lxf [32, 105, 110, 32] [kT kwIn] := pc_kwb (c := 105) (x := [110]) (by decide) (by decide) (by decide)
theorem pc_then : Lxf [32, 116, 104, 101, 110, 32] [kT kwThen] := pc_kwb (c := 116) (x := [104, 101, 110]) (by decide) (by decide) (by decide)
theorem pc_else : Lxf [32, 101, 108, 115, 101, 32] [kT kwElse] := pc_kwb (c := 101) (x := [108, 115, 101]) (by decide) (by decide) (by decide)
theorem pc_with : Lxf [32, 119, 105, 116, 104, 32] [kT kwWith] := pc_kwb (c := 119) (x := [105, 116, 104]) (by decide) (by decide) (by decide)
theorem pc_return : Lxf [32, 114, 101, 116, 117, 114, 110, 32] [kT kwReturn] := pc_kwb (c := 114) (x := [101, 116, 117, 114, 110]) (by decide) (by decide) (by decide)
theorem pc_end : Lxs [32, 101, 110, 100] [kT kwEnd] := lxf_blank.apps (lxs_kw (c := 101) (x := [110, 100]) (by decide) (by decide) (by decide))
theorem pc_arrow : Lxf [32, 45, 62, 32] [sT sgArrow] := pc_sg (u := sgArrow) (by simp)
theorem pc_eq : Lxf [32, 61, 32] [sT sgEq] := pc_sg (u := sgEq) (by simp)
theorem pc_colon : Lxf [32, 58, 32] [sT sgColon] := pc_sg (u := sgColon) (by simp)
theorem pc_sgT (n : Int) : Lxf (sgT n) [sT (sgU n)] ∧ ∃ m, sgT n = 32 :: m := by
  unfold sgT sgU
  by_cases h0 : n = 0
  · rw [if_pos h0, if_pos h0]; exact ⟨pc_sg (u := sgAdd) (by simp), _, rfl⟩
  rw [if_neg h0, if_neg h0]
  by_cases h1 : n = 1
  · rw [if_pos h1, if_pos h1]; exact ⟨pc_sg (u := sgSub) (by simp), _, rfl⟩
  rw [if_neg h1, if_neg h1]
  by_cases h2 : n = 2
  · rw [if_pos h2, if_pos h2]; exact ⟨pc_sg (u := sgMul) (by simp), _, rfl⟩
  rw [if_neg h2, if_neg h2]
  by_cases h3 : n = 3
  · rw [if_pos h3, if_pos h3]; exact ⟨pc_sg (u := sgDiv) (by simp), _, rfl⟩
  rw [if_neg h3, if_neg h3]
  by_cases h4 : n = 4
  · rw [if_pos h4, if_pos h4]; exact ⟨pc_sg (u := sgEq2) (by simp), _, rfl⟩
  rw [if_neg h4, if_neg h4]
  exact ⟨pc_sg (u := sgLess) (by simp), _, rfl⟩
theorem br_lex {b : Bool} {l : List UInt8} {K : List Tk} (h : Lxs l K) : Lxs (brS b l) (brK b K) := by
  unfold brS brK
  cases b
  · exact (lxf_open.app (h.app lxf_shut (by decide))).s
  · exact h
theorem PT.lex : ∀ (T : PT), T.ok → Lxs T.tx T.tk
  | .var nm, h => lxs_name h
  | .int n, h => lxs_int h.1 h.2
  | .bol n, h => by
    show Lxs (if n = 1 then [116, 114, 117, 101] else [102, 97, 108, 115, 101]) [kT (if n = 1 then kwTrue else kwFalse)]
    by_cases h1 : n = 1
    · rw [if_pos h1, if_pos h1]; exact lxs_kw (c := 116) (x := [114, 117, 101]) (by decide) (by decide) (by decide)
    · rw [if_neg h1, if_neg h1]; exact lxs_kw (c := 102) (x := [97, 108, 115, 101]) (by decide) (by decide) (by decide)
  | .fn x a, h => by
    have := ((pc_fun.apps (lxs_name h.1)).app pc_arrow (by decide)).apps (a.lex h.2)
    simpa [PT.tx, PT.tk] using this
  | .app a b, h => by
    have := ((br_lex (b := a.atm) (a.lex h.1)).app lxf_blank (by decide)).apps (br_lex (b := b.atm) (b.lex h.2))
    simpa [PT.tx, PT.tk] using this
  | .lt x a b, h => by
    have := (((((pc_let.apps (lxs_name h.1)).app pc_eq (by decide)).apps (a.lex h.2.1)).app pc_in (by decide))).apps (b.lex h.2.2)
    simpa [PT.tx, PT.tk] using this
  | .rc x y a b, h => by
    have := (((((((((pc_let.app pc_rec).apps (lxs_name h.1.1)).app lxf_blank (by decide)).apps (lxs_name h.1.2)).app pc_eq (by decide)).apps (a.lex h.2.1)).app pc_in (by decide)))).apps (b.lex h.2.2)
    simpa [PT.tx, PT.tk] using this
  | .cd a b c, h => by
    have := ((((pc_if.apps (a.lex h.1)).app pc_then (by decide)).apps (b.lex h.2.1)).app pc_else (by decide)).apps (c.lex h.2.2)
    simpa [PT.tx, PT.tk] using this
  | .pr n a b, h => by
    obtain ⟨hs, m, hm⟩ := pc_sgT n
    rw [hm] at hs
    have := ((br_lex (b := a.atm) (a.lex h.2.1)).app hs (by decide)).apps (br_lex (b := b.atm) (b.lex h.2.2))
    simpa [PT.tx, PT.tk, hm] using this
  | .ac nm a, h => by
    have := ((pc_do.apps (lxs_name h.1)).app lxf_blank (by decide)).apps (br_lex (b := a.atm) (a.lex h.2))
    simpa [PT.tx, PT.tk] using this
  | .hn nm x y z a b c, h => by
    have := ((((((((((((((pc_handle.apps (a.lex h.2.1)).app pc_with (by decide)).apps (lxs_name h.1.1)).app lxf_blank (by decide)).apps (lxs_name h.1.2.1)).app lxf_blank (by decide)).apps (lxs_name h.1.2.2.1)).app pc_arrow (by decide)).apps (b.lex h.2.2.1)).app pc_return (by decide)).apps (lxs_name h.1.2.2.2)).app pc_arrow (by decide)).apps (c.lex h.2.2.2)).apps pc_end (by decide))
    simpa [PT.tx, PT.tk] using this
end Go.Proofs.YtidlljookjicpaaGreatDoor

/- What is printed is read as the same tree: plain. -/
namespace Go.Proofs.YtidlljookjicpaaGreatDoor
open Go.RowKit
set_option linter.unusedVariables false
set_option linter.unusedSimpArgs false

section
variable {ts : List Tk} {en : Int}
/-- the token at i, but for its place. -/
def TE (ts : List Tk) (i : Nat) (k : Tk) : Prop := ∃ t, ts[i]? = some t ∧ b0 t = k
def TkI (ts : List Tk) : Nat → List Tk → Prop
  | _, [] => True
  | i, k :: K => TE ts i k ∧ TkI ts (i + 1) K
theorem tkI_app : ∀ (K L : List Tk) (i : Nat), TkI ts i (K ++ L) → TkI ts i K ∧ TkI ts (i + K.length) L
  | [], L, i, h => ⟨trivial, h⟩
  | k :: K, L, i, h => by
    obtain ⟨h1, h2⟩ := tkI_app K L (i + 1) h.2
    refine ⟨⟨h.1, h1⟩, ?_⟩
    rw [List.length_cons, show i + (K.length + 1) = i + 1 + K.length by omega]; exact h2
theorem TE.lt {i : Nat} {k : Tk} (h : TE ts i k) : i < ts.length := by obtain ⟨t, h, _⟩ := h; exact (List.getElem?_eq_some_iff.1 h).1
theorem TE.k {i : Nat} {v : List UInt8} (h : TE ts i (kT v)) : ∃ t, ts[i]? = some t ∧ t.kind = 2 ∧ t.text = v := by
  obtain ⟨t, h, e⟩ := h
  injection e with e1 e2
  exact ⟨t, h, e1, e2⟩
theorem TE.s {i : Nat} {v : List UInt8} (h : TE ts i (sT v)) : ∃ t, ts[i]? = some t ∧ t.kind = 3 ∧ t.text = v := by
  obtain ⟨t, h, e⟩ := h
  injection e with e1 e2
  exact ⟨t, h, e1, e2⟩
theorem TE.isk {i : Nat} {v : List UInt8} (h : TE ts i (kT v)) (u : List UInt8) : isP ts i u = (v == u) := by
  obtain ⟨t, h, h1, h2⟩ := h.k; rw [isP_tok h (.inl h1), h2]
theorem TE.iss {i : Nat} {v : List UInt8} (h : TE ts i (sT v)) (u : List UInt8) : isP ts i u = (v == u) := by
  obtain ⟨t, h, h1, h2⟩ := h.s; rw [isP_tok h (.inr h1), h2]
theorem TE.isn {i : Nat} {v : List UInt8} (h : TE ts i (nT v)) (u : List UInt8) : isP ts i u = false := by
  obtain ⟨t, h, e⟩ := h
  injection e with e1 e2
  exact isP_not h (.inl e1) u
theorem TE.isi {i : Nat} {n : Int} (h : TE ts i (iT n)) (u : List UInt8) : isP ts i u = false := by
  obtain ⟨t, h, e⟩ := h
  injection e with e1 e2
  exact isP_not h (.inr e1) u
theorem TE.wantk {i : Nat} {v : List UInt8} (h : TE ts i (kT v)) (ns : List Nd) : wantP ts en v ⟨i, ns⟩ = .ok ⟨i + 1, ns⟩ := by
  unfold wantP
  rw [if_pos (by rw [h.isk]; simp)]
theorem TE.wants {i : Nat} {v : List UInt8} (h : TE ts i (sT v)) (ns : List Nd) : wantP ts en v ⟨i, ns⟩ = .ok ⟨i + 1, ns⟩ := by
  unfold wantP
  rw [if_pos (by rw [h.iss]; simp)]
theorem TE.name {i : Nat} {x : ByteArray} (h : TE ts i (nT x.data.toList)) (ns : List Nd) : nameP ts en ⟨i, ns⟩ = .ok (x, ⟨i + 1, ns⟩) := by
  obtain ⟨t, h, e⟩ := h
  injection e with e1 e2
  unfold nameP
  dsimp only
  rw [h]
  dsimp only
  rw [if_pos e1, e2]; rfl
theorem put_fit {i : Nat} {ns : List Nd} (x : Nd) (h : ns.length < 512) : putP ts en x ⟨i, ns⟩ = .ok (ns.length, ⟨i, ns ++ [x]⟩) := by
  unfold putP
  rw [if_neg (by dsimp only; omega)]
theorem stop_e {i : Nat} {k : Tk} (h : TE ts i k) (hk : k ∈ [kT kwThen, kT kwElse, kT kwIn, kT kwWith, kT kwReturn, kT kwEnd, sT sgShut]) : StopAt ts i := by
  have key : ∀ v, (TE ts i (kT v) ∨ TE ts i (sT v)) → v ∈ [kwThen, kwElse, kwIn, kwWith, kwReturn, kwEnd, sgShut] → StopAt ts i := by
    intro v hv hm
    obtain ⟨t, ht, hk, hx⟩ : ∃ t, ts[i]? = some t ∧ (t.kind = 2 ∨ t.kind = 3) ∧ t.text = v := by
      rcases hv with h | h
      · obtain ⟨t, h, h1, h2⟩ := h.k; exact ⟨t, h, .inl h1, h2⟩
      · obtain ⟨t, h, h1, h2⟩ := h.s; exact ⟨t, h, .inr h1, h2⟩
    have hi := isP_tok ht hk
    refine ⟨?_, fun u hu => ?_⟩
    · unfold startsP
      simp only [ht, hi]
      have e0 : (t.kind == 0) = false := by rcases hk with h | h <;> rw [h] <;> rfl
      have e1 : (t.kind == 1) = false := by rcases hk with h | h <;> rw [h] <;> rfl
      rw [e0, e1, hx]
      simp only [List.mem_cons, List.not_mem_nil, or_false] at hm
      rcases hm with h | h | h | h | h | h | h <;> rw [h] <;> decide
    · rw [hi, hx]
      simp only [List.mem_cons, List.not_mem_nil, or_false] at hm hu
      rcases hm with h | h | h | h | h | h | h <;> rcases hu with h' | h' | h' | h' | h' | h' <;> rw [h, h'] <;> decide
  simp only [List.mem_cons, List.not_mem_nil, or_false] at hk
  rcases hk with rfl | rfl | rfl | rfl | rfl | rfl | rfl
  · exact key _ (.inl h) (by simp)
  · exact key _ (.inl h) (by simp)
  · exact key _ (.inl h) (by simp)
  · exact key _ (.inl h) (by simp)
  · exact key _ (.inl h) (by simp)
  · exact key _ (.inl h) (by simp)
  · exact key _ (.inr h) (by simp)
/-- a part was read. -/
def Got (T : PT) (ns : List Nd) (i : Nat) (P : Except PE (Nat × PS)) : Prop := ∃ fl, fl.map bare0 = T.fl ns.length ∧ fl.length = T.sz ∧ P = .ok (ns.length + T.sz - 1, ⟨i, ns ++ fl⟩)
def AtS (ts : List Tk) (en : Int) (T : PT) (r : Nat) : Prop := ∀ i ns, TkI ts i (brK T.atm T.tk) → ns.length + T.sz ≤ 512 → Got T ns (i + (brK T.atm T.tk).length) (atomP ts en (exprP ts en r) ⟨i, ns⟩)
def OpS (ts : List Tk) (en : Int) (T : PT) (r : Nat) : Prop := ∀ i ns, TkI ts i T.tk → StopAt ts (i + T.tk.length) → ns.length + T.sz ≤ 512 → Got T ns (i + T.tk.length) (openP ts en (exprP ts en r) ⟨i, ns⟩)
def ExS (ts : List Tk) (en : Int) (T : PT) (r : Nat) : Prop := ∀ i ns, TkI ts i T.tk → StopAt ts (i + T.tk.length) → ns.length + T.sz ≤ 512 → Got T ns (i + T.tk.length) (exprP ts en r ⟨i, ns⟩)
theorem exS_of {T : PT} (h : ∀ r, T.ins ≤ r → OpS ts en T r) {r : Nat} (hr : T.ins + 1 ≤ r) : ExS ts en T r := by
  intro i ns h1 h2 h3
  obtain ⟨q, rfl⟩ : ∃ q, r = q + 1 := ⟨r - 1, by omega⟩
  exact h q (by omega) i ns h1 h2 h3
/-- what an operand begins with. -/
theorem hd_atm : ∀ {T : PT} {i : Nat}, TkI ts i (brK T.atm T.tk) → (∀ u ∈ [kwFun, kwLet, kwIf, kwDo], isP ts i u = false) ∧ startsP ts i = true := by
  have key : ∀ {i : Nat} {k : Tk}, TE ts i k → ((∃ x, k = nT x) ∨ (∃ n, k = iT n) ∨ k = kT kwTrue ∨ k = kT kwFalse ∨ k = kT kwHandle ∨ k = sT sgOpen) → (∀ u ∈ [kwFun, kwLet, kwIf, kwDo], isP ts i u = false) ∧ startsP ts i = true := by
    intro i k h hk
    rcases hk with ⟨x, rfl⟩ | ⟨n, rfl⟩ | rfl | rfl | rfl | rfl
    · refine ⟨fun u _ => h.isn u, ?_⟩
      obtain ⟨t, h, e⟩ := h
      injection e with e1 e2
      unfold startsP; rw [h]; simp [e1]
    · refine ⟨fun u _ => h.isi u, ?_⟩
      obtain ⟨t, h, e⟩ := h
      injection e with e1 e2
      unfold startsP; rw [h]; simp [e1]
    all_goals
      first
      | have hi := h.isk
      | have hi := h.iss
      refine ⟨fun u hu => ?_, ?_⟩
      · rw [hi]
        simp only [List.mem_cons, List.not_mem_nil, or_false] at hu
        rcases hu with rfl | rfl | rfl | rfl <;> decide
      · obtain ⟨t, h, e⟩ := h
        unfold startsP
        simp only [h, hi]
        first
        | (rw [show (kwTrue == kwTrue) = true by decide]; simp; done)
        | (rw [show (kwFalse == kwFalse) = true by decide]; simp; done)
        | (rw [show (kwHandle == kwHandle) = true by decide]; simp; done)
        | (rw [show (sgOpen == sgOpen) = true by decide]; simp)
  intro T i h
  cases T with
  | var nm => exact key h.1 (.inl ⟨_, rfl⟩)
  | int n => exact key h.1 (.inr (.inl ⟨_, rfl⟩))
  | bol n =>
    have h : TE ts i (kT (if n = 1 then kwTrue else kwFalse)) := h.1
    by_cases h1 : n = 1
    · rw [if_pos h1] at h; exact key h (.inr (.inr (.inl rfl)))
    · rw [if_neg h1] at h; exact key h (.inr (.inr (.inr (.inl rfl))))
  | hn nm x y z a b c => exact key h.1 (.inr (.inr (.inr (.inr (.inl rfl)))))
  | fn x a => exact key h.1 (.inr (.inr (.inr (.inr (.inr rfl)))))
  | app a b => exact key h.1 (.inr (.inr (.inr (.inr (.inr rfl)))))
  | lt x a b => exact key h.1 (.inr (.inr (.inr (.inr (.inr rfl)))))
  | rc x y a b => exact key h.1 (.inr (.inr (.inr (.inr (.inr rfl)))))
  | cd a b c => exact key h.1 (.inr (.inr (.inr (.inr (.inr rfl)))))
  | pr n a b => exact key h.1 (.inr (.inr (.inr (.inr (.inr rfl)))))
  | ac nm a => exact key h.1 (.inr (.inr (.inr (.inr (.inr rfl)))))
theorem first_of {E : PS → Except PE (Nat × PS)} {T : PT} {i : Nat} (ns : List Nd) (h : TkI ts i (brK T.atm T.tk)) : firstP ts en E ⟨i, ns⟩ = atomP ts en E ⟨i, ns⟩ := by
  unfold firstP
  rw [if_neg (by rw [(hd_atm h).1 kwDo (by simp)]; decide)]
/-- in brackets. -/
theorem atS_br {T : PT} (hT : T.atm = false) {r : Nat} (h : ExS ts en T r) : AtS ts en T r := by
  intro i ns hk hl
  rw [hT] at hk ⊢
  have hk : TkI ts i (sT sgOpen :: (T.tk ++ [sT sgShut])) := hk
  obtain ⟨h1, h2⟩ := hk
  obtain ⟨h2, h3⟩ := tkI_app _ _ _ h2
  obtain ⟨fl, e1, e2, e3⟩ := h (i + 1) ns h2 (stop_e h3.1 (by simp)) hl
  obtain ⟨t, ht, hk, hx⟩ := h1.s
  refine ⟨fl, e1, e2, ?_⟩
  rw [brk_at ht hk hx, e3]
  show (wantP ts en sgShut ⟨i + 1 + T.tk.length, ns ++ fl⟩ >>= fun s => Except.ok (ns.length + T.sz - 1, s)) = _
  rw [h3.1.wants]
  show Except.ok (_, (⟨i + 1 + T.tk.length + 1, ns ++ fl⟩ : PS)) = _
  rw [show i + 1 + T.tk.length + 1 = i + (brK false T.tk).length by unfold brK; rw [if_neg (by decide)]; simp; omega]
/-- an atom alone is an expression. -/
theorem opS_at {T : PT} (hT : T.atm = true) {r : Nat} (h : AtS ts en T r) : OpS ts en T r := by
  intro i ns hk hs hl
  have e : brK T.atm T.tk = T.tk := by unfold brK; rw [hT]; rfl
  have hk' : TkI ts i (brK T.atm T.tk) := by rw [e]; exact hk
  obtain ⟨fl, e1, e2, e3⟩ := h i ns hk' hl
  obtain ⟨g1, g2⟩ := hd_atm hk'
  refine ⟨fl, e1, e2, ?_⟩
  rw [e] at e3
  exact open_stop (g1 _ (by simp)) (g1 _ (by simp)) (g1 _ (by simp)) ((first_of ns hk').trans e3) hs
end
end Go.Proofs.YtidlljookjicpaaGreatDoor

/- What is printed is read as the same tree: each kind; plain. -/
namespace Go.Proofs.YtidlljookjicpaaGreatDoor
open Go.RowKit
set_option linter.unusedVariables false
set_option linter.unusedSimpArgs false

section
variable {ts : List Tk} {en : Int}
theorem ok_bind {α β : Type} (a : α) (f : α → Except PE β) : (Except.ok a >>= f) = f a := rfl
theorem ok_eq {n m i j : Nat} {l k : List Nd} (h1 : n = m) (h2 : i = j) (h3 : l = k) : (Except.ok (n, (⟨i, l⟩ : PS)) : Except PE (Nat × PS)) = .ok (m, ⟨j, k⟩) := by subst h1; subst h2; subst h3; rfl
theorem op_fn {x : ByteArray} {A : PT} {r : Nat} (hA : ExS ts en A r) : OpS ts en (.fn x A) r := by
  intro i ns hk hs hl
  obtain ⟨h1, h2, h3, h4⟩ : TE ts i (kT kwFun) ∧ TE ts (i + 1) (nT x.data.toList) ∧ TE ts (i + 1 + 1) (sT sgArrow) ∧ TkI ts (i + 1 + 1 + 1) A.tk := hk
  have hsz : (PT.fn x A).sz = A.sz + 1 := rfl
  have hlen : (PT.fn x A).tk.length = 3 + A.tk.length := by simp [PT.tk]; omega
  rw [hlen] at hs ⊢
  rw [hsz] at hl
  unfold Got
  rw [hsz]
  obtain ⟨fl, e1, e2, e3⟩ := hA (i + 1 + 1 + 1) ns h4 (by rwa [show i + 1 + 1 + 1 + A.tk.length = i + (3 + A.tk.length) by omega]) (by omega)
  have q0 : isP ts i kwFun = true := by rw [h1.isk]; decide
  refine ⟨fl ++ [⟨3, (ns.length + A.sz - 1 : Nat), 0, 0, 0, ba0, x, ba0, ba0, hereP ts en i⟩], ?_, ?_, ?_⟩
  · rw [List.map_append, e1]; rfl
  · rw [List.length_append, e2]; rfl
  · unfold openP
    rw [if_pos q0]
    simp only [funP, h2.name, ok_bind, h3.wants, e3]
    rw [put_fit _ (by rw [List.length_append]; omega)]
    exact ok_eq (by rw [List.length_append]; omega) (by omega) (by simp)
theorem op_lt {x : ByteArray} {A B : PT} {r : Nat} (hA : ExS ts en A r) (hB : ExS ts en B r) : OpS ts en (.lt x A B) r := by
  intro i ns hk hs hl
  obtain ⟨h1, h2, h3, h4⟩ : TE ts i (kT kwLet) ∧ TE ts (i + 1) (nT x.data.toList) ∧ TE ts (i + 1 + 1) (sT sgEq) ∧ TkI ts (i + 1 + 1 + 1) (A.tk ++ ([kT kwIn] ++ B.tk)) := hk
  obtain ⟨h4, h5⟩ := tkI_app _ _ _ h4
  obtain ⟨h5, h6⟩ : TE ts _ (kT kwIn) ∧ TkI ts (_ + 1) B.tk := h5
  have hsz : (PT.lt x A B).sz = A.sz + B.sz + 1 := rfl
  have hlen : (PT.lt x A B).tk.length = 3 + A.tk.length + 1 + B.tk.length := by simp [PT.tk]; omega
  rw [hlen] at hs ⊢
  rw [hsz] at hl
  unfold Got
  rw [hsz]
  obtain ⟨fl, e1, e2, e3⟩ := hA _ ns h4 (stop_e h5 (by simp)) (by omega)
  obtain ⟨gl, f1, f2, f3⟩ := hB _ (ns ++ fl) h6 (by rwa [show i + 1 + 1 + 1 + A.tk.length + 1 + B.tk.length = i + (3 + A.tk.length + 1 + B.tk.length) by omega]) (by rw [List.length_append]; omega)
  rw [List.length_append, e2] at f1 f3
  have q0 : isP ts i kwFun = false := by rw [h1.isk]; decide
  have q1 : isP ts i kwLet = true := by rw [h1.isk]; decide
  have q2 : isP ts (i + 1) kwRec = false := h2.isn _
  refine ⟨fl ++ (gl ++ [⟨5, (ns.length + A.sz - 1 : Nat), (ns.length + A.sz + B.sz - 1 : Nat), 0, 0, ba0, x, ba0, ba0, hereP ts en i⟩]), ?_, ?_, ?_⟩
  · rw [List.map_append, List.map_append, e1, f1]; rfl
  · rw [List.length_append, List.length_append, e2, f2]; simp; omega
  · unfold openP
    rw [if_neg (by rw [q0]; decide), if_pos q1, if_neg (by rw [q2]; decide)]
    simp only [letP, h2.name, ok_bind, h3.wants, e3, h5.wantk, f3]
    rw [put_fit _ (by rw [List.length_append, List.length_append]; omega)]
    exact ok_eq (by rw [List.length_append, List.length_append]; omega) (by omega) (by simp)
theorem op_rc {x y : ByteArray} {A B : PT} {r : Nat} (hA : ExS ts en A r) (hB : ExS ts en B r) : OpS ts en (.rc x y A B) r := by
  intro i ns hk hs hl
  obtain ⟨h1, h0, h2, h2', h3, h4⟩ : TE ts i (kT kwLet) ∧ TE ts (i + 1) (kT kwRec) ∧ TE ts (i + 2) (nT x.data.toList) ∧ TE ts (i + 2 + 1) (nT y.data.toList) ∧ TE ts (i + 2 + 1 + 1) (sT sgEq) ∧ TkI ts (i + 2 + 1 + 1 + 1) (A.tk ++ ([kT kwIn] ++ B.tk)) := hk
  obtain ⟨h4, h5⟩ := tkI_app _ _ _ h4
  obtain ⟨h5, h6⟩ : TE ts _ (kT kwIn) ∧ TkI ts (_ + 1) B.tk := h5
  have hsz : (PT.rc x y A B).sz = A.sz + B.sz + 1 := rfl
  have hlen : (PT.rc x y A B).tk.length = 5 + A.tk.length + 1 + B.tk.length := by simp [PT.tk]; omega
  rw [hlen] at hs ⊢
  rw [hsz] at hl
  unfold Got
  rw [hsz]
  obtain ⟨fl, e1, e2, e3⟩ := hA _ ns h4 (stop_e h5 (by simp)) (by omega)
  obtain ⟨gl, f1, f2, f3⟩ := hB _ (ns ++ fl) h6 (by rwa [show i + 2 + 1 + 1 + 1 + A.tk.length + 1 + B.tk.length = i + (5 + A.tk.length + 1 + B.tk.length) by omega]) (by rw [List.length_append]; omega)
  rw [List.length_append, e2] at f1 f3
  have q0 : isP ts i kwFun = false := by rw [h1.isk]; decide
  have q1 : isP ts i kwLet = true := by rw [h1.isk]; decide
  have q2 : isP ts (i + 1) kwRec = true := by rw [h0.isk]; decide
  refine ⟨fl ++ (gl ++ [⟨6, (ns.length + A.sz - 1 : Nat), (ns.length + A.sz + B.sz - 1 : Nat), 0, 0, ba0, x, y, ba0, hereP ts en i⟩]), ?_, ?_, ?_⟩
  · rw [List.map_append, List.map_append, e1, f1]; rfl
  · rw [List.length_append, List.length_append, e2, f2]; simp; omega
  · unfold openP
    rw [if_neg (by rw [q0]; decide), if_pos q1, if_pos q2]
    simp only [recP, h2.name, h2'.name, ok_bind, h3.wants, e3, h5.wantk, f3]
    rw [put_fit _ (by rw [List.length_append, List.length_append]; omega)]
    exact ok_eq (by rw [List.length_append, List.length_append]; omega) (by omega) (by simp)
theorem op_cd {A B C : PT} {r : Nat} (hA : ExS ts en A r) (hB : ExS ts en B r) (hC : ExS ts en C r) : OpS ts en (.cd A B C) r := by
  intro i ns hk hs hl
  obtain ⟨h1, h4⟩ : TE ts i (kT kwIf) ∧ TkI ts (i + 1) (A.tk ++ ([kT kwThen] ++ (B.tk ++ ([kT kwElse] ++ C.tk)))) := hk
  obtain ⟨h4, h5⟩ := tkI_app _ _ _ h4
  obtain ⟨h5, h6⟩ : TE ts _ (kT kwThen) ∧ TkI ts (_ + 1) (B.tk ++ ([kT kwElse] ++ C.tk)) := h5
  obtain ⟨h6, h7⟩ := tkI_app _ _ _ h6
  obtain ⟨h7, h8⟩ : TE ts _ (kT kwElse) ∧ TkI ts (_ + 1) C.tk := h7
  have hsz : (PT.cd A B C).sz = A.sz + B.sz + C.sz + 1 := rfl
  have hlen : (PT.cd A B C).tk.length = 1 + A.tk.length + 1 + B.tk.length + 1 + C.tk.length := by simp [PT.tk]; omega
  rw [hlen] at hs ⊢
  rw [hsz] at hl
  unfold Got
  rw [hsz]
  obtain ⟨fl, e1, e2, e3⟩ := hA _ ns h4 (stop_e h5 (by simp)) (by omega)
  obtain ⟨gl, f1, f2, f3⟩ := hB _ (ns ++ fl) h6 (stop_e h7 (by simp)) (by rw [List.length_append]; omega)
  rw [List.length_append, e2] at f1 f3
  obtain ⟨kl, g1, g2, g3⟩ := hC _ (ns ++ fl ++ gl) h8 (by rwa [show i + 1 + A.tk.length + 1 + B.tk.length + 1 + C.tk.length = i + (1 + A.tk.length + 1 + B.tk.length + 1 + C.tk.length) by omega]) (by rw [List.length_append, List.length_append]; omega)
  rw [List.length_append, List.length_append, e2, f2] at g1 g3
  have q0 : isP ts i kwFun = false := by rw [h1.isk]; decide
  have q1 : isP ts i kwLet = false := by rw [h1.isk]; decide
  have q2 : isP ts i kwIf = true := by rw [h1.isk]; decide
  refine ⟨fl ++ (gl ++ (kl ++ [⟨7, (ns.length + A.sz - 1 : Nat), (ns.length + A.sz + B.sz - 1 : Nat), (ns.length + A.sz + B.sz + C.sz - 1 : Nat), 0, ba0, ba0, ba0, ba0, hereP ts en i⟩])), ?_, ?_, ?_⟩
  · rw [List.map_append, List.map_append, List.map_append, e1, f1, g1]; rfl
  · rw [List.length_append, List.length_append, List.length_append, e2, f2, g2]; simp; omega
  · unfold openP
    rw [if_neg (by rw [q0]; decide), if_neg (by rw [q1]; decide), if_pos q2]
    simp only [ifP, ok_bind, e3, h5.wantk, f3, h7.wantk, g3]
    rw [put_fit _ (by rw [List.length_append, List.length_append, List.length_append]; omega)]
    exact ok_eq (by rw [List.length_append, List.length_append, List.length_append]; omega) (by omega) (by simp)
theorem at_hn {nm x y z : ByteArray} {A B C : PT} {r : Nat} (hA : ExS ts en A r) (hB : ExS ts en B r) (hC : ExS ts en C r) : AtS ts en (.hn nm x y z A B C) r := by
  intro i ns hk hl
  have hk : TkI ts i (PT.hn nm x y z A B C).tk := hk
  show Got _ ns (i + (PT.hn nm x y z A B C).tk.length) _
  obtain ⟨h1, h4⟩ : TE ts i (kT kwHandle) ∧ TkI ts (i + 1) (A.tk ++ ([kT kwWith, nT nm.data.toList, nT x.data.toList, nT y.data.toList, sT sgArrow] ++ (B.tk ++ ([kT kwReturn, nT z.data.toList, sT sgArrow] ++ (C.tk ++ [kT kwEnd]))))) := hk
  obtain ⟨h4, h5⟩ := tkI_app _ _ _ h4
  obtain ⟨h5, u1, u2, u3, u4, h6⟩ : TE ts _ (kT kwWith) ∧ TE ts (_ + 1) (nT nm.data.toList) ∧ TE ts (_ + 1 + 1) (nT x.data.toList) ∧ TE ts (_ + 1 + 1 + 1) (nT y.data.toList) ∧ TE ts (_ + 1 + 1 + 1 + 1) (sT sgArrow) ∧ TkI ts (_ + 1 + 1 + 1 + 1 + 1) (B.tk ++ ([kT kwReturn, nT z.data.toList, sT sgArrow] ++ (C.tk ++ [kT kwEnd]))) := h5
  obtain ⟨h6, h7⟩ := tkI_app _ _ _ h6
  obtain ⟨h7, v1, v2, h8⟩ : TE ts _ (kT kwReturn) ∧ TE ts (_ + 1) (nT z.data.toList) ∧ TE ts (_ + 1 + 1) (sT sgArrow) ∧ TkI ts (_ + 1 + 1 + 1) (C.tk ++ [kT kwEnd]) := h7
  obtain ⟨h8, h9⟩ := tkI_app _ _ _ h8
  obtain ⟨h9, -⟩ : TE ts _ (kT kwEnd) ∧ TkI ts (_ + 1) [] := h9
  have hsz : (PT.hn nm x y z A B C).sz = A.sz + B.sz + C.sz + 1 := rfl
  have hlen : (PT.hn nm x y z A B C).tk.length = 1 + A.tk.length + 5 + B.tk.length + 3 + C.tk.length + 1 := by simp [PT.tk]; omega
  rw [hlen]
  rw [hsz] at hl
  unfold Got
  rw [hsz]
  obtain ⟨fl, e1, e2, e3⟩ := hA _ ns h4 (stop_e h5 (by simp)) (by omega)
  obtain ⟨gl, f1, f2, f3⟩ := hB _ (ns ++ fl) h6 (stop_e h7 (by simp)) (by rw [List.length_append]; omega)
  rw [List.length_append, e2] at f1 f3
  obtain ⟨kl, g1, g2, g3⟩ := hC _ (ns ++ fl ++ gl) h8 (stop_e h9 (by simp)) (by rw [List.length_append, List.length_append]; omega)
  rw [List.length_append, List.length_append, e2, f2] at g1 g3
  obtain ⟨t, ht, k0, k1⟩ := h1.k
  have q := h1.isk
  refine ⟨fl ++ (gl ++ (kl ++ [⟨10, (ns.length + A.sz - 1 : Nat), (ns.length + A.sz + B.sz - 1 : Nat), (ns.length + A.sz + B.sz + C.sz - 1 : Nat), 0, nm, x, y, z, t.at_⟩])), ?_, ?_, ?_⟩
  · rw [List.map_append, List.map_append, List.map_append, e1, f1, g1]; rfl
  · rw [List.length_append, List.length_append, List.length_append, e2, f2, g2]; simp; omega
  · unfold atomP
    simp only [ht]
    rw [if_neg (by rw [k0]; decide), if_neg (by rw [k0]; decide), if_neg (by rw [q]; decide), if_neg (by rw [q]; decide), if_neg (by rw [q]; decide), if_pos (by rw [q]; decide)]
    simp only [handleP, ok_bind, e3, h5.wantk, u1.name, u2.name, u3.name, u4.wants, f3, h7.wantk, v1.name, v2.wants, g3, h9.wantk]
    rw [put_fit _ (by rw [List.length_append, List.length_append, List.length_append]; omega)]
    exact ok_eq (by rw [List.length_append, List.length_append, List.length_append]; omega) (by omega) (by simp)
theorem op_ac {nm : ByteArray} {A : PT} {r : Nat} (hA : AtS ts en A r) : OpS ts en (.ac nm A) r := by
  intro i ns hk hs hl
  obtain ⟨h1, h2, h4⟩ : TE ts i (kT kwDo) ∧ TE ts (i + 1) (nT nm.data.toList) ∧ TkI ts (i + 1 + 1) (brK A.atm A.tk) := hk
  have hsz : (PT.ac nm A).sz = A.sz + 1 := rfl
  have hlen : (PT.ac nm A).tk.length = 2 + (brK A.atm A.tk).length := by simp [PT.tk]; omega
  rw [hlen] at hs ⊢
  rw [hsz] at hl
  unfold Got
  rw [hsz]
  obtain ⟨fl, e1, e2, e3⟩ := hA _ ns h4 (by omega)
  have q := h1.isk
  refine ⟨fl ++ [⟨9, (ns.length + A.sz - 1 : Nat), 0, 0, 0, nm, ba0, ba0, ba0, hereP ts en i⟩], ?_, ?_, ?_⟩
  · rw [List.map_append, e1]; rfl
  · rw [List.length_append, e2]; rfl
  · refine open_stop (by rw [q]; decide) (by rw [q]; decide) (by rw [q]; decide) ?_ hs
    unfold firstP
    rw [if_pos (by rw [q]; decide)]
    simp only [h2.name, ok_bind, e3]
    rw [put_fit _ (by rw [List.length_append]; omega)]
    exact ok_eq (by rw [List.length_append]; omega) (by omega) (by simp)
theorem op_app {A B : PT} {r : Nat} (hA : AtS ts en A r) (hB : AtS ts en B r) : OpS ts en (.app A B) r := by
  intro i ns hk hs hl
  have hk : TkI ts i (brK A.atm A.tk ++ brK B.atm B.tk) := hk
  obtain ⟨h1, h2⟩ := tkI_app _ _ _ hk
  have hsz : (PT.app A B).sz = A.sz + B.sz + 1 := rfl
  have hlen : (PT.app A B).tk.length = (brK A.atm A.tk).length + (brK B.atm B.tk).length := by simp [PT.tk]
  rw [hlen] at hs ⊢
  rw [hsz] at hl
  unfold Got
  rw [hsz]
  obtain ⟨fl, e1, e2, e3⟩ := hA _ ns h1 (by omega)
  obtain ⟨gl, f1, f2, f3⟩ := hB _ (ns ++ fl) h2 (by rw [List.length_append]; omega)
  rw [List.length_append, e2] at f1 f3
  obtain ⟨g1, g2⟩ := hd_atm h1
  obtain ⟨g3, g4⟩ := hd_atm h2
  obtain ⟨f, hf⟩ : ∃ f, ts.length = f + 1 := ⟨ts.length - 1, by have := startsP_lt g2; omega⟩
  refine ⟨fl ++ (gl ++ [⟨4, (ns.length + A.sz - 1 : Nat), (ns.length + A.sz + B.sz - 1 : Nat), 0, 0, ba0, ba0, ba0, ba0, hereP ts en i⟩]), ?_, ?_, ?_⟩
  · rw [List.map_append, List.map_append, e1, f1]; rfl
  · rw [List.length_append, List.length_append, e2, f2]; simp; omega
  · rw [open_cmp (g1 _ (by simp)) (g1 _ (by simp)) (g1 _ (by simp))]
    have key : applyP ts en (exprP ts en r) ⟨i, ns⟩ = .ok (ns.length + (A.sz + B.sz + 1) - 1, ⟨i + ((brK A.atm A.tk).length + (brK B.atm B.tk).length), ns ++ (fl ++ (gl ++ [⟨4, (ns.length + A.sz - 1 : Nat), (ns.length + A.sz + B.sz - 1 : Nat), 0, 0, ba0, ba0, ba0, ba0, hereP ts en i⟩]))⟩) := by
      unfold applyP
      rw [first_of ns h1, e3, hf]
      simp only [ok_bind]
      unfold appLoop
      rw [if_pos g4, f3]
      simp only [ok_bind]
      rw [put_fit _ (by rw [List.length_append, List.length_append]; omega)]
      simp only [ok_bind]
      unfold appLoop
      rw [if_neg (by dsimp only; rw [show i + (brK A.atm A.tk).length + (brK B.atm B.tk).length = i + ((brK A.atm A.tk).length + (brK B.atm B.tk).length) by omega, hs.s]; decide)]
      exact ok_eq (by rw [List.length_append, List.length_append]; omega) (by omega) (by simp)
    exact compare_stop (sum_stop (product_stop key (hs.o _ (by simp)) (hs.o _ (by simp))) (hs.o _ (by simp)) (hs.o _ (by simp))) (hs.o _ (by simp)) (hs.o _ (by simp))
theorem rank_u {u v : List UInt8} {nu nv : Int} {o : PS → Except PE (Nat × PS)} {f l b i j : Nat} {ns ms : List Nd} (hu : isP ts i u = true) (hb : o ⟨i + 1, ns⟩ = .ok (b, ⟨j, ms⟩)) (hm : ms.length < 512) (ju : isP ts j u = false) (jv : isP ts j v = false) (hf : 2 ≤ f) : rankLoop ts en u v nu nv o f l ⟨i, ns⟩ = .ok (ms.length, ⟨j, ms ++ [⟨8, (l : Nat), (b : Nat), 0, nu, ba0, ba0, ba0, ba0, hereP ts en i⟩]⟩) := by
  obtain ⟨g, rfl⟩ : ∃ g, f = g + 1 + 1 := ⟨f - 2, by omega⟩
  unfold rankLoop
  rw [if_pos hu]
  simp only [primP, hb, ok_bind]
  rw [put_fit _ hm]
  exact rank_stop _ ju jv
theorem rank_v {u v : List UInt8} {nu nv : Int} {o : PS → Except PE (Nat × PS)} {f l b i j : Nat} {ns ms : List Nd} (hu : isP ts i u = false) (hv : isP ts i v = true) (hb : o ⟨i + 1, ns⟩ = .ok (b, ⟨j, ms⟩)) (hm : ms.length < 512) (ju : isP ts j u = false) (jv : isP ts j v = false) (hf : 2 ≤ f) : rankLoop ts en u v nu nv o f l ⟨i, ns⟩ = .ok (ms.length, ⟨j, ms ++ [⟨8, (l : Nat), (b : Nat), 0, nv, ba0, ba0, ba0, ba0, hereP ts en i⟩]⟩) := by
  obtain ⟨g, rfl⟩ : ∃ g, f = g + 1 + 1 := ⟨f - 2, by omega⟩
  unfold rankLoop
  rw [if_neg (by dsimp only; rw [hu]; decide), if_pos hv]
  simp only [primP, hb, ok_bind]
  rw [put_fit _ hm]
  exact rank_stop _ ju jv
theorem op_pr {n : Int} {A B : PT} {r : Nat} (h0 : 0 ≤ n) (h5 : n ≤ 5) (hA : AtS ts en A r) (hB : AtS ts en B r) : OpS ts en (.pr n A B) r := by
  intro i ns hk hs hl
  have hk : TkI ts i (brK A.atm A.tk ++ (sT (sgU n) :: brK B.atm B.tk)) := hk
  obtain ⟨h1, h2⟩ := tkI_app _ _ _ hk
  obtain ⟨h2, h3⟩ : TE ts _ (sT (sgU n)) ∧ TkI ts (_ + 1) (brK B.atm B.tk) := h2
  have hsz : (PT.pr n A B).sz = A.sz + B.sz + 1 := rfl
  have hlen : (PT.pr n A B).tk.length = (brK A.atm A.tk).length + 1 + (brK B.atm B.tk).length := by simp [PT.tk]; omega
  rw [hlen] at hs ⊢
  rw [hsz] at hl
  unfold Got
  rw [hsz]
  obtain ⟨fl, e1, e2, e3⟩ := hA _ ns h1 (by omega)
  obtain ⟨gl, f1, f2, f3⟩ := hB _ (ns ++ fl) h3 (by rw [List.length_append]; omega)
  rw [List.length_append, e2] at f1 f3
  obtain ⟨g1, g2⟩ := hd_atm h1
  obtain ⟨g3, g4⟩ := hd_atm h3
  have hq := h2.iss
  have hlt := h2.lt
  have hst : startsP ts (i + (brK A.atm A.tk).length) = false := by
    obtain ⟨t, ht, k0, k1⟩ := h2.s
    unfold startsP
    simp only [ht, hq]
    rw [show (t.kind == 0) = false by rw [k0]; rfl, show (t.kind == 1) = false by rw [k0]; rfl]
    have hn : n = 0 ∨ n = 1 ∨ n = 2 ∨ n = 3 ∨ n = 4 ∨ n = 5 := by omega
    rcases hn with rfl | rfl | rfl | rfl | rfl | rfl <;> decide
  have aA := apply_stop ((first_of (E := exprP ts en r) ns h1).trans e3) hst
  have fB := (first_of (E := exprP ts en r) (ns ++ fl) h3).trans f3
  rw [show i + (brK A.atm A.tk).length + 1 + (brK B.atm B.tk).length = i + ((brK A.atm A.tk).length + 1 + (brK B.atm B.tk).length) by omega] at fB
  have aB := apply_stop fB hs.s
  have pB := product_stop aB (hs.o _ (by simp)) (hs.o _ (by simp))
  have sB := sum_stop pB (hs.o _ (by simp)) (hs.o _ (by simp))
  have hms : (ns ++ fl ++ gl).length < 512 := by rw [List.length_append, List.length_append]; omega
  refine ⟨fl ++ (gl ++ [⟨8, (ns.length + A.sz - 1 : Nat), (ns.length + A.sz + B.sz - 1 : Nat), 0, n, ba0, ba0, ba0, ba0, hereP ts en (i + (brK A.atm A.tk).length)⟩]), ?_, ?_, ?_⟩
  · rw [List.map_append, List.map_append, e1, f1]; rfl
  · rw [List.length_append, List.length_append, e2, f2]; simp; omega
  rw [open_cmp (g1 _ (by simp)) (g1 _ (by simp)) (g1 _ (by simp))]
  have fin : (Except.ok ((ns ++ fl ++ gl).length, (⟨i + ((brK A.atm A.tk).length + 1 + (brK B.atm B.tk).length), ns ++ fl ++ gl ++ [⟨8, (ns.length + A.sz - 1 : Nat), (ns.length + A.sz + B.sz - 1 : Nat), 0, n, ba0, ba0, ba0, ba0, hereP ts en (i + (brK A.atm A.tk).length)⟩]⟩ : PS)) : Except PE (Nat × PS)) = .ok (ns.length + (A.sz + B.sz + 1) - 1, ⟨i + ((brK A.atm A.tk).length + 1 + (brK B.atm B.tk).length), ns ++ (fl ++ (gl ++ [⟨8, (ns.length + A.sz - 1 : Nat), (ns.length + A.sz + B.sz - 1 : Nat), 0, n, ba0, ba0, ba0, ba0, hereP ts en (i + (brK A.atm A.tk).length)⟩]))⟩) :=
    ok_eq (by rw [List.length_append, List.length_append]; omega) rfl (by simp)
  have hn : n = 0 ∨ n = 1 ∨ n = 2 ∨ n = 3 ∨ n = 4 ∨ n = 5 := by omega
  rcases hn with rfl | rfl | rfl | rfl | rfl | rfl
  · have pA := product_stop aA (by dsimp only; rw [hq]; decide) (by dsimp only; rw [hq]; decide)
    refine compare_stop ?_ (hs.o _ (by simp)) (hs.o _ (by simp))
    unfold sumP
    rw [pA]
    simp only [ok_bind]
    rw [rank_u (by rw [hq]; decide) pB hms (hs.o _ (by simp)) (hs.o _ (by simp)) (by omega)]
    exact fin
  · have pA := product_stop aA (by dsimp only; rw [hq]; decide) (by dsimp only; rw [hq]; decide)
    refine compare_stop ?_ (hs.o _ (by simp)) (hs.o _ (by simp))
    unfold sumP
    rw [pA]
    simp only [ok_bind]
    rw [rank_v (by rw [hq]; decide) (by rw [hq]; decide) pB hms (hs.o _ (by simp)) (hs.o _ (by simp)) (by omega)]
    exact fin
  · refine compare_stop (sum_stop ?_ (hs.o _ (by simp)) (hs.o _ (by simp))) (hs.o _ (by simp)) (hs.o _ (by simp))
    unfold productP
    rw [aA]
    simp only [ok_bind]
    rw [rank_u (by rw [hq]; decide) aB hms (hs.o _ (by simp)) (hs.o _ (by simp)) (by omega)]
    exact fin
  · refine compare_stop (sum_stop ?_ (hs.o _ (by simp)) (hs.o _ (by simp))) (hs.o _ (by simp)) (hs.o _ (by simp))
    unfold productP
    rw [aA]
    simp only [ok_bind]
    rw [rank_v (by rw [hq]; decide) (by rw [hq]; decide) aB hms (hs.o _ (by simp)) (hs.o _ (by simp)) (by omega)]
    exact fin
  · have sA := sum_stop (product_stop aA (by dsimp only; rw [hq]; decide) (by dsimp only; rw [hq]; decide)) (by dsimp only; rw [hq]; decide) (by dsimp only; rw [hq]; decide)
    unfold compareP
    rw [sA]
    simp only [ok_bind]
    rw [if_pos (by rw [hq]; decide)]
    simp only [primP, sB, ok_bind]
    rw [put_fit _ hms]
    exact fin
  · have sA := sum_stop (product_stop aA (by dsimp only; rw [hq]; decide) (by dsimp only; rw [hq]; decide)) (by dsimp only; rw [hq]; decide) (by dsimp only; rw [hq]; decide)
    unfold compareP
    rw [sA]
    simp only [ok_bind]
    rw [if_neg (by rw [hq]; decide), if_pos (by rw [hq]; decide)]
    simp only [primP, sB, ok_bind]
    rw [put_fit _ hms]
    exact fin
theorem at_var {nm : ByteArray} {r : Nat} : AtS ts en (.var nm) r := by
  intro i ns hk hl
  obtain ⟨h1, -⟩ : TE ts i (nT nm.data.toList) ∧ True := hk
  obtain ⟨t, ht, e⟩ := h1
  injection e with k0 k1
  have hl : ns.length + 1 ≤ 512 := hl
  refine ⟨[⟨0, 0, 0, 0, 0, nm, ba0, ba0, ba0, t.at_⟩], rfl, rfl, ?_⟩
  unfold atomP
  simp only [ht]
  rw [if_pos k0, put_fit _ (by omega), k1]; rfl
theorem at_int {n : Int} {r : Nat} : AtS ts en (.int n) r := by
  intro i ns hk hl
  obtain ⟨h1, -⟩ : TE ts i (iT n) ∧ True := hk
  obtain ⟨t, ht, e⟩ := h1
  injection e with k0 k1 k2
  have hl : ns.length + 1 ≤ 512 := hl
  refine ⟨[⟨1, 0, 0, 0, n, ba0, ba0, ba0, ba0, t.at_⟩], rfl, rfl, ?_⟩
  unfold atomP
  simp only [ht]
  rw [if_neg (by rw [k0]; decide), if_pos k0, put_fit _ (by omega), k2]; rfl
theorem at_bol {n : Int} {r : Nat} (hn : n = 0 ∨ n = 1) : AtS ts en (.bol n) r := by
  intro i ns hk hl
  obtain ⟨h1, -⟩ : TE ts i (kT (if n = 1 then kwTrue else kwFalse)) ∧ True := hk
  obtain ⟨t, ht, k0, k1⟩ := h1.k
  have q := h1.isk
  have hl : ns.length + 1 ≤ 512 := hl
  refine ⟨[⟨2, 0, 0, 0, n, ba0, ba0, ba0, ba0, t.at_⟩], rfl, rfl, ?_⟩
  unfold atomP
  simp only [ht]
  rw [if_neg (by rw [k0]; decide), if_neg (by rw [k0]; decide)]
  rcases hn with rfl | rfl
  · rw [if_neg (by rw [q]; decide), if_pos (by rw [q]; decide), put_fit _ (by omega)]; rfl
  · rw [if_pos (by rw [q]; decide), put_fit _ (by omega)]; rfl
/-- every part is read as it is. -/
theorem PT.rd : ∀ (T : PT), T.ok → (∀ r, sdD T ≤ r → AtS ts en T r) ∧ (∀ r, T.ins ≤ r → OpS ts en T r)
  | .var nm, h => ⟨fun r _ => at_var, fun r _ => opS_at rfl at_var⟩
  | .int n, h => ⟨fun r _ => at_int, fun r _ => opS_at rfl at_int⟩
  | .bol n, h => ⟨fun r _ => at_bol h, fun r _ => opS_at rfl (at_bol h)⟩
  | .fn x a, h => by
    have k : ∀ r, (PT.fn x a).ins ≤ r → OpS ts en (.fn x a) r := fun r hr => op_fn (exS_of (a.rd h.2).2 hr)
    exact ⟨fun r hr => atS_br rfl (exS_of k hr), k⟩
  | .app a b, h => by
    have k : ∀ r, (PT.app a b).ins ≤ r → OpS ts en (.app a b) r := fun r hr => op_app ((a.rd h.1).1 r (by have : max (sdD a) (sdD b) ≤ r := hr; omega)) ((b.rd h.2).1 r (by have : max (sdD a) (sdD b) ≤ r := hr; omega))
    exact ⟨fun r hr => atS_br rfl (exS_of k hr), k⟩
  | .lt x a b, h => by
    have k : ∀ r, (PT.lt x a b).ins ≤ r → OpS ts en (.lt x a b) r := fun r hr => op_lt (exS_of (a.rd h.2.1).2 (by have : max (a.ins + 1) (b.ins + 1) ≤ r := hr; omega)) (exS_of (b.rd h.2.2).2 (by have : max (a.ins + 1) (b.ins + 1) ≤ r := hr; omega))
    exact ⟨fun r hr => atS_br rfl (exS_of k hr), k⟩
  | .rc x y a b, h => by
    have k : ∀ r, (PT.rc x y a b).ins ≤ r → OpS ts en (.rc x y a b) r := fun r hr => op_rc (exS_of (a.rd h.2.1).2 (by have : max (a.ins + 1) (b.ins + 1) ≤ r := hr; omega)) (exS_of (b.rd h.2.2).2 (by have : max (a.ins + 1) (b.ins + 1) ≤ r := hr; omega))
    exact ⟨fun r hr => atS_br rfl (exS_of k hr), k⟩
  | .cd a b c, h => by
    have k : ∀ r, (PT.cd a b c).ins ≤ r → OpS ts en (.cd a b c) r := fun r hr => by
      have hr : max (max (a.ins + 1) (b.ins + 1)) (c.ins + 1) ≤ r := hr
      exact op_cd (exS_of (a.rd h.1).2 (by omega)) (exS_of (b.rd h.2.1).2 (by omega)) (exS_of (c.rd h.2.2).2 (by omega))
    exact ⟨fun r hr => atS_br rfl (exS_of k hr), k⟩
  | .pr n a b, h => by
    have k : ∀ r, (PT.pr n a b).ins ≤ r → OpS ts en (.pr n a b) r := fun r hr => op_pr h.1.1 h.1.2 ((a.rd h.2.1).1 r (by have : max (sdD a) (sdD b) ≤ r := hr; omega)) ((b.rd h.2.2).1 r (by have : max (sdD a) (sdD b) ≤ r := hr; omega))
    exact ⟨fun r hr => atS_br rfl (exS_of k hr), k⟩
  | .ac nm a, h => by
    have k : ∀ r, (PT.ac nm a).ins ≤ r → OpS ts en (.ac nm a) r := fun r hr => op_ac ((a.rd h.2).1 r hr)
    exact ⟨fun r hr => atS_br rfl (exS_of k hr), k⟩
  | .hn nm x y z a b c, h => by
    have k : ∀ r, (PT.hn nm x y z a b c).ins ≤ r → AtS ts en (.hn nm x y z a b c) r := fun r hr => by
      have hr : max (max (a.ins + 1) (b.ins + 1)) (c.ins + 1) ≤ r := hr
      exact at_hn (exS_of (a.rd h.2.1).2 (by omega)) (exS_of (b.rd h.2.2.1).2 (by omega)) (exS_of (c.rd h.2.2.2).2 (by omega))
    exact ⟨fun r hr => k r hr, fun r hr => opS_at rfl (k r hr)⟩
end
end Go.Proofs.YtidlljookjicpaaGreatDoor

/- What is printed is read again: the whole program; plain. -/
namespace Go.Proofs.YtidlljookjicpaaGreatDoor
open Go.RowKit
set_option linter.unusedVariables false
set_option linter.unusedSimpArgs false

def bsU (k : Int) : List UInt8 := if k = 1 then kwBool else kwInt
def opK (o : Or) : List Tk := [kT kwOp, nT o.nm.data.toList, sT sgColon, kT (bsU o.f), sT sgArrow, kT (bsU o.t), sT sgSemi]
theorem lx_bs (k : Int) : Lxs (bsT k) [kT (bsU k)] := by
  unfold bsT bsU
  by_cases h1 : k = 1
  · rw [if_pos h1, if_pos h1]; exact lxs_kw (c := 98) (x := [111, 111, 108]) (by decide) (by decide) (by decide)
  · rw [if_neg h1, if_neg h1]; exact lxs_kw (c := 105) (x := [110, 116]) (by decide) (by decide) (by decide)
theorem pc_semi : Lxf [59, 32] [sT sgSemi] := sg1 (u := sgSemi) (fun r => rfl) (by decide) (fun r => rfl)
theorem op_lex {o : Or} (h : orOk o) : Lxf (opT o) (opK o) := by
  have := (((((pc_op.apps (lxs_name h.1)).app pc_colon (by decide)).apps (lx_bs o.f)).app pc_arrow (by decide)).apps (lx_bs o.t)).app pc_semi (by decide)
  simpa [opT, opK] using this
theorem ops_lex : ∀ {os : List Or}, (∀ o ∈ os, orOk o) → Lxf (opsT os) (os.flatMap opK)
  | [], _ => fun r p acc => ⟨[], rfl, by show lxAt r p acc = lxAt r (p + 0) (acc ++ []); rw [List.append_nil]; rfl⟩
  | o :: os, h => by
    have := (op_lex (h o (.head _))).app (ops_lex fun o ho => h o (.tail _ ho))
    show Lxf ((o :: os).flatMap opT) _
    rw [List.flatMap_cons, List.flatMap_cons]; exact this
theorem asc_nm {x : ByteArray} (h : nmB x.data.toList = true) : asc x.data.toList = true := by
  unfold nmB at h
  rw [Bool.and_eq_true, Bool.and_eq_true] at h
  have h2 := h.1.2
  unfold letB at h2
  exact asc_isN (by
    generalize x.data.toList = l at h2
    cases l with
    | nil => rfl
    | cons c l =>
      simp only [Bool.and_eq_true] at h2
      rw [List.all_cons, Bool.and_eq_true]
      refine ⟨?_, h2.2⟩
      have := h2.1
      unfold isL at this; unfold isN; unfold isL; simp at this ⊢; omega)
theorem asc_brS {b : Bool} {l : List UInt8} (h : asc l = true) : asc (brS b l) = true := by
  unfold brS
  cases b
  · rw [if_neg (by decide), show (40 :: (l ++ [41]) : List UInt8) = [40] ++ (l ++ [41]) from rfl, asc_app, asc_app, h]; rfl
  · exact h
theorem asc_sg (n : Int) : asc (sgT n) = true := by
  unfold sgT
  repeat' split
  all_goals decide
theorem asc_itoa {n : Int} (h0 : 0 ≤ n) : asc (Lib.itoa n) = true := by
  obtain ⟨y, rfl⟩ := Int.eq_ofNat_of_zero_le h0
  rw [show Lib.itoa ((y : Nat) : Int) = Lib.decDigits y from itoa_nat y]
  obtain ⟨c, x, hd, hc, hx⟩ := dd_cons y
  rw [hd]; exact asc_isN hx
theorem PT.asc : ∀ (T : PT), T.ok → asc T.tx = true
  | .var nm, h => asc_nm h
  | .int n, h => asc_itoa h.1
  | .bol n, h => by simp only [PT.tx]; split <;> decide
  | .fn x a, h => by simp only [PT.tx, asc_app, asc_nm h.1, a.asc h.2]; decide
  | .app a b, h => by simp only [PT.tx, asc_app, asc_brS (a.asc h.1), asc_brS (b.asc h.2)]; decide
  | .lt x a b, h => by simp only [PT.tx, asc_app, asc_nm h.1, a.asc h.2.1, b.asc h.2.2]; decide
  | .rc x y a b, h => by simp only [PT.tx, asc_app, asc_nm h.1.1, asc_nm h.1.2, a.asc h.2.1, b.asc h.2.2]; decide
  | .cd a b c, h => by simp only [PT.tx, asc_app, a.asc h.1, b.asc h.2.1, c.asc h.2.2]; decide
  | .pr n a b, h => by simp only [PT.tx, asc_app, asc_sg, asc_brS (a.asc h.2.1), asc_brS (b.asc h.2.2)]; decide
  | .ac nm a, h => by simp only [PT.tx, asc_app, asc_nm h.1, asc_brS (a.asc h.2)]; decide
  | .hn nm x y z a b c, h => by simp only [PT.tx, asc_app, asc_nm h.1.1, asc_nm h.1.2.1, asc_nm h.1.2.2.1, asc_nm h.1.2.2.2, a.asc h.2.1, b.asc h.2.2.1, c.asc h.2.2.2]; decide
theorem asc_ops : ∀ {os : List Or}, (∀ o ∈ os, orOk o) → asc (opsT os) = true
  | [], _ => rfl
  | o :: os, h => by
    show asc ((o :: os).flatMap opT) = true
    rw [List.flatMap_cons, asc_app, show asc (os.flatMap opT) = true from asc_ops fun o ho => h o (.tail _ ho)]
    have hb : ∀ k, asc (bsT k) = true := fun k => by unfold bsT; split <;> decide
    simp only [opT, asc_app, asc_nm (h o (.head _)).1, hb]; decide
theorem text_lex {os : List Or} {T : PT} (ho : ∀ o ∈ os, orOk o) (hT : T.ok) (hl : (opsT os ++ T.tx).length ≤ 4096) : ∃ toks, toks.map b0 = os.flatMap opK ++ T.tk ∧ lexR (bs (opsT os ++ T.tx)) = (toks, 0, 0) := by
  obtain ⟨toks, e1, e2⟩ := ((ops_lex ho).apps (T.lex hT)) [] 0 [] rfl
  refine ⟨toks, e1, ?_⟩
  rw [lexR_asc (by rw [asc_app, asc_ops ho, T.asc hT]; rfl) hl]
  rw [List.append_nil, lxAt_nil, List.nil_append] at e2
  exact e2
section
variable {ts : List Tk} {en : Int}
theorem tkI_of {ks : List Tk} (h : ts.map b0 = ks) : ∀ (K : List Tk) (i : Nat), ks.drop i = K → TkI ts i K
  | [], i, _ => trivial
  | k :: K, i, hd => by
    have hk : ks[i]? = some k := by
      have := congrArg (·[0]?) hd
      simpa using this
    refine ⟨?_, tkI_of h K (i + 1) ?_⟩
    · rw [← h, List.getElem?_map] at hk
      cases ht : ts[i]? with
      | none => rw [ht] at hk; cases hk
      | some t =>
        rw [ht] at hk
        injection hk with hk
        exact ⟨t, ht, hk⟩
    · have := congrArg (List.drop 1) hd
      rw [List.drop_drop] at this
      exact this
theorem base_rd {k : Int} (hk : k = 0 ∨ k = 1) {i : Nat} {ns : List Nd} (h : TE ts i (kT (bsU k))) : baseP ts en ⟨i, ns⟩ = .ok (k, ⟨i + 1, ns⟩) := by
  have q := h.isk
  unfold baseP
  rcases hk with rfl | rfl
  · rw [if_pos (by rw [q]; decide)]
  · rw [if_neg (by rw [q]; decide), if_pos (by rw [q]; decide)]
theorem opK_len : ∀ (os : List Or), (os.flatMap opK).length = 7 * os.length
  | [] => rfl
  | o :: os => by rw [List.flatMap_cons, List.length_append, opK_len os, List.length_cons]; show 7 + _ = _; omega
theorem decl_end {os acc : List Or} {i f : Nat} {ns : List Nd} (hn : isP ts i kwOp = false) : declLoop ts en (f + 1) acc ⟨i, ns⟩ = .ok (acc, ⟨i, ns⟩) := by
  unfold declLoop
  rw [if_neg (by dsimp only; rw [hn]; decide)]
theorem decl_go {o : Or} {acc : List Or} {i f : Nat} {ns : List Nd} (ho : orOk o) (hk : TkI ts i (opK o)) (ha : acc.length < 4) : declLoop ts en (f + 1) acc ⟨i, ns⟩ = declLoop ts en f (acc ++ [o]) ⟨i + 7, ns⟩ := by
  obtain ⟨h1, h2, h3, h4, h5, h6, h7, -⟩ : TE ts i (kT kwOp) ∧ TE ts (i + 1) (nT o.nm.data.toList) ∧ TE ts (i + 1 + 1) (sT sgColon) ∧ TE ts (i + 1 + 1 + 1) (kT (bsU o.f)) ∧ TE ts (i + 1 + 1 + 1 + 1) (sT sgArrow) ∧ TE ts (i + 1 + 1 + 1 + 1 + 1) (kT (bsU o.t)) ∧ TE ts (i + 1 + 1 + 1 + 1 + 1 + 1) (sT sgSemi) ∧ True := hk
  obtain ⟨k1, k2, k3⟩ := ho
  have hd : declP ts en acc ⟨i, ns⟩ = .ok (acc ++ [o], ⟨i + 7, ns⟩) := by
    unfold declP
    rw [if_neg (by omega)]
    simp only [h2.name, ok_bind, h3.wants, base_rd k2 h4, h5.wants, base_rd k3 h6, h7.wants]
  conv => lhs; unfold declLoop
  rw [if_pos (by dsimp only; rw [h1.isk]; decide), hd]
  rfl
theorem decl_rd : ∀ (os acc : List Or) (i f : Nat) (ns : List Nd), (∀ o ∈ os, orOk o) → TkI ts i (os.flatMap opK) → acc.length + os.length ≤ 4 → isP ts (i + 7 * os.length) kwOp = false → os.length < f → declLoop ts en f acc ⟨i, ns⟩ = .ok (acc ++ os, ⟨i + 7 * os.length, ns⟩) := by
  intro os
  induction os with
  | nil =>
    intro acc i f ns _ _ _ hn hf
    obtain ⟨g, rfl⟩ : ∃ g, f = g + 1 := ⟨f - 1, by omega⟩
    have hn : isP ts i kwOp = false := hn
    rw [decl_end (os := []) hn, List.append_nil]; rfl
  | cons o os ih =>
    intro acc i f ns ho hk ha hn hf
    rw [List.flatMap_cons] at hk
    obtain ⟨h1, h2⟩ := tkI_app _ _ _ hk
    rw [List.length_cons] at ha hn hf
    obtain ⟨g, rfl⟩ : ∃ g, f = g + 1 := ⟨f - 1, by omega⟩
    have h2 : TkI ts (i + 7) (os.flatMap opK) := h2
    rw [decl_go (ho o (.head _)) h1 (by omega), ih (acc ++ [o]) (i + 7) g ns (fun o h => ho o (.tail _ h)) h2 (by rw [List.length_append]; simp; omega) (by rw [show i + 7 + 7 * os.length = i + 7 * (os.length + 1) by omega]; exact hn) (by omega), List.length_cons, show i + 7 + 7 * os.length = i + 7 * (os.length + 1) by omega, List.append_assoc]
    rfl
theorem nop_br : ∀ {T : PT} {i : Nat}, TkI ts i (brK T.atm T.tk) → isP ts i kwOp = false
  | .var nm, i, h => (show TE ts i _ from h.1).isn _
  | .int n, i, h => (show TE ts i (iT n) from h.1).isi _
  | .bol n, i, h => by
    have h : TE ts i (kT (if n = 1 then kwTrue else kwFalse)) := h.1
    rw [h.isk]
    split <;> decide
  | .hn nm x y z a b c, i, h => by rw [(show TE ts i (kT kwHandle) from h.1).isk]; decide
  | .fn x a, i, h => by rw [(show TE ts i (sT sgOpen) from h.1).iss]; decide
  | .app a b, i, h => by rw [(show TE ts i (sT sgOpen) from h.1).iss]; decide
  | .lt x a b, i, h => by rw [(show TE ts i (sT sgOpen) from h.1).iss]; decide
  | .rc x y a b, i, h => by rw [(show TE ts i (sT sgOpen) from h.1).iss]; decide
  | .cd a b c, i, h => by rw [(show TE ts i (sT sgOpen) from h.1).iss]; decide
  | .pr n a b, i, h => by rw [(show TE ts i (sT sgOpen) from h.1).iss]; decide
  | .ac nm a, i, h => by rw [(show TE ts i (sT sgOpen) from h.1).iss]; decide
theorem nop : ∀ {T : PT} {i : Nat}, TkI ts i T.tk → isP ts i kwOp = false
  | .var nm, i, h => nop_br (T := .var nm) h
  | .int n, i, h => nop_br (T := .int n) h
  | .bol n, i, h => nop_br (T := .bol n) h
  | .hn nm x y z a b c, i, h => nop_br (T := .hn nm x y z a b c) h
  | .fn x a, i, h => by rw [(show TE ts i (kT kwFun) from h.1).isk]; decide
  | .app a b, i, h => nop_br (tkI_app _ _ _ (show TkI ts i (brK a.atm a.tk ++ brK b.atm b.tk) from h)).1
  | .lt x a b, i, h => by rw [(show TE ts i (kT kwLet) from h.1).isk]; decide
  | .rc x y a b, i, h => by rw [(show TE ts i (kT kwLet) from h.1).isk]; decide
  | .cd a b c, i, h => by rw [(show TE ts i (kT kwIf) from h.1).isk]; decide
  | .pr n a b, i, h => nop_br (tkI_app _ _ _ (show TkI ts i (brK a.atm a.tk ++ ([sT (sgU n)] ++ brK b.atm b.tk)) from h)).1
  | .ac nm a, i, h => by rw [(show TE ts i (kT kwDo) from h.1).isk]; decide
theorem prog_rd {os : List Or} {T : PT} (ho : ∀ o ∈ os, orOk o) (hT : T.ok) (hk : ts.map b0 = os.flatMap opK ++ T.tk) (hi : T.ins + 1 ≤ 40) (hsz : T.sz ≤ 512) (ho4 : os.length ≤ 4) : ∃ fl, fl.map bare0 = T.fl 0 ∧ fl.length = T.sz ∧ progP ts en = .ok (os, fl) := by
  have hl : ts.length = 7 * os.length + T.tk.length := by
    have := congrArg List.length hk
    rw [List.length_map, List.length_append, opK_len] at this; exact this
  obtain ⟨h1, h2⟩ := tkI_app _ _ _ (tkI_of hk _ 0 rfl)
  rw [opK_len] at h2
  have hd := decl_rd (en := en) os [] 0 (ts.length + 1) [] ho h1 (by simpa using ho4) (nop h2) (by omega)
  obtain ⟨fl, e1, e2, e3⟩ := exS_of (ts := ts) (en := en) (T.rd hT).2 (r := 40) hi (0 + 7 * os.length) [] h2 (stop_end (by omega)) (by simpa using hsz)
  refine ⟨fl, e1, e2, ?_⟩
  unfold progP
  rw [hd]
  simp only [ok_bind]
  rw [e3]
  simp only [ok_bind]
  rw [if_neg (by omega)]; rfl
end
/- The nodes of a part, in a row. -/
/-- what is printed is read again. -/
theorem read_back {os : List Or} {ts : List Nd} {T : PT} {l : List UInt8} (h : MayT os ts T) (hl : outV os T = some l) : ∃ ns, parseV (bs l) = .ok (os, ns) ∧ ns.map bare0 = ts.map bare0 := by
  unfold outV at hl
  split at hl
  · rename_i hc
    injection hl with hl
    subst hl
    obtain ⟨toks, e1, e2⟩ := text_lex h.os h.ok hc.2
    obtain ⟨fl, f1, f2, f3⟩ := prog_rd (en := ((bs (opsT os ++ T.tx)).size : Int)) h.os h.ok e1 hc.1 (by rw [h.sz]; exact h.l2) h.o4
    refine ⟨fl, ?_, f1.trans h.fl.symm⟩
    unfold parseV
    rw [e2, if_pos rfl, f3]
  · cases hl
end Go.Proofs.YtidlljookjicpaaGreatDoor

/- What is printed: how long, how deep; the parts that a row of nodes holds. Plain. -/
namespace Go.Proofs.YtidlljookjicpaaGreatDoor
open Go.RowKit
set_option linter.unusedVariables false
set_option linter.unusedSimpArgs false

theorem mxL_ge1 (f : Nat → Int) (a d : Int) : f a.toNat ≤ mxL f [a] d := by simp only [mxL]; omega
theorem mxL_ge2 (f : Nat → Int) (a b d : Int) : f a.toNat ≤ mxL f [a, b] d ∧ f b.toNat ≤ mxL f [a, b] d := by simp only [mxL]; omega
theorem mxL_ge3 (f : Nat → Int) (a b c d : Int) : f a.toNat ≤ mxL f [a, b, c] d ∧ f b.toNat ≤ mxL f [a, b, c] d ∧ f c.toNat ≤ mxL f [a, b, c] d := by simp only [mxL]; omega
theorem sdD_le (a : PT) : sdD a ≤ a.ins + 1 := by unfold sdD; split <;> omega
theorem PT.At.dep {us : List Nd} : ∀ {T : PT} {i : Nat}, T.At us i → 0 ≤ bg (ksN us) i → (T.ins : Int) + 1 ≤ dp (ksN us) i
  | .var m, i, ⟨p, h⟩, hbg => by
    rw [dp_eq _ _ hbg]
    have e : ksN us i = [] := by show kidsL (us.getD i nd0).k (us.getD i nd0).a (us.getD i nd0).b (us.getD i nd0).c = _; rw [h]; rfl
    rw [e]; show (0 : Int) + 1 ≤ 0 + 1; omega
  | .int m, i, ⟨p, h⟩, hbg => by
    rw [dp_eq _ _ hbg]
    have e : ksN us i = [] := by show kidsL (us.getD i nd0).k (us.getD i nd0).a (us.getD i nd0).b (us.getD i nd0).c = _; rw [h]; rfl
    rw [e]; show (0 : Int) + 1 ≤ 0 + 1; omega
  | .bol m, i, ⟨p, h⟩, hbg => by
    rw [dp_eq _ _ hbg]
    have e : ksN us i = [] := by show kidsL (us.getD i nd0).k (us.getD i nd0).a (us.getD i nd0).b (us.getD i nd0).c = _; rw [h]; rfl
    rw [e]; show (0 : Int) + 1 ≤ 0 + 1; omega
  | .fn x a, i, ⟨j, p, e0, h, ha⟩, hbg => by
    have hk := kid_ok (ksN us) i hbg
    have hd := dp_eq (ksN us) i hbg
    have e : ksN us i = [(j : Int)] := by show kidsL (us.getD i nd0).k (us.getD i nd0).a (us.getD i nd0).b (us.getD i nd0).c = _; rw [h]; rfl
    rw [e] at hk hd
    have qa := ha.dep (hk j (by simp)).2.2
    have g0 := mxL_ge1 (dp (ksN us)) j 0
    rw [Int.toNat_natCast] at g0
    show ((a.ins + 1 : Nat) : Int) + 1 ≤ _
    omega
  | .app a b, i, ⟨j, k, p, e0, e1, h, ha, hb⟩, hbg => by
    have hk := kid_ok (ksN us) i hbg
    have hd := dp_eq (ksN us) i hbg
    have e : ksN us i = [(j : Int), (k : Int)] := by show kidsL (us.getD i nd0).k (us.getD i nd0).a (us.getD i nd0).b (us.getD i nd0).c = _; rw [h]; rfl
    rw [e] at hk hd
    have qa := ha.dep (hk j (by simp)).2.2
    have qb := hb.dep (hk k (by simp)).2.2
    obtain ⟨g0, g1⟩ := mxL_ge2 (dp (ksN us)) j k 0
    rw [Int.toNat_natCast] at g0
    rw [Int.toNat_natCast] at g1
    have sa := sdD_le a
    have sb := sdD_le b
    show ((max (sdD a) (sdD b) : Nat) : Int) + 1 ≤ _
    omega
  | .lt x a b, i, ⟨j, k, p, e0, e1, h, ha, hb⟩, hbg => by
    have hk := kid_ok (ksN us) i hbg
    have hd := dp_eq (ksN us) i hbg
    have e : ksN us i = [(j : Int), (k : Int)] := by show kidsL (us.getD i nd0).k (us.getD i nd0).a (us.getD i nd0).b (us.getD i nd0).c = _; rw [h]; rfl
    rw [e] at hk hd
    have qa := ha.dep (hk j (by simp)).2.2
    have qb := hb.dep (hk k (by simp)).2.2
    obtain ⟨g0, g1⟩ := mxL_ge2 (dp (ksN us)) j k 0
    rw [Int.toNat_natCast] at g0
    rw [Int.toNat_natCast] at g1
    show ((max (a.ins + 1) (b.ins + 1) : Nat) : Int) + 1 ≤ _
    omega
  | .rc x y a b, i, ⟨j, k, p, e0, e1, h, ha, hb⟩, hbg => by
    have hk := kid_ok (ksN us) i hbg
    have hd := dp_eq (ksN us) i hbg
    have e : ksN us i = [(j : Int), (k : Int)] := by show kidsL (us.getD i nd0).k (us.getD i nd0).a (us.getD i nd0).b (us.getD i nd0).c = _; rw [h]; rfl
    rw [e] at hk hd
    have qa := ha.dep (hk j (by simp)).2.2
    have qb := hb.dep (hk k (by simp)).2.2
    obtain ⟨g0, g1⟩ := mxL_ge2 (dp (ksN us)) j k 0
    rw [Int.toNat_natCast] at g0
    rw [Int.toNat_natCast] at g1
    show ((max (a.ins + 1) (b.ins + 1) : Nat) : Int) + 1 ≤ _
    omega
  | .cd a b c, i, ⟨j, k, m, p, e0, e1, e2, h, ha, hb, hc⟩, hbg => by
    have hk := kid_ok (ksN us) i hbg
    have hd := dp_eq (ksN us) i hbg
    have e : ksN us i = [(j : Int), (k : Int), (m : Int)] := by show kidsL (us.getD i nd0).k (us.getD i nd0).a (us.getD i nd0).b (us.getD i nd0).c = _; rw [h]; rfl
    rw [e] at hk hd
    have qa := ha.dep (hk j (by simp)).2.2
    have qb := hb.dep (hk k (by simp)).2.2
    have qc := hc.dep (hk m (by simp)).2.2
    obtain ⟨g0, g1, g2⟩ := mxL_ge3 (dp (ksN us)) j k m 0
    rw [Int.toNat_natCast] at g0
    rw [Int.toNat_natCast] at g1
    rw [Int.toNat_natCast] at g2
    show ((max (max (a.ins + 1) (b.ins + 1)) (c.ins + 1) : Nat) : Int) + 1 ≤ _
    omega
  | .pr n a b, i, ⟨j, k, p, e0, e1, h, ha, hb⟩, hbg => by
    have hk := kid_ok (ksN us) i hbg
    have hd := dp_eq (ksN us) i hbg
    have e : ksN us i = [(j : Int), (k : Int)] := by show kidsL (us.getD i nd0).k (us.getD i nd0).a (us.getD i nd0).b (us.getD i nd0).c = _; rw [h]; rfl
    rw [e] at hk hd
    have qa := ha.dep (hk j (by simp)).2.2
    have qb := hb.dep (hk k (by simp)).2.2
    obtain ⟨g0, g1⟩ := mxL_ge2 (dp (ksN us)) j k 0
    rw [Int.toNat_natCast] at g0
    rw [Int.toNat_natCast] at g1
    have sa := sdD_le a
    have sb := sdD_le b
    show ((max (sdD a) (sdD b) : Nat) : Int) + 1 ≤ _
    omega
  | .ac nm a, i, ⟨j, p, e0, h, ha⟩, hbg => by
    have hk := kid_ok (ksN us) i hbg
    have hd := dp_eq (ksN us) i hbg
    have e : ksN us i = [(j : Int)] := by show kidsL (us.getD i nd0).k (us.getD i nd0).a (us.getD i nd0).b (us.getD i nd0).c = _; rw [h]; rfl
    rw [e] at hk hd
    have qa := ha.dep (hk j (by simp)).2.2
    have g0 := mxL_ge1 (dp (ksN us)) j 0
    rw [Int.toNat_natCast] at g0
    have sa := sdD_le a
    show ((sdD a : Nat) : Int) + 1 ≤ _
    omega
  | .hn nm x y z a b c, i, ⟨j, k, m, p, e0, e1, e2, h, ha, hb, hc⟩, hbg => by
    have hk := kid_ok (ksN us) i hbg
    have hd := dp_eq (ksN us) i hbg
    have e : ksN us i = [(j : Int), (k : Int), (m : Int)] := by show kidsL (us.getD i nd0).k (us.getD i nd0).a (us.getD i nd0).b (us.getD i nd0).c = _; rw [h]; rfl
    rw [e] at hk hd
    have qa := ha.dep (hk j (by simp)).2.2
    have qb := hb.dep (hk k (by simp)).2.2
    have qc := hc.dep (hk m (by simp)).2.2
    obtain ⟨g0, g1, g2⟩ := mxL_ge3 (dp (ksN us)) j k m 0
    rw [Int.toNat_natCast] at g0
    rw [Int.toNat_natCast] at g1
    rw [Int.toNat_natCast] at g2
    show ((max (max (a.ins + 1) (b.ins + 1)) (c.ins + 1) : Nat) : Int) + 1 ≤ _
    omega
theorem outV_none {os : List Or} {ts : List Nd} {T : PT} (h : MayT os ts T) (hb : 0 ≤ bg (ksN ts) (ts.length - 1)) (hn : outV os T = none) : 40 < dp (ksN ts) (ts.length - 1) ∨ 30 < ts.length := by
  have h1 := h.at_.dep hb
  have h2 := T.tx_len2 h.ok
  have h3 := opsT_len h.os
  have h4 := h.o4
  have h5 := h.sz
  unfold outV at hn
  split at hn
  · cases hn
  · rename_i hc
    rw [List.length_append] at hc
    by_cases h40 : T.ins + 1 ≤ 40
    · right
      have : ¬ (opsT os).length + T.tx.length ≤ 4096 := fun h => hc ⟨h40, h⟩
      omega
    · left; omega
end Go.Proofs.YtidlljookjicpaaGreatDoor
