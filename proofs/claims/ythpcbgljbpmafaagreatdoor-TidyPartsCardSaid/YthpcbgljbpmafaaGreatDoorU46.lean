/- A chain of prims of numbers, tidied. Plain. -/
import Derived.Test.YthpcbgljbpmafaaGreatDoorU41
import Derived.Test.YthpcbgljbpmafaaGreatDoorU42
import Derived.Test.YthpcbgljbpmafaaGreatDoorU43
import Derived.Test.YthpcbgljbpmafaaGreatDoorU45
set_option maxRecDepth 100000
set_option maxHeartbeats 8000000
namespace Go.Proofs.YthpcbgljbpmafaaGreatDoor
open Go.RowKit
set_option linter.unusedVariables false
set_option linter.unusedSimpArgs false
def nxV (p s x : Int) : Int := if p = 1 then s - x else if p = 2 then s * x else if p = 3 then (if 0 < x then s.tdiv x else -1) else s + x
structure Dp (j : Nat) (ns : List Nd) (s : Int) (kept : Bool) : Prop where
 may : smayV [] ns = true
 len : ns.length = 2 * j + 1
 s0 : 0 ≤ s ∧ s ≤ 1073741823
 no : kept = false → ∃ y, td ns (ns.length - 1) [] = [y] ∧ y.k = 1 ∧ y.n = s
 yes : kept = true → ∃ y r z, td ns (ns.length - 1) [] = y :: (r ++ [z]) ∧ y.k = 1 ∧ y.n = s ∧ z.k = 8
theorem dp_zero : Dp 0 [lfN 1 1 0] 1 false := by
 refine ⟨by rw [smay_c]; decide +kernel, rfl, by omega, fun _ => ⟨lfN 1 1 0, by kernel_rfl, rfl, rfl⟩, fun h => by cases h⟩
theorem kv_nx {x a b : Nd} {p s v : Int} (hp : p = 0 ∨ p = 1 ∨ p = 2 ∨ p = 3) (hx : x.n = p) (ha : a.k = 1) (han : a.n = s) (hb : b.k = 1) (hbn : b.n = v) (hs : 0 ≤ s ∧ s ≤ 1073741823) (hv : 0 ≤ v ∧ v ≤ 63) :
  knownV x a b = if nxV p s v < 0 ∨ 1073741823 < nxV p s v then none else some (lfN 1 (nxV p s v) x.p) := by
 unfold knownV
 rw [if_pos ⟨ha, hb⟩, hx, han, hbn]
 have hn : ∀ n : Int, (if (numO n).1 = 1 then some (lfN 2 (numO n).2 x.p) else if (numO n).1 = 0 ∧ 0 ≤ (numO n).2 then some (lfN 1 (numO n).2 x.p) else none) = if n < 0 ∨ 1073741823 < n then none else some (lfN 1 n x.p) := by
  intro n
  unfold numO
  by_cases h1 : n < -1073741824 ∨ 1073741823 < n
  ·rw [if_pos h1, if_pos (show n < 0 ∨ 1073741823 < n by omega)]; simp
  ·rw [if_neg h1]
   by_cases h2 : n < 0
   ·rw [if_pos (show n < 0 ∨ 1073741823 < n by omega)]; simp; omega
   ·rw [if_neg (show ¬ (n < 0 ∨ 1073741823 < n) by omega)]; simp; omega
 rcases hp with rfl | rfl | rfl | rfl
 ·rw [show prmV 0 s v = numO (s + v) from rfl, show nxV 0 s v = s + v from rfl]; exact hn _
 ·rw [show prmV 1 s v = numO (s - v) from rfl, show nxV 1 s v = s - v from rfl]; exact hn _
 ·rw [show prmV 2 s v = numO (s * v) from rfl, show nxV 2 s v = s * v from rfl]; exact hn _
 ·by_cases h0 : v = 0
  ·rw [show prmV 3 s v = (3, 1) by unfold prmV; simp [h0], show nxV 3 s v = -1 by unfold nxV; simp [h0]]; simp
  ·rw [show prmV 3 s v = numO (s.tdiv v) by unfold prmV; simp [h0], show nxV 3 s v = s.tdiv v by unfold nxV; simp; omega]; exact hn _
theorem dp_step {j : Nat} {ns : List Nd} {s v p : Int} {kept : Bool} (h : Dp j ns s kept) (hj : j < 200) (hv : 0 ≤ v ∧ v ≤ 63) (hp : p = 0 ∨ p = 1 ∨ p = 2 ∨ p = 3) :
  Dp (j + 1) (ns ++ [lfN 1 v 0, ⟨8, 2 * (j : Int), 2 * (j : Int) + 1, 0, p, ⟨#[]⟩, ⟨#[]⟩, ⟨#[]⟩, ⟨#[]⟩, 0⟩]) (if kept = true ∨ (nxV p s v < 0 ∨ 1073741823 < nxV p s v) then s else nxV p s v) (kept || decide (nxV p s v < 0 ∨ 1073741823 < nxV p s v)) := by
 have hl := h.len
 have hb : (⟨8, 2 * (j : Int), 2 * (j : Int) + 1, 0, p, ⟨#[]⟩, ⟨#[]⟩, ⟨#[]⟩, ⟨#[]⟩, 0⟩ : Nd) = biN 8 p ns := by
  unfold biN
  rw [show ((ns.length - 1 : Nat) : Int) = 2 * (j : Int) by omega, show (ns.length : Int) = 2 * (j : Int) + 1 by omega]
 rw [hb]
 have h512 : ns.length + 2 ≤ 512 := by omega
 have hk8 : (8 : Int) = 4 ∧ p = 0 ∨ (8 : Int) = 8 ∧ 0 ≤ p ∧ p ≤ 5 := .inr ⟨rfl, by omega⟩
 have hm := smay_bi h.may h512 (v := v) (by omega) hk8
 have ht := td_bi h.may h512 (v := v) (by omega) hk8 []
 rw [if_pos rfl] at ht
 have hlen : (ns ++ [lfN 1 v 0, biN 8 p ns]).length - 1 = ns.length + 1 := by simp
 refine ⟨hm, by simp; omega, ?_, fun hk => ?_, fun hk => ?_⟩
 ·by_cases hc : kept = true ∨ (nxV p s v < 0 ∨ 1073741823 < nxV p s v)
  ·rw [if_pos hc]; exact h.s0
  ·rw [if_neg hc]; omega
 ·rw [hlen, ht]
  simp only [Bool.or_eq_false_iff, decide_eq_false_iff_not] at hk
  obtain ⟨hk1, hk2⟩ := hk
  obtain ⟨y, hy, hy1, hy2⟩ := h.no hk1
  rw [hy, if_neg (by rw [hk1]; simp only [Bool.false_eq_true, false_or]; exact hk2)]
  have e : ([y] ++ [lfN 1 v 0]).getD (lstI [y]) nd0 = y := rfl
  rw [e, kv_nx hp (show (biN 8 p ns).n = p from rfl) hy1 hy2 (show (lfN 1 v 0).k = 1 from rfl) (show (lfN 1 v 0).n = v from rfl) h.s0 hv, if_neg hk2]
  exact ⟨_, rfl, rfl, rfl⟩
 ·rw [hlen, ht]
  cases kept with
  | true =>
   obtain ⟨y, r, z, hy, hy1, hy2, hz⟩ := h.yes rfl
   rw [hy, if_pos (.inl rfl)]
   have e : (y :: (r ++ [z]) ++ [lfN 1 v 0]).getD (lstI (y :: (r ++ [z]))) nd0 = z := by
    have : lstI (y :: (r ++ [z])) = (y :: r).length := by simp [lstI]
    rw [this, show y :: (r ++ [z]) ++ [lfN 1 v 0] = (y :: r) ++ z :: [lfN 1 v 0] by simp, getD_at]
   have hn : knownV (biN 8 p ns) z (lfN 1 v 0) = none := by unfold knownV; rw [if_neg (by rw [hz]; intro h; exact absurd h.1 (by decide))]
   rw [e, hn]
   exact ⟨y, r ++ [z, lfN 1 v 0], _, by simp; rfl, hy1, hy2, rfl⟩
  | false =>
   simp only [Bool.false_or, decide_eq_true_eq] at hk
   obtain ⟨y, hy, hy1, hy2⟩ := h.no rfl
   rw [hy, if_pos (.inr hk)]
   have e : ([y] ++ [lfN 1 v 0]).getD (lstI [y]) nd0 = y := rfl
   rw [e, kv_nx hp (show (biN 8 p ns).n = p from rfl) hy1 hy2 (show (lfN 1 v 0).k = 1 from rfl) (show (lfN 1 v 0).n = v from rfl) h.s0 hv, if_pos hk]
   exact ⟨y, [lfN 1 v 0], _, rfl, hy1, hy2, rfl⟩
open Go.RowKit
theorem tput_any {B G : Nat} {sv : Value} {ts : List Nd} (hT : Tre ts) : ∀ (i : Nat), i < ts.length → TdP B G sv ts i := by
 have hkb : ∀ i, i < ts.length → KidB ts i := fun j hj => hT.kidB hj
 intro i
 induction i using Nat.strongRecOn with
 | ind i ih =>
  intro hi W mv1 m h hn hbd
  rw [td_eq ts hkb i hi]
  have hk := hT.ok _ (Tre.mem hi)
  have hkids := hT.kids hi
  have hnn := hT.prim _ (Tre.mem hi)
  dsimp only at hkids
  obtain ⟨x, hx⟩ : ∃ x, ts.getD i nd0 = x := ⟨_, rfl⟩
  rw [hx] at hk hkids hnn ⊢
  obtain ⟨k, xa, xb, xc, n, nm, u, y, z, at_⟩ := x
  have hle := bg_le (ksN ts) i
  have hTh := Lib.hid hT
  have hk : k = 0 ∨ k = 1 ∨ k = 2 ∨ k = 3 ∨ k = 4 ∨ k = 5 ∨ k = 6 ∨ k = 7 ∨ k = 8 ∨ k = 9 ∨ k = 10 := hk
  have hkids : ¬ (k = 0 ∨ k = 1 ∨ k = 2) → ∃ a : Nat, xa = a ∧ a < i ∧ bg (ksN ts) a = bg (ksN ts) i ∧
   ((k = 3 ∨ k = 9) ∧ a + 1 = i ∨ ¬ (k = 3 ∨ k = 9) ∧ ∃ b : Nat, xb = b ∧ b < i ∧ a < b ∧ bg (ksN ts) b = (a : Int) + 1 ∧
    ((k = 7 ∨ k = 10) ∧ (∃ c : Nat, xc = c ∧ c < i ∧ b < c ∧ bg (ksN ts) c = (b : Int) + 1 ∧ c + 1 = i) ∨ ¬ (k = 7 ∨ k = 10) ∧ b + 1 = i)) := hkids
  have hnn : k = 8 → 0 ≤ n ∧ n ≤ 5 := hnn
  have hint := fun (j : Nat) (hj : j < ts.length) (m : List Nd) (hm : IntOk m) => td_int ts hkb hT.int j hj m hm
  have hadd := fun (j : Nat) (hj : j < ts.length) (m : List Nd) => td_adds ts hkb j hj m
  have hln := fun (j : Nat) (hj : j < ts.length) (m : List Nd) => td_len hT j hj m
  rcases hk with rfl | rfl | rfl | rfl | rfl | rfl | rfl | rfl | rfl | rfl | rfl
  ·have e : tdS (td ts) ⟨0, xa, xb, xc, n, nm, u, y, z, at_⟩ m = m ++ [⟨0, xa, xb, xc, n, nm, u, y, z, at_⟩] := by simp [tdS]
   rw [e]
   exact tput0 B G sv ts i W mv1 m xa xb xc n nm u y z at_ hx hi h hn hTh (by omega)
  ·have e : tdS (td ts) ⟨1, xa, xb, xc, n, nm, u, y, z, at_⟩ m = m ++ [⟨1, xa, xb, xc, n, nm, u, y, z, at_⟩] := by simp [tdS]
   rw [e]
   exact tput1 B G sv ts i W mv1 m xa xb xc n nm u y z at_ hx hi h hn hTh (by omega)
  ·have e : tdS (td ts) ⟨2, xa, xb, xc, n, nm, u, y, z, at_⟩ m = m ++ [⟨2, xa, xb, xc, n, nm, u, y, z, at_⟩] := by simp [tdS]
   rw [e]
   exact tput2 B G sv ts i W mv1 m xa xb xc n nm u y z at_ hx hi h hn hTh (by omega)
  ·obtain ⟨a, rfl, h1, h2, h3⟩ := hkids (by decide)
   rcases h3 with ⟨_, h3⟩ | ⟨hf, _⟩
   ·have la := hln a (by omega) m
    have e : tdS (td ts) ⟨3, a, xb, xc, n, nm, u, y, z, at_⟩ m = td ts a m ++ [⟨3, lstI (td ts a m), xb, xc, n, nm, u, y, z, at_⟩] := by simp [tdS, setA]
    rw [e]
    exact tput3 B G sv ts i W mv1 m a xb xc n nm u y z at_ hx hi h hn hTh (Lib.hid (ih a h1 (by omega))) (by omega) (by omega)
   ·exact absurd (by decide) hf
  ·obtain ⟨a, rfl, h1, h2, h3⟩ := hkids (by decide)
   rcases h3 with ⟨hf, _⟩ | ⟨_, b, rfl, h4, h5, h6, h7⟩
   ·exact absurd hf (by decide)
   have la := hln a (by omega) m
   have lb := hln b (by omega) (td ts a m)
   have ia := hint a (by omega) m hn.out
   have ib := hint b (by omega) (td ts a m) ia
   have aa := (hadd a (by omega) m).lenlt
   have ab := (hadd b (by omega) (td ts a m)).lenlt
   rcases h7 with ⟨hf, _⟩ | ⟨_, h7⟩
   ·exact absurd hf (by decide)
   have e : tdS (td ts) ⟨4, a, b, xc, n, nm, u, y, z, at_⟩ m = td ts b (td ts a m) ++ [⟨4, lstI (td ts a m), lstI (td ts b (td ts a m)), xc, n, nm, u, y, z, at_⟩] := by simp [tdS, setAB]
   rw [e]
   exact tput4 B G sv ts i W mv1 m a b xc n nm u y z at_ hx hi h hn hTh (Lib.hid (ih a h1 (by omega))) (by omega) (Lib.hid (ih b h4 (by omega))) (Lib.hid ia) (by omega) (by omega)
  ·obtain ⟨a, rfl, h1, h2, h3⟩ := hkids (by decide)
   rcases h3 with ⟨hf, _⟩ | ⟨_, b, rfl, h4, h5, h6, h7⟩
   ·exact absurd hf (by decide)
   have la := hln a (by omega) m
   have lb := hln b (by omega) (td ts a m)
   have ia := hint a (by omega) m hn.out
   have ib := hint b (by omega) (td ts a m) ia
   have aa := (hadd a (by omega) m).lenlt
   have ab := (hadd b (by omega) (td ts a m)).lenlt
   rcases h7 with ⟨hf, _⟩ | ⟨_, h7⟩
   ·exact absurd hf (by decide)
   have e : tdS (td ts) ⟨5, a, b, xc, n, nm, u, y, z, at_⟩ m = td ts b (td ts a m) ++ [⟨5, lstI (td ts a m), lstI (td ts b (td ts a m)), xc, n, nm, u, y, z, at_⟩] := by simp [tdS, setAB]
   rw [e]
   exact tput5 B G sv ts i W mv1 m a b xc n nm u y z at_ hx hi h hn hTh (Lib.hid (ih a h1 (by omega))) (by omega) (Lib.hid (ih b h4 (by omega))) (Lib.hid ia) (by omega) (by omega)
  ·obtain ⟨a, rfl, h1, h2, h3⟩ := hkids (by decide)
   rcases h3 with ⟨hf, _⟩ | ⟨_, b, rfl, h4, h5, h6, h7⟩
   ·exact absurd hf (by decide)
   have la := hln a (by omega) m
   have lb := hln b (by omega) (td ts a m)
   have ia := hint a (by omega) m hn.out
   have ib := hint b (by omega) (td ts a m) ia
   have aa := (hadd a (by omega) m).lenlt
   have ab := (hadd b (by omega) (td ts a m)).lenlt
   rcases h7 with ⟨hf, _⟩ | ⟨_, h7⟩
   ·exact absurd hf (by decide)
   have e : tdS (td ts) ⟨6, a, b, xc, n, nm, u, y, z, at_⟩ m = td ts b (td ts a m) ++ [⟨6, lstI (td ts a m), lstI (td ts b (td ts a m)), xc, n, nm, u, y, z, at_⟩] := by simp [tdS, setAB]
   rw [e]
   exact tput6 B G sv ts i W mv1 m a b xc n nm u y z at_ hx hi h hn hTh (Lib.hid (ih a h1 (by omega))) (by omega) (Lib.hid (ih b h4 (by omega))) (Lib.hid ia) (by omega) (by omega)
  ·obtain ⟨a, rfl, h1, h2, h3⟩ := hkids (by decide)
   rcases h3 with ⟨hf, _⟩ | ⟨_, b, rfl, h4, h5, h6, h7⟩
   ·exact absurd hf (by decide)
   have la := hln a (by omega) m
   have lb := hln b (by omega) (td ts a m)
   have ia := hint a (by omega) m hn.out
   have ib := hint b (by omega) (td ts a m) ia
   have aa := (hadd a (by omega) m).lenlt
   have ab := (hadd b (by omega) (td ts a m)).lenlt
   obtain ⟨_, c, rfl, h8, h9, h10, h11⟩ := h7.resolve_right (fun h => h.1 (by decide))
   have lc := hln c (by omega) (td ts b (td ts a m))
   have hpos : lstI (td ts a m) < (td ts a m).length := by unfold lstI; omega
   by_cases hk2 : ((td ts a m).getD (lstI (td ts a m)) nd0).k = 2
   ·have ht := ((hadd a (by omega) m).last (.inr (.inr hk2))).2
    by_cases hq : ((td ts a m).getD (lstI (td ts a m)) nd0).n = 1
    ·have e : tdS (td ts) ⟨7, a, b, c, n, nm, u, y, z, at_⟩ m = td ts b m := by
      unfold tdS
      rw [if_neg (by show ¬ ((7 : Int) = 0 ∨ (7 : Int) = 1 ∨ (7 : Int) = 2); decide)]
      show (if (7 : Int) = 3 ∨ (7 : Int) = 9 then _ else if (7 : Int) = 7 ∧ ((td ts a m).getD (lstI (td ts a m)) nd0).k = 2 then (if ((td ts a m).getD (lstI (td ts a m)) nd0).n = 1 then td ts b ((td ts a m).take (lstI (td ts a m))) else _) else _) = _
      rw [if_neg (by decide), if_pos ⟨rfl, hk2⟩, if_pos hq, ht]
     rw [e]
     exact tput7y B G sv ts i W mv1 m _ a b c n nm u y z at_ hx hi h hn hTh (Lib.hid (ih a h1 (by omega))) (by omega) hpos hk2 (Lib.hid fun _ W1 mv2 hW => by rw [ht] at hW; exact ih b h4 (by omega) W1 mv2 m hW hn (by omega)) (Lib.hid fun h0 => absurd hq h0)
    ·have e : tdS (td ts) ⟨7, a, b, c, n, nm, u, y, z, at_⟩ m = td ts c m := by
      unfold tdS
      rw [if_neg (by show ¬ ((7 : Int) = 0 ∨ (7 : Int) = 1 ∨ (7 : Int) = 2); decide)]
      show (if (7 : Int) = 3 ∨ (7 : Int) = 9 then _ else if (7 : Int) = 7 ∧ ((td ts a m).getD (lstI (td ts a m)) nd0).k = 2 then (if ((td ts a m).getD (lstI (td ts a m)) nd0).n = 1 then _ else td ts c ((td ts a m).take (lstI (td ts a m)))) else _) = _
      rw [if_neg (by decide), if_pos ⟨rfl, hk2⟩, if_neg hq, ht]
     rw [e]
     exact tput7y B G sv ts i W mv1 m _ a b c n nm u y z at_ hx hi h hn hTh (Lib.hid (ih a h1 (by omega))) (by omega) hpos hk2 (Lib.hid fun h0 => absurd h0 hq) (Lib.hid fun _ W1 mv2 hW => by rw [ht] at hW; exact ih c h8 (by omega) W1 mv2 m hW hn (by omega))
   ·have e : tdS (td ts) ⟨7, a, b, c, n, nm, u, y, z, at_⟩ m = td ts c (td ts b (td ts a m)) ++ [⟨7, lstI (td ts a m), lstI (td ts b (td ts a m)), lstI (td ts c (td ts b (td ts a m))), n, nm, u, y, z, at_⟩] := by
     unfold tdS
     rw [if_neg (by show ¬ ((7 : Int) = 0 ∨ (7 : Int) = 1 ∨ (7 : Int) = 2); decide)]
     show (if (7 : Int) = 3 ∨ (7 : Int) = 9 then _ else if (7 : Int) = 7 ∧ ((td ts a m).getD (lstI (td ts a m)) nd0).k = 2 then _ else if (7 : Int) = 7 ∨ (7 : Int) = 10 then td ts c (td ts b (td ts a m)) ++ [setABC _ (lstI (td ts a m)) (lstI (td ts b (td ts a m))) (lstI (td ts c (td ts b (td ts a m))))] else _) = _
     rw [if_neg (by decide), if_neg (fun h => hk2 h.2), if_pos (by decide)]
     rfl
    rw [e]
    exact tput7n B G sv ts i W mv1 m a b c n nm u y z at_ hx hi h hn hTh (Lib.hid (ih a h1 (by omega))) (by omega) hpos hk2 (Lib.hid (ih b h4 (by omega))) (Lib.hid ia) (by omega) (Lib.hid (ih c h8 (by omega))) (Lib.hid ib) (by omega) (by omega)
  ·obtain ⟨a, rfl, h1, h2, h3⟩ := hkids (by decide)
   rcases h3 with ⟨hf, _⟩ | ⟨_, b, rfl, h4, h5, h6, h7⟩
   ·exact absurd hf (by decide)
   have la := hln a (by omega) m
   have lb := hln b (by omega) (td ts a m)
   have ia := hint a (by omega) m hn.out
   have ib := hint b (by omega) (td ts a m) ia
   have aa := (hadd a (by omega) m).lenlt
   have ab := (hadd b (by omega) (td ts a m)).lenlt
   rcases h7 with ⟨hf, _⟩ | ⟨_, h7⟩
   ·exact absurd hf (by decide)
   have hpa : lstI (td ts a m) < (td ts b (td ts a m)).length := by unfold lstI; omega
   have hpb : lstI (td ts b (td ts a m)) < (td ts b (td ts a m)).length := by unfold lstI; omega
   have e : tdS (td ts) ⟨8, a, b, xc, n, nm, u, y, z, at_⟩ m = (match knownV ⟨8, lstI (td ts a m), lstI (td ts b (td ts a m)), xc, n, nm, u, y, z, at_⟩ ((td ts b (td ts a m)).getD (lstI (td ts a m)) nd0) ((td ts b (td ts a m)).getD (lstI (td ts b (td ts a m))) nd0) with
     | some v => (td ts b (td ts a m)).take (lstI (td ts a m)) ++ [v]
     | none => td ts b (td ts a m) ++ [⟨8, lstI (td ts a m), lstI (td ts b (td ts a m)), xc, n, nm, u, y, z, at_⟩]) := by
    unfold tdS
    rw [if_neg (by show ¬ ((8 : Int) = 0 ∨ (8 : Int) = 1 ∨ (8 : Int) = 2); decide)]
    dsimp only
    rw [if_neg (by decide), if_neg (fun h => absurd h.1 (by decide)), if_neg (by decide), if_pos rfl]
    rfl
   rw [e]
   exact tput8 B G sv ts i W mv1 m _ a b xc n nm u y z at_ hx hi h hn hTh (Lib.hid (ih a h1 (by omega))) (by omega) (Lib.hid (ih b h4 (by omega))) (Lib.hid ia) (by omega) hpa hpb (Lib.hid ib) (hnn rfl) (by omega) (Lib.hid fun h0 => by rw [h0]) (Lib.hid fun v h0 => by rw [h0])
  ·obtain ⟨a, rfl, h1, h2, h3⟩ := hkids (by decide)
   rcases h3 with ⟨_, h3⟩ | ⟨hf, _⟩
   ·have la := hln a (by omega) m
    have e : tdS (td ts) ⟨9, a, xb, xc, n, nm, u, y, z, at_⟩ m = td ts a m ++ [⟨9, lstI (td ts a m), xb, xc, n, nm, u, y, z, at_⟩] := by simp [tdS, setA]
    rw [e]
    exact tput9 B G sv ts i W mv1 m a xb xc n nm u y z at_ hx hi h hn hTh (Lib.hid (ih a h1 (by omega))) (by omega) (by omega)
   ·exact absurd (by decide) hf
  ·obtain ⟨a, rfl, h1, h2, h3⟩ := hkids (by decide)
   rcases h3 with ⟨hf, _⟩ | ⟨_, b, rfl, h4, h5, h6, h7⟩
   ·exact absurd hf (by decide)
   have la := hln a (by omega) m
   have lb := hln b (by omega) (td ts a m)
   have ia := hint a (by omega) m hn.out
   have ib := hint b (by omega) (td ts a m) ia
   have aa := (hadd a (by omega) m).lenlt
   have ab := (hadd b (by omega) (td ts a m)).lenlt
   obtain ⟨_, c, rfl, h8, h9, h10, h11⟩ := h7.resolve_right (fun h => h.1 (by decide))
   have lc := hln c (by omega) (td ts b (td ts a m))
   have e : tdS (td ts) ⟨10, a, b, c, n, nm, u, y, z, at_⟩ m = td ts c (td ts b (td ts a m)) ++ [⟨10, lstI (td ts a m), lstI (td ts b (td ts a m)), lstI (td ts c (td ts b (td ts a m))), n, nm, u, y, z, at_⟩] := by simp [tdS, setABC]
   rw [e]
   exact tput10 B G sv ts i W mv1 m a b c n nm u y z at_ hx hi h hn hTh (Lib.hid (ih a h1 (by omega))) (by omega) (Lib.hid (ih b h4 (by omega))) (Lib.hid ia) (by omega) (Lib.hid (ih c h8 (by omega))) (Lib.hid ib) (by omega) (by omega)
end Go.Proofs.YthpcbgljbpmafaaGreatDoor
