/- Tidying: plain. What tidy.Tidy and the reference's Tidy are shown to reckon. -/
import Derived.Test.YthpcbgljbpmafaaGreatDoorU4
import Derived.Test.YthpcbgljbpmafaaGreatDoorU12
import Derived.Test.YthpcbgljbpmafaaGreatDoorU15
import Derived.Test.YthpcbgljbpmafaaGreatDoorU17
import Derived.Test.YthpcbgljbpmafaaGreatDoorU22
import Derived.Test.YthpcbgljbpmafaaGreatDoorU23
import Derived.Deep.RegionLaw
import Derived.Deep.LoopGhost
set_option maxRecDepth 100000
set_option maxHeartbeats 8000000
namespace Go.Proofs.YthpcbgljbpmafaaGreatDoor
set_option linter.unusedVariables false
set_option linter.unusedSimpArgs false
def lfN (k n p : Int) : Nd := ⟨k, 0, 0, 0, n, ⟨#[]⟩, ⟨#[]⟩, ⟨#[]⟩, ⟨#[]⟩, p⟩
def knownV (x a b : Nd) : Option Nd :=
  if a.k = 1 ∧ b.k = 1 then
    (if (prmV x.n a.n b.n).1 = 1 then some (lfN 2 (prmV x.n a.n b.n).2 x.p)
     else if (prmV x.n a.n b.n).1 = 0 ∧ 0 ≤ (prmV x.n a.n b.n).2 then some (lfN 1 (prmV x.n a.n b.n).2 x.p) else none)
  else none
def lstI (m : List Nd) : Nat := m.length - 1
def setA (x : Nd) (a : Nat) : Nd := { x with a := (a : Int) }
def setAB (x : Nd) (a b : Nat) : Nd := { x with a := (a : Int), b := (b : Int) }
def setABC (x : Nd) (a b c : Nat) : Nd := { x with a := (a : Int), b := (b : Int), c := (c : Int) }
def tdF : Nat → List Nd → Nat → List Nd → List Nd
  | 0, _, _, m => m
  | f + 1, ts, i, m =>
    let x := ts.getD i nd0
    if x.k = 0 ∨ x.k = 1 ∨ x.k = 2 then m ++ [x]
    else
      let m1 := tdF f ts x.a.toNat m
      if x.k = 3 ∨ x.k = 9 then m1 ++ [setA x (lstI m1)]
      else if x.k = 7 ∧ (m1.getD (lstI m1) nd0).k = 2 then
        (if (m1.getD (lstI m1) nd0).n = 1 then tdF f ts x.b.toNat (m1.take (lstI m1)) else tdF f ts x.c.toNat (m1.take (lstI m1)))
      else
        let m2 := tdF f ts x.b.toNat m1
        if x.k = 7 ∨ x.k = 10 then
          let m3 := tdF f ts x.c.toNat m2
          m3 ++ [setABC x (lstI m1) (lstI m2) (lstI m3)]
        else if x.k = 8 then
          (match knownV x (m2.getD (lstI m1) nd0) (m2.getD (lstI m2) nd0) with
           | some y => m2.take (lstI m1) ++ [y]
           | none => m2 ++ [setAB x (lstI m1) (lstI m2)])
        else m2 ++ [setAB x (lstI m1) (lstI m2)]
def td (ts : List Nd) (i : Nat) (m : List Nd) : List Nd := tdF (i + 1) ts i m
def KidB (ts : List Nd) (i : Nat) : Prop :=
 (¬ ((ts.getD i nd0).k = 0 ∨ (ts.getD i nd0).k = 1 ∨ (ts.getD i nd0).k = 2) → (ts.getD i nd0).a.toNat < i) ∧
 (¬ ((ts.getD i nd0).k = 0 ∨ (ts.getD i nd0).k = 1 ∨ (ts.getD i nd0).k = 2) → ¬ ((ts.getD i nd0).k = 3 ∨ (ts.getD i nd0).k = 9) → (ts.getD i nd0).b.toNat < i) ∧
 ((ts.getD i nd0).k = 7 ∨ (ts.getD i nd0).k = 10 → (ts.getD i nd0).c.toNat < i)
def Adds (m r : List Nd) : Prop := ∃ q x, r = m ++ (q ++ [x]) ∧ (x.k = 0 ∨ x.k = 1 ∨ x.k = 2 → q = [])
theorem Adds.last {m r : List Nd} (h : Adds m r) : (r.getD (lstI r) nd0).k = 0 ∨ (r.getD (lstI r) nd0).k = 1 ∨ (r.getD (lstI r) nd0).k = 2 → lstI r = m.length ∧ r.take (lstI r) = m := by
 obtain ⟨q, x, rfl, hx⟩ := h
 have e : lstI (m ++ (q ++ [x])) = m.length + q.length := by unfold lstI; simp only [List.length_append, List.length_cons, List.length_nil]; omega
 rw [e]
 have e2 : (m ++ (q ++ [x])).getD (m.length + q.length) nd0 = x := by
  rw [List.getD_eq_getElem?_getD, List.getElem?_append_right (by omega), List.getElem?_append_right (by omega)]
  simp
 rw [e2]
 intro hk
 rw [hx hk]
 simp
theorem Adds.trans {m r s : List Nd} (h : Adds m r) (x : Nd) (hx : ¬ (x.k = 0 ∨ x.k = 1 ∨ x.k = 2)) (q : List Nd) : Adds m (r ++ (q ++ [x])) := by
 obtain ⟨a, y, rfl, _⟩ := h
 exact ⟨a ++ [y] ++ q, x, by simp, fun h => absurd h hx⟩
theorem Adds.pre {m r : List Nd} (h : Adds m r) : ∃ q, r = m ++ q := by obtain ⟨q, x, h, _⟩ := h; exact ⟨_, h⟩
theorem Adds.lenlt {m r : List Nd} (h : Adds m r) : m.length < r.length := by obtain ⟨q, x, rfl, _⟩ := h; simp only [List.length_append, List.length_cons, List.length_nil]; omega
theorem knownV_k {x a b y : Nd} (h : knownV x a b = some y) : (a.k = 1 ∧ b.k = 1) ∧ (y.k = 1 ∨ y.k = 2) := by
 unfold knownV at h
 split at h
 ·rename_i h1
  split at h
  ·injection h with h; exact ⟨h1, .inr (by rw [← h]; rfl)⟩
  ·split at h
   ·injection h with h; exact ⟨h1, .inl (by rw [← h]; rfl)⟩
   ·cases h
 ·cases h
def tdS (e : Nat → List Nd → List Nd) (x : Nd) (m : List Nd) : List Nd :=
  if x.k = 0 ∨ x.k = 1 ∨ x.k = 2 then m ++ [x]
  else
    let m1 := e x.a.toNat m
    if x.k = 3 ∨ x.k = 9 then m1 ++ [setA x (lstI m1)]
    else if x.k = 7 ∧ (m1.getD (lstI m1) nd0).k = 2 then
      (if (m1.getD (lstI m1) nd0).n = 1 then e x.b.toNat (m1.take (lstI m1)) else e x.c.toNat (m1.take (lstI m1)))
    else
      let m2 := e x.b.toNat m1
      if x.k = 7 ∨ x.k = 10 then
        let m3 := e x.c.toNat m2
        m3 ++ [setABC x (lstI m1) (lstI m2) (lstI m3)]
      else if x.k = 8 then
        (match knownV x (m2.getD (lstI m1) nd0) (m2.getD (lstI m2) nd0) with
         | some y => m2.take (lstI m1) ++ [y]
         | none => m2 ++ [setAB x (lstI m1) (lstI m2)])
      else m2 ++ [setAB x (lstI m1) (lstI m2)]
theorem tdF_succ (f : Nat) (ts : List Nd) (i : Nat) (m : List Nd) : tdF (f + 1) ts i m = tdS (fun j m => tdF f ts j m) (ts.getD i nd0) m := rfl
theorem tdS_congr {e e' : Nat → List Nd → List Nd} {x : Nd} {i : Nat} (hx : (¬ (x.k = 0 ∨ x.k = 1 ∨ x.k = 2) → x.a.toNat < i) ∧ (¬ (x.k = 0 ∨ x.k = 1 ∨ x.k = 2) → ¬ (x.k = 3 ∨ x.k = 9) → x.b.toNat < i) ∧ (x.k = 7 ∨ x.k = 10 → x.c.toNat < i)) (h : ∀ j, j < i → ∀ m, e j m = e' j m) (m : List Nd) : tdS e x m = tdS e' x m := by
 obtain ⟨h1, h2, h3⟩ := hx
 unfold tdS
 by_cases k0 : x.k = 0 ∨ x.k = 1 ∨ x.k = 2
 ·rw [if_pos k0, if_pos k0]
 rw [if_neg k0, if_neg k0]
 dsimp only
 rw [h _ (h1 k0)]
 by_cases k3 : x.k = 3 ∨ x.k = 9
 ·rw [if_pos k3, if_pos k3]
 rw [if_neg k3, if_neg k3]
 have hb := h _ (h2 k0 k3)
 by_cases k7 : x.k = 7 ∨ x.k = 10
 ·have hc := h _ (h3 k7)
  simp only [hb, hc]
 ·have k77 : ¬ x.k = 7 := fun h => k7 (.inl h)
  have k10 : ¬ x.k = 10 := fun h => k7 (.inr h)
  simp only [hb, k77, k10, false_and, or_self, ↓reduceIte]
theorem tdF_fuel (ts : List Nd) (hk : ∀ i, i < ts.length → KidB ts i) : ∀ (i f : Nat), i < f → i < ts.length → ∀ m, tdF f ts i m = td ts i m := by
 intro i
 induction i using Nat.strongRecOn with
 | ind i ih =>
  intro f hf hi m
  obtain ⟨g, rfl⟩ : ∃ g, f = g + 1 := ⟨f - 1, by omega⟩
  unfold td
  rw [tdF_succ, tdF_succ]
  refine tdS_congr (hk i hi) (fun j hj m => ?_) m
  rw [ih j hj g (by omega) (by omega), ih j hj i (by omega) (by omega)]
theorem td_eq (ts : List Nd) (hk : ∀ i, i < ts.length → KidB ts i) (i : Nat) (hi : i < ts.length) (m : List Nd) : td ts i m = tdS (td ts) (ts.getD i nd0) m := by
 show tdF (i + 1) ts i m = _
 rw [tdF_succ]
 refine tdS_congr (hk i hi) (fun j hj m => ?_) m
 exact tdF_fuel ts hk j i hj (by omega) m
theorem tdS_adds {e : Nat → List Nd → List Nd} {x : Nd} {i : Nat} (hx : (¬ (x.k = 0 ∨ x.k = 1 ∨ x.k = 2) → x.a.toNat < i) ∧ (¬ (x.k = 0 ∨ x.k = 1 ∨ x.k = 2) → ¬ (x.k = 3 ∨ x.k = 9) → x.b.toNat < i) ∧ (x.k = 7 ∨ x.k = 10 → x.c.toNat < i)) (h : ∀ j, j < i → ∀ m, Adds m (e j m)) (m : List Nd) : Adds m (tdS e x m) := by
 obtain ⟨h1, h2, h3⟩ := hx
 unfold tdS
 by_cases k0 : x.k = 0 ∨ x.k = 1 ∨ x.k = 2
 ·rw [if_pos k0]; exact ⟨[], x, rfl, fun _ => rfl⟩
 rw [if_neg k0]
 dsimp only
 have a1 := h _ (h1 k0) m
 by_cases k3 : x.k = 3 ∨ x.k = 9
 ·rw [if_pos k3]; exact a1.trans (s := []) (setA x _) k0 []
 rw [if_neg k3]
 have hb := h _ (h2 k0 k3)
 by_cases k7 : x.k = 7 ∧ ((e x.a.toNat m).getD (lstI (e x.a.toNat m)) nd0).k = 2
 ·rw [if_pos k7, (a1.last (.inr (.inr k7.2))).2]
  split
  ·exact hb m
  ·exact h _ (h3 (.inl k7.1)) m
 rw [if_neg k7]
 have a2 : ∀ y, ¬ (y.k = 0 ∨ y.k = 1 ∨ y.k = 2) → Adds m (e x.b.toNat (e x.a.toNat m) ++ [y]) := by
  intro y hy
  obtain ⟨q, z, hq, _⟩ := hb (e x.a.toNat m)
  rw [hq, List.append_assoc]
  have := a1.trans (s := []) y hy (q ++ [z])
  simpa using this
 by_cases k77 : x.k = 7 ∨ x.k = 10
 ·rw [if_pos k77]
  obtain ⟨q, z, hq, _⟩ := hb (e x.a.toNat m)
  obtain ⟨q2, z2, hq2, _⟩ := h _ (h3 k77) (e x.b.toNat (e x.a.toNat m))
  obtain ⟨a, z0, h0, _⟩ := a1
  have key : e x.c.toNat (e x.b.toNat (e x.a.toNat m)) = m ++ (a ++ [z0] ++ (q ++ [z]) ++ (q2 ++ [z2])) := by rw [hq2, hq, h0]; simp
  generalize hY : setABC x (lstI (e x.a.toNat m)) (lstI (e x.b.toNat (e x.a.toNat m))) (lstI (e x.c.toNat (e x.b.toNat (e x.a.toNat m)))) = Y
  have hYk : Y.k = x.k := by rw [← hY]; rfl
  rw [key, List.append_assoc]
  exact ⟨_, Y, rfl, fun hk => absurd (by rw [← hYk]; exact hk) k0⟩
 rw [if_neg k77]
 by_cases k8 : x.k = 8
 ·rw [if_pos k8]
  split
  ·rename_i y hy
   obtain ⟨⟨hka, _⟩, hky⟩ := knownV_k hy
   obtain ⟨q, hq⟩ := (hb (e x.a.toNat m)).pre
   have hla : lstI (e x.a.toNat m) < (e x.a.toNat m).length := by have := a1.lenlt; unfold lstI; omega
   have hga : (e x.b.toNat (e x.a.toNat m)).getD (lstI (e x.a.toNat m)) nd0 = (e x.a.toNat m).getD (lstI (e x.a.toNat m)) nd0 := by
    rw [hq, List.getD_eq_getElem?_getD, List.getElem?_append_left hla, List.getD_eq_getElem?_getD]
   rw [hga] at hka
   have hl := a1.last (.inr (.inl hka))
   have ht : (e x.b.toNat (e x.a.toNat m)).take (lstI (e x.a.toNat m)) = m := by
    rw [hq, List.take_append_of_le_length (by omega)]; exact hl.2
   rw [ht]
   exact ⟨[], y, rfl, fun _ => rfl⟩
  ·exact a2 _ k0
 ·rw [if_neg k8]; exact a2 _ k0
theorem td_adds (ts : List Nd) (hk : ∀ i, i < ts.length → KidB ts i) : ∀ (i : Nat), i < ts.length → ∀ m, Adds m (td ts i m) := by
 intro i
 induction i using Nat.strongRecOn with
 | ind i ih =>
  intro hi m
  rw [td_eq ts hk i hi]
  exact tdS_adds (hk i hi) (fun j hj m => ih j hj (by omega) m) m
theorem td_congr {ts us : List Nd} (hk : ∀ i, i < ts.length → KidB ts i) (hk' : ∀ i, i < us.length → KidB us i) : ∀ (i : Nat), i < ts.length → i < us.length → (∀ j, j ≤ i → ts.getD j nd0 = us.getD j nd0) → ∀ m, td ts i m = td us i m := by
 intro i
 induction i using Nat.strongRecOn with
 | ind i ih =>
  intro hi hi' he m
  rw [td_eq ts hk i hi, td_eq us hk' i hi', ← he i (Nat.le_refl i)]
  exact tdS_congr (hk i hi) (fun j hj m => ih j hj (by omega) (by omega) (fun q hq => he q (by omega)) m) m
def IntOk (m : List Nd) : Prop := ∀ t ∈ m, t.k = 1 → 0 ≤ t.n ∧ t.n ≤ 1073741823
theorem numO_le {n : Int} (h : (numO n).1 = 0) : (numO n).2 ≤ 1073741823 := by
 unfold numO at h ⊢
 split
 ·rename_i hc; rw [if_pos hc] at h; cases h
 ·rename_i hc; show n ≤ _; omega
theorem truO_1 (b : Bool) : (truO b).1 = 1 := by unfold truO; split <;> rfl
theorem prmV_le {p u v : Int} (h : (prmV p u v).1 = 0) : (prmV p u v).2 ≤ 1073741823 := by
 unfold prmV at h ⊢
 by_cases h0 : p = 0
 ·rw [if_pos h0] at h ⊢; exact numO_le h
 rw [if_neg h0] at h ⊢
 by_cases h1 : p = 1
 ·rw [if_pos h1] at h ⊢; exact numO_le h
 rw [if_neg h1] at h ⊢
 by_cases h2 : p = 2
 ·rw [if_pos h2] at h ⊢; exact numO_le h
 rw [if_neg h2] at h ⊢
 by_cases h3 : p = 3
 ·rw [if_pos h3] at h ⊢
  by_cases hv : v = 0
  ·rw [if_pos hv] at h; cases h
  ·rw [if_neg hv] at h ⊢; exact numO_le h
 rw [if_neg h3] at h
 split at h <;> (rw [truO_1] at h; cases h)
theorem knownV_ok {x a b y : Nd} (h : knownV x a b = some y) : y.k = 1 → 0 ≤ y.n ∧ y.n ≤ 1073741823 := by
 unfold knownV at h
 split at h
 ·split at h
  ·injection h with h; subst h; intro hk; cases hk
  ·split at h
   ·rename_i hc
    injection h with h; subst h
    exact fun _ => ⟨hc.2, prmV_le hc.1⟩
   ·cases h
 ·cases h
theorem IntOk.app {m : List Nd} {y : Nd} (h : IntOk m) (hy : y.k = 1 → 0 ≤ y.n ∧ y.n ≤ 1073741823) : IntOk (m ++ [y]) := by
 intro t ht
 rcases List.mem_append.1 ht with ht | ht
 ·exact h t ht
 ·rcases List.mem_singleton.1 ht with rfl; exact hy
theorem IntOk.take {m : List Nd} (h : IntOk m) (n : Nat) : IntOk (m.take n) := fun t ht => h t (List.mem_of_mem_take ht)
theorem tdS_int {e : Nat → List Nd → List Nd} {x : Nd} {i : Nat} (hx : (¬ (x.k = 0 ∨ x.k = 1 ∨ x.k = 2) → x.a.toNat < i) ∧ (¬ (x.k = 0 ∨ x.k = 1 ∨ x.k = 2) → ¬ (x.k = 3 ∨ x.k = 9) → x.b.toNat < i) ∧ (x.k = 7 ∨ x.k = 10 → x.c.toNat < i)) (hi : x.k = 1 → 0 ≤ x.n ∧ x.n ≤ 1073741823) (h : ∀ j, j < i → ∀ m, IntOk m → IntOk (e j m)) (m : List Nd) (hm : IntOk m) : IntOk (tdS e x m) := by
 obtain ⟨h1, h2, h3⟩ := hx
 unfold tdS
 by_cases k0 : x.k = 0 ∨ x.k = 1 ∨ x.k = 2
 ·rw [if_pos k0]; exact hm.app hi
 rw [if_neg k0]
 dsimp only
 have a1 := h _ (h1 k0) m hm
 have nk : ¬ x.k = 1 := fun h => k0 (.inr (.inl h))
 by_cases k3 : x.k = 3 ∨ x.k = 9
 ·rw [if_pos k3]; exact a1.app (fun h => absurd h nk)
 rw [if_neg k3]
 have hb := h _ (h2 k0 k3)
 by_cases k7 : x.k = 7 ∧ ((e x.a.toNat m).getD (lstI (e x.a.toNat m)) nd0).k = 2
 ·rw [if_pos k7]
  split
  ·exact hb _ (a1.take _)
  ·exact h _ (h3 (.inl k7.1)) _ (a1.take _)
 rw [if_neg k7]
 by_cases k77 : x.k = 7 ∨ x.k = 10
 ·rw [if_pos k77]; exact (h _ (h3 k77) _ (hb _ a1)).app (fun h => absurd h nk)
 rw [if_neg k77]
 by_cases k8 : x.k = 8
 ·rw [if_pos k8]
  split
  ·rename_i y hy; exact ((hb _ a1).take _).app (knownV_ok hy)
  ·exact (hb _ a1).app (fun h => absurd h nk)
 ·rw [if_neg k8]; exact (hb _ a1).app (fun h => absurd h nk)
theorem td_int (ts : List Nd) (hk : ∀ i, i < ts.length → KidB ts i) (hn : IntOk ts) : ∀ (i : Nat), i < ts.length → ∀ m, IntOk m → IntOk (td ts i m) := by
 intro i
 induction i using Nat.strongRecOn with
 | ind i ih =>
  intro hi m hm
  rw [td_eq ts hk i hi]
  exact tdS_int (hk i hi) (hn _ (by rw [List.getD_eq_getElem?_getD, List.getElem?_eq_getElem hi]; exact List.getElem_mem hi)) (fun j hj m => ih j hj (by omega) m) m hm
open Go.RowKit
theorem cloneO_none (n c : Nat) (w : World) (hn : n = 0) :
  Calls Tryz.prog 23 #[.slice none n c] w fun e w' => ∃ v, e = .returned v ∧ OwnO w.heap.size w' v [] ∧ Below w.heap.size w w' := by
 subst hn
 have heq : ∀ W : World, (binOp .eql 22 (.slice none 0 c) (.slice none 0 0)).run Tryz.prog W = .ok (.bool true) W := fun _ => by kernel_rfl
 go_enter Tryz.func23, Tryz.ntmps23
 go_wp2_with fail
 go_ret
 exact ⟨_, rfl, OwnO.nil _ _, Below.refl _ _⟩
theorem cloneO_some (ad : Addr) (n c : Nat) (l : List Or) (w : World) (hn : n = l.length) (h : Hid (∀ j u, (orL l)[j]? = some u → (w.alloc (.cells #[] 54)).cell? (ad.add j) = some u)) (hl : l.length * 32 ≤ 140737488351232) :
  Calls Tryz.prog 23 #[.slice (some ad) n c] w fun e w' => ∃ v, e = .returned v ∧ OwnO w.heap.size w' v l ∧ Below w.heap.size w w' := by
 subst hn
 obtain ⟨i0, hi, hz0, hz1, hz2⟩ := info_parts infoOr
 have hown0 := Lib.hid (OwnO.fresh w)
 have heq : ∀ W : World, (binOp .eql 22 (.slice (some ad) l.length c) (.slice none 0 0)).run Tryz.prog W = .ok (.bool false) W := fun _ => by kernel_rfl
 go_enter Tryz.func23, Tryz.ntmps23
 go_wp2_with (at_builtin; refine wpList_append_own _ rfl (.tmp 5) (.tmp 6) 22 rfl w.heap.size 54 i0 (.agg #[.string ByteArray.empty, .int .i64 0, .int .i64 0]) 3 32 Tryz.underlying22 hi hz0 hz1 hz2 rfl (by decide) _ 0 [] rfl hown0.out ad l.length c (orL l) rfl (orL_len l) h.out (orL_one l) (by unfold maxLen; omega) (by omega) (by simp) ?_)
 intro v' w1 hown1 hgr _
 have hbel : Below w.heap.size w w1 := ((Below.refl _ _).alloc (Nat.le_refl _) _).grown hgr (by simp) (by intro k hk; simp [Value.ownBlock] at hk; omega)
 (try rw [Nat.zero_add, List.nil_append] at hown1)
 have hown1' := Lib.hid hown1; clear hown1 hgr
 go_wp2_with fail
 go_ret
 exact ⟨v', rfl, hown1'.out, hbel⟩
theorem cloneO_any (a : Option Addr) (n c : Nat) (l : List Or) (w : World) (h : Hid (OArg w a n l)) (hl : n * 32 ≤ 140737488351232) :
  Calls Tryz.prog 23 #[.slice a n c] w fun e w' => ∃ v, e = .returned v ∧ OwnO w.heap.size w' v l ∧ Below w.heap.size w w' := by
 obtain ⟨hn, h1⟩ := h.out
 by_cases h0 : l = []
 ·subst h0
  cases a with
  | none => exact cloneO_none n c w hn
  | some ad => exact cloneO_some ad n c [] w hn (Lib.hid (by intro j u hj; simp [orL] at hj)) (by simp)
 ·obtain ⟨b, off, rfl, hs, hb⟩ := Or.resolve_left h1 h0
  refine cloneO_some _ n c l w hn (Lib.hid fun j u hj => ?_) (by omega)
  have e : (⟨b, off, none⟩ : Addr).add j = ⟨b, off + j, none⟩ := by simp [Addr.add]; try omega
  rw [e, World.cell?_alloc_past _ _ _ hb]
  exact orSl_get hs j u hj
def opN (os : List Or) : List ByteArray := os.map (·.nm)
theorem opN_take {os : List Or} {j : Nat} (h : j < os.length) : opN (os.take (j + 1)) = opN (os.take j) ++ [(os.getD j or0).nm] := by
 unfold opN
 rw [List.take_succ_eq_append_getElem h, List.map_append, List.getD_eq_getElem?_getD, List.getElem?_eq_getElem h]; rfl
def PlPost (os : List Or) (w : World) (e : Ending) (w' : World) : Prop := ∃ M, e = .returned (.map (some M)) ∧ OpMap w' M (opN os) ∧ w.heap.size ≤ M ∧ Below w.heap.size w w'
theorem places_any (a : Option Addr) (n c : Nat) (os : List Or) (w : World) (h : Hid (OArg w a n os)) (hsz : Hid (∀ t ∈ os, OrSz t)) (hl : n ≤ 1000000) :
  Calls Tryz.prog 35 #[.slice a n c] w (PlPost os w) := by
 have hmm := @run_makeMap Tryz.prog
 obtain rfl : n = os.length := h.out.1
 have hM0 := Lib.hid (opMap_made w)
 have hB0 := Lib.hid (below_alc w (.map #[] 0))
 have hlt0 : w.heap.size < (w.alloc (.map #[] 0)).heap.size := by simp
 go_enter Tryz.func35, Tryz.ntmps35
 go_wp2_with fail
 generalize w.alloc (.map #[] 0) = w0 at hM0 hB0 hlt0 ⊢
 go_loopw [9] (fun i wr => ∃ j : Nat, j ≤ os.length ∧ i = .int .i64 j ∧ Hid (OpMap wr w.heap.size (opN (os.take j))) ∧ Below w.heap.size w wr) (fun i _ => os.length - (intOf i).toNat)
 case atStart => exact ⟨0, by omega, rfl, hM0, hB0.out⟩
 case round =>
  obtain ⟨j, hj, rfl, hM, hbw⟩ := hrel
  by_cases hlt : j < os.length
  ·rcases h.out.2 with h1 | ⟨b, off, rfl, hs, hb⟩
   ·rw [h1] at hlt; simp at hlt
   have hO := (hs j hlt).below hbw hb
   have hnx := Lib.hid (opN_take hlt)
   have hz : (os.getD j or0).nm.size ≤ 1125899906842624 := hsz.out _ (getO_mem hlt)
   have hlj : (opN (os.take j)).length = j := by unfold opN; rw [List.length_map, List.length_take]; omega
   generalize os.getD j or0 = t at hO hnx hz
   clear hs
   obtain ⟨e0, e1, e2⟩ := hO
   obtain ⟨wu, hup, hMu, hBu⟩ := op_put (hM.out.below (below_alc wr (.cells #[.string t.nm, .int .i64 t.f, .int .i64 t.t] 54))) t.nm hz (by omega)
   rw [hlj] at hup
   have hMu := Lib.hid hMu
   have hbu : Below w.heap.size w wu := ⟨by rw [hBu.os]; exact hbw.os, by rw [hBu.tape]; exact hbw.tape, by rw [hBu.output]; exact hbw.output, by have := hBu.size; have := hbw.size; simp at *; omega, fun k hk => by
    rw [hBu.block k (by have := hbw.size; simp; omega) (fun e => by have e : k = w.heap.size := e; omega), Below.heap_alloc wr _ k (by have := hbw.size; omega)]; exact hbw.block k hk⟩
   clear hBu hlj
   have hji : (j : Int) < (os.length : Int) := by omega
   have hj0 : (0 : Int) ≤ (j : Int) := by omega
   go_wp2_with fail
   go_roundw
   case rel => exact ⟨j + 1, by omega, by go_num, Lib.hid (by rw [hnx.out]; exact hMu.out), hbu⟩
   case measure => simp [intOf]; omega
  ·obtain rfl : j = os.length := by omega
   have hM := hM.out
   rw [List.take_length] at hM
   go_wp2_with fail
   go_ret
   exact ⟨_, rfl, hM, Nat.le_refl _, hbw⟩
open Go.RowKit
def dupB : List ByteArray → Bool
 | [] => false
 | x :: l => inS l x || dupB l
theorem dupB_iff : ∀ {l : List ByteArray}, dupB l = false ↔ l.Nodup
 | [] => by simp [dupB]
 | x :: l => by
  unfold dupB
  rw [Bool.or_eq_false_iff, inS_no, List.nodup_cons, dupB_iff]
def resV (os : List Or) (ts : List Nd) : Except (Int × Int) (List Nd) :=
 if mayV os ts then (if dupB (opN os) then .error (602, 0) else resS (opN os) ts.length ts (ts.length - 1) []) else .error (600, 0)
theorem mayV_tree {os : List Or} {ts : List Nd} (h : mayV os ts = true) : 1 ≤ ts.length ∧ ts.length ≤ 512 ∧ os.length ≤ 4 ∧ bg (ksN ts) (ts.length - 1) = 0 := by
 unfold mayV opsV treeV at h
 simp only [Bool.and_eq_true, decide_eq_true_eq] at h
 exact ⟨h.2.1.1.1, h.2.1.1.2, h.1.1, h.2.2⟩
theorem kidsS_kids (t : Nd) : (kidsS t).map (·.1) = kidsL t.k t.a t.b t.c := by
 unfold kidsS kidsL
 have hc : t.k = 3 ∨ t.k = 4 ∨ t.k = 8 ∨ t.k = 5 ∨ t.k = 6 ∨ t.k = 7 ∨ t.k = 9 ∨ t.k = 10 ∨ (t.k ≠ 3 ∧ t.k ≠ 4 ∧ t.k ≠ 8 ∧ t.k ≠ 5 ∧ t.k ≠ 6 ∧ t.k ≠ 7 ∧ t.k ≠ 9 ∧ t.k ≠ 10) := by omega
 rcases hc with h | h | h | h | h | h | h | h | ⟨h1, h2, h3, h4, h5, h6, h7, h8⟩
 all_goals first | (simp [h]; done) | (simp [h1, h2, h3, h4, h5, h6, h7, h8])
theorem downs_of {ts : List Nd} (h : 1 ≤ ts.length) (hb : bg (ksN ts) (ts.length - 1) = 0) : Downs ts := by
 intro i hi c hc
 have hm : c.1 ∈ ksN ts i := by
  show c.1 ∈ kidsL _ _ _ _
  rw [← kidsS_kids]; exact List.mem_map.2 ⟨c, hc, rfl⟩
 have := kid_ok (ksN ts) i (bg_all hb i (by omega)) c.1 hm
 exact ⟨this.1, this.2.1⟩
theorem op_len2 {w : World} {bm : Nat} {l : List ByteArray} (h : OpMap w bm l) : ∃ n : Nat, (∀ ty W, W = w → (Builtin.len_ #[66] ty #[.map (some bm)]).run Tryz.prog W = .ok (.int .i64 n) W) ∧ n ≤ l.length ∧ (n = l.length ↔ l.Nodup) := by
 obtain ⟨D, h1, h2, h2', h3⟩ := h
 exact ⟨_, fun ty W e => by subst e; exact h1.len Tryz.underlying66 ty, h2, h2'⟩
def ResPost (os : List Or) (r : Except (Int × Int) (List Nd)) (w : World) (e : Ending) (w' : World) : Prop :=
 ∃ ao no co an nn cn at_ code, e = .returned (.tuple #[.agg #[.slice ao no co, .slice an nn cn], .int .i64 at_, .int .i64 code]) ∧ Below w.heap.size w w' ∧
  match r with
  | .ok ss => at_ = 0 ∧ code = 0 ∧ OwnO w.heap.size w' (.slice ao no co) os ∧ ∃ N, an = some ⟨N, 0, none⟩ ∧ nn = ss.length ∧ w.heap.size ≤ N ∧ N < w'.heap.size ∧ NdSl w' N 0 ss ∧ ∀ o, w'.frozen? ⟨N, o, none⟩ = false
  | .error e => at_ = e.2 ∧ code = e.1 ∧ ao = none ∧ no = 0 ∧ co = 0 ∧ an = none ∧ nn = 0 ∧ cn = 0
open Go.RowKit
def RvW (w : World) (a : Option Addr) (n c : Nat) (a2 : Option Addr) (n2 c2 : Nat) (W : World) : Prop :=
 w.heap.size + 1 < W.heap.size ∧ W.cell? ⟨w.heap.size, 0, none⟩ = some (.slice a n c) ∧ W.cell? ⟨w.heap.size, 1, none⟩ = some (.slice a2 n2 c2) ∧ W.cell? ⟨w.heap.size + 1, 0, none⟩ = some (.slice none 0 0) ∧ W.cell? ⟨w.heap.size + 1, 1, none⟩ = some (.slice none 0 0) ∧ (∀ o, W.frozen? ⟨w.heap.size + 1, o, none⟩ = false) ∧ Below w.heap.size w W
theorem RvW.bar {S : Nat → Prop} {w W W' : World} {a a2 : Option Addr} {n c n2 c2 : Nat} (h : RvW w a n c a2 n2 c2 W) (hb : Bar S W W') (h1 : ¬ S w.heap.size) (h2 : ¬ S (w.heap.size + 1)) (h3 : ∀ k, S k → w.heap.size ≤ k) : RvW w a n c a2 n2 c2 W' := by
 obtain ⟨e0, e1, e2, e3, e4, e5, e6⟩ := h
 exact ⟨by have := hb.size; omega, hb.cell e1 h1, hb.cell e2 h1, hb.cell e3 h2, hb.cell e4 h2, fun o => by rw [hb.frozen (a := ⟨w.heap.size + 1, o, none⟩) e0 h2]; exact e5 o, ⟨hb.os.trans e6.os, hb.tape.trans e6.tape, hb.output.trans e6.output, by have := hb.size; omega, fun k hk => (hb.block k (by omega) (fun hs => by have := h3 k hs; omega)).trans (e6.block k hk)⟩⟩
theorem RvW.below {w W W' : World} {a a2 : Option Addr} {n c n2 c2 : Nat} (h : RvW w a n c a2 n2 c2 W) (hb : Below W.heap.size W W') : RvW w a n c a2 n2 c2 W' := h.bar (Bar.of_below (S := fun _ => False) hb) id id (fun _ h => h.elim)
theorem rvW_mk (w : World) (a : Option Addr) (n c : Nat) (a2 : Option Addr) (n2 c2 : Nat) : RvW w a n c a2 n2 c2 ((w.alloc (.cells #[.slice a n c, .slice a2 n2 c2] 25)).alloc (.cells #[.slice none 0 0, .slice none 0 0] 25)) := by
 have h0 : (w.alloc (.cells #[.slice a n c, .slice a2 n2 c2] 25)).heap.size = w.heap.size + 1 := by simp
 have hb := below_alc (w.alloc (.cells #[.slice a n c, .slice a2 n2 c2] 25)) (.cells #[.slice none 0 0, .slice none 0 0] 25)
 refine ⟨by simp, carry hb (by omega) ?_, carry hb (by omega) ?_, ?_, ?_, fun o => by simp [go_sem], belA _ (below_alc _ _)⟩
 ·rw [World.cell?_alloc_at _ _ _ _ rfl]; rfl
 ·rw [World.cell?_alloc_at _ _ _ _ rfl]; rfl
 ·rw [World.cell?_alloc_at _ _ _ _ (by simp)]; rfl
 ·rw [World.cell?_alloc_at _ _ _ _ (by simp)]; rfl
theorem two_set {W : World} {r : Nat} {u0 u1 : Value} (h0 : W.cell? ⟨r, 0, none⟩ = some u0) (h1 : W.cell? ⟨r, 1, none⟩ = some u1) (x y : Value) : ((W.setCell ⟨r, 0, none⟩ x).setCell ⟨r, 1, none⟩ y).cell? ⟨r, 0, none⟩ = some x ∧ ((W.setCell ⟨r, 0, none⟩ x).setCell ⟨r, 1, none⟩ y).cell? ⟨r, 1, none⟩ = some y ∧ Bar (fun k => k = r) W ((W.setCell ⟨r, 0, none⟩ x).setCell ⟨r, 1, none⟩ y) :=
 ⟨setO (setS h0) (by simp), setS (setO h1 (by simp)), (Bar.set (S := fun k => k = r) ⟨r, 0, none⟩ x rfl).trans (Bar.set (S := fun k => k = r) ⟨r, 1, none⟩ y rfl) fun _ _ h => h⟩
theorem errTy.below {w w' : World} (h : errTy w) (hb : Below w.heap.size w w') : errTy w' := carry hb (hgl h) h
theorem errTy.bar {S : Nat → Prop} {w w' : World} (h : errTy w) (hb : Bar S w w') (hn : ¬ S 0) : errTy w' := hb.cell h hn
theorem res_err {os : List Or} {r : Except (Int × Int) (List Nd)} {c p : Int} (hr : r = .error (c, p)) {w w' : World} (hb : Below w.heap.size w w') : ResPost os r w (.returned (.tuple #[.agg #[.slice none 0 0, .slice none 0 0], .int .i64 p, .int .i64 c])) w' := by
 subst hr
 exact ⟨_, _, _, _, _, _, _, _, rfl, hb, rfl, rfl, rfl, rfl, rfl, rfl, rfl, rfl⟩
open Go.RowKit
def TyAt (w : World) (b : Nat) (T : TypeId) : Prop := ∃ arr fz, w.heap[b]? = some (.cells arr T fz)
theorem TyAt.bar {S : Nat → Prop} {w w' : World} {b : Nat} {T : TypeId} (h : TyAt w b T) (hb : Bar S w w') (hn : ¬ S b) : TyAt w' b T := by
 obtain ⟨arr, fz, h⟩ := h
 exact ⟨arr, fz, (hb.block b (Array.getElem?_eq_some_iff.1 h).1 hn).trans h⟩
theorem TyAt.set {w : World} {b : Nat} {T : TypeId} (h : TyAt w b T) (a : Addr) (v : Value) : TyAt (w.setCell a v) b T := by
 obtain ⟨arr, fz, h⟩ := h
 by_cases e : a.block = b
 ·subst e
  refine ⟨if a.spot.isSome then arr else arr.setIfInBounds a.off v, fz, ?_⟩
  show (w.heap.modify a.block _)[a.block]? = _
  rw [Array.getElem?_modify, if_pos rfl, h]
  rfl
 ·exact ⟨arr, fz, by
   show (w.heap.modify a.block _)[b]? = _
   rw [Array.getElem?_modify, if_neg e, h]⟩
theorem TyAt.ne {w : World} {b b' : Nat} {T T' : TypeId} (h : TyAt w b T) (h' : TyAt w b' T') (hT : T ≠ T') : b ≠ b' := by
 rintro rfl
 obtain ⟨_, _, h⟩ := h
 obtain ⟨_, _, h'⟩ := h'
 rw [h] at h'
 injection h' with h'
 injection h' with _ h' _
 exact hT h'
theorem TyAt.new (w : World) (arr : Array Value) (T : TypeId) : TyAt (w.alloc (.cells arr T)) w.heap.size T := ⟨arr, (0, 0), by show (w.heap.push _)[w.heap.size]? = _; simp⟩
section
variable {B G : Nat} {tv : Value} {ts : List Tk} {en : Int} {ov : Value} {d : Int} {w : World} {nv : Value}
end
def Stp (G : Nat) (w : World) (nv : Value) (w' : World) (nv' : Value) : Prop := Bar (PFr G nv) w w' ∧ PHop nv nv' w
theorem Stp.refl (G : Nat) (w : World) (nv : Value) : Stp G w nv w nv := ⟨Bar.refl _ _, fun _ hg => .inl hg⟩
theorem Stp.trans {G : Nat} {w w1 w2 : World} {nv nv1 nv2 : Value} (h : Stp G w nv w1 nv1) (h' : Stp G w1 nv1 w2 nv2) : Stp G w nv w2 nv2 :=
 ⟨h.1.trans h'.1 fun k hk hs => by
  rcases hs with hs | hs
  ·exact .inl hs
  ·rcases h.2 k hs with hg | hg
   ·exact .inr hg
   ·omega, fun g hg => by
  rcases h'.2 g hg with hg | hg
  ·exact h.2 g hg
  ·exact .inr (by have := h.1.size; omega)⟩
theorem Stp.of {G : Nat} {w w' : World} {nv : Value} (h : Bar (fun k => k = G) w w') : Stp G w nv w' nv := ⟨(Bar.refl (PFr G nv) w).trans h fun _ _ hs => .inl hs, fun _ hg => .inl hg⟩
theorem Stp.below {G : Nat} {w w' : World} {nv : Value} (h : Below w.heap.size w w') : Stp G w nv w' nv := ⟨Bar.of_below h, fun _ hg => .inl hg⟩
theorem Stp.next {G : Nat} {w w1 w2 : World} {nv nv1 : Value} (h : Stp G w nv w1 nv1) (hb : Below w1.heap.size w1 w2) : Stp G w nv w2 nv1 := h.trans (Stp.below hb)
def peekX (ts : List Tk) (en : Int) (R : Except PE PS) : Tk := match R with
 | .ok st => (ts[st.i]?).getD ⟨-1, [], 0, en⟩
 | .error _ => ⟨-1, [], 0, en⟩
theorem peek_ok (ts : List Tk) (en : Int) (st : PS) : peekX ts en (.ok st) = (ts[st.i]?).getD ⟨-1, [], 0, en⟩ := rfl
theorem peek_here (ts : List Tk) (en : Int) (st : PS) : (peekX ts en (.ok st)).at_ = hereP ts en st.i := by
 rw [peek_ok]; unfold hereP; cases ts[st.i]? <;> rfl
def takeX (ts : List Tk) (R : Except PE PS) (u : List UInt8) : Except PE PS := match R with
 | .ok st => if isP ts st.i u then .ok ⟨st.i + 1, st.ns⟩ else .ok st
 | .error e => .error e
theorem take_no {ts : List Tk} {R : Except PE PS} {u : List UInt8} (h : isX ts R u = false) : takeX ts R u = R := by
 cases R with
 | error e => rfl
 | ok st => have h : isP ts st.i u = false := h; show (if isP ts st.i u then _ else _) = _; rw [if_neg (by rw [h]; decide)]
theorem want_no {ts : List Tk} {en : Int} {R : Except PE PS} {u : List UInt8} (h : isX ts R u = false) : (R >>= wantP ts en u) = failX ts en R 403 := by
 cases R with
 | error e => rfl
 | ok st => have h : isP ts st.i u = false := h; show (if isP ts st.i u then _ else _) = _; rw [if_neg (by rw [h]; decide)]; rfl
theorem want_yes {ts : List Tk} {en : Int} {R : Except PE PS} {u : List UInt8} (h : isX ts R u = true) : (R >>= wantP ts en u) = takeX ts R u := by
 cases R with
 | error e => rfl
 | ok st => have h : isP ts st.i u = true := h; show (if isP ts st.i u then _ else _) = (if isP ts st.i u then _ else _); rw [if_pos h, if_pos h]
theorem isX_ok {ts : List Tk} {R : Except PE PS} {u : List UInt8} (h : isX ts R u = true) : ∃ st, R = .ok st ∧ st.i < ts.length ∧ takeX ts R u = .ok ⟨st.i + 1, st.ns⟩ := by
 cases R with
 | error e => cases h
 | ok st => have h : isP ts st.i u = true := h; exact ⟨st, rfl, isP_lt h, by show (if isP ts st.i u then _ else _) = _; rw [if_pos h]⟩
open Go.RowKit
open Go.RowKit
open Go.RowKit
theorem name_no {ts : List Tk} {en : Int} {R : Except PE PS} (h : (peekX ts en R).kind ≠ 0) : stX (R >>= nameP ts en) = failX ts en R 403 ∧ ∀ y st', (R >>= nameP ts en) ≠ .ok (y, st') := by
 cases R with
 | error e => exact ⟨rfl, fun y st' hc => by cases hc⟩
 | ok st =>
  have e : nameP ts en st = .error (403, hereP ts en st.i) := by
   rw [peek_ok] at h
   unfold nameP
   cases hg : ts[st.i]? with
   | none => rfl
   | some t => rw [hg] at h; exact if_neg h
  exact ⟨by show stX (nameP ts en st) = _; rw [e]; rfl, fun y st' hc => by have hc : nameP ts en st = _ := hc; rw [e] at hc; cases hc⟩
theorem name_yes {ts : List Tk} {en : Int} {R : Except PE PS} (h : (peekX ts en R).kind = 0) : ∃ st, R = .ok st ∧ st.i < ts.length ∧ (R >>= nameP ts en) = .ok (bs (peekX ts en R).text, ⟨st.i + 1, st.ns⟩) := by
 cases R with
 | error e => cases h
 | ok st =>
  rw [peek_ok] at h ⊢
  cases hg : ts[st.i]? with
  | none => rw [hg] at h; cases h
  | some t =>
   rw [hg] at h
   refine ⟨st, rfl, (List.getElem?_eq_some_iff.1 hg).1, ?_⟩
   show nameP ts en st = _
   unfold nameP
   rw [hg]
   exact if_pos h
open Go.RowKit
theorem step_ndr {ops : Array Oper} {o : Oper} {a : Act} {K : Act → World → Prop} {Q : Exit → Act → World → Prop} {E : Prop} (hgd : o.guard = none) (s x : Operand) (W : World) (B : Nat) (hB : B ≤ W.heap.size) (ov : Value) (l ys : List Nd) (arr : Array Value)
  (ho : o.op = .call { callee := .builtin .append, args := #[s, x], argTypes := #[23, 23] })
  (hs : a.eval s = ov) (m : Nat) (hm : m = ys.length) (hx : a.eval x = .slice (some ⟨W.heap.size, 0, none⟩) m m) (harr : arr.toList = ndL ys) (hown : OwnN B W ov l) (hlen : l.length + ys.length ≤ 1000000)
  (h : ∀ v' w', OwnN B w' v' (l ++ ys) → Bar (fun k => ov.ownBlock = some k) W w' → (∀ g, v'.ownBlock = some g → ov.ownBlock = some g ∨ W.heap.size ≤ g) → K (a.put o.dst v') w') :
  if Region.wanted o (yielded ops a.tmps) = true then Oper.wp Tryz.prog o a (W.alloc (.cells arr 45)) K Q else E := by
 subst hm
 have hw : Region.wanted o (yielded ops a.tmps) = true := by simp [Region.wanted, hgd]
 rw [if_pos hw]
 obtain ⟨v', w', hr, h1, h2, h3⟩ := run_appN2 (W := W.alloc (.cells arr 45)) B (by simp; omega) o.type ov l (hown.below (below_alc W _)) ⟨W.heap.size, 0, none⟩ ys.length ys.length ys rfl (fun j u hj => by
  have e : (⟨W.heap.size, 0, none⟩ : Addr).add j = ⟨W.heap.size, j, none⟩ := by simp [Addr.add]; try omega
  rw [e, World.cell?_alloc_at _ _ _ _ rfl, ← hj, ← harr, Array.getElem?_toList]) hlen
 unfold Oper.wp
 simp [execOp, ho, resolve, invoke, builtin, hs, hx, hr, Result.andThen]
 refine h v' w' h1 ?_ fun g hg => ?_
 ·have hsz := h2.size
  simp at hsz
  exact ⟨h2.os, h2.tape, h2.output, by omega, fun k hk hn => (h2.block k (by simp; omega) hn).trans (Below.heap_alloc W _ k (by omega))⟩
 ·rcases h3 g hg with h | h
  ·exact .inl h
  ·exact .inr (by simp at h; omega)
theorem own_sl {B : Nat} {w : World} {v : Value} {l : List Nd} (h : OwnN B w v l) : ∃ a c, v = .slice a l.length c := by
 rcases h.cases with ⟨rfl, rfl⟩ | ⟨g, c, rfl, _⟩
 ·exact ⟨none, 0, rfl⟩
 ·exact ⟨_, c, rfl⟩
theorem nd_box (w W : World) (t : Nd) (hW : w.alloc (.cells #[.int .i64 t.k, .int .i64 t.a, .int .i64 t.b, .int .i64 t.c, .int .i64 t.n, .string t.nm, .string t.x, .string t.y, .string t.z, .int .i64 t.p] 45) = W) : (W.cell? ⟨w.heap.size, 0, none⟩ = some (.int .i64 t.k) ∧ W.cell? ⟨w.heap.size, 1, none⟩ = some (.int .i64 t.a) ∧ W.cell? ⟨w.heap.size, 2, none⟩ = some (.int .i64 t.b) ∧ W.cell? ⟨w.heap.size, 3, none⟩ = some (.int .i64 t.c) ∧ W.cell? ⟨w.heap.size, 4, none⟩ = some (.int .i64 t.n) ∧ W.cell? ⟨w.heap.size, 5, none⟩ = some (.string t.nm) ∧ W.cell? ⟨w.heap.size, 6, none⟩ = some (.string t.x) ∧ W.cell? ⟨w.heap.size, 7, none⟩ = some (.string t.y) ∧ W.cell? ⟨w.heap.size, 8, none⟩ = some (.string t.z) ∧ W.cell? ⟨w.heap.size, 9, none⟩ = some (.int .i64 t.p)) ∧ Below w.heap.size w W ∧ w.heap.size < W.heap.size := by
 subst hW
 refine ⟨⟨?_, ?_, ?_, ?_, ?_, ?_, ?_, ?_, ?_, ?_⟩, below_alc _ _, by simp⟩ <;> (rw [World.cell?_alloc_at _ _ _ _ rfl]; rfl)
open Go.RowKit
structure NdBox (G : Nat) (w : World) (nv : Value) (b : Nat) (t : Nd) : Prop where
 c0 : w.cell? ⟨b, 0, none⟩ = some (.int .i64 t.k)
 c1 : w.cell? ⟨b, 1, none⟩ = some (.int .i64 t.a)
 c2 : w.cell? ⟨b, 2, none⟩ = some (.int .i64 t.b)
 c3 : w.cell? ⟨b, 3, none⟩ = some (.int .i64 t.c)
 c4 : w.cell? ⟨b, 4, none⟩ = some (.int .i64 t.n)
 c5 : w.cell? ⟨b, 5, none⟩ = some (.string t.nm)
 c6 : w.cell? ⟨b, 6, none⟩ = some (.string t.x)
 c7 : w.cell? ⟨b, 7, none⟩ = some (.string t.y)
 c8 : w.cell? ⟨b, 8, none⟩ = some (.string t.z)
 c9 : w.cell? ⟨b, 9, none⟩ = some (.int .i64 t.p)
 fz : ∀ o, w.frozen? ⟨b, o, none⟩ = false
 gb : b ≠ G
 ob : nv.ownBlock ≠ some b
 lt : b < w.heap.size
 ty : TyAt w b 45
theorem NdBox.step {G b : Nat} {w w' : World} {nv nv' : Value} {t : Nd} (h : NdBox G w nv b t) (hs : Stp G w nv w' nv') : NdBox G w' nv' b t := by
 have hp : ¬ PFr G nv b := fun hc => by rcases hc with hc | hc; exact h.gb hc; exact h.ob hc
 exact ⟨hs.1.cell h.c0 hp, hs.1.cell h.c1 hp, hs.1.cell h.c2 hp, hs.1.cell h.c3 hp, hs.1.cell h.c4 hp, hs.1.cell h.c5 hp, hs.1.cell h.c6 hp, hs.1.cell h.c7 hp, hs.1.cell h.c8 hp, hs.1.cell h.c9 hp, fun o => by rw [hs.1.frozen (a := ⟨b, o, none⟩) h.lt hp]; exact h.fz o, h.gb, fun e => by rcases hs.2 b e with e | e; exact h.ob e; have := h.lt; omega, by have := hs.1.size; have := h.lt; omega, h.ty.bar hs.1 hp⟩
theorem NdBox.set0 {G b : Nat} {w : World} {nv : Value} {t : Nd} (h : NdBox G w nv b t) (v : Int) : NdBox G (w.setCell ⟨b, 0, none⟩ (.int .i64 v)) nv b { t with k := v } := by
 have ne : ∀ a c : Nat, a ≠ c → (⟨b, a, none⟩ : Addr) ≠ ⟨b, c, none⟩ := fun a c hab e => by injection e with _ e2 _; exact hab e2
 exact ⟨setS h.c0, setO h.c1 (ne _ _ (by decide)), setO h.c2 (ne _ _ (by decide)), setO h.c3 (ne _ _ (by decide)), setO h.c4 (ne _ _ (by decide)), setO h.c5 (ne _ _ (by decide)), setO h.c6 (ne _ _ (by decide)), setO h.c7 (ne _ _ (by decide)), setO h.c8 (ne _ _ (by decide)), setO h.c9 (ne _ _ (by decide)), fun o => by simp only [World.frozen?_setCell]; exact h.fz o, h.gb, h.ob, by have := h.lt; simpa using this, h.ty.set _ _⟩
theorem NdBox.set1 {G b : Nat} {w : World} {nv : Value} {t : Nd} (h : NdBox G w nv b t) (v : Int) : NdBox G (w.setCell ⟨b, 1, none⟩ (.int .i64 v)) nv b { t with a := v } := by
 have ne : ∀ a c : Nat, a ≠ c → (⟨b, a, none⟩ : Addr) ≠ ⟨b, c, none⟩ := fun a c hab e => by injection e with _ e2 _; exact hab e2
 exact ⟨setO h.c0 (ne _ _ (by decide)), setS h.c1, setO h.c2 (ne _ _ (by decide)), setO h.c3 (ne _ _ (by decide)), setO h.c4 (ne _ _ (by decide)), setO h.c5 (ne _ _ (by decide)), setO h.c6 (ne _ _ (by decide)), setO h.c7 (ne _ _ (by decide)), setO h.c8 (ne _ _ (by decide)), setO h.c9 (ne _ _ (by decide)), fun o => by simp only [World.frozen?_setCell]; exact h.fz o, h.gb, h.ob, by have := h.lt; simpa using this, h.ty.set _ _⟩
theorem NdBox.set2 {G b : Nat} {w : World} {nv : Value} {t : Nd} (h : NdBox G w nv b t) (v : Int) : NdBox G (w.setCell ⟨b, 2, none⟩ (.int .i64 v)) nv b { t with b := v } := by
 have ne : ∀ a c : Nat, a ≠ c → (⟨b, a, none⟩ : Addr) ≠ ⟨b, c, none⟩ := fun a c hab e => by injection e with _ e2 _; exact hab e2
 exact ⟨setO h.c0 (ne _ _ (by decide)), setO h.c1 (ne _ _ (by decide)), setS h.c2, setO h.c3 (ne _ _ (by decide)), setO h.c4 (ne _ _ (by decide)), setO h.c5 (ne _ _ (by decide)), setO h.c6 (ne _ _ (by decide)), setO h.c7 (ne _ _ (by decide)), setO h.c8 (ne _ _ (by decide)), setO h.c9 (ne _ _ (by decide)), fun o => by simp only [World.frozen?_setCell]; exact h.fz o, h.gb, h.ob, by have := h.lt; simpa using this, h.ty.set _ _⟩
theorem NdBox.set3 {G b : Nat} {w : World} {nv : Value} {t : Nd} (h : NdBox G w nv b t) (v : Int) : NdBox G (w.setCell ⟨b, 3, none⟩ (.int .i64 v)) nv b { t with c := v } := by
 have ne : ∀ a c : Nat, a ≠ c → (⟨b, a, none⟩ : Addr) ≠ ⟨b, c, none⟩ := fun a c hab e => by injection e with _ e2 _; exact hab e2
 exact ⟨setO h.c0 (ne _ _ (by decide)), setO h.c1 (ne _ _ (by decide)), setO h.c2 (ne _ _ (by decide)), setS h.c3, setO h.c4 (ne _ _ (by decide)), setO h.c5 (ne _ _ (by decide)), setO h.c6 (ne _ _ (by decide)), setO h.c7 (ne _ _ (by decide)), setO h.c8 (ne _ _ (by decide)), setO h.c9 (ne _ _ (by decide)), fun o => by simp only [World.frozen?_setCell]; exact h.fz o, h.gb, h.ob, by have := h.lt; simpa using this, h.ty.set _ _⟩
theorem NdBox.set4 {G b : Nat} {w : World} {nv : Value} {t : Nd} (h : NdBox G w nv b t) (v : Int) : NdBox G (w.setCell ⟨b, 4, none⟩ (.int .i64 v)) nv b { t with n := v } := by
 have ne : ∀ a c : Nat, a ≠ c → (⟨b, a, none⟩ : Addr) ≠ ⟨b, c, none⟩ := fun a c hab e => by injection e with _ e2 _; exact hab e2
 exact ⟨setO h.c0 (ne _ _ (by decide)), setO h.c1 (ne _ _ (by decide)), setO h.c2 (ne _ _ (by decide)), setO h.c3 (ne _ _ (by decide)), setS h.c4, setO h.c5 (ne _ _ (by decide)), setO h.c6 (ne _ _ (by decide)), setO h.c7 (ne _ _ (by decide)), setO h.c8 (ne _ _ (by decide)), setO h.c9 (ne _ _ (by decide)), fun o => by simp only [World.frozen?_setCell]; exact h.fz o, h.gb, h.ob, by have := h.lt; simpa using this, h.ty.set _ _⟩
theorem NdBox.set5 {G b : Nat} {w : World} {nv : Value} {t : Nd} (h : NdBox G w nv b t) (v : ByteArray) : NdBox G (w.setCell ⟨b, 5, none⟩ (.string v)) nv b { t with nm := v } := by
 have ne : ∀ a c : Nat, a ≠ c → (⟨b, a, none⟩ : Addr) ≠ ⟨b, c, none⟩ := fun a c hab e => by injection e with _ e2 _; exact hab e2
 exact ⟨setO h.c0 (ne _ _ (by decide)), setO h.c1 (ne _ _ (by decide)), setO h.c2 (ne _ _ (by decide)), setO h.c3 (ne _ _ (by decide)), setO h.c4 (ne _ _ (by decide)), setS h.c5, setO h.c6 (ne _ _ (by decide)), setO h.c7 (ne _ _ (by decide)), setO h.c8 (ne _ _ (by decide)), setO h.c9 (ne _ _ (by decide)), fun o => by simp only [World.frozen?_setCell]; exact h.fz o, h.gb, h.ob, by have := h.lt; simpa using this, h.ty.set _ _⟩
theorem NdBox.set6 {G b : Nat} {w : World} {nv : Value} {t : Nd} (h : NdBox G w nv b t) (v : ByteArray) : NdBox G (w.setCell ⟨b, 6, none⟩ (.string v)) nv b { t with x := v } := by
 have ne : ∀ a c : Nat, a ≠ c → (⟨b, a, none⟩ : Addr) ≠ ⟨b, c, none⟩ := fun a c hab e => by injection e with _ e2 _; exact hab e2
 exact ⟨setO h.c0 (ne _ _ (by decide)), setO h.c1 (ne _ _ (by decide)), setO h.c2 (ne _ _ (by decide)), setO h.c3 (ne _ _ (by decide)), setO h.c4 (ne _ _ (by decide)), setO h.c5 (ne _ _ (by decide)), setS h.c6, setO h.c7 (ne _ _ (by decide)), setO h.c8 (ne _ _ (by decide)), setO h.c9 (ne _ _ (by decide)), fun o => by simp only [World.frozen?_setCell]; exact h.fz o, h.gb, h.ob, by have := h.lt; simpa using this, h.ty.set _ _⟩
theorem NdBox.set7 {G b : Nat} {w : World} {nv : Value} {t : Nd} (h : NdBox G w nv b t) (v : ByteArray) : NdBox G (w.setCell ⟨b, 7, none⟩ (.string v)) nv b { t with y := v } := by
 have ne : ∀ a c : Nat, a ≠ c → (⟨b, a, none⟩ : Addr) ≠ ⟨b, c, none⟩ := fun a c hab e => by injection e with _ e2 _; exact hab e2
 exact ⟨setO h.c0 (ne _ _ (by decide)), setO h.c1 (ne _ _ (by decide)), setO h.c2 (ne _ _ (by decide)), setO h.c3 (ne _ _ (by decide)), setO h.c4 (ne _ _ (by decide)), setO h.c5 (ne _ _ (by decide)), setO h.c6 (ne _ _ (by decide)), setS h.c7, setO h.c8 (ne _ _ (by decide)), setO h.c9 (ne _ _ (by decide)), fun o => by simp only [World.frozen?_setCell]; exact h.fz o, h.gb, h.ob, by have := h.lt; simpa using this, h.ty.set _ _⟩
theorem NdBox.set8 {G b : Nat} {w : World} {nv : Value} {t : Nd} (h : NdBox G w nv b t) (v : ByteArray) : NdBox G (w.setCell ⟨b, 8, none⟩ (.string v)) nv b { t with z := v } := by
 have ne : ∀ a c : Nat, a ≠ c → (⟨b, a, none⟩ : Addr) ≠ ⟨b, c, none⟩ := fun a c hab e => by injection e with _ e2 _; exact hab e2
 exact ⟨setO h.c0 (ne _ _ (by decide)), setO h.c1 (ne _ _ (by decide)), setO h.c2 (ne _ _ (by decide)), setO h.c3 (ne _ _ (by decide)), setO h.c4 (ne _ _ (by decide)), setO h.c5 (ne _ _ (by decide)), setO h.c6 (ne _ _ (by decide)), setO h.c7 (ne _ _ (by decide)), setS h.c8, setO h.c9 (ne _ _ (by decide)), fun o => by simp only [World.frozen?_setCell]; exact h.fz o, h.gb, h.ob, by have := h.lt; simpa using this, h.ty.set _ _⟩
open Go.RowKit
theorem Stp.store {G : Nat} {w W : World} {nv nv' : Value} (h : Stp G w nv W nv') {b : Nat} (hb : w.heap.size ≤ b) (o : Nat) (v : Value) : Stp G w nv (W.setCell ⟨b, o, none⟩ v) nv' :=
 ⟨h.1.trans (Bar.set (S := fun k => k = b) ⟨b, o, none⟩ v rfl) fun k hk e => by omega, h.2⟩
theorem fun_eq {ts : List Tk} {en : Int} {e : PS → Except PE (Nat × PS)} {beg : Int} {R : Except PE PS} {x : ByteArray} {a : Int} (hv1 : ∀ y st', (R >>= nameP ts en) = .ok (y, st') → x = y) (hv3 : ∀ n st', ((stX (R >>= nameP ts en) >>= wantP ts en sgArrow) >>= e) = .ok (n, st') → a = (n : Nat)) :
  (stX ((stX (R >>= nameP ts en) >>= wantP ts en sgArrow) >>= e) >>= putP ts en ⟨3, a, 0, 0, 0, ba0, x, ba0, ba0, beg⟩) = (R >>= funP ts en e beg) := by
 cases R with
 | error _ => rfl
 | ok st =>
  have h1 : (Except.ok st >>= nameP ts en) = nameP ts en st := rfl
  have h2 : (Except.ok st >>= funP ts en e beg) = funP ts en e beg st := rfl
  rw [h1] at hv1 hv3 ⊢
  rw [h2]; unfold funP
  cases hn : nameP ts en st with
  | error er => rfl
  | ok y =>
   obtain ⟨y, s1⟩ := y
   rw [hn] at hv3
   obtain rfl := hv1 _ _ hn
   have h3 : (stX (Except.ok (x, s1) : Except PE (ByteArray × PS)) >>= wantP ts en sgArrow) = wantP ts en sgArrow s1 := rfl
   rw [h3] at hv3 ⊢
   show _ = (wantP ts en sgArrow s1 >>= fun st => e st >>= fun a => putP ts en ⟨3, (a.1 : Nat), 0, 0, 0, ba0, x, ba0, ba0, beg⟩ a.2)
   cases hw : wantP ts en sgArrow s1 with
   | error er => rfl
   | ok s2 =>
    rw [hw] at hv3
    have h4 : ∀ {β : Type} (f : PS → Except PE β), (Except.ok s2 >>= f) = f s2 := fun f => rfl
    rw [h4] at hv3 ⊢
    rw [h4]
    cases he : e s2 with
    | error er => rfl
    | ok n =>
     obtain ⟨n, s3⟩ := n
     obtain rfl := hv3 _ _ he
     rfl
open Go.RowKit
theorem plet_eq {ts : List Tk} {en : Int} {e : PS → Except PE (Nat × PS)} {beg : Int} {R : Except PE PS} {x1 : ByteArray} {a3 : Int} {a5 : Int} (hv1 : ∀ y st', (R >>= nameP ts en) = .ok (y, st') → x1 = y) (hv3 : ∀ n st', (((stX (R >>= nameP ts en)) >>= wantP ts en sgEq) >>= e) = .ok (n, st') → a3 = (n : Nat)) (hv5 : ∀ n st', (((stX (((stX (R >>= nameP ts en)) >>= wantP ts en sgEq) >>= e)) >>= wantP ts en kwIn) >>= e) = .ok (n, st') → a5 = (n : Nat)) :
  ((stX (((stX (((stX (R >>= nameP ts en)) >>= wantP ts en sgEq) >>= e)) >>= wantP ts en kwIn) >>= e)) >>= putP ts en ⟨5, a3, a5, 0, 0, ⟨#[]⟩, x1, ⟨#[]⟩, ⟨#[]⟩, beg⟩) = (R >>= letP ts en e beg) := by
 rcases R with _ | st
 ·rfl
 simp only [bind, Except.bind, stX] at hv1 hv3 hv5 ⊢
 simp only [letP, bind, Except.bind]
 rcases h1 : nameP ts en st with _ | ⟨y1, s1⟩
 ·simp only [h1]
 simp only [h1]
 try simp only [h1] at hv1
 try simp only [h1] at hv3
 try simp only [h1] at hv5
 obtain rfl := hv1 _ _ rfl
 rcases h2 : wantP ts en sgEq s1 with _ | s2
 ·simp only [h2]
 simp only [h2]
 try simp only [h2] at hv3
 try simp only [h2] at hv5
 rcases h3 : e s2 with _ | ⟨y3, s3⟩
 ·simp only [h3]
 simp only [h3]
 try simp only [h3] at hv3
 try simp only [h3] at hv5
 obtain rfl := hv3 _ _ rfl
 rcases h4 : wantP ts en kwIn s3 with _ | s4
 ·simp only [h4]
 simp only [h4]
 try simp only [h4] at hv5
 rcases h5 : e s4 with _ | ⟨y5, s5⟩
 ·simp only [h5]
 simp only [h5]
 try simp only [h5] at hv5
 obtain rfl := hv5 _ _ rfl
 first | rfl | done
theorem pif_eq {ts : List Tk} {en : Int} {e : PS → Except PE (Nat × PS)} {beg : Int} {R : Except PE PS} {a1 : Int} {a3 : Int} {a5 : Int} (hv1 : ∀ n st', (R >>= e) = .ok (n, st') → a1 = (n : Nat)) (hv3 : ∀ n st', (((stX (R >>= e)) >>= wantP ts en kwThen) >>= e) = .ok (n, st') → a3 = (n : Nat)) (hv5 : ∀ n st', (((stX (((stX (R >>= e)) >>= wantP ts en kwThen) >>= e)) >>= wantP ts en kwElse) >>= e) = .ok (n, st') → a5 = (n : Nat)) :
  ((stX (((stX (((stX (R >>= e)) >>= wantP ts en kwThen) >>= e)) >>= wantP ts en kwElse) >>= e)) >>= putP ts en ⟨7, a1, a3, a5, 0, ⟨#[]⟩, ⟨#[]⟩, ⟨#[]⟩, ⟨#[]⟩, beg⟩) = (R >>= ifP ts en e beg) := by
 rcases R with _ | st
 ·rfl
 simp only [bind, Except.bind, stX] at hv1 hv3 hv5 ⊢
 simp only [ifP, bind, Except.bind]
 rcases h1 : e st with _ | ⟨y1, s1⟩
 ·simp only [h1]
 simp only [h1]
 try simp only [h1] at hv1
 try simp only [h1] at hv3
 try simp only [h1] at hv5
 obtain rfl := hv1 _ _ rfl
 rcases h2 : wantP ts en kwThen s1 with _ | s2
 ·simp only [h2]
 simp only [h2]
 try simp only [h2] at hv3
 try simp only [h2] at hv5
 rcases h3 : e s2 with _ | ⟨y3, s3⟩
 ·simp only [h3]
 simp only [h3]
 try simp only [h3] at hv3
 try simp only [h3] at hv5
 obtain rfl := hv3 _ _ rfl
 rcases h4 : wantP ts en kwElse s3 with _ | s4
 ·simp only [h4]
 simp only [h4]
 try simp only [h4] at hv5
 rcases h5 : e s4 with _ | ⟨y5, s5⟩
 ·simp only [h5]
 simp only [h5]
 try simp only [h5] at hv5
 obtain rfl := hv5 _ _ rfl
 first | rfl | done
theorem prec_eq {ts : List Tk} {en : Int} {e : PS → Except PE (Nat × PS)} {beg : Int} {R : Except PE PS} {x1 : ByteArray} {x2 : ByteArray} {a4 : Int} {a6 : Int} (hv1 : ∀ y st', (R >>= nameP ts en) = .ok (y, st') → x1 = y) (hv2 : ∀ y st', ((stX (R >>= nameP ts en)) >>= nameP ts en) = .ok (y, st') → x2 = y) (hv4 : ∀ n st', (((stX ((stX (R >>= nameP ts en)) >>= nameP ts en)) >>= wantP ts en sgEq) >>= e) = .ok (n, st') → a4 = (n : Nat)) (hv6 : ∀ n st', (((stX (((stX ((stX (R >>= nameP ts en)) >>= nameP ts en)) >>= wantP ts en sgEq) >>= e)) >>= wantP ts en kwIn) >>= e) = .ok (n, st') → a6 = (n : Nat)) :
  ((stX (((stX (((stX ((stX (R >>= nameP ts en)) >>= nameP ts en)) >>= wantP ts en sgEq) >>= e)) >>= wantP ts en kwIn) >>= e)) >>= putP ts en ⟨6, a4, a6, 0, 0, ⟨#[]⟩, x1, x2, ⟨#[]⟩, beg⟩) = (R >>= recP ts en e beg) := by
 rcases R with _ | st
 ·rfl
 simp only [bind, Except.bind, stX] at hv1 hv2 hv4 hv6 ⊢
 simp only [recP, bind, Except.bind]
 rcases h1 : nameP ts en st with _ | ⟨y1, s1⟩
 ·simp only [h1]
 simp only [h1]
 try simp only [h1] at hv1
 try simp only [h1] at hv2
 try simp only [h1] at hv4
 try simp only [h1] at hv6
 obtain rfl := hv1 _ _ rfl
 rcases h2 : nameP ts en s1 with _ | ⟨y2, s2⟩
 ·simp only [h2]
 simp only [h2]
 try simp only [h2] at hv2
 try simp only [h2] at hv4
 try simp only [h2] at hv6
 obtain rfl := hv2 _ _ rfl
 rcases h3 : wantP ts en sgEq s2 with _ | s3
 ·simp only [h3]
 simp only [h3]
 try simp only [h3] at hv4
 try simp only [h3] at hv6
 rcases h4 : e s3 with _ | ⟨y4, s4⟩
 ·simp only [h4]
 simp only [h4]
 try simp only [h4] at hv4
 try simp only [h4] at hv6
 obtain rfl := hv4 _ _ rfl
 rcases h5 : wantP ts en kwIn s4 with _ | s5
 ·simp only [h5]
 simp only [h5]
 try simp only [h5] at hv6
 rcases h6 : e s5 with _ | ⟨y6, s6⟩
 ·simp only [h6]
 simp only [h6]
 try simp only [h6] at hv6
 obtain rfl := hv6 _ _ rfl
 first | rfl | done
theorem phandle_eq {ts : List Tk} {en : Int} {e : PS → Except PE (Nat × PS)} {beg : Int} {R : Except PE PS} {a1 : Int} {x3 : ByteArray} {x4 : ByteArray} {x5 : ByteArray} {a7 : Int} {x9 : ByteArray} {a11 : Int} (hv1 : ∀ n st', (R >>= e) = .ok (n, st') → a1 = (n : Nat)) (hv3 : ∀ y st', (((stX (R >>= e)) >>= wantP ts en kwWith) >>= nameP ts en) = .ok (y, st') → x3 = y) (hv4 : ∀ y st', ((stX (((stX (R >>= e)) >>= wantP ts en kwWith) >>= nameP ts en)) >>= nameP ts en) = .ok (y, st') → x4 = y) (hv5 : ∀ y st', ((stX ((stX (((stX (R >>= e)) >>= wantP ts en kwWith) >>= nameP ts en)) >>= nameP ts en)) >>= nameP ts en) = .ok (y, st') → x5 = y) (hv7 : ∀ n st', (((stX ((stX ((stX (((stX (R >>= e)) >>= wantP ts en kwWith) >>= nameP ts en)) >>= nameP ts en)) >>= nameP ts en)) >>= wantP ts en sgArrow) >>= e) = .ok (n, st') → a7 = (n : Nat)) (hv9 : ∀ y st', (((stX (((stX ((stX ((stX (((stX (R >>= e)) >>= wantP ts en kwWith) >>= nameP ts en)) >>= nameP ts en)) >>= nameP ts en)) >>= wantP ts en sgArrow) >>= e)) >>= wantP ts en kwReturn) >>= nameP ts en) = .ok (y, st') → x9 = y) (hv11 : ∀ n st', (((stX (((stX (((stX ((stX ((stX (((stX (R >>= e)) >>= wantP ts en kwWith) >>= nameP ts en)) >>= nameP ts en)) >>= nameP ts en)) >>= wantP ts en sgArrow) >>= e)) >>= wantP ts en kwReturn) >>= nameP ts en)) >>= wantP ts en sgArrow) >>= e) = .ok (n, st') → a11 = (n : Nat)) :
  (((stX (((stX (((stX (((stX ((stX ((stX (((stX (R >>= e)) >>= wantP ts en kwWith) >>= nameP ts en)) >>= nameP ts en)) >>= nameP ts en)) >>= wantP ts en sgArrow) >>= e)) >>= wantP ts en kwReturn) >>= nameP ts en)) >>= wantP ts en sgArrow) >>= e)) >>= wantP ts en kwEnd) >>= putP ts en ⟨10, a1, a7, a11, 0, x3, x4, x5, x9, beg⟩) = (R >>= handleP ts en e beg) := by
 rcases R with _ | st
 ·rfl
 simp only [bind, Except.bind, stX] at hv1 hv3 hv4 hv5 hv7 hv9 hv11 ⊢
 simp only [handleP, bind, Except.bind]
 rcases h1 : e st with _ | ⟨y1, s1⟩
 ·simp only [h1]
 simp only [h1]
 try simp only [h1] at hv1
 try simp only [h1] at hv3
 try simp only [h1] at hv4
 try simp only [h1] at hv5
 try simp only [h1] at hv7
 try simp only [h1] at hv9
 try simp only [h1] at hv11
 obtain rfl := hv1 _ _ rfl
 rcases h2 : wantP ts en kwWith s1 with _ | s2
 ·simp only [h2]
 simp only [h2]
 try simp only [h2] at hv3
 try simp only [h2] at hv4
 try simp only [h2] at hv5
 try simp only [h2] at hv7
 try simp only [h2] at hv9
 try simp only [h2] at hv11
 rcases h3 : nameP ts en s2 with _ | ⟨y3, s3⟩
 ·simp only [h3]
 simp only [h3]
 try simp only [h3] at hv3
 try simp only [h3] at hv4
 try simp only [h3] at hv5
 try simp only [h3] at hv7
 try simp only [h3] at hv9
 try simp only [h3] at hv11
 obtain rfl := hv3 _ _ rfl
 rcases h4 : nameP ts en s3 with _ | ⟨y4, s4⟩
 ·simp only [h4]
 simp only [h4]
 try simp only [h4] at hv4
 try simp only [h4] at hv5
 try simp only [h4] at hv7
 try simp only [h4] at hv9
 try simp only [h4] at hv11
 obtain rfl := hv4 _ _ rfl
 rcases h5 : nameP ts en s4 with _ | ⟨y5, s5⟩
 ·simp only [h5]
 simp only [h5]
 try simp only [h5] at hv5
 try simp only [h5] at hv7
 try simp only [h5] at hv9
 try simp only [h5] at hv11
 obtain rfl := hv5 _ _ rfl
 rcases h6 : wantP ts en sgArrow s5 with _ | s6
 ·simp only [h6]
 simp only [h6]
 try simp only [h6] at hv7
 try simp only [h6] at hv9
 try simp only [h6] at hv11
 rcases h7 : e s6 with _ | ⟨y7, s7⟩
 ·simp only [h7]
 simp only [h7]
 try simp only [h7] at hv7
 try simp only [h7] at hv9
 try simp only [h7] at hv11
 obtain rfl := hv7 _ _ rfl
 rcases h8 : wantP ts en kwReturn s7 with _ | s8
 ·simp only [h8]
 simp only [h8]
 try simp only [h8] at hv9
 try simp only [h8] at hv11
 rcases h9 : nameP ts en s8 with _ | ⟨y9, s9⟩
 ·simp only [h9]
 simp only [h9]
 try simp only [h9] at hv9
 try simp only [h9] at hv11
 obtain rfl := hv9 _ _ rfl
 rcases h10 : wantP ts en sgArrow s9 with _ | s10
 ·simp only [h10]
 simp only [h10]
 try simp only [h10] at hv11
 rcases h11 : e s10 with _ | ⟨y11, s11⟩
 ·simp only [h11]
 simp only [h11]
 try simp only [h11] at hv11
 obtain rfl := hv11 _ _ rfl
 rcases h12 : wantP ts en kwEnd s11 with _ | s12
 ·simp only [h12]
 simp only [h12]
 first | rfl | done
open Go.RowKit
def startsX (ts : List Tk) (R : Except PE PS) : Bool := match R with
 | .ok st => startsP ts st.i
 | .error _ => false
theorem start_eq (ts : List Tk) (en : Int) (R : Except PE PS) : startsX ts R = ((peekX ts en R).kind == 0 || (peekX ts en R).kind == 1 || isX ts R kwTrue || isX ts R kwFalse || isX ts R sgOpen || isX ts R kwHandle) := by
 cases R with
 | error e => rfl
 | ok st =>
  show startsP ts st.i = (_ || _ || isP ts st.i kwTrue || isP ts st.i kwFalse || isP ts st.i sgOpen || isP ts st.i kwHandle)
  rw [peek_ok]
  unfold startsP
  cases hg : ts[st.i]? with
  | some t => rfl
  | none =>
   have e : ∀ u, isP ts st.i u = false := fun u => by unfold isP; rw [hg]
   simp only [e]; rfl
open Go.RowKit
section
variable {ts : List Tk} {en : Int} {e : PS → Except PE (Nat × PS)} {R : Except PE PS}
theorem at_some {st : PS} {t : Tk} (hg : ts[st.i]? = some t) : (Except.ok st >>= atomP ts en e) = (if t.kind = 0 then putP ts en ⟨0, 0, 0, 0, 0, bs t.text, ba0, ba0, ba0, t.at_⟩ ⟨st.i + 1, st.ns⟩
  else if t.kind = 1 then putP ts en ⟨1, 0, 0, 0, t.num, ba0, ba0, ba0, ba0, t.at_⟩ ⟨st.i + 1, st.ns⟩
  else if isP ts st.i kwTrue then putP ts en ⟨2, 0, 0, 0, 1, ba0, ba0, ba0, ba0, t.at_⟩ ⟨st.i + 1, st.ns⟩
  else if isP ts st.i kwFalse then putP ts en ⟨2, 0, 0, 0, 0, ba0, ba0, ba0, ba0, t.at_⟩ ⟨st.i + 1, st.ns⟩
  else if isP ts st.i sgOpen then (do
   let (a, st) ← e ⟨st.i + 1, st.ns⟩
   let st ← wantP ts en sgShut st
   .ok (a, st))
  else if isP ts st.i kwHandle then handleP ts en e t.at_ ⟨st.i + 1, st.ns⟩
  else .error (403, hereP ts en st.i)) := by
 show atomP ts en e st = _
 unfold atomP
 rw [hg]
theorem at_peek {t : Tk} (hp : peekX ts en R = t) (hk : t.kind ≠ -1) : ∃ st, R = .ok st ∧ ts[st.i]? = some t := by
 cases R with
 | error e => exact absurd (hp ▸ rfl) hk
 | ok st =>
  rw [peek_ok] at hp
  cases hg : ts[st.i]? with
  | none => rw [hg] at hp; exact absurd (hp ▸ rfl) hk
  | some u => rw [hg] at hp; exact ⟨st, rfl, by rw [hg]; exact congrArg some hp⟩
theorem at_is {t : Tk} {u : List UInt8} (hp : peekX ts en R = t) (hu : isX ts R u = true) : ∃ st, R = .ok st ∧ ts[st.i]? = some t ∧ isP ts st.i u = true ∧ takeX ts R u = .ok ⟨st.i + 1, st.ns⟩ := by
 obtain ⟨st, rfl, hi, hx⟩ := isX_ok hu
 rw [peek_ok, List.getElem?_eq_getElem hi] at hp
 exact ⟨st, rfl, by rw [List.getElem?_eq_getElem hi]; exact congrArg some hp, hu, hx⟩
theorem at0 {t : Tk} (hp : peekX ts en R = t) (hk : t.kind = 0) : ∃ st, R = .ok st ∧ st.i < ts.length ∧ (R >>= atomP ts en e) = putP ts en ⟨0, 0, 0, 0, 0, bs t.text, ⟨#[]⟩, ⟨#[]⟩, ⟨#[]⟩, t.at_⟩ ⟨st.i + 1, st.ns⟩ := by
 obtain ⟨st, rfl, hg⟩ := at_peek hp (by rw [hk]; decide)
 exact ⟨st, rfl, (List.getElem?_eq_some_iff.1 hg).1, by rw [at_some hg, if_pos hk]; rfl⟩
theorem at1 {t : Tk} (hp : peekX ts en R = t) (hk : t.kind = 1) : ∃ st, R = .ok st ∧ st.i < ts.length ∧ (R >>= atomP ts en e) = putP ts en ⟨1, 0, 0, 0, t.num, ⟨#[]⟩, ⟨#[]⟩, ⟨#[]⟩, ⟨#[]⟩, t.at_⟩ ⟨st.i + 1, st.ns⟩ := by
 obtain ⟨st, rfl, hg⟩ := at_peek hp (by rw [hk]; decide)
 exact ⟨st, rfl, (List.getElem?_eq_some_iff.1 hg).1, by rw [at_some hg, if_neg (by rw [hk]; decide), if_pos hk]; rfl⟩
theorem at2 {t : Tk} (hp : peekX ts en R = t) (h0 : t.kind ≠ 0) (h1 : t.kind ≠ 1) (h2 : isX ts R kwTrue = true) : (R >>= atomP ts en e) = (takeX ts R kwTrue >>= putP ts en ⟨2, 0, 0, 0, 1, ⟨#[]⟩, ⟨#[]⟩, ⟨#[]⟩, ⟨#[]⟩, t.at_⟩) := by
 obtain ⟨st, rfl, hg, hu, hx⟩ := at_is hp h2
 rw [hx, at_some hg, if_neg h0, if_neg h1, if_pos hu]; rfl
theorem at3 {t : Tk} (hp : peekX ts en R = t) (h0 : t.kind ≠ 0) (h1 : t.kind ≠ 1) (h2 : isX ts R kwTrue = false) (h3 : isX ts R kwFalse = true) : (R >>= atomP ts en e) = (takeX ts R kwFalse >>= putP ts en ⟨2, 0, 0, 0, 0, ⟨#[]⟩, ⟨#[]⟩, ⟨#[]⟩, ⟨#[]⟩, t.at_⟩) := by
 obtain ⟨st, rfl, hg, hu, hx⟩ := at_is hp h3
 have h2 : isP ts st.i kwTrue = false := h2
 rw [hx, at_some hg, if_neg h0, if_neg h1, if_neg (by rw [h2]; decide), if_pos hu]; rfl
theorem at4 {t : Tk} (hp : peekX ts en R = t) (h0 : t.kind ≠ 0) (h1 : t.kind ≠ 1) (h2 : isX ts R kwTrue = false) (h3 : isX ts R kwFalse = false) (h4 : isX ts R sgOpen = true) : (R >>= atomP ts en e) = ((takeX ts R sgOpen >>= e) >>= fun p => wantP ts en sgShut p.2 >>= fun s => .ok (p.1, s)) := by
 obtain ⟨st, rfl, hg, hu, hx⟩ := at_is hp h4
 have h2 : isP ts st.i kwTrue = false := h2
 have h3 : isP ts st.i kwFalse = false := h3
 rw [hx, at_some hg, if_neg h0, if_neg h1, if_neg (by rw [h2]; decide), if_neg (by rw [h3]; decide), if_pos hu]; rfl
theorem at5 {t : Tk} (hp : peekX ts en R = t) (h0 : t.kind ≠ 0) (h1 : t.kind ≠ 1) (h2 : isX ts R kwTrue = false) (h3 : isX ts R kwFalse = false) (h4 : isX ts R sgOpen = false) (h5 : isX ts R kwHandle = true) : (R >>= atomP ts en e) = (takeX ts R kwHandle >>= handleP ts en e t.at_) := by
 obtain ⟨st, rfl, hg, hu, hx⟩ := at_is hp h5
 have h2 : isP ts st.i kwTrue = false := h2
 have h3 : isP ts st.i kwFalse = false := h3
 have h4 : isP ts st.i sgOpen = false := h4
 rw [hx, at_some hg, if_neg h0, if_neg h1, if_neg (by rw [h2]; decide), if_neg (by rw [h3]; decide), if_neg (by rw [h4]; decide), if_pos hu]; rfl
theorem at6 {t : Tk} (hp : peekX ts en R = t) (h0 : t.kind ≠ 0) (h1 : t.kind ≠ 1) (h2 : isX ts R kwTrue = false) (h3 : isX ts R kwFalse = false) (h4 : isX ts R sgOpen = false) (h5 : isX ts R kwHandle = false) : stX (R >>= atomP ts en e) = failX ts en R 403 ∧ ∀ x st', (R >>= atomP ts en e) ≠ .ok (x, st') := by
 cases R with
 | error e => exact ⟨rfl, fun x st' hc => by cases hc⟩
 | ok st =>
  have h2 : isP ts st.i kwTrue = false := h2
  have h3 : isP ts st.i kwFalse = false := h3
  have h4 : isP ts st.i sgOpen = false := h4
  have h5 : isP ts st.i kwHandle = false := h5
  have k : (Except.ok st >>= atomP ts en e) = .error (403, hereP ts en st.i) := by
   cases hg : ts[st.i]? with
   | none => show atomP ts en e st = _; unfold atomP; rw [hg]
   | some u =>
    have hu : u = t := by rw [peek_ok, hg] at hp; exact hp
    subst hu
    rw [at_some hg, if_neg h0, if_neg h1, if_neg (by rw [h2]; decide), if_neg (by rw [h3]; decide), if_neg (by rw [h4]; decide), if_neg (by rw [h5]; decide)]
  rw [k]
  exact ⟨rfl, fun x st' hc => by cases hc⟩
theorem shut_st {R' : Except PE (Nat × PS)} : stX (R' >>= fun p => wantP ts en sgShut p.2 >>= fun s => (Except.ok (p.1, s) : Except PE (Nat × PS))) = (stX R' >>= wantP ts en sgShut) := by
 cases R' with
 | error e => rfl
 | ok p =>
  show stX (wantP ts en sgShut p.2 >>= _) = wantP ts en sgShut p.2
  cases wantP ts en sgShut p.2 <;> rfl
theorem shut_ok {R' : Except PE (Nat × PS)} {x : Nat} {st' : PS} (h : (R' >>= fun p => wantP ts en sgShut p.2 >>= fun s => (Except.ok (p.1, s) : Except PE (Nat × PS))) = .ok (x, st')) : ∃ s, R' = .ok (x, s) := by
 cases R' with
 | error e => cases h
 | ok p =>
  obtain ⟨a, s⟩ := p
  have h' : (wantP ts en sgShut s >>= fun u => (Except.ok (a, u) : Except PE (Nat × PS))) = .ok (x, st') := h
  cases hw : wantP ts en sgShut s with
  | error e => rw [hw] at h'; cases h'
  | ok u =>
   rw [hw] at h'
   have h2 : (Except.ok (a, u) : Except PE (Nat × PS)) = .ok (x, st') := h'
   injection h2 with h2
   injection h2 with h2 _
   exact ⟨s, by rw [h2]⟩
end
open Go.RowKit
structure TkB (G : Nat) (w : World) (g : Nat) (t : Tk) : Prop where
 c0 : w.cell? ⟨g, 0, none⟩ = some (.int .i64 t.kind)
 c1 : w.cell? ⟨g, 1, none⟩ = some (.string (bs t.text))
 c2 : w.cell? ⟨g, 2, none⟩ = some (.int .i64 t.num)
 c3 : w.cell? ⟨g, 3, none⟩ = some (.int .i64 t.at_)
 gb : g ≠ G
 lt : g < w.heap.size
theorem TkB.step {G g : Nat} {w w' : World} {t : Tk} (h : TkB G w g t) (hb : Bar (fun k => k = G) w w') : TkB G w' g t :=
 ⟨hb.cell h.c0 h.gb, hb.cell h.c1 h.gb, hb.cell h.c2 h.gb, hb.cell h.c3 h.gb, h.gb, by have := hb.size; have := h.lt; omega⟩
theorem TkB.new (G : Nat) (w : World) (t : Tk) (hG : G < w.heap.size) : TkB G (w.alloc (.cells #[.int .i64 t.kind, .string (bs t.text), .int .i64 t.num, .int .i64 t.at_] 114)) w.heap.size t := by
 refine ⟨?_, ?_, ?_, ?_, by omega, by simp⟩ <;> (rw [World.cell?_alloc_at _ _ _ _ rfl]; rfl)
open Go.RowKit
def doP (ts : List Tk) (en : Int) (e : PS → Except PE (Nat × PS)) (beg : Int) (st : PS) : Except PE (Nat × PS) := do
 let (x, st) ← nameP ts en st
 let (a, st) ← e st
 putP ts en ⟨9, (a : Nat), 0, 0, 0, x, ba0, ba0, ba0, beg⟩ st
theorem pdo_eq {ts : List Tk} {en : Int} {e : PS → Except PE (Nat × PS)} {beg : Int} {R : Except PE PS} {x1 : ByteArray} {a2 : Int} (hv1 : ∀ y st', (R >>= nameP ts en) = .ok (y, st') → x1 = y) (hv2 : ∀ n st', ((stX (R >>= nameP ts en)) >>= e) = .ok (n, st') → a2 = (n : Nat)) :
  ((stX ((stX (R >>= nameP ts en)) >>= e)) >>= putP ts en ⟨9, a2, 0, 0, 0, x1, ⟨#[]⟩, ⟨#[]⟩, ⟨#[]⟩, beg⟩) = (R >>= doP ts en e beg) := by
 rcases R with _ | st
 ·rfl
 simp only [bind, Except.bind, stX] at hv1 hv2 ⊢
 simp only [doP, bind, Except.bind]
 rcases h1 : nameP ts en st with _ | ⟨y1, s1⟩
 ·simp only [h1]
 simp only [h1]
 try simp only [h1] at hv1
 try simp only [h1] at hv2
 obtain rfl := hv1 _ _ rfl
 rcases h2 : e s1 with _ | ⟨y2, s2⟩
 ·simp only [h2]
 simp only [h2]
 try simp only [h2] at hv2
 obtain rfl := hv2 _ _ rfl
 first | rfl | done
theorem first_no {ts : List Tk} {en : Int} {e : PS → Except PE (Nat × PS)} {R : Except PE PS} (h : isX ts R kwDo = false) : (R >>= firstP ts en e) = (R >>= atomP ts en e) := by
 cases R with
 | error e => rfl
 | ok st =>
  have h : isP ts st.i kwDo = false := h
  show firstP ts en e st = atomP ts en e st
  unfold firstP
  rw [if_neg (by rw [h]; decide)]
theorem first_yes {ts : List Tk} {en : Int} {e : PS → Except PE (Nat × PS)} {R : Except PE PS} (h : isX ts R kwDo = true) : (R >>= firstP ts en e) = (takeX ts R kwDo >>= doP ts en (atomP ts en e) (peekX ts en R).at_) := by
 obtain ⟨st, rfl, hi, hx⟩ := isX_ok h
 have h : isP ts st.i kwDo = true := h
 rw [hx, peek_here]
 show firstP ts en e st = _
 unfold firstP
 rw [if_pos h]
 rfl
open Go.RowKit
def primV (ts : List Tk) (en : Int) (num at_ l : Int) (o : PS → Except PE (Nat × PS)) (st : PS) : Except PE (Nat × PS) := do
 let (b, st) ← o st
 putP ts en ⟨8, l, (b : Nat), 0, num, ba0, ba0, ba0, ba0, at_⟩ st
theorem prim_eq {ts : List Tk} {en : Int} {o : PS → Except PE (Nat × PS)} {num at_ l a : Int} {R : Except PE PS} (hv : ∀ n st', (R >>= o) = .ok (n, st') → a = (n : Nat)) : (stX (R >>= o) >>= putP ts en ⟨8, l, a, 0, num, ⟨#[]⟩, ⟨#[]⟩, ⟨#[]⟩, ⟨#[]⟩, at_⟩) = (R >>= primV ts en num at_ l o) := by
 rcases R with _ | st
 ·rfl
 simp only [bind, Except.bind, stX] at hv ⊢
 simp only [primV, bind, Except.bind]
 rcases h1 : o st with _ | ⟨y, s⟩
 ·simp only []
 simp only []
 rw [h1] at hv
 obtain rfl := hv _ _ rfl
 rfl
open Go.RowKit
open Go.RowKit
theorem base1 {ts : List Tk} {en : Int} {R : Except PE PS} (h : isX ts R kwInt = true) : ∃ s, takeX ts R kwInt = .ok s ∧ (R >>= baseP ts en) = .ok (0, s) := by
 obtain ⟨st, rfl, hi, hx⟩ := isX_ok h
 have h : isP ts st.i kwInt = true := h
 exact ⟨_, hx, by show baseP ts en st = _; unfold baseP; rw [if_pos h]⟩
open Go.RowKit
section
variable {B G : Nat} {tv : Value} {ts : List Tk} {en : Int} {ov : Value} {d : Int} {w : World} {nv : Value} {T : Except PE (Nat × PS)} {k : Nat} {z : Int} {wr : World} {nvr : Value} {Rr : Except PE (Nat × PS)} {e o : PS → Except PE (Nat × PS)} {beg : Int}
end
theorem rk_start {ts : List Tk} {en : Int} {o f : PS → Except PE (Nat × PS)} {R : Except PE PS} {u v : List UInt8} {nu nw : Int} (hf : ∀ st, f st = (do
 let (l, st) ← o st
 rankLoop ts en u v nu nw o (ts.length + 1) l st)) : ((R >>= o) >>= fun p => rankLoop ts en u v nu nw o (ts.length + 1) p.1 p.2) = (R >>= f) := by
 rcases R with _ | st
 ·rfl
 show _ = f st
 rw [hf]
 rfl
open Go.RowKit
open Go.RowKit
open Go.RowKit
section
variable {ts : List Tk} {en : Int} {e : PS → Except PE (Nat × PS)} {R : Except PE PS} {z : Int}
theorem cmp_u (hz : ∀ n st, (R >>= sumP ts en e) = .ok (n, st) → z = (n : Nat)) (hu : isX ts (stX (R >>= sumP ts en e)) sgEq2 = true) : (takeX ts (stX (R >>= sumP ts en e)) sgEq2 >>= primV ts en 4 (peekX ts en (stX (R >>= sumP ts en e))).at_ z (sumP ts en e)) = (R >>= compareP ts en e) := by
 rcases R with _ | st
 ·cases hu
 have hz : ∀ n s1, sumP ts en e st = .ok (n, s1) → z = (n : Nat) := hz
 have hu : isX ts (stX (sumP ts en e st)) sgEq2 = true := hu
 show (takeX ts (stX (sumP ts en e st)) sgEq2 >>= primV ts en 4 (peekX ts en (stX (sumP ts en e st))).at_ z (sumP ts en e)) = compareP ts en e st
 unfold compareP
 rcases ha : sumP ts en e st with _ | ⟨n, s1⟩
 ·rw [ha] at hu; cases hu
 rw [ha] at hu
 obtain rfl := hz _ _ ha
 have hu : isP ts s1.i sgEq2 = true := hu
 have hx0 : takeX ts (stX (.ok (n, s1) : Except PE (Nat × PS))) sgEq2 = .ok ⟨s1.i + 1, s1.ns⟩ := by
  show (if isP ts s1.i sgEq2 then _ else _) = _
  rw [if_pos hu]
 have hp0 : (peekX ts en (stX (.ok (n, s1) : Except PE (Nat × PS)))).at_ = hereP ts en s1.i := peek_here ts en s1
 rw [hx0, hp0]
 show primV ts en 4 (hereP ts en s1.i) n (sumP ts en e) ⟨s1.i + 1, s1.ns⟩ = (if isP ts s1.i sgEq2 then _ else _)
 rw [if_pos hu]
 rfl
theorem cmp_v (hz : ∀ n st, (R >>= sumP ts en e) = .ok (n, st) → z = (n : Nat)) (hu : isX ts (stX (R >>= sumP ts en e)) sgEq2 = false) (hv : isX ts (stX (R >>= sumP ts en e)) sgLess = true) : (takeX ts (stX (R >>= sumP ts en e)) sgLess >>= primV ts en 5 (peekX ts en (stX (R >>= sumP ts en e))).at_ z (sumP ts en e)) = (R >>= compareP ts en e) := by
 rcases R with _ | st
 ·cases hv
 have hz : ∀ n s1, sumP ts en e st = .ok (n, s1) → z = (n : Nat) := hz
 have hu : isX ts (stX (sumP ts en e st)) sgEq2 = false := hu
 have hv : isX ts (stX (sumP ts en e st)) sgLess = true := hv
 show (takeX ts (stX (sumP ts en e st)) sgLess >>= primV ts en 5 (peekX ts en (stX (sumP ts en e st))).at_ z (sumP ts en e)) = compareP ts en e st
 unfold compareP
 rcases ha : sumP ts en e st with _ | ⟨n, s1⟩
 ·rw [ha] at hv; cases hv
 rw [ha] at hu hv
 obtain rfl := hz _ _ ha
 have hu : isP ts s1.i sgEq2 = false := hu
 have hv : isP ts s1.i sgLess = true := hv
 have hx0 : takeX ts (stX (.ok (n, s1) : Except PE (Nat × PS))) sgLess = .ok ⟨s1.i + 1, s1.ns⟩ := by
  show (if isP ts s1.i sgLess then _ else _) = _
  rw [if_pos hv]
 have hp0 : (peekX ts en (stX (.ok (n, s1) : Except PE (Nat × PS)))).at_ = hereP ts en s1.i := peek_here ts en s1
 rw [hx0, hp0]
 show primV ts en 5 (hereP ts en s1.i) n (sumP ts en e) ⟨s1.i + 1, s1.ns⟩ = (if isP ts s1.i sgEq2 then _ else if isP ts s1.i sgLess then _ else _)
 rw [if_neg (by rw [hu]; decide), if_pos hv]
 rfl
theorem cmp_end (hu : isX ts (stX (R >>= sumP ts en e)) sgEq2 = false) (hv : isX ts (stX (R >>= sumP ts en e)) sgLess = false) : (R >>= sumP ts en e) = (R >>= compareP ts en e) := by
 rcases R with _ | st
 ·rfl
 have hu : isX ts (stX (sumP ts en e st)) sgEq2 = false := hu
 have hv : isX ts (stX (sumP ts en e st)) sgLess = false := hv
 show sumP ts en e st = compareP ts en e st
 unfold compareP
 rcases ha : sumP ts en e st with _ | ⟨n, s1⟩
 ·rfl
 rw [ha] at hu hv
 have hu : isP ts s1.i sgEq2 = false := hu
 have hv : isP ts s1.i sgLess = false := hv
 show _ = (if isP ts s1.i sgEq2 then _ else if isP ts s1.i sgLess then _ else _)
 rw [if_neg (by rw [hu]; decide), if_neg (by rw [hv]; decide)]
theorem op_fun (h0 : isX ts R kwFun = true) : (takeX ts R kwFun >>= funP ts en e (peekX ts en R).at_) = (R >>= openP ts en e) := by
 obtain ⟨st, rfl, _, hx⟩ := isX_ok h0
 have h0 : isP ts st.i kwFun = true := h0
 rw [hx, peek_here]
 show _ = openP ts en e st
 unfold openP
 rw [if_pos h0]
 rfl
theorem op_rec (h0 : isX ts R kwFun = false) (h1 : isX ts R kwLet = true) (h2 : isX ts (takeX ts R kwLet) kwRec = true) : (takeX ts (takeX ts R kwLet) kwRec >>= recP ts en e (peekX ts en R).at_) = (R >>= openP ts en e) := by
 obtain ⟨st, rfl, _, hx⟩ := isX_ok h1
 have h0 : isP ts st.i kwFun = false := h0
 have h1 : isP ts st.i kwLet = true := h1
 rw [hx] at h2 ⊢
 have h2 : isP ts (st.i + 1) kwRec = true := h2
 have hx2 : takeX ts (.ok ⟨st.i + 1, st.ns⟩) kwRec = .ok ⟨st.i + 2, st.ns⟩ := by
  show (if isP ts (st.i + 1) kwRec then _ else _) = _
  rw [if_pos h2]
 rw [hx2, peek_here]
 show _ = openP ts en e st
 unfold openP
 rw [if_neg (by rw [h0]; decide), if_pos h1, if_pos h2]
 rfl
theorem op_let (h0 : isX ts R kwFun = false) (h1 : isX ts R kwLet = true) (h2 : isX ts (takeX ts R kwLet) kwRec = false) : (takeX ts R kwLet >>= letP ts en e (peekX ts en R).at_) = (R >>= openP ts en e) := by
 obtain ⟨st, rfl, _, hx⟩ := isX_ok h1
 have h0 : isP ts st.i kwFun = false := h0
 have h1 : isP ts st.i kwLet = true := h1
 rw [hx] at h2 ⊢
 have h2 : isP ts (st.i + 1) kwRec = false := h2
 rw [peek_here]
 show _ = openP ts en e st
 unfold openP
 rw [if_neg (by rw [h0]; decide), if_pos h1, if_neg (by rw [h2]; decide)]
 rfl
theorem op_if (h0 : isX ts R kwFun = false) (h1 : isX ts R kwLet = false) (h2 : isX ts R kwIf = true) : (takeX ts R kwIf >>= ifP ts en e (peekX ts en R).at_) = (R >>= openP ts en e) := by
 obtain ⟨st, rfl, _, hx⟩ := isX_ok h2
 have h0 : isP ts st.i kwFun = false := h0
 have h1 : isP ts st.i kwLet = false := h1
 have h2 : isP ts st.i kwIf = true := h2
 rw [hx, peek_here]
 show _ = openP ts en e st
 unfold openP
 rw [if_neg (by rw [h0]; decide), if_neg (by rw [h1]; decide), if_pos h2]
 rfl
theorem op_cmp (h0 : isX ts R kwFun = false) (h1 : isX ts R kwLet = false) (h2 : isX ts R kwIf = false) : (R >>= compareP ts en e) = (R >>= openP ts en e) := by
 rcases R with _ | st
 ·rfl
 have h0 : isP ts st.i kwFun = false := h0
 have h1 : isP ts st.i kwLet = false := h1
 have h2 : isP ts st.i kwIf = false := h2
 show _ = openP ts en e st
 unfold openP
 rw [if_neg (by rw [h0]; decide), if_neg (by rw [h1]; decide), if_neg (by rw [h2]; decide)]
 rfl
end
open Go.RowKit
theorem run_appO2 {W : World} (B : Nat) (hB : B ≤ W.heap.size) (ty : TypeId) (v : Value) (l : List Or) (hown : OwnO B W v l) (ad : Addr) (m c : Nat) (ys : List Or) (hm : m = ys.length) (hnews : ∀ j u, (orL ys)[j]? = some u → W.cell? (ad.add j) = some u) (hlen : l.length + ys.length ≤ 1000000) :
  ∃ v' w', (Builtin.append_ #[22, 22] ty #[v, .slice (some ad) m c]).run Tryz.prog W = .ok v' w' ∧ OwnO B w' v' (l ++ ys) ∧ Bar (fun k => v.ownBlock = some k) W w' ∧ (∀ g, v'.ownBlock = some g → v.ownBlock = some g ∨ W.heap.size ≤ g) := by
 subst hm
 obtain ⟨i0, hi, hz0, hz1, hz2⟩ := info_parts infoOr
 obtain ⟨v', w', hr, h1, h2, h3⟩ := run_append_own (P := Tryz.prog) (w := W) B 22 ty 54 i0 (.agg #[.string ByteArray.empty, .int .i64 0, .int .i64 0]) 3 32 Tryz.underlying22 hi hz0 hz1 hz2 rfl (by decide) v l.length (orL l) hown ad ys.length c (orL ys) (orL_len ys) hnews (orL_one ys) (by unfold maxLen; omega) (by omega) hB
 have h1' : OwnO B w' v' (l ++ ys) := by unfold OwnO; rw [orL_app, List.length_append]; exact h1
 have hbar : Bar (fun k => v.ownBlock = some k) W w' := ⟨h2.os, h2.tape, h2.output, h2.size, fun k hk hn => h2.block k hk (fun e => hn e.symm)⟩
 refine ⟨v', w', hr, h1', hbar, ?_⟩
 rcases hown.2 with ⟨e1, e0⟩ | ⟨g, cap, cur, e1, hBg, hg, hc, hcm, hcs, htk⟩
 ·have hl0 : l = [] := List.eq_nil_of_length_eq_zero e0
  subst hl0; subst e1
  intro k hk
  by_cases h0 : ys.length = 0
  ·have := h3.2 ⟨rfl, h0⟩; rw [this] at hk; cases hk
  ·have hr2 := run_append_nil (P := Tryz.prog) W 22 ty 54 i0 (.agg #[.string ByteArray.empty, .int .i64 0, .int .i64 0]) Tryz.underlying22 hi hz0 ad ys.length c (orL ys) (by rw [orL_len, hz1]) hnews (by omega) (by omega) (by rw [hz2]; omega)
   rw [hr] at hr2
   injection hr2 with e1 e2
   subst e1
   have hk : W.heap.size = k := Option.some.inj hk
   exact .inr (by omega)
 ·subst e1
  by_cases hroom : l.length + ys.length ≤ cap
  ·have hfit : l.length * i0.size + (orL ys).length ≤ cur.size := by
    rw [hz1, hcs, orL_len]
    have := Nat.mul_le_mul_right 3 hroom
    rw [Nat.add_mul] at this; omega
   have hr2 := run_append_room (P := Tryz.prog) W 22 ty 54 i0 Tryz.underlying22 hi g l.length cap cur hg ad ys.length c (orL ys) (by rw [orL_len, hz1]) hnews (orL_one ys) hroom hfit
   rw [hr] at hr2
   injection hr2 with e1 e2
   intro k hk
   exact .inl (by rw [e1] at hk; exact hk)
  ·have hr2 := run_append_grow (P := Tryz.prog) W 22 ty 54 i0 (.agg #[.string ByteArray.empty, .int .i64 0, .int .i64 0]) Tryz.underlying22 hi hz0 ⟨g, 0, none⟩ l.length cap (orL l) (by rw [orL_len, hz1]) (fun j u hj => World.ownsRow.cells (show W.ownsRow B 54 3 (.slice (some ⟨g, 0, none⟩) l.length cap) l.length (orL l) from hown) rfl j u hj) ad ys.length c (orL ys) (by rw [orL_len, hz1]) hnews (by omega) (by omega) (by rw [hz2]; exact growslice_fits (by omega) (by omega))
   rw [hr] at hr2
   injection hr2 with e1 e2
   have hob : v'.ownBlock = some W.heap.size := by rw [e1]; rfl
   intro k hk
   exact .inr (by rw [hob] at hk; injection hk with hk; omega)
theorem op_orr {ops : Array Oper} {rest : List Oper} {o : Oper} {a : Act} {Q : Exit → Act → World → Prop} (hgd : o.guard = none) (s x : Operand) (W : World) (B : Nat) (hB : B ≤ W.heap.size) (ov : Value) (l ys : List Or) (arr : Array Value)
  (ho : o.op = .call { callee := .builtin .append, args := #[s, x], argTypes := #[22, 22] })
  (hs : a.eval s = ov) (m : Nat) (hm : m = ys.length) (hx : a.eval x = .slice (some ⟨W.heap.size, 0, none⟩) m m) (harr : arr.toList = orL ys) (hown : OwnO B W ov l) (hlen : l.length + ys.length ≤ 1000000)
  (h : ∀ v' w', OwnO B w' v' (l ++ ys) → Bar (fun k => ov.ownBlock = some k) W w' → (∀ g, v'.ownBlock = some g → ov.ownBlock = some g ∨ W.heap.size ≤ g) → wpList Tryz.prog ops Q rest (a.put o.dst v') w') :
  wpList Tryz.prog ops Q (o :: rest) a (W.alloc (.cells arr 54)) := by
 subst hm
 refine wpList_plain hgd fun K hK => ?_
 obtain ⟨v', w', hr, h1, h2, h3⟩ := run_appO2 (W := W.alloc (.cells arr 54)) B (by simp; omega) o.type ov l (hown.below (below_alc W _)) ⟨W.heap.size, 0, none⟩ ys.length ys.length ys rfl (fun j u hj => by
  have e : (⟨W.heap.size, 0, none⟩ : Addr).add j = ⟨W.heap.size, j, none⟩ := by simp [Addr.add]; try omega
  rw [e, World.cell?_alloc_at _ _ _ _ rfl, ← hj, ← harr, Array.getElem?_toList]) hlen
 unfold Oper.wp execOp
 simp only [ho, resolve, invoke, builtin, Sem.run_bind, Sem.run_pure, Result.andThen_ok, List.map_toArray, List.map_cons, List.map_nil, hs, hx, hr]
 refine hK _ _ (h v' w' h1 ?_ fun g hg => ?_)
 ·have hsz := h2.size
  simp at hsz
  exact ⟨h2.os, h2.tape, h2.output, by omega, fun k hk hn => (h2.block k (by simp; omega) hn).trans (Below.heap_alloc W _ k (by omega))⟩
 ·rcases h3 g hg with h | h
  ·exact .inl h
  ·exact .inr (by simp at h; omega)
theorem owno_sl {B : Nat} {w : World} {v : Value} {l : List Or} (h : OwnO B w v l) : ∃ a c, v = .slice a l.length c := by
 rcases h.cases with ⟨rfl, rfl⟩ | ⟨g, c, rfl, _⟩
 ·exact ⟨none, 0, rfl⟩
 ·exact ⟨_, c, rfl⟩
theorem owno_lt {B : Nat} {w : World} {v : Value} {l : List Or} (h : OwnO B w v l) : ∀ k, v.ownBlock = some k → B ≤ k ∧ k < w.heap.size := by
 intro k hk
 rcases h.cases with ⟨rfl, _⟩ | ⟨g, c, rfl, h1, h2, _⟩
 ·cases hk
 ·have hk : g = k := Option.some.inj hk
  omega
def declQ (ts : List Tk) (en : Int) (st : PS) : Except PE (Or × PS) := do
 let (o, st) ← nameP ts en st
 let st ← wantP ts en sgColon st
 let (a, st) ← baseP ts en st
 let st ← wantP ts en sgArrow st
 let (b, st) ← baseP ts en st
 let st ← wantP ts en sgSemi st
 .ok (⟨o, a, b⟩, st)
theorem decl_chain {ts : List Tk} {en : Int} {R : Except PE PS} {x : ByteArray} {a b : Int} (hv1 : ∀ y st', (R >>= nameP ts en) = .ok (y, st') → x = y) (hv2 : ∀ y st', ((stX (R >>= nameP ts en) >>= wantP ts en sgColon) >>= baseP ts en) = .ok (y, st') → a = y) (hv3 : ∀ y st', ((stX ((stX (R >>= nameP ts en) >>= wantP ts en sgColon) >>= baseP ts en) >>= wantP ts en sgArrow) >>= baseP ts en) = .ok (y, st') → b = y) :
  (stX ((stX ((stX (R >>= nameP ts en) >>= wantP ts en sgColon) >>= baseP ts en) >>= wantP ts en sgArrow) >>= baseP ts en) >>= wantP ts en sgSemi) = stX (R >>= declQ ts en) ∧ ∀ o st', (R >>= declQ ts en) = .ok (o, st') → (⟨x, a, b⟩ : Or) = o := by
 rcases R with _ | st
 ·exact ⟨rfl, fun o st' hc => by cases hc⟩
 simp only [bind, Except.bind, stX] at hv1 hv2 hv3 ⊢
 simp only [declQ, bind, Except.bind]
 rcases h1 : nameP ts en st with _ | ⟨y1, s1⟩
 ·exact ⟨by simp only [h1], fun o st' hc => by simp only [h1] at hc; cases hc⟩
 simp only [h1] at hv1 hv2 hv3 ⊢
 obtain rfl := hv1 _ _ rfl
 rcases h2 : wantP ts en sgColon s1 with _ | s2
 ·exact ⟨by simp only [h2], fun o st' hc => by simp only [h2] at hc; cases hc⟩
 simp only [h2] at hv2 hv3 ⊢
 rcases h3 : baseP ts en s2 with _ | ⟨y3, s3⟩
 ·exact ⟨by simp only [h3], fun o st' hc => by simp only [h3] at hc; cases hc⟩
 simp only [h3] at hv2 hv3 ⊢
 obtain rfl := hv2 _ _ rfl
 rcases h4 : wantP ts en sgArrow s3 with _ | s4
 ·exact ⟨by simp only [h4], fun o st' hc => by simp only [h4] at hc; cases hc⟩
 simp only [h4] at hv3 ⊢
 rcases h5 : baseP ts en s4 with _ | ⟨y5, s5⟩
 ·exact ⟨by simp only [h5], fun o st' hc => by simp only [h5] at hc; cases hc⟩
 simp only [h5] at hv3 ⊢
 obtain rfl := hv3 _ _ rfl
 rcases h6 : wantP ts en sgSemi s5 with _ | s6
 ·exact ⟨by simp only [h6], fun o st' hc => by simp only [h6] at hc; cases hc⟩
 simp only [h6]
 exact ⟨trivial, fun o st' hc => by injection hc with hc; injection hc⟩
theorem decl_lt {ts : List Tk} {en : Int} {R : Except PE PS} {os : List Or} (h : isX ts R kwOp = true) (hl : os.length < 4) : (R >>= declP ts en os) = ((takeX ts R kwOp >>= declQ ts en) >>= fun p => .ok (os ++ [p.1], p.2)) := by
 obtain ⟨st, rfl, hi, hx⟩ := isX_ok h
 rw [hx]
 show declP ts en os st = (declQ ts en ⟨st.i + 1, st.ns⟩ >>= _)
 unfold declP declQ
 rw [if_neg (by omega)]
 simp only [bind, Except.bind]
 rcases h1 : nameP ts en ⟨st.i + 1, st.ns⟩ with _ | ⟨y1, s1⟩
 ·simp only [h1]
 simp only [h1]
 rcases h2 : wantP ts en sgColon s1 with _ | s2
 ·simp only [h2]
 simp only [h2]
 rcases h3 : baseP ts en s2 with _ | ⟨y3, s3⟩
 ·simp only [h3]
 simp only [h3]
 rcases h4 : wantP ts en sgArrow s3 with _ | s4
 ·simp only [h4]
 simp only [h4]
 rcases h5 : baseP ts en s4 with _ | ⟨y5, s5⟩
 ·simp only [h5]
 simp only [h5]
 rcases h6 : wantP ts en sgSemi s5 with _ | s6
 ·simp only [h6]
 simp only [h6]
theorem decl_ge {ts : List Tk} {en : Int} {R : Except PE PS} {os : List Or} (h : isX ts R kwOp = true) (hl : 4 ≤ os.length) : ∃ e, failX ts en R 402 = .error e ∧ (R >>= declP ts en os) = .error e := by
 obtain ⟨st, rfl, hi, hx⟩ := isX_ok h
 refine ⟨(402, hereP ts en st.i), rfl, ?_⟩
 show declP ts en os st = _
 unfold declP
 rw [if_pos hl]
theorem decl_all {ts : List Tk} {en : Int} {R R0 : Except PE PS} {os : List Or} (h : isX ts R kwOp = true) (h0 : R0 = if os.length = 4 then failX ts en R 402 else R) (hl : os.length ≤ 4) {x : ByteArray} {a b : Int} (hv1 : ∀ y st', ((R0 >>= wantP ts en kwOp) >>= nameP ts en) = .ok (y, st') → x = y) (hv2 : ∀ y st', ((stX ((R0 >>= wantP ts en kwOp) >>= nameP ts en) >>= wantP ts en sgColon) >>= baseP ts en) = .ok (y, st') → a = y) (hv3 : ∀ y st', ((stX ((stX ((R0 >>= wantP ts en kwOp) >>= nameP ts en) >>= wantP ts en sgColon) >>= baseP ts en) >>= wantP ts en sgArrow) >>= baseP ts en) = .ok (y, st') → b = y) :
  (stX ((stX ((stX ((R0 >>= wantP ts en kwOp) >>= nameP ts en) >>= wantP ts en sgColon) >>= baseP ts en) >>= wantP ts en sgArrow) >>= baseP ts en) >>= wantP ts en sgSemi) = stX (R >>= declP ts en os) ∧ ∀ l st', (R >>= declP ts en os) = .ok (l, st') → os ++ [⟨x, a, b⟩] = l := by
 by_cases h4 : os.length = 4
 ·rw [if_pos h4] at h0
  obtain ⟨e, he1, he2⟩ := decl_ge (en := en) h (Nat.le_of_eq h4.symm)
  rw [h0, he1, he2]
  exact ⟨rfl, fun l st' hc => by cases hc⟩
 ·rw [if_neg h4] at h0
  obtain ⟨k1, k2⟩ := decl_chain hv1 hv2 hv3
  subst h0
  rw [decl_lt h (by omega)]
  rw [want_yes h] at k1 k2 ⊢
  refine ⟨k1.trans ?_, ?_⟩
  ·rcases (takeX ts R0 kwOp >>= declQ ts en) with _ | ⟨o, s⟩ <;> rfl
  ·intro l st' hc
   obtain ⟨⟨o, s⟩, hd, hc⟩ := ex_ok.1 hc
   rw [k2 _ _ hd]
   injection hc with hc
   injection hc
open Go.RowKit
open Go.RowKit
theorem prog_err {ts : List Tk} {en : Int} {R : Except PE PS} {os : List Or} {T : Except PE (List Or × PS)} (hT : declLoop ts en (ts.length + 1) [] ⟨0, []⟩ = T) (hR : T = (R >>= fun st => .ok (os, st))) {e : PE} (he : stX (R >>= exprP ts en 40) = .error e) : progP ts en = .error e := by
 unfold progP
 rw [hT, hR]
 rcases R with _ | st
 ·exact congrArg Except.error (Except.error.inj he)
 have he : stX (exprP ts en 40 st) = .error e := he
 rcases hx : exprP ts en 40 st with _ | ⟨n, s⟩
 ·rw [hx] at he
  simp only [bind, Except.bind, hx]
  exact congrArg Except.error (Except.error.inj he)
 ·rw [hx] at he; cases he
theorem prog_ok {ts : List Tk} {en : Int} {R : Except PE PS} {os : List Or} {T : Except PE (List Or × PS)} (hT : declLoop ts en (ts.length + 1) [] ⟨0, []⟩ = T) (hR : T = (R >>= fun st => .ok (os, st))) {st : PS} (he : stX (R >>= exprP ts en 40) = .ok st) : progP ts en = (if st.i < ts.length then .error (403, hereP ts en st.i) else .ok (os, st.ns)) := by
 unfold progP
 rw [hT, hR]
 rcases R with _ | s0
 ·cases he
 have he : stX (exprP ts en 40 s0) = .ok st := he
 rcases hx : exprP ts en 40 s0 with _ | ⟨n, s⟩
 ·rw [hx] at he; cases he
 ·rw [hx] at he
  injection he with he
  subst he
  simp only [bind, Except.bind, hx]
end Go.Proofs.YthpcbgljbpmafaaGreatDoor
