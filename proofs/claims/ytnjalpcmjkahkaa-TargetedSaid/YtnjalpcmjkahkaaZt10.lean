/- The machine of layer 21, plain: nodes stand in the row, what is bound is no more than so many. -/
import Derived.Test.YtnjalpcmjkahkaaZt4
import Derived.Test.YtnjalpcmjkahkaaZt9
import Derived.Maps.OwnSet
import Derived.Laws.OwnMore
import Derived.WalkKit
import Derived.ProofKit
import Derived.Lib.Hide
import Derived.RegionTactic
import Derived.BigRegion
set_option maxRecDepth 100000
set_option maxHeartbeats 8000000
namespace Go.Proofs.Ytnjalpcmjkahkaa
open Go.RowKit
set_option linter.unusedVariables false
set_option linter.unusedSimpArgs false
def RV.fit (L : Int) (K : Nat) : RV → Prop
 | .num n => -1073741824 ≤ n ∧ n ≤ 1073741823
 | .tru _ => True
 | .fn n e => (0 ≤ n ∧ n < L) ∧ e.list.length ≤ K ∧ e.fit L K
 | .bnd n e f => (0 ≤ n ∧ n < L) ∧ e.list.length ≤ K ∧ e.fit L K ∧ f.fit L K
 | .fwd f g => f.fit L K ∧ g.fit L K
 | .ret v => v.fit L K
 | .op _ v f => v.fit L K ∧ f.fit L K
 | .nil => True
 | .cons v r => v.fit L K ∧ r.fit L K
theorem RV.fit.mono {L : Int} {K K' : Nat} (h : K ≤ K') {v : RV} (hv : v.fit L K) : v.fit L K' := by
 induction v with
 | num _ => exact hv
 | tru _ => trivial
 | fn _ _ ih => exact ⟨hv.1, Nat.le_trans hv.2.1 h, ih hv.2.2⟩
 | bnd _ _ _ ih ih2 => exact ⟨hv.1, Nat.le_trans hv.2.1 h, ih hv.2.2.1, ih2 hv.2.2.2⟩
 | fwd _ _ ih ih2 => exact ⟨ih hv.1, ih2 hv.2⟩
 | ret _ ih => exact ih (show RV.fit L K _ from hv)
 | op _ _ _ ih ih2 => exact ⟨ih hv.1, ih2 hv.2⟩
 | nil => trivial
 | cons _ _ ih ih2 => exact ⟨ih hv.1, ih2 hv.2⟩
theorem RV.fit.get {L : Int} {K : Nat} : ∀ {e : RV} {i : Nat} {v : RV}, e.fit L K → e.list[i]? = some v → v.fit L K
 | .num _, _, _, _, h => by cases h
 | .tru _, _, _, _, h => by cases h
 | .fn _ _, _, _, _, h => by cases h
 | .bnd _ _ _, _, _, _, h => by cases h
 | .fwd _ _, _, _, _, h => by cases h
 | .ret _, _, _, _, h => by cases h
 | .op _ _ _, _, _, _, h => by cases h
 | .nil, _, _, _, h => by cases h
 | .cons _ _, 0, _, ⟨a, _⟩, h => by cases h; exact a
 | .cons _ _, i + 1, _, ⟨_, b⟩, h => fit.get (i := i) b h
theorem RV.fit.atI {L : Int} {K : Nat} {e : RV} {f : Int} {v : RV} (h : e.fit L K) (ha : e.atI f = some v) : v.fit L K := by
 unfold RV.atI at ha
 split at ha
 ·exact h.get ha
 ·cases ha
theorem RV.cons_len (v e : RV) : (RV.cons v e).list.length = e.list.length + 1 := rfl
structure RF.fit (ts : List Tg) (K : Nat) (f : RF) : Prop where
 node : 0 ≤ f.node ∧ f.node < ts.length
 len : f.env.list.length ≤ K
 env : f.env.fit ts.length K
 val : f.val.fit ts.length K
 two : f.st = 1 → (ndT ts f.node).k = 8 ∨ (ndT ts f.node).k = 10
theorem RF.fit.mono {ts : List Tg} {K K' : Nat} (h : K ≤ K') {f : RF} (hf : f.fit ts K) : f.fit ts K' := ⟨hf.1, Nat.le_trans hf.2 h, hf.3.mono h, hf.4.mono h, hf.5⟩
def RM.fit (ts : List Tg) (K : Nat) : RM → Prop
 | .ev stk n e => (0 ≤ n ∧ n < ts.length) ∧ e.list.length ≤ K ∧ e.fit ts.length K ∧ ∀ f ∈ stk, f.fit ts K
 | .gv stk v => v.fit ts.length K ∧ ∀ f ∈ stk, f.fit ts K
 | .en _ _ => True
theorem zero_fit {L : Int} {K : Nat} : (RV.num 0).fit L K := by show (-1073741824 : Int) ≤ 0 ∧ (0 : Int) ≤ 1073741823; decide
def KidIn (ts : List Tg) : Prop := ∀ i, i < ts.length → ((ts.getD i tg0).k = 8 → 0 ≤ (ts.getD i tg0).n ∧ (ts.getD i tg0).n ≤ 5) ∧ ((ts.getD i tg0).k = 1 → -1073741824 ≤ (ts.getD i tg0).n ∧ (ts.getD i tg0).n ≤ 1073741823) ∧ (0 ≤ (ts.getD i tg0).a ∧ (ts.getD i tg0).a < ts.length) ∧ (0 ≤ (ts.getD i tg0).b ∧ (ts.getD i tg0).b < ts.length) ∧ (0 ≤ (ts.getD i tg0).c ∧ (ts.getD i tg0).c < ts.length)
theorem KidIn.at_ {ts : List Tg} (h : KidIn ts) {n : Int} (hn : 0 ≤ n ∧ n < ts.length) : ((ndT ts n).k = 8 → 0 ≤ (ndT ts n).n ∧ (ndT ts n).n ≤ 5) ∧ ((ndT ts n).k = 1 → -1073741824 ≤ (ndT ts n).n ∧ (ndT ts n).n ≤ 1073741823) ∧ (0 ≤ (ndT ts n).a ∧ (ndT ts n).a < ts.length) ∧ (0 ≤ (ndT ts n).b ∧ (ndT ts n).b < ts.length) ∧ (0 ≤ (ndT ts n).c ∧ (ndT ts n).c < ts.length) := h n.toNat (by omega)
theorem rNode_fit {ts : List Tg} {K : Nat} (hk : KidIn ts) {fur : Int} {stk : List RF} {n : Int} {e : RV} (hn : 0 ≤ n ∧ n < ts.length) (hl : e.list.length ≤ K) (he : e.fit ts.length K) (hs : ∀ f ∈ stk, f.fit ts K) :
  (rNode (ndT ts n) fur stk n e).fit ts K := by
 unfold rNode
 repeat' split
 ·trivial
 ·next h => exact ⟨he.atI h, hs⟩
 ·next h => exact ⟨(hk.at_ hn).2.1 h, hs⟩
 ·exact ⟨trivial, hs⟩
 ·exact ⟨⟨hn, hl, he⟩, hs⟩
 ·refine ⟨(hk.at_ hn).2.2.1, hl, he, fun f hf => ?_⟩
  rcases List.mem_cons.1 hf with rfl | hf
  ·exact ⟨hn, hl, he, zero_fit, fun h => by cases h⟩
  ·exact hs f hf
theorem rFirst_fit {ts : List Tg} {K : Nat} (hk : KidIn ts) {fur : Int} {f : RF} {v : RV} {stk : List RF} (hf : f.fit ts K) (hv : v.fit ts.length K) (hs : ∀ f ∈ stk, f.fit ts K) :
  (rFirst (ndT ts f.node) fur f v stk).fit ts (K + 2) := by
 have hf2 := hf.mono (K' := K + 2) (by omega)
 have hv2 := hv.mono (K' := K + 2) (by omega)
 have hs2 : ∀ f ∈ stk, f.fit ts (K + 2) := fun f h => (hs f h).mono (by omega)
 have hl := hf.len
 obtain ⟨_, _, ka, kb, kc⟩ := hk.at_ hf.node
 have hp : ∀ s, (s = 1 → (ndT ts f.node).k = 8 ∨ (ndT ts f.node).k = 10) → ∀ g ∈ ((⟨s, f.node, f.env, v⟩ : RF) :: stk), g.fit ts (K + 2) := fun s h1 g hg => by
  rcases List.mem_cons.1 hg with rfl | hg
  ·exact ⟨hf2.1, hf2.2, hf2.3, hv2, h1⟩
  ·exact hs2 g hg
 unfold rFirst
 split
 ·exact ⟨kb, hf2.2, hf2.3, hp 2 fun h => by cases h⟩
 split
 ·next h8 => exact ⟨kb, hf2.2, hf2.3, hp 1 fun _ => h8⟩
 split
 ·exact ⟨kb, by rw [RV.cons_len]; omega, ⟨hv2, hf2.3⟩, hs2⟩
 split
 ·unfold rIf
  split
  ·split
   ·exact ⟨kb, hf2.2, hf2.3, hs2⟩
   ·exact ⟨kc, hf2.2, hf2.3, hs2⟩
  ·trivial
 split
 ·exact ⟨hv2, hs2⟩
 split
 ·unfold rBind
  split
  ·exact ⟨kb, by rw [RV.cons_len]; omega, ⟨hv2, hf2.3⟩, hs2⟩
  ·exact ⟨⟨hv2.1, hf2.1, hf2.2, hf2.3, hv2.2⟩, hs2⟩
  ·trivial
 split
 ·unfold rCase
  split
  ·exact ⟨kb, by rw [RV.cons_len]; omega, ⟨hv2, hf2.3⟩, hs2⟩
  ·split
   ·exact ⟨kc, by rw [RV.cons_len, RV.cons_len]; omega, ⟨hv2.2, hv2.1, hf2.3⟩, hs2⟩
   ·split
    ·trivial
    ·next h => exact ⟨⟨hv2.1, hv2.2, hf2.3.atI h⟩, hs2⟩
  ·trivial
 ·exact ⟨hv2, hs2⟩
theorem num_bd {n : Int} (h : (numO n).1 = 0) : -1073741824 ≤ (numO n).2 ∧ (numO n).2 ≤ 1073741823 := by
 unfold numO at *
 split at h
 ·cases h
 ·rw [if_neg (by assumption)]; dsimp only; omega
theorem prm_num {p u v : Int} (h : (prmV p u v).1 = 0) : -1073741824 ≤ (prmV p u v).2 ∧ (prmV p u v).2 ≤ 1073741823 := by
 unfold prmV at *
 by_cases h0 : p = 0
 ·rw [if_pos h0] at *; exact num_bd h
 rw [if_neg h0] at *
 by_cases h0 : p = 1
 ·rw [if_pos h0] at *; exact num_bd h
 rw [if_neg h0] at *
 by_cases h0 : p = 2
 ·rw [if_pos h0] at *; exact num_bd h
 rw [if_neg h0] at *
 by_cases h0 : p = 3
 ·rw [if_pos h0] at *
  by_cases hz : v = 0
  ·rw [if_pos hz] at *; cases h
  ·rw [if_neg hz] at *; exact num_bd h
 rw [if_neg h0] at *
 have ht : ∀ b, (truO b).1 = 1 := fun b => by cases b <;> rfl
 by_cases h0 : p = 4
 ·rw [if_pos h0] at *; rw [ht] at h; cases h
 rw [if_neg h0] at *; rw [ht] at h; cases h
theorem rSecond_fit {ts : List Tg} {K : Nat} {t : Tg} {f : RF} {v : RV} {stk : List RF} (hf : f.fit ts K) (hv : v.fit ts.length K) (hs : ∀ f ∈ stk, f.fit ts K) :
  (rSecond t f v stk).fit ts K := by
 unfold rSecond
 split
 ·exact ⟨⟨hf.4, hv⟩, hs⟩
 ·unfold rPrim
  split
  ·next a b _ _ =>
   split
   ·next h0 => exact ⟨prm_num h0, hs⟩
   ·split
    ·exact ⟨trivial, hs⟩
    ·trivial
  ·trivial
theorem rApply_fit {ts : List Tg} {K : Nat} (h0 : 0 < ts.length) (hk : KidIn ts) {g v : RV} {stk : List RF} (hg : g.fit ts.length K) (hv : v.fit ts.length K) (hs : ∀ f ∈ stk, f.fit ts K) :
  (rApply ts g v stk).fit ts (K + 2) := by
 have hg2 := hg.mono (K' := K + 2) (by omega)
 have hv2 := hv.mono (K' := K + 2) (by omega)
 have hs2 : ∀ f ∈ stk, f.fit ts (K + 2) := fun f h => (hs f h).mono (by omega)
 unfold rApply
 split
 ·next n e =>
  obtain ⟨hn, hl, he⟩ := hg
  refine ⟨(hk.at_ hn).2.2.1, ?_, ⟨hv2, ?_⟩, hs2⟩
  ·rw [RV.cons_len]; split
   ·rw [RV.cons_len]; omega
   ·omega
  ·split
   ·exact ⟨hg2, hg2.2.2⟩
   ·exact hg2.2.2
 ·next n e f =>
  refine ⟨hv2, fun x hx => ?_⟩
  rcases List.mem_cons.1 hx with rfl | hx
  ·exact ⟨⟨by show (0 : Int) ≤ 0; omega, by show (0 : Int) < _; omega⟩, Nat.zero_le _, trivial, hg2.2.2.2, fun h => by cases h⟩
  ·rcases List.mem_cons.1 hx with rfl | hx
   ·exact ⟨hg2.1, hg2.2.1, hg2.2.2.1, zero_fit, fun h => by cases h⟩
   ·exact hs2 x hx
 ·next f w =>
  refine ⟨hv2, fun x hx => ?_⟩
  rcases List.mem_cons.1 hx with rfl | hx
  ·exact ⟨⟨by show (0 : Int) ≤ 0; omega, by show (0 : Int) < _; omega⟩, Nat.zero_le _, trivial, hg2.1, fun h => by cases h⟩
  ·rcases List.mem_cons.1 hx with rfl | hx
   ·exact ⟨⟨by show (0 : Int) ≤ 0; omega, by show (0 : Int) < _; omega⟩, Nat.zero_le _, trivial, hg2.2, fun h => by cases h⟩
   ·exact hs2 x hx
 ·trivial
theorem RM.fit.mono {ts : List Tg} {K K' : Nat} (h : K ≤ K') : ∀ {m : RM}, m.fit ts K → m.fit ts K'
 | .ev _ _ _, ⟨a, b, c, d⟩ => ⟨a, Nat.le_trans b h, c.mono h, fun f hf => (d f hf).mono h⟩
 | .gv _ _, ⟨a, b⟩ => ⟨a.mono h, fun f hf => (b f hf).mono h⟩
 | .en _ _, _ => trivial
theorem rStep_fit {ts : List Tg} {K : Nat} (h0 : 0 < ts.length) (hk : KidIn ts) (fur : List Int) {m : RM} (h : m.fit ts K) : (rStep ts fur m).fit ts (K + 2) := by
 unfold rStep
 split
 ·obtain ⟨a, b, c, d⟩ := h; exact (rNode_fit hk a b c d).mono (by omega)
 ·next f stk v =>
  obtain ⟨hv, hs⟩ := h
  have hf := hs f (.head _)
  have hs' : ∀ g ∈ stk, g.fit ts K := fun g hg => hs g (.tail _ hg)
  unfold rBack
  split
  ·exact rFirst_fit hk hf hv hs'
  split
  ·exact (rSecond_fit hf hv hs').mono (by omega)
  split
  ·exact rApply_fit h0 hk hf.4 hv hs'
  ·exact ⟨hv.mono (by omega), fun g hg => (hs' g hg).mono (by omega)⟩
 ·exact h.mono (by omega)
theorem rNode_no {t : Tg} {f : Int} {stk : List RF} {n : Int} {e : RV} (hk : t.k = 0) (ha : e.atI f = none) : rNode t f stk n e = .en 5 0 := by unfold rNode; rw [if_pos hk, ha]
theorem rNode_at {t : Tg} {f : Int} {stk : List RF} {n : Int} {e v : RV} (hk : t.k = 0) (ha : e.atI f = some v) : rNode t f stk n e = .gv stk v := by unfold rNode; rw [if_pos hk, ha]
theorem rNode_go {t : Tg} {f : Int} {stk : List RF} {n : Int} {e : RV} (hk : t.k ≠ 0 ∧ t.k ≠ 1 ∧ t.k ≠ 2 ∧ t.k ≠ 3 ∧ t.k ≠ 4) : rNode t f stk n e = .ev (⟨0, n, e, .num 0⟩ :: stk) t.a e := by
 unfold rNode; rw [if_neg hk.1, if_neg hk.2.1, if_neg hk.2.2.1, if_neg (by omega)]
open Go.RowKit
def Lv := Int → Option Int
def Lv.up (f : Lv) (x b : Int) : Lv := fun y => if y = x then some b else f y
def Lv.no : Lv := fun _ => none
def findV (f : Lv) (x b : Int) : Int := match f x with | none => -1 | some l => b - 1 - l
def rsW (ts : List Tg) : Nat → Int → Int → Lv → List Int → List Int
 | 0, _, _, _, fur => fur
 | n + 1, i, b, f, fur =>
  let t := ndT ts i
  if t.k = 0 then fur.set i.toNat (findV f t.n b)
  else if t.k = 3 then rsW ts n t.a (b + 1) (f.up t.x b) fur
  else if t.k = 4 then rsW ts n t.a (b + 2) ((f.up t.x b).up t.y (b + 1)) fur
  else if t.k = 9 then rsW ts n t.a b f fur
  else if t.k = 6 ∨ t.k = 11 then rsW ts n t.b (b + 1) (f.up t.x b) (rsW ts n t.a b f fur)
  else if t.k = 12 then rsW ts n t.c (b + 2) ((f.up t.y b).up t.z (b + 1)) (rsW ts n t.b (b + 1) (f.up t.x b) (rsW ts n t.a b f (fur.set i.toNat (findV f t.w b))))
  else if t.k = 7 then rsW ts n t.b b f (rsW ts n t.a b f (rsW ts n t.c b f fur))
  else if t.k = 5 ∨ t.k = 8 ∨ t.k = 10 then rsW ts n t.b b f (rsW ts n t.a b f fur)
  else fur
def furV (ts : List Tg) : List Int := rsW ts ts.length ((ts.length : Int) - 1) 0 Lv.no (List.replicate ts.length 0)
theorem rsW_len (ts : List Tg) : ∀ (n : Nat) (i b : Int) (f : Lv) (fur : List Int), (rsW ts n i b f fur).length = fur.length
 | 0, _, _, _, _ => rfl
 | n + 1, i, b, f, fur => by
  unfold rsW
  dsimp only
  repeat' split
  all_goals simp [rsW_len ts n]
theorem furV_len (ts : List Tg) : (furV ts).length = ts.length := by unfold furV; rw [rsW_len]; simp
def Lv.ok (f : Lv) (b : Int) : Prop := ∀ x l, f x = some l → 0 ≤ l ∧ l < b
theorem Lv.ok_up {f : Lv} {b x : Int} (h : f.ok b) (hb : 0 ≤ b) : (f.up x b).ok (b + 1) := fun y l hy => by
 unfold Lv.up at hy
 split at hy
 ·cases hy; omega
 ·have := h y l hy; omega
theorem Lv.ok_no : Lv.no.ok 0 := fun _ _ h => by cases h
def FurOk (fur : List Int) : Prop := ∀ i, -1 ≤ fur.getD i 0 ∧ fur.getD i 0 ≤ 1000000
theorem FurOk.set {fur : List Int} (h : FurOk fur) (i : Nat) {v : Int} (hv : -1 ≤ v ∧ v ≤ 1000000) : FurOk (fur.set i v) := fun j => by
 rw [List.getD_eq_getElem?_getD, List.getElem?_set]
 split
 ·split
  ·exact hv
  ·exact ⟨by show (-1 : Int) ≤ 0; omega, by show (0 : Int) ≤ 1000000; omega⟩
 ·rw [← List.getD_eq_getElem?_getD]; exact h j
theorem findV_ok {f : Lv} {b x : Int} (h : f.ok b) (hb : 0 ≤ b ∧ b ≤ 1000000) : -1 ≤ findV f x b ∧ findV f x b ≤ 1000000 := by
 unfold findV
 cases hx : f x with
 | none => exact ⟨by show (-1 : Int) ≤ -1; omega, by show (-1 : Int) ≤ 1000000; omega⟩
 | some l => have := h x l hx; exact ⟨by show -1 ≤ b - 1 - l; omega, by show b - 1 - l ≤ 1000000; omega⟩
def KidLt (ts : List Tg) : Prop := ∀ i, i < ts.length → ((ts.getD i tg0).k ≠ 0 → (ts.getD i tg0).k ≠ 1 → (ts.getD i tg0).k ≠ 2 → 0 ≤ (ts.getD i tg0).a ∧ (ts.getD i tg0).a < i) ∧
 (((ts.getD i tg0).k = 5 ∨ (ts.getD i tg0).k = 6 ∨ (ts.getD i tg0).k = 7 ∨ (ts.getD i tg0).k = 8 ∨ (ts.getD i tg0).k = 10 ∨ (ts.getD i tg0).k = 11 ∨ (ts.getD i tg0).k = 12) → 0 ≤ (ts.getD i tg0).b ∧ (ts.getD i tg0).b < i) ∧
 (((ts.getD i tg0).k = 7 ∨ (ts.getD i tg0).k = 12) → 0 ≤ (ts.getD i tg0).c ∧ (ts.getD i tg0).c < i)
theorem rsW_ok {ts : List Tg} (hk : KidLt ts) : ∀ (n : Nat) (i b : Int) (f : Lv) (fur : List Int), 0 ≤ i → i < ts.length → f.ok b → 0 ≤ b → b + 2 * i ≤ 999990 → FurOk fur → FurOk (rsW ts n i b f fur)
 | 0, _, _, _, _, _, _, _, _, _, h => h
 | n + 1, i, b, f, fur, hi0, hi1, hf, hb, hbi, h => by
  have hk' := hk
  have hk := hk i.toNat (by omega)
  rw [show ts.getD i.toNat tg0 = ndT ts i from rfl, show ((i.toNat : Nat) : Int) = i by omega] at hk
  have hf1 : ∀ x, (f.up x b).ok (b + 1) := fun x => Lv.ok_up hf hb
  have hf2 : ∀ x y, ((f.up x b).up y (b + 1)).ok (b + 2) := fun x y => by
   have := Lv.ok_up (x := y) (hf1 x) (by omega)
   rwa [show b + 1 + 1 = b + 2 by omega] at this
  have hfv := fun x => findV_ok (x := x) hf (by omega)
  obtain ⟨ka, kb, kc⟩ := hk
  unfold rsW
  dsimp only
  by_cases h0 : (ndT ts i).k = 0
  ·rw [if_pos h0]; exact h.set _ (hfv _)
  rw [if_neg h0]
  by_cases h3 : (ndT ts i).k = 3
  ·rw [if_pos h3]
   have ka := ka (by omega) (by omega) (by omega)
   exact rsW_ok hk' n _ _ _ _ ka.1 (by omega) (hf1 _) (by omega) (by omega) h
  rw [if_neg h3]
  by_cases h4 : (ndT ts i).k = 4
  ·rw [if_pos h4]
   have ka := ka (by omega) (by omega) (by omega)
   exact rsW_ok hk' n _ _ _ _ ka.1 (by omega) (hf2 _ _) (by omega) (by omega) h
  rw [if_neg h4]
  by_cases h9 : (ndT ts i).k = 9
  ·rw [if_pos h9]
   have ka := ka (by omega) (by omega) (by omega)
   exact rsW_ok hk' n _ _ _ _ ka.1 (by omega) hf hb (by omega) h
  rw [if_neg h9]
  by_cases h6 : (ndT ts i).k = 6 ∨ (ndT ts i).k = 11
  ·rw [if_pos h6]
   have ka := ka (by omega) (by omega) (by omega)
   have kb := kb (by omega)
   exact rsW_ok hk' n _ _ _ _ kb.1 (by omega) (hf1 _) (by omega) (by omega) (rsW_ok hk' n _ _ _ _ ka.1 (by omega) hf hb (by omega) h)
  rw [if_neg h6]
  by_cases h12 : (ndT ts i).k = 12
  ·rw [if_pos h12]
   have ka := ka (by omega) (by omega) (by omega)
   have kb := kb (by omega)
   have kc := kc (by omega)
   exact rsW_ok hk' n _ _ _ _ kc.1 (by omega) (hf2 _ _) (by omega) (by omega) (rsW_ok hk' n _ _ _ _ kb.1 (by omega) (hf1 _) (by omega) (by omega) (rsW_ok hk' n _ _ _ _ ka.1 (by omega) hf hb (by omega) (h.set _ (hfv _))))
  rw [if_neg h12]
  by_cases h7 : (ndT ts i).k = 7
  ·rw [if_pos h7]
   have ka := ka (by omega) (by omega) (by omega)
   have kb := kb (by omega)
   have kc := kc (by omega)
   exact rsW_ok hk' n _ _ _ _ kb.1 (by omega) hf (by omega) (by omega) (rsW_ok hk' n _ _ _ _ ka.1 (by omega) hf (by omega) (by omega) (rsW_ok hk' n _ _ _ _ kc.1 (by omega) hf hb (by omega) h))
  rw [if_neg h7]
  by_cases h5 : (ndT ts i).k = 5 ∨ (ndT ts i).k = 8 ∨ (ndT ts i).k = 10
  ·rw [if_pos h5]
   have ka := ka (by omega) (by omega) (by omega)
   have kb := kb (by omega)
   exact rsW_ok hk' n _ _ _ _ kb.1 (by omega) hf (by omega) (by omega) (rsW_ok hk' n _ _ _ _ ka.1 (by omega) hf hb (by omega) h)
  rw [if_neg h5]
  exact h
theorem furV_ok {ts : List Tg} (hk : KidLt ts) (h1 : 1 ≤ ts.length) (h2 : ts.length ≤ 8192) : FurOk (furV ts) := by
 unfold furV
 refine rsW_ok hk _ _ _ _ _ (by omega) (by omega) Lv.ok_no (by omega) (by omega) fun i => ?_
 rw [List.getD_eq_getElem?_getD, List.getElem?_replicate]
 split <;> exact ⟨by show (-1 : Int) ≤ 0; omega, by show (0 : Int) ≤ 1000000; omega⟩
open Go.RowKit Go.Maps
theorem lawI : Keyed Try.prog 3 := int_keyed Try.underlying3
theorem zeroI (w : World) : (zeroValue 3).run Try.prog w = .ok (.int .i64 0) w := by kernel_rfl
def heldI (v : Value) : Option (DataW Value × List MemPlace) := some (.held v, [])
theorem wfI {x : Int} (h : -1000000000 ≤ x ∧ x ≤ 1000000000) : keyOf Try.prog 3 (.int .i64 x) = some (.int .i64 x) := keyOf_int_mk Try.underlying3 (by simp [Lit.wf, IntKind.min, IntKind.max, IntKind.bits, IntKind.signed]; omega)
def LvM (w : World) (bm m : Nat) (f : Lv) : Prop :=
 ∃ D : DataW Value, w.ownsMap Try.prog 3 heldI bm (Maps.size D) D ∧ Maps.size D ≤ m ∧ ∀ x : Int, Maps.has D (.int .i64 x) = (f x).isSome ∧ ∀ l, f x = some l → ∀ z, D.atKey (.int .i64 x) z = .held (.int .i64 l)
theorem owns_tight {w : World} {bm n : Nat} {D : DataW Value} (h : w.ownsMap Try.prog 3 heldI bm n D) : w.ownsMap Try.prog 3 heldI bm (Maps.size D) D := by
 obtain ⟨es, clock, hb, F, hs, rfl⟩ := h
 exact ⟨es, clock, hb, F, by simp [Maps.size, length_sorted], rfl⟩
theorem LvM.lt {w : World} {bm m : Nat} {f : Lv} (h : LvM w bm m f) : bm < w.heap.size := by obtain ⟨D, h1, _⟩ := h; exact h1.lt
theorem LvM.bar {S : Nat → Prop} {w w' : World} {bm m : Nat} {f : Lv} (h : LvM w bm m f) (hb : Bar S w w') (hn : ¬ S bm) : LvM w' bm m f := by
 have hl := h.lt
 obtain ⟨D, ⟨es, clock, h1, h3⟩, h2⟩ := h
 exact ⟨D, ⟨es, clock, (hb.block bm hl hn).trans h1, h3⟩, h2⟩
theorem LvM.below {w w' : World} {bm m : Nat} {f : Lv} (h : LvM w bm m f) (hb : Below w.heap.size w w') : LvM w' bm m f := h.bar (Bar.of_below (S := fun _ => False) hb) id
theorem lvM_made (w : World) : LvM (w.alloc (.map #[] 0)) w.heap.size 0 Lv.no :=
 ⟨.map [], World.ownsMap_made w _ _ _, Nat.le_refl _, fun x => ⟨rfl, fun l h => by cases h⟩⟩
theorem lv_look {w : World} {bm m : Nat} {f : Lv} (h : LvM w bm m f) (x : Int) (hx : -1000000000 ≤ x ∧ x ≤ 1000000000) :
  (Instr.lookup 80 (.map (some bm)) (.int .i64 x) true).run Try.prog w = .ok (.tuple #[.int .i64 ((f x).getD 0), .bool (f x).isSome]) w := by
 obtain ⟨D, h1, h2, h3⟩ := h
 obtain ⟨h4, h6⟩ := h3 x
 obtain ⟨u, ps, hr, hu⟩ := h1.look_ok lawI Try.underlying80 (zeroI w) (zd := .held (.int .i64 0)) (zp := []) rfl (wfI hx)
 have e2 : heldI u = some (.held u, []) := rfl
 rw [e2] at hu
 rw [hr, h4]
 cases hf : f x with
 | some l =>
  rw [h6 l hf] at hu
  have hu := DataW.held.inj (Prod.mk.inj (Option.some.inj hu)).1
  rw [hu]; rfl
 | none =>
  rw [hf] at h4
  rw [atKey_of_not_has h4] at hu
  have hu := DataW.held.inj (Prod.mk.inj (Option.some.inj hu)).1
  rw [hu]; rfl
theorem lv_put {w : World} {bm m : Nat} {f : Lv} (h : LvM w bm m f) (x v : Int) (hx : -1000000000 ≤ x ∧ x ≤ 1000000000) (hm : m ≤ 1000000) :
  ∃ w', (Instr.mapUpdate 80 (.map (some bm)) (.int .i64 x) (.int .i64 v)).run Try.prog w = .ok () w' ∧ LvM w' bm (if (f x).isSome then m else m + 1) (f.up x v) ∧ Bar (fun k => k = bm) w w' := by
 obtain ⟨D, h1, h2, h3⟩ := h
 have hT := h1.tidy lawI
 obtain ⟨w', hr, h4, h5⟩ := h1.update (val := .int .i64 v) lawI Try.underlying80 (by unfold maxLen; omega) (wfI hx) (d := .held (.int .i64 v)) (ps := []) rfl
 have hb : Bar (fun k => k = bm) w w' := ⟨h5.os, h5.tape, h5.output, h5.size, fun k hk hn => h5.block k hk (fun e => hn (Option.some.inj e))⟩
 refine ⟨w', hr, ⟨_, owns_tight h4, ?_, fun y => ?_⟩, hb⟩
 ·rw [Maps.size_put hT, (h3 x).1]
  split <;> omega
 ·unfold Lv.up
  by_cases hy : y = x
  ·subst hy
   rw [if_pos rfl]
   exact ⟨has_put_same hT.isMap (by trivial) _, fun l hl z => by cases hl; exact atKey_put_same hT.isMap (by trivial) _ _⟩
  ·rw [if_neg hy]
   have hne : (Lit.int .i64 y) ≠ (Lit.int .i64 x) := fun e => hy (by injection e)
   exact ⟨(has_put_other hne _).trans (h3 y).1, fun l hl z => (atKey_put_other hne _ _).trans ((h3 y).2 l hl z)⟩
def Lv.dn (f : Lv) (x : Int) : Lv := fun y => if y = x then none else f y
theorem lv_del {w : World} {bm m : Nat} {f : Lv} (h : LvM w bm m f) (x : Int) (hx : -1000000000 ≤ x ∧ x ≤ 1000000000) (hf : (f x).isSome = true) (ty : TypeId) :
  ∃ w', (Builtin.delete_ #[80, 3] ty #[.map (some bm), .int .i64 x]).run Try.prog w = .ok (.tuple #[]) w' ∧ LvM w' bm (m - 1) (f.dn x) ∧ Bar (fun k => k = bm) w w' := by
 obtain ⟨D, h1, h2, h3⟩ := h
 have hT := h1.tidy lawI
 obtain ⟨w', hr, h4, h5⟩ := h1.drop lawI Try.underlying80 (wfI hx) ty
 have h5 := h5.grown
 have hb : Bar (fun k => k = bm) w w' := ⟨h5.os, h5.tape, h5.output, h5.size, fun k hk hn => h5.block k hk (fun e => hn (Option.some.inj e))⟩
 refine ⟨w', hr, ⟨_, owns_tight h4, ?_, fun y => ?_⟩, hb⟩
 ·have := Maps.size_del (k := .int .i64 x) hT
  rw [(h3 x).1, hf] at this
  simp at this
  omega
 ·unfold Lv.dn
  by_cases hy : y = x
  ·subst hy
   rw [if_pos rfl]
   exact ⟨has_del_same, fun l hl => by cases hl⟩
  ·rw [if_neg hy]
   have hne : (Lit.int .i64 y) ≠ (Lit.int .i64 x) := fun e => hy (by injection e)
   exact ⟨(has_del_other hne).trans (h3 y).1, fun l hl z => (atKey_del_other hne _).trans ((h3 y).2 l hl z)⟩
theorem Lv.back_put {f : Lv} {x b l : Int} (h : f x = some l) : (f.up x b).up x l = f := funext fun y => by
 unfold Lv.up
 by_cases hy : y = x
 ·rw [if_pos hy, hy, h]
 ·rw [if_neg hy, if_neg hy]
theorem Lv.back_del {f : Lv} {x b : Int} (h : f x = none) : (f.up x b).dn x = f := funext fun y => by
 unfold Lv.dn Lv.up
 by_cases hy : y = x
 ·rw [if_pos hy, hy, h]
 ·rw [if_neg hy, if_neg hy]
theorem Lv.up_same {f : Lv} {x b : Int} : (f.up x b) x = some b := by unfold Lv.up; rw [if_pos rfl]
open Go.RowKit
structure RzC (R F bm : Nat) (cp T off ct : Nat) (ts : List Tg) (w : World) (fur : List Int) (lv : Lv) (m : Nat) : Prop where
 r : R < w.heap.size
 f : F < w.heap.size
 t : T < w.heap.size
 r0 : w.cell? ⟨R, 0, none⟩ = some (.slice (some ⟨T, off, none⟩) ts.length ct)
 r1 : w.cell? ⟨R, 1, none⟩ = some (.slice (some ⟨F, 0, none⟩) ts.length cp)
 r2 : w.cell? ⟨R, 2, none⟩ = some (.map (some bm))
 len : fur.length = ts.length
 fs : ∀ i, i < fur.length → w.cell? ⟨F, i, none⟩ = some (.int .i64 (fur.getD i 0))
 fz : ∀ o, w.frozen? ⟨F, o, none⟩ = false
 lv : LvM w bm m lv
 ts : TgSl w T off ts
 d1 : R ≠ F
 d2 : R ≠ bm
 d3 : F ≠ bm
 d4 : T ≠ F
 d5 : T ≠ bm
def Sz (F bm : Nat) : Nat → Prop := fun k => k = F ∨ k = bm
theorem RzC.bar {S : Nat → Prop} {R F bm cp T off ct m : Nat} {ts : List Tg} {w w' : World} {fur : List Int} {lv : Lv} (h : RzC R F bm cp T off ct ts w fur lv m) (hb : Bar S w w') (hr : ¬ S R) (hf : ¬ S F) (ht : ¬ S T) (hm : ¬ S bm) : RzC R F bm cp T off ct ts w' fur lv m :=
 ⟨Nat.lt_of_lt_of_le h.r hb.size, Nat.lt_of_lt_of_le h.f hb.size, Nat.lt_of_lt_of_le h.t hb.size, hb.cell h.r0 hr, hb.cell h.r1 hr, hb.cell h.r2 hr, h.len, fun i hi => hb.cell (h.fs i hi) hf, fun o => (hb.frozen (a := ⟨F, o, none⟩) h.f hf).trans (h.fz o), h.lv.bar hb hm,
  fun i hi => by obtain ⟨a0, a1, a2, a3, a4, a5, a6, a7, a8⟩ := h.ts i hi; exact ⟨hb.cell a0 ht, hb.cell a1 ht, hb.cell a2 ht, hb.cell a3 ht, hb.cell a4 ht, hb.cell a5 ht, hb.cell a6 ht, hb.cell a7 ht, hb.cell a8 ht⟩, h.d1, h.d2, h.d3, h.d4, h.d5⟩
theorem RzC.below {R F bm cp T off ct m : Nat} {ts : List Tg} {w w' : World} {fur : List Int} {lv : Lv} (h : RzC R F bm cp T off ct ts w fur lv m) (hb : Below w.heap.size w w') : RzC R F bm cp T off ct ts w' fur lv m := h.bar (Bar.of_below (S := fun _ => False) hb) id id id id
theorem RzC.lvs {R F bm cp T off ct m m' : Nat} {ts : List Tg} {w w' : World} {fur : List Int} {lv lv' : Lv} (h : RzC R F bm cp T off ct ts w fur lv m) (hb : Bar (fun k => k = bm) w w') (hl : LvM w' bm m' lv') : RzC R F bm cp T off ct ts w' fur lv' m' :=
 ⟨Nat.lt_of_lt_of_le h.r hb.size, Nat.lt_of_lt_of_le h.f hb.size, Nat.lt_of_lt_of_le h.t hb.size, hb.cell h.r0 h.d2, hb.cell h.r1 h.d2, hb.cell h.r2 h.d2, h.len, fun i hi => hb.cell (h.fs i hi) h.d3, fun o => (hb.frozen (a := ⟨F, o, none⟩) h.f h.d3).trans (h.fz o), hl,
  fun i hi => by obtain ⟨a0, a1, a2, a3, a4, a5, a6, a7, a8⟩ := h.ts i hi; exact ⟨hb.cell a0 h.d5, hb.cell a1 h.d5, hb.cell a2 h.d5, hb.cell a3 h.d5, hb.cell a4 h.d5, hb.cell a5 h.d5, hb.cell a6 h.d5, hb.cell a7 h.d5, hb.cell a8 h.d5⟩, h.d1, h.d2, h.d3, h.d4, h.d5⟩
theorem RzC.setF {R F bm cp T off ct m : Nat} {ts : List Tg} {w : World} {fur : List Int} {lv : Lv} (h : RzC R F bm cp T off ct ts w fur lv m) (i : Nat) (v : Int) : RzC R F bm cp T off ct ts (w.setCell ⟨F, i, none⟩ (.int .i64 v)) (fur.set i v) lv m ∧ Bar (Sz F bm) w (w.setCell ⟨F, i, none⟩ (.int .i64 v)) := by
 have hb : Bar (fun k => k = F) w (w.setCell ⟨F, i, none⟩ (.int .i64 v)) := Bar.set (S := fun k => k = F) ⟨F, i, none⟩ _ rfl
 refine ⟨⟨Nat.lt_of_lt_of_le h.r hb.size, Nat.lt_of_lt_of_le h.f hb.size, Nat.lt_of_lt_of_le h.t hb.size, hb.cell h.r0 h.d1, hb.cell h.r1 h.d1, hb.cell h.r2 h.d1, by rw [List.length_set]; exact h.len, fun j hj => ?_, fun o => by simp [h.fz], h.lv.bar hb (fun e => h.d3 e.symm),
  fun i hi => by obtain ⟨a0, a1, a2, a3, a4, a5, a6, a7, a8⟩ := h.ts i hi; exact ⟨hb.cell a0 h.d4, hb.cell a1 h.d4, hb.cell a2 h.d4, hb.cell a3 h.d4, hb.cell a4 h.d4, hb.cell a5 h.d4, hb.cell a6 h.d4, hb.cell a7 h.d4, hb.cell a8 h.d4⟩, h.d1, h.d2, h.d3, h.d4, h.d5⟩, ⟨hb.os, hb.tape, hb.output, hb.size, fun k hk hn => hb.block k hk fun e => hn (.inl e)⟩⟩
 rw [List.length_set] at hj
 by_cases e : i = j
 ·subst e
  rw [setS (h.fs i hj), List.getD_eq_getElem?_getD, List.getElem?_set_self hj]; rfl
 ·rw [setO (h.fs j hj) (fun e2 => e (by injection e2)), List.getD_eq_getElem?_getD, List.getD_eq_getElem?_getD, List.getElem?_set_ne e]
theorem find_any (R F bm cp T off ct m : Nat) (ts : List Tg) (w : World) (fur : List Int) (lv : Lv) (x b : Int) (h : Hid (RzC R F bm cp T off ct ts w fur lv m)) (hx : -1000000000 ≤ x ∧ x ≤ 1000000000) (hb : 0 ≤ b ∧ b ≤ 1000000) (ho : lv.ok b) :
  Calls Try.prog 38 #[.pointer (some ⟨R, 0, none⟩), .int .i64 x, .int .i64 b] w fun e w' => e = .returned (.int .i64 (findV lv x b)) ∧ Below w.heap.size w w' := by
 have hR := h.out.r
 have r2 := h.out.r2
 have hl := lv_look h.out.lv x hx
 have w1 : IntKind.i64.wrap (b - 1) = b - 1 := IntWalk.i64_in _ (by omega)
 unfold findV
 cases hf : lv x with
 | none =>
  rw [hf] at hl
  have hl : _ = Result.ok (Value.tuple #[.int .i64 0, .bool false]) w := hl
  clear h ho hf
  go_enter Try.func38, Try.ntmps38
  go_wp2_with fail
  go_ret
  exact ⟨rfl, by (repeat' (first | (with_reducible first | exact bR _ _ | assumption | apply bS | apply bA | apply bD | apply bN | exact bL _) | (simp; done) | (simp; omega) | omega | exact bL _))⟩
 | some l =>
  rw [hf] at hl
  have hl : _ = Result.ok (Value.tuple #[.int .i64 l, .bool true]) w := hl
  have hb := ho x l hf
  have w2 : IntKind.i64.wrap (b - 1 - l) = b - 1 - l := IntWalk.i64_in _ (by omega)
  clear h ho hf
  go_enter Try.func38, Try.ntmps38
  go_wp2_with fail
  go_ret
  exact ⟨rfl, by (repeat' (first | (with_reducible first | exact bR _ _ | assumption | apply bS | apply bA | apply bD | apply bN | exact bL _) | (simp; done) | (simp; omega) | omega | exact bL _))⟩
open Go.RowKit
def RzP (R F bm cp T off ct : Nat) (ts : List Tg) (w : World) (fur : List Int) (lv : Lv) (m : Nat) (e : Ending) (w' : World) : Prop := e = .returned (.tuple #[]) ∧ RzC R F bm cp T off ct ts w' fur lv m ∧ Bar (Sz F bm) w w'
def WkOk (R F bm cp T off ct : Nat) (ts : List Tg) (n : Nat) (i : Int) : Prop := ∀ w fur lv m b, Hid (RzC R F bm cp T off ct ts w fur lv m) → 0 ≤ b → b + 2 * i ≤ 999990 → (m : Int) + 2 * i ≤ 999990 → lv.ok b →
 Calls Try.prog 30 #[.pointer (some ⟨R, 0, none⟩), .int .i64 i, .int .i64 b] w (RzP R F bm cp T off ct ts w (rsW ts n i b lv fur) lv m)
def Lv.ups : Lv → List Int → Int → Lv
 | f, [], _ => f
 | f, x :: xs, b => (f.up x b).ups xs (b + 1)
theorem sz_map {F bm : Nat} {w w' : World} (h : Bar (fun k => k = bm) w w') : Bar (Sz F bm) w w' := ⟨h.os, h.tape, h.output, h.size, fun k hk hn => h.block k hk fun e => hn (.inr e)⟩
theorem under_any (R F bm cp T off ct : Nat) (ts : List Tg) (n : Nat) (i : Int) (hi : 0 ≤ i) (hw : Hid (WkOk R F bm cp T off ct ts n i)) : ∀ (xs : List Int) (w : World) (N o c : Nat) (p : Option Addr) (fur : List Int) (lv : Lv) (m : Nat) (b : Int), Hid (RzC R F bm cp T off ct ts w fur lv m) →
  xs.length ≤ c → (xs ≠ [] → p = some ⟨N, o, none⟩ ∧ N < w.heap.size ∧ ¬ Sz F bm N) → (∀ j, j < xs.length → w.cell? ⟨N, o + j, none⟩ = some (.int .i64 (xs.getD j 0)) ∧ -1000000000 ≤ xs.getD j 0 ∧ xs.getD j 0 ≤ 1000000000) →
  0 ≤ b → b + xs.length + 2 * i ≤ 999990 → (m : Int) + xs.length + 2 * i ≤ 999990 → lv.ok b →
  Calls Try.prog 39 #[.pointer (some ⟨R, 0, none⟩), .int .i64 i, .int .i64 b, .slice p xs.length c] w (RzP R F bm cp T off ct ts w (rsW ts n i (b + xs.length) (lv.ups xs b) fur) lv m)
 | [], w, N, o, c, p, fur, lv, m, b, h, hc, hp, hx, hb, hbi, hmi, ho => by
  have hk := Lib.hid fun W hb2 => hw.out W fur lv m b (Lib.hid (h.out.below (w' := W) hb2)) hb (by simpa using hbi) (by simpa using hmi) ho
  rw [show b + ((([] : List Int).length : Nat) : Int) = b by simp]
  rw [show lv.ups [] b = lv from rfl, show (([] : List Int).length : Nat) = 0 from rfl]
  clear h hp hx hw
  go_enter Try.func39, Try.ntmps39
  go_wp2_with fail
  refine (hk.out _ (by (repeat' (first | (with_reducible first | exact bR _ _ | assumption | apply bS | apply bA | apply bD | apply bN | exact bL _) | (simp; done) | (simp; omega) | omega | exact bL _)))).mono ?_
  rintro e w1 ⟨rfl, h1, h2⟩
  go_wp2_with fail
  all_goals go_end0
  all_goals exact ⟨rfl, h1, h2⟩
 | x :: xs, w, N, o, c, p, fur, lv, m, b, h, hc, hp, hx, hb, hbi, hmi, ho => by
  have ih := Lib.hid (under_any R F bm cp T off ct ts n i hi hw xs)
  obtain ⟨rfl, hN, hNS⟩ := hp (by simp)
  rw [List.length_cons] at hc hbi hmi
  have hx0 := hx 0 (by simp)
  have hxs := Lib.hid fun j (hj : j < xs.length) => hx (j + 1) (by simp; omega)
  have x0 : w.cell? ⟨N, o, none⟩ = some (.int .i64 x) := hx0.1
  have hxb : -1000000000 ≤ x ∧ x ≤ 1000000000 := hx0.2
  have hR := h.out.r
  have r2 := h.out.r2
  have hl := lv_look h.out.lv x hxb
  obtain ⟨w1, hup, hM1, hB1⟩ := lv_put h.out.lv x b hxb (by omega)
  have h1 := h.out.lvs hB1 hM1
  have hm1 : (if (lv x).isSome then m else m + 1) ≤ m + 1 := by split <;> omega
  obtain ⟨m1, hm1e⟩ : ∃ m1, (if (lv x).isSome then m else m + 1) = m1 := ⟨_, rfl⟩
  rw [hm1e] at h1 hm1
  have r21 := h1.r2
  have hR1 := h1.r
  have wb : IntKind.i64.wrap (b + 1) = b + 1 := IntWalk.i64_in _ (by omega)
  have hlen : ((xs.length + 1 : Nat) : Int) ≠ 0 := by omega
  have hk := Lib.hid fun (c' : Nat) (p' : Option Addr) (hc' : xs.length ≤ c') (hp' : xs ≠ [] → p' = some ⟨N, o + 1, none⟩) => ih.out w1 N (o + 1) c' p' fur (lv.up x b) m1 (b + 1) (Lib.hid h1) hc' (fun h => ⟨hp' h, Nat.lt_of_lt_of_le hN hB1.size, hNS⟩)
   (fun j hj => by
    have := hxs.out j hj
    rw [show o + (j + 1) = o + 1 + j by omega, show (x :: xs).getD (j + 1) 0 = xs.getD j 0 from rfl] at this
    exact ⟨hB1.cell this.1 (fun e => hNS (.inr e)), this.2⟩) (by omega) (by omega) (by omega) (Lv.ok_up ho hb)
  rw [show (x :: xs).length = xs.length + 1 from rfl, show b + ((xs.length + 1 : Nat) : Int) = b + 1 + xs.length by omega, show lv.ups (x :: xs) b = (lv.up x b).ups xs (b + 1) from rfl]
  have hh := Lib.hid h
  have hm1e := Lib.hid hm1e
  have hB1 := Lib.hid hB1
  clear h h1 hM1 hx hx0 ih hp
  cases hf : lv x with
  | some l =>
   rw [hf] at hl
   have hl : _ = Result.ok (Value.tuple #[.int .i64 l, .bool true]) w := hl
   have hf := Lib.hid hf
   go_enter Try.func39, Try.ntmps39
   go_wp2_with fail
   all_goals
    refine (hk.out _ _ (by omega) (by first | exact fun _ => rfl | exact fun h => absurd (List.eq_nil_of_length_eq_zero (by omega)) h)).mono ?_
    rintro e w2 ⟨rfl, h2, hB2⟩
    have hR2 := h2.r
    have r22 := h2.r2
    obtain ⟨w3, hup2, hM3, hB3⟩ := lv_put h2.lv x l hxb (by omega)
    rw [Lv.back_put hf.out, Lv.up_same, show m1 = m from by rw [← hm1e.out, hf.out]; rfl] at hM3
    have hM3 : LvM w3 bm m lv := hM3
    have hfin := Lib.hid (show RzC R F bm cp T off ct ts w3 (rsW ts n i (b + 1 + xs.length) ((lv.up x b).ups xs (b + 1)) fur) lv m ∧ Bar (Sz F bm) w w3 from ⟨h2.lvs hB3 hM3, ((sz_map hB1.out).trans hB2 fun _ _ h => h).trans (sz_map hB3) fun _ _ h => h⟩)
    clear h2 hB2 hM3 hB3
    go_wp2_with fail
    all_goals go_end0
    all_goals exact ⟨rfl, hfin.out⟩
  | none =>
   rw [hf] at hl
   have hl : _ = Result.ok (Value.tuple #[.int .i64 0, .bool false]) w := hl
   have hf := Lib.hid hf
   go_enter Try.func39, Try.ntmps39
   go_wp2_with fail
   all_goals
    refine (hk.out _ _ (by omega) (by first | exact fun _ => rfl | exact fun h => absurd (List.eq_nil_of_length_eq_zero (by omega)) h)).mono ?_
    rintro e w2 ⟨rfl, h2, hB2⟩
    have hR2 := h2.r
    have r22 := h2.r2
    obtain ⟨w3, hup2, hM3, hB3⟩ := lv_del h2.lv x hxb (by rw [Lv.up_same]; rfl) 0
    rw [Lv.back_del hf.out, show m1 = m + 1 from by rw [← hm1e.out, hf.out]; rfl, Nat.add_sub_cancel] at hM3
    have hfin := Lib.hid (show RzC R F bm cp T off ct ts w3 (rsW ts n i (b + 1 + xs.length) ((lv.up x b).ups xs (b + 1)) fur) lv m ∧ Bar (Sz F bm) w w3 from ⟨h2.lvs hB3 hM3, ((sz_map hB1.out).trans hB2 fun _ _ h => h).trans (sz_map hB3) fun _ _ h => h⟩)
    clear h2 hB2 hM3 hB3
    go_wp2_with fail
    all_goals go_end0
    all_goals exact ⟨rfl, hfin.out⟩
end Go.Proofs.Ytnjalpcmjkahkaa
