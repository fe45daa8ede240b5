/- The machine of layer 21, plain: nodes stand in the row, what is bound is no more than so many. -/
import Derived.Test.YtnjalpcmjkahkaaRnP
namespace Go.Proofs.Ytnjalpcmjkahkaa
open Go.RowKit
set_option linter.unusedVariables false
set_option linter.unusedSimpArgs false

def RV.fit (L : Int) (K : Nat) : RV → Prop
  | .num n => -1073741824 ≤ n ∧ n ≤ 1073741823
  | .tru _ => True
  | .fn n e => (0 ≤ n ∧ n < L) ∧ e.list.length ≤ K ∧ e.fit L K
  | .bnd n e f => (0 ≤ n ∧ n < L) ∧ e.list.length ≤ K ∧ e.fit L K ∧ f.fit L K
  | .fwd f g => f.fit L K ∧ g.fit L K
  | .ret v => v.fit L K
  | .op _ v f => v.fit L K ∧ f.fit L K
  | .nil => True
  | .cons v r => v.fit L K ∧ r.fit L K
theorem RV.fit.mono {L : Int} {K K' : Nat} (h : K ≤ K') {v : RV} (hv : v.fit L K) : v.fit L K' := by
  induction v with
  | num _ => exact hv
  | tru _ => trivial
  | fn _ _ ih => exact ⟨hv.1, Nat.le_trans hv.2.1 h, ih hv.2.2⟩
  | bnd _ _ _ ih ih2 => exact ⟨hv.1, Nat.le_trans hv.2.1 h, ih hv.2.2.1, ih2 hv.2.2.2⟩
  | fwd _ _ ih ih2 => exact ⟨ih hv.1, ih2 hv.2⟩
  | ret _ ih => exact ih (show RV.fit L K _ from hv)
  | op _ _ _ ih ih2 => exact ⟨ih hv.1, ih2 hv.2⟩
  | nil => trivial
  | cons _ _ ih ih2 => exact ⟨ih hv.1, ih2 hv.2⟩
theorem RV.fit.get {L : Int} {K : Nat} : ∀ {e : RV} {i : Nat} {v : RV}, e.fit L K → e.list[i]? = some v → v.fit L K
  | .num _, _, _, _, h => by cases h
  | .tru _, _, _, _, h => by cases h
  | .fn _ _, _, _, _, h => by cases h
  | .bnd _ _ _, _, _, _, h => by cases h
  | .fwd _ _, _, _, _, h => by cases h
  | .ret _, _, _, _, h => by cases h
  | .op _ _ _, _, _, _, h => by cases h
  | .nil, _, _, _, h => by cases h
  | .cons _ _, 0, _, ⟨a, _⟩, h => by cases h; exact a
  | .cons _ _, i + 1, _, ⟨_, b⟩, h => fit.get (i := i) b h
theorem RV.fit.atI {L : Int} {K : Nat} {e : RV} {f : Int} {v : RV} (h : e.fit L K) (ha : e.atI f = some v) : v.fit L K := by
  unfold RV.atI at ha
  split at ha
  · exact h.get ha
  · cases ha
theorem RV.cons_len (v e : RV) : (RV.cons v e).list.length = e.list.length + 1 := rfl

structure RF.fit (ts : List Tg) (K : Nat) (f : RF) : Prop where
  node : 0 ≤ f.node ∧ f.node < ts.length
  len : f.env.list.length ≤ K
  env : f.env.fit ts.length K
  val : f.val.fit ts.length K
  two : f.st = 1 → (ndT ts f.node).k = 8 ∨ (ndT ts f.node).k = 10
theorem RF.fit.mono {ts : List Tg} {K K' : Nat} (h : K ≤ K') {f : RF} (hf : f.fit ts K) : f.fit ts K' := ⟨hf.1, Nat.le_trans hf.2 h, hf.3.mono h, hf.4.mono h, hf.5⟩
def RM.fit (ts : List Tg) (K : Nat) : RM → Prop
  | .ev stk n e => (0 ≤ n ∧ n < ts.length) ∧ e.list.length ≤ K ∧ e.fit ts.length K ∧ ∀ f ∈ stk, f.fit ts K
  | .gv stk v => v.fit ts.length K ∧ ∀ f ∈ stk, f.fit ts K
  | .en _ _ => True
theorem zero_fit {L : Int} {K : Nat} : (RV.num 0).fit L K := by show (-1073741824 : Int) ≤ 0 ∧ (0 : Int) ≤ 1073741823; decide

/-- each node's places stand in the row. -/
def KidIn (ts : List Tg) : Prop := ∀ i, i < ts.length → ((ts.getD i tg0).k = 8 → 0 ≤ (ts.getD i tg0).n ∧ (ts.getD i tg0).n ≤ 5) ∧ ((ts.getD i tg0).k = 1 → -1073741824 ≤ (ts.getD i tg0).n ∧ (ts.getD i tg0).n ≤ 1073741823) ∧ (0 ≤ (ts.getD i tg0).a ∧ (ts.getD i tg0).a < ts.length) ∧ (0 ≤ (ts.getD i tg0).b ∧ (ts.getD i tg0).b < ts.length) ∧ (0 ≤ (ts.getD i tg0).c ∧ (ts.getD i tg0).c < ts.length)
theorem KidIn.at_ {ts : List Tg} (h : KidIn ts) {n : Int} (hn : 0 ≤ n ∧ n < ts.length) : ((ndT ts n).k = 8 → 0 ≤ (ndT ts n).n ∧ (ndT ts n).n ≤ 5) ∧ ((ndT ts n).k = 1 → -1073741824 ≤ (ndT ts n).n ∧ (ndT ts n).n ≤ 1073741823) ∧ (0 ≤ (ndT ts n).a ∧ (ndT ts n).a < ts.length) ∧ (0 ≤ (ndT ts n).b ∧ (ndT ts n).b < ts.length) ∧ (0 ≤ (ndT ts n).c ∧ (ndT ts n).c < ts.length) := h n.toNat (by omega)

theorem rNode_fit {ts : List Tg} {K : Nat} (hk : KidIn ts) {fur : Int} {stk : List RF} {n : Int} {e : RV} (hn : 0 ≤ n ∧ n < ts.length) (hl : e.list.length ≤ K) (he : e.fit ts.length K) (hs : ∀ f ∈ stk, f.fit ts K) :
    (rNode (ndT ts n) fur stk n e).fit ts K := by
  unfold rNode
  repeat' split
  · trivial
  · next h => exact ⟨he.atI h, hs⟩
  · next h => exact ⟨(hk.at_ hn).2.1 h, hs⟩
  · exact ⟨trivial, hs⟩
  · exact ⟨⟨hn, hl, he⟩, hs⟩
  · refine ⟨(hk.at_ hn).2.2.1, hl, he, fun f hf => ?_⟩
    rcases List.mem_cons.1 hf with rfl | hf
    · exact ⟨hn, hl, he, zero_fit, fun h => by cases h⟩
    · exact hs f hf

theorem rFirst_fit {ts : List Tg} {K : Nat} (hk : KidIn ts) {fur : Int} {f : RF} {v : RV} {stk : List RF} (hf : f.fit ts K) (hv : v.fit ts.length K) (hs : ∀ f ∈ stk, f.fit ts K) :
    (rFirst (ndT ts f.node) fur f v stk).fit ts (K + 2) := by
  have hf2 := hf.mono (K' := K + 2) (by omega)
  have hv2 := hv.mono (K' := K + 2) (by omega)
  have hs2 : ∀ f ∈ stk, f.fit ts (K + 2) := fun f h => (hs f h).mono (by omega)
  have hl := hf.len
  obtain ⟨_, _, ka, kb, kc⟩ := hk.at_ hf.node
  have hp : ∀ s, (s = 1 → (ndT ts f.node).k = 8 ∨ (ndT ts f.node).k = 10) → ∀ g ∈ ((⟨s, f.node, f.env, v⟩ : RF) :: stk), g.fit ts (K + 2) := fun s h1 g hg => by
    rcases List.mem_cons.1 hg with rfl | hg
    · exact ⟨hf2.1, hf2.2, hf2.3, hv2, h1⟩
    · exact hs2 g hg
  unfold rFirst
  split
  · exact ⟨kb, hf2.2, hf2.3, hp 2 fun h => by cases h⟩
  split
  · next h8 => exact ⟨kb, hf2.2, hf2.3, hp 1 fun _ => h8⟩
  split
  · exact ⟨kb, by rw [RV.cons_len]; omega, ⟨hv2, hf2.3⟩, hs2⟩
  split
  · unfold rIf
    split
    · split
      · exact ⟨kb, hf2.2, hf2.3, hs2⟩
      · exact ⟨kc, hf2.2, hf2.3, hs2⟩
    · trivial
  split
  · exact ⟨hv2, hs2⟩
  split
  · unfold rBind
    split
    · exact ⟨kb, by rw [RV.cons_len]; omega, ⟨hv2, hf2.3⟩, hs2⟩
    · exact ⟨⟨hv2.1, hf2.1, hf2.2, hf2.3, hv2.2⟩, hs2⟩
    · trivial
  split
  · unfold rCase
    split
    · exact ⟨kb, by rw [RV.cons_len]; omega, ⟨hv2, hf2.3⟩, hs2⟩
    · split
      · exact ⟨kc, by rw [RV.cons_len, RV.cons_len]; omega, ⟨hv2.2, hv2.1, hf2.3⟩, hs2⟩
      · split
        · trivial
        · next h => exact ⟨⟨hv2.1, hv2.2, hf2.3.atI h⟩, hs2⟩
    · trivial
  · exact ⟨hv2, hs2⟩

theorem num_bd {n : Int} (h : (numO n).1 = 0) : -1073741824 ≤ (numO n).2 ∧ (numO n).2 ≤ 1073741823 := by
  unfold numO at *
  split at h
  · cases h
  · rw [if_neg (by assumption)]; dsimp only; omega
theorem prm_num {p u v : Int} (h : (prmV p u v).1 = 0) : -1073741824 ≤ (prmV p u v).2 ∧ (prmV p u v).2 ≤ 1073741823 := by
  unfold prmV at *
  by_cases h0 : p = 0
  · rw [if_pos h0] at *; exact num_bd h
  rw [if_neg h0] at *
  by_cases h0 : p = 1
  · rw [if_pos h0] at *; exact num_bd h
  rw [if_neg h0] at *
  by_cases h0 : p = 2
  · rw [if_pos h0] at *; exact num_bd h
  rw [if_neg h0] at *
  by_cases h0 : p = 3
  · rw [if_pos h0] at *
    by_cases hz : v = 0
    · rw [if_pos hz] at *; cases h
    · rw [if_neg hz] at *; exact num_bd h
  rw [if_neg h0] at *
  have ht : ∀ b, (truO b).1 = 1 := fun b => by cases b <;> rfl
  by_cases h0 : p = 4
  · rw [if_pos h0] at *; rw [ht] at h; cases h
  rw [if_neg h0] at *; rw [ht] at h; cases h
theorem rSecond_fit {ts : List Tg} {K : Nat} {t : Tg} {f : RF} {v : RV} {stk : List RF} (hf : f.fit ts K) (hv : v.fit ts.length K) (hs : ∀ f ∈ stk, f.fit ts K) :
    (rSecond t f v stk).fit ts K := by
  unfold rSecond
  split
  · exact ⟨⟨hf.4, hv⟩, hs⟩
  · unfold rPrim
    split
    · next a b _ _ =>
      split
      · next h0 => exact ⟨prm_num h0, hs⟩
      · split
        · exact ⟨trivial, hs⟩
        · trivial
    · trivial

theorem rApply_fit {ts : List Tg} {K : Nat} (h0 : 0 < ts.length) (hk : KidIn ts) {g v : RV} {stk : List RF} (hg : g.fit ts.length K) (hv : v.fit ts.length K) (hs : ∀ f ∈ stk, f.fit ts K) :
    (rApply ts g v stk).fit ts (K + 2) := by
  have hg2 := hg.mono (K' := K + 2) (by omega)
  have hv2 := hv.mono (K' := K + 2) (by omega)
  have hs2 : ∀ f ∈ stk, f.fit ts (K + 2) := fun f h => (hs f h).mono (by omega)
  unfold rApply
  split
  · next n e =>
    obtain ⟨hn, hl, he⟩ := hg
    refine ⟨(hk.at_ hn).2.2.1, ?_, ⟨hv2, ?_⟩, hs2⟩
    · rw [RV.cons_len]; split
      · rw [RV.cons_len]; omega
      · omega
    · split
      · exact ⟨hg2, hg2.2.2⟩
      · exact hg2.2.2
  · next n e f =>
    refine ⟨hv2, fun x hx => ?_⟩
    rcases List.mem_cons.1 hx with rfl | hx
    · exact ⟨⟨by show (0 : Int) ≤ 0; omega, by show (0 : Int) < _; omega⟩, Nat.zero_le _, trivial, hg2.2.2.2, fun h => by cases h⟩
    · rcases List.mem_cons.1 hx with rfl | hx
      · exact ⟨hg2.1, hg2.2.1, hg2.2.2.1, zero_fit, fun h => by cases h⟩
      · exact hs2 x hx
  · next f w =>
    refine ⟨hv2, fun x hx => ?_⟩
    rcases List.mem_cons.1 hx with rfl | hx
    · exact ⟨⟨by show (0 : Int) ≤ 0; omega, by show (0 : Int) < _; omega⟩, Nat.zero_le _, trivial, hg2.1, fun h => by cases h⟩
    · rcases List.mem_cons.1 hx with rfl | hx
      · exact ⟨⟨by show (0 : Int) ≤ 0; omega, by show (0 : Int) < _; omega⟩, Nat.zero_le _, trivial, hg2.2, fun h => by cases h⟩
      · exact hs2 x hx
  · trivial

theorem RM.fit.mono {ts : List Tg} {K K' : Nat} (h : K ≤ K') : ∀ {m : RM}, m.fit ts K → m.fit ts K'
  | .ev _ _ _, ⟨a, b, c, d⟩ => ⟨a, Nat.le_trans b h, c.mono h, fun f hf => (d f hf).mono h⟩
  | .gv _ _, ⟨a, b⟩ => ⟨a.mono h, fun f hf => (b f hf).mono h⟩
  | .en _ _, _ => trivial
theorem rStep_fit {ts : List Tg} {K : Nat} (h0 : 0 < ts.length) (hk : KidIn ts) (fur : List Int) {m : RM} (h : m.fit ts K) : (rStep ts fur m).fit ts (K + 2) := by
  unfold rStep
  split
  · obtain ⟨a, b, c, d⟩ := h; exact (rNode_fit hk a b c d).mono (by omega)
  · next f stk v =>
    obtain ⟨hv, hs⟩ := h
    have hf := hs f (.head _)
    have hs' : ∀ g ∈ stk, g.fit ts K := fun g hg => hs g (.tail _ hg)
    unfold rBack
    split
    · exact rFirst_fit hk hf hv hs'
    split
    · exact (rSecond_fit hf hv hs').mono (by omega)
    split
    · exact rApply_fit h0 hk hf.4 hv hs'
    · exact ⟨hv.mono (by omega), fun g hg => (hs' g hg).mono (by omega)⟩
  · exact h.mono (by omega)
theorem rNode_no {t : Tg} {f : Int} {stk : List RF} {n : Int} {e : RV} (hk : t.k = 0) (ha : e.atI f = none) : rNode t f stk n e = .en 5 0 := by unfold rNode; rw [if_pos hk, ha]
theorem rNode_at {t : Tg} {f : Int} {stk : List RF} {n : Int} {e v : RV} (hk : t.k = 0) (ha : e.atI f = some v) : rNode t f stk n e = .gv stk v := by unfold rNode; rw [if_pos hk, ha]
theorem rNode_go {t : Tg} {f : Int} {stk : List RF} {n : Int} {e : RV} (hk : t.k ≠ 0 ∧ t.k ≠ 1 ∧ t.k ≠ 2 ∧ t.k ≠ 3 ∧ t.k ≠ 4) : rNode t f stk n e = .ev (⟨0, n, e, .num 0⟩ :: stk) t.a e := by
  unfold rNode; rw [if_neg hk.1, if_neg hk.2.1, if_neg hk.2.2.1, if_neg (by omega)]
end Go.Proofs.Ytnjalpcmjkahkaa
