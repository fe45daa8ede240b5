/- The reference's engine for targets, plain: values with names; its steps go as the machine's. -/
import Derived.Test.YtnjalpcmjkahkaaZt12
import Derived.Test.YtnjalpcmjkahkaaZt13
import Derived.Deep.OwnRows
import Derived.Carry
set_option maxRecDepth 100000
set_option maxHeartbeats 8000000
namespace Go.Proofs.Ytnjalpcmjkahkaa
open Go.RowKit
set_option linter.unusedVariables false
set_option linter.unusedSimpArgs false
inductive NV where
 | num (n : Int)
 | tru (n : Int)
 | fn (node : Int) (env : NV)
 | bnd (node : Int) (env : NV) (f : NV)
 | fwd (f : NV) (who : NV)
 | ret (v : NV)
 | op (n : Int) (v : NV) (f : NV)
 | nil
 | cons (x : Int) (v : NV) (rest : NV)
def NV.er : NV → RV
 | .num n => .num n
 | .tru n => .tru n
 | .fn n e => .fn n e.er
 | .bnd n e f => .bnd n e.er f.er
 | .fwd f g => .fwd f.er g.er
 | .ret v => .ret v.er
 | .op n v f => .op n v.er f.er
 | .nil => .nil
 | .cons _ v r => .cons v.er r.er
def NV.names : NV → List Int
 | .cons x _ r => x :: r.names
 | _ => []
def NV.find : NV → Int → Option NV
 | .cons x v r, y => if x = y then some v else r.find y
 | _, _ => none
theorem find_at : ∀ (e : NV) (y : Int), e.er.atI (idx e.names y) = (e.find y).map NV.er
 | .num _, _ => rfl
 | .tru _, _ => rfl
 | .fn _ _, _ => rfl
 | .bnd _ _ _, _ => rfl
 | .fwd _ _, _ => rfl
 | .ret _, _ => rfl
 | .op _ _ _, _ => rfl
 | .nil, _ => rfl
 | .cons x v r, y => by
  have ih := find_at r y
  have hb := idx_bd r.names y
  show (RV.cons v.er r.er).atI (idx (x :: r.names) y) = Option.map NV.er (if x = y then some v else r.find y)
  unfold idx
  by_cases e : x = y
  ·rw [if_pos e, if_pos e]; rfl
  ·rw [if_neg e, if_neg e]
   by_cases h1 : idx r.names y = -1
   ·rw [if_pos h1, ← ih, h1]; rfl
   ·rw [if_neg h1, ← ih]
    unfold RV.atI
    rw [if_pos (by omega), if_pos (by omega)]
    have e2 : (idx r.names y + 1).toNat = (idx r.names y).toNat + 1 := by omega
    rw [e2]
    rfl
structure NF where
 st : Int
 node : Int
 env : NV
 val : NV
inductive NM where
 | ev (stk : List NF) (node : Int) (env : NV)
 | gv (stk : List NF) (v : NV)
 | en (kind num : Int)
def nNode (t : Tg) (stk : List NF) (node : Int) (env : NV) : NM :=
 if t.k = 0 then (match env.find t.n with | none => .en 5 0 | some v => .gv stk v)
 else if t.k = 1 then .gv stk (.num t.n)
 else if t.k = 2 then .gv stk (.tru t.n)
 else if t.k = 3 ∨ t.k = 4 then .gv stk (.fn node env)
 else .ev (⟨0, node, env, .num 0⟩ :: stk) t.a env
def nIf (t : Tg) (stk : List NF) (env v : NV) : NM :=
 match v with
 | .tru x => if x = 1 then .ev stk t.b env else .ev stk t.c env
 | _ => .en 5 0
def nBind (t : Tg) (stk : List NF) (node : Int) (env v : NV) : NM :=
 match v with
 | .ret u => .ev stk t.b (.cons t.x u env)
 | .op n u g => .gv stk (.op n u (.bnd node env g))
 | _ => .en 5 0
def nCase (t : Tg) (stk : List NF) (env v : NV) : NM :=
 match v with
 | .ret u => .ev stk t.b (.cons t.x u env)
 | .op n u g =>
  if n = t.n then .ev stk t.c (.cons t.z g (.cons t.y u env))
  else (match env.find t.w with | none => .en 5 0 | some who => .gv stk (.op n u (.fwd g who)))
 | _ => .en 5 0
def nFirst (t : Tg) (f : NF) (v : NV) (stk : List NF) : NM :=
 if t.k = 5 then .ev (⟨2, f.node, .nil, v⟩ :: stk) t.b f.env
 else if t.k = 8 ∨ t.k = 10 then .ev (⟨1, f.node, .nil, v⟩ :: stk) t.b f.env
 else if t.k = 6 then .ev stk t.b (.cons t.x v f.env)
 else if t.k = 7 then nIf t stk f.env v
 else if t.k = 9 then .gv stk (.ret v)
 else if t.k = 11 then nBind t stk f.node f.env v
 else if t.k = 12 then nCase t stk f.env v
 else .gv stk v
def nPrim (p : Int) (stk : List NF) (u v : NV) : NM :=
 match u, v with
 | .num a, .num b =>
  if (prmV p a b).1 = 0 then .gv stk (.num (prmV p a b).2)
  else if (prmV p a b).1 = 1 then .gv stk (.tru (prmV p a b).2)
  else .en (prmV p a b).1 (prmV p a b).2
 | _, _ => .en 5 0
def nSecond (t : Tg) (f : NF) (v : NV) (stk : List NF) : NM :=
 if t.k = 10 then .gv stk (.op t.n f.val v) else nPrim t.n stk f.val v
def nApply (ts : List Tg) (g v : NV) (stk : List NF) : NM :=
 match g with
 | .fn node env => .ev stk (ndT ts node).a (if (ndT ts node).k = 4 then .cons (ndT ts node).y v (.cons (ndT ts node).x (.fn node env) env) else .cons (ndT ts node).x v env)
 | .bnd node env f => .gv (⟨2, node, .nil, f⟩ :: ⟨0, node, env, .num 0⟩ :: stk) v
 | .fwd f who => .gv (⟨2, 0, .nil, f⟩ :: ⟨2, 0, .nil, who⟩ :: stk) v
 | _ => .en 5 0
def nBack (ts : List Tg) (f : NF) (v : NV) (stk : List NF) : NM :=
 if f.st = 0 then nFirst (ndT ts f.node) f v stk
 else if f.st = 1 then nSecond (ndT ts f.node) f v stk
 else if f.st = 2 then nApply ts f.val v stk
 else .gv stk v
def nStep (ts : List Tg) : NM → NM
 | .ev stk node env => nNode (ndT ts node) stk node env
 | .gv (f :: stk) v => nBack ts f v stk
 | m => m
def NV.sc (ts : List Tg) (fur : List Int) : NV → Prop
 | .num _ => True
 | .tru _ => True
 | .fn n e => ((ndT ts n).k = 3 ∨ (ndT ts n).k = 4) ∧ (∀ m, ScOk ts fur m n e.names) ∧ e.sc ts fur
 | .bnd n e f => (ndT ts n).k = 11 ∧ (∀ m, ScOk ts fur m n e.names) ∧ e.sc ts fur ∧ f.sc ts fur
 | .fwd f g => f.sc ts fur ∧ g.sc ts fur
 | .ret v => v.sc ts fur
 | .op _ v f => v.sc ts fur ∧ f.sc ts fur
 | .nil => True
 | .cons _ v r => v.sc ts fur ∧ r.sc ts fur
theorem NV.sc.find {ts : List Tg} {fur : List Int} : ∀ {e : NV} {y : Int} {v : NV}, e.sc ts fur → e.find y = some v → v.sc ts fur
 | .num _, _, _, _, h => by cases h
 | .tru _, _, _, _, h => by cases h
 | .fn _ _, _, _, _, h => by cases h
 | .bnd _ _ _, _, _, _, h => by cases h
 | .fwd _ _, _, _, _, h => by cases h
 | .ret _, _, _, _, h => by cases h
 | .op _ _ _, _, _, _, h => by cases h
 | .nil, _, _, _, h => by cases h
 | .cons x u r, y, v, ⟨a, b⟩, h => by
  unfold NV.find at h
  split at h
  ·cases h; exact a
  ·exact sc.find b h
structure FSim (ts : List Tg) (fur : List Int) (g : RF) (f : NF) : Prop where
 st : g.st = f.st
 val : g.val = f.val.er
 vs : f.val.sc ts fur
 zero : f.st = 0 → g.node = f.node ∧ g.env = f.env.er ∧ f.env.sc ts fur ∧ ∀ m, ScOk ts fur m f.node f.env.names
 one : f.st = 1 → g.node = f.node
def StkSim (ts : List Tg) (fur : List Int) : List RF → List NF → Prop
 | [], [] => True
 | g :: s, f :: s' => FSim ts fur g f ∧ StkSim ts fur s s'
 | _, _ => False
theorem StkSim.len {ts : List Tg} {fur : List Int} : ∀ {s : List RF} {s' : List NF}, StkSim ts fur s s' → s.length = s'.length
 | [], [], _ => rfl
 | _ :: _, _ :: _, ⟨_, h⟩ => by rw [List.length_cons, List.length_cons, h.len]
 | [], _ :: _, h => h.elim
 | _ :: _, [], h => h.elim
def MSim (ts : List Tg) (fur : List Int) : RM → NM → Prop
 | .ev s n e, .ev s' n' e' => n = n' ∧ e = e'.er ∧ e'.sc ts fur ∧ (∀ m, ScOk ts fur m n' e'.names) ∧ StkSim ts fur s s'
 | .gv s v, .gv s' v' => v = v'.er ∧ v'.sc ts fur ∧ StkSim ts fur s s'
 | .en k n, .en k' n' => k = k' ∧ n = n'
 | _, _ => False
section
variable {ts : List Tg} {fur : List Int} {n : Int} {s : List Int}
theorem sc_a (h : ∀ m, ScOk ts fur m n s) (hk : 5 ≤ (ndT ts n).k ∧ (ndT ts n).k ≤ 12) : ∀ m, ScOk ts fur m (ndT ts n).a s := fun m => by
 obtain ⟨c0, c3, c4, c9, c6, c12, c7, c5⟩ := h (m + 1)
 have hc : (ndT ts n).k = 9 ∨ ((ndT ts n).k = 6 ∨ (ndT ts n).k = 11) ∨ (ndT ts n).k = 12 ∨ (ndT ts n).k = 7 ∨ ((ndT ts n).k = 5 ∨ (ndT ts n).k = 8 ∨ (ndT ts n).k = 10) := by omega
 rcases hc with k | k | k | k | k
 ·exact c9 k
 ·exact (c6 k).1
 ·exact (c12 k).2.1
 ·exact (c7 k).1
 ·exact (c5 k).1
theorem sc_b (h : ∀ m, ScOk ts fur m n s) (hk : (ndT ts n).k = 7 ∨ (ndT ts n).k = 5 ∨ (ndT ts n).k = 8 ∨ (ndT ts n).k = 10) : ∀ m, ScOk ts fur m (ndT ts n).b s := fun m => by
 obtain ⟨c0, c3, c4, c9, c6, c12, c7, c5⟩ := h (m + 1)
 rcases hk with k | k
 ·exact (c7 k).2.1
 ·exact (c5 k).2
theorem sc_bx (h : ∀ m, ScOk ts fur m n s) (hk : (ndT ts n).k = 6 ∨ (ndT ts n).k = 11 ∨ (ndT ts n).k = 12) : ∀ m, ScOk ts fur m (ndT ts n).b ((ndT ts n).x :: s) := fun m => by
 obtain ⟨c0, c3, c4, c9, c6, c12, c7, c5⟩ := h (m + 1)
 have hc : ((ndT ts n).k = 6 ∨ (ndT ts n).k = 11) ∨ (ndT ts n).k = 12 := by omega
 rcases hc with k | k
 ·exact (c6 k).2
 ·exact (c12 k).2.2.1
theorem sc_c (h : ∀ m, ScOk ts fur m n s) (hk : (ndT ts n).k = 7) : ∀ m, ScOk ts fur m (ndT ts n).c s := fun m => ((h (m + 1)).2.2.2.2.2.2.1 hk).2.2
theorem sc_cz (h : ∀ m, ScOk ts fur m n s) (hk : (ndT ts n).k = 12) : ∀ m, ScOk ts fur m (ndT ts n).c ((ndT ts n).z :: (ndT ts n).y :: s) := fun m => ((h (m + 1)).2.2.2.2.2.1 hk).2.2.2
theorem sc_f3 (h : ∀ m, ScOk ts fur m n s) (hk : (ndT ts n).k = 3) : ∀ m, ScOk ts fur m (ndT ts n).a ((ndT ts n).x :: s) := fun m => (h (m + 1)).2.1 hk
theorem sc_f4 (h : ∀ m, ScOk ts fur m n s) (hk : (ndT ts n).k = 4) : ∀ m, ScOk ts fur m (ndT ts n).a ((ndT ts n).y :: (ndT ts n).x :: s) := fun m => (h (m + 1)).2.2.1 hk
theorem sc_w (h : ∀ m, ScOk ts fur m n s) (hk : (ndT ts n).k = 12) : fur.getD n.toNat 0 = idx s (ndT ts n).w := ((h 1).2.2.2.2.2.1 hk).1
end
def KK (ts : List Tg) : Prop := ∀ n : Int, 0 ≤ (ndT ts n).k ∧ (ndT ts n).k ≤ 12
theorem kk_of {ts : List Tg} (h : mayV ts = true) : KK ts := fun n => by
 by_cases hn : n.toNat < ts.length
 ·exact plainT_kind (okT_parts ((may_parts h).2.1 _ hn)).1
 ·have e : ndT ts n = tg0 := by unfold ndT; rw [List.getD_eq_getElem?_getD, List.getElem?_eq_none (by omega)]; rfl
  rw [e]; exact ⟨by show (0 : Int) ≤ 0; omega, by show (0 : Int) ≤ 12; omega⟩
section
variable {ts : List Tg} {fur : List Int} (hkk : KK ts)
include hkk
theorem sim_node {s : List RF} {s' : List NF} {n : Int} {e : NV} (h : e.sc ts fur) (hs : ∀ m, ScOk ts fur m n e.names) (hk : StkSim ts fur s s') :
  MSim ts fur (rNode (ndT ts n) (fur.getD n.toNat 0) s n e.er) (nNode (ndT ts n) s' n e) := by
 have h1 := hs 1
 unfold rNode nNode
 by_cases h0 : (ndT ts n).k = 0
 ·rw [if_pos h0, if_pos h0, h1.1 h0, find_at]
  cases hf : e.find (ndT ts n).n with
  | none => exact ⟨rfl, rfl⟩
  | some v => exact ⟨rfl, h.find hf, hk⟩
 rw [if_neg h0, if_neg h0]
 by_cases h2 : (ndT ts n).k = 1
 ·rw [if_pos h2, if_pos h2]; exact ⟨rfl, trivial, hk⟩
 rw [if_neg h2, if_neg h2]
 by_cases h3 : (ndT ts n).k = 2
 ·rw [if_pos h3, if_pos h3]; exact ⟨rfl, trivial, hk⟩
 rw [if_neg h3, if_neg h3]
 by_cases h4 : (ndT ts n).k = 3 ∨ (ndT ts n).k = 4
 ·rw [if_pos h4, if_pos h4]; exact ⟨rfl, ⟨h4, hs, h⟩, hk⟩
 rw [if_neg h4, if_neg h4]
 have := hkk n
 exact ⟨rfl, rfl, h, sc_a hs (by omega), ⟨rfl, rfl, trivial, fun _ => ⟨rfl, rfl, h, hs⟩, (fun h => by cases h)⟩, hk⟩
theorem sim_first {g : RF} {f : NF} {v : NV} {s : List RF} {s' : List NF} (hf : FSim ts fur g f) (h0 : f.st = 0) (hv : v.sc ts fur) (hk : StkSim ts fur s s') :
  MSim ts fur (rFirst (ndT ts g.node) (fur.getD g.node.toNat 0) g v.er s) (nFirst (ndT ts f.node) f v s') := by
 obtain ⟨e1, e2, he, hs⟩ := hf.zero h0
 rw [e1]
 have hkn := hkk f.node
 unfold rFirst nFirst
 rw [e1, e2]
 by_cases h5 : (ndT ts f.node).k = 5
 ·rw [if_pos h5, if_pos h5]; exact ⟨rfl, rfl, he, sc_b hs (by omega), ⟨rfl, rfl, hv, (fun h => by cases h), (fun h => by cases h)⟩, hk⟩
 rw [if_neg h5, if_neg h5]
 by_cases h8 : (ndT ts f.node).k = 8 ∨ (ndT ts f.node).k = 10
 ·rw [if_pos h8, if_pos h8]; exact ⟨rfl, rfl, he, sc_b hs (by omega), ⟨rfl, rfl, hv, (fun h => by cases h), fun _ => rfl⟩, hk⟩
 rw [if_neg h8, if_neg h8]
 by_cases h6 : (ndT ts f.node).k = 6
 ·rw [if_pos h6, if_pos h6]; exact ⟨rfl, rfl, ⟨hv, he⟩, sc_bx hs (by omega), hk⟩
 rw [if_neg h6, if_neg h6]
 by_cases h7 : (ndT ts f.node).k = 7
 ·rw [if_pos h7, if_pos h7]
  cases v with
  | tru x =>
   show MSim ts fur (if x = 1 then _ else _) (if x = 1 then _ else _)
   by_cases hx : x = 1
   ·rw [if_pos hx, if_pos hx]; exact ⟨rfl, rfl, he, sc_b hs (by omega), hk⟩
   ·rw [if_neg hx, if_neg hx]; exact ⟨rfl, rfl, he, sc_c hs h7, hk⟩
  | _ => exact ⟨rfl, rfl⟩
 rw [if_neg h7, if_neg h7]
 by_cases h9 : (ndT ts f.node).k = 9
 ·rw [if_pos h9, if_pos h9]; exact ⟨rfl, hv, hk⟩
 rw [if_neg h9, if_neg h9]
 by_cases h11 : (ndT ts f.node).k = 11
 ·rw [if_pos h11, if_pos h11]
  cases v with
  | ret u => exact ⟨rfl, rfl, ⟨hv, he⟩, sc_bx hs (by omega), hk⟩
  | op n u k => exact ⟨rfl, ⟨hv.1, h11, hs, he, hv.2⟩, hk⟩
  | _ => exact ⟨rfl, rfl⟩
 rw [if_neg h11, if_neg h11]
 by_cases h12 : (ndT ts f.node).k = 12
 ·rw [if_pos h12, if_pos h12]
  cases v with
  | ret u => exact ⟨rfl, rfl, ⟨hv, he⟩, sc_bx hs (by omega), hk⟩
  | op n u k =>
   show MSim ts fur (if n = (ndT ts f.node).n then _ else _) (if n = (ndT ts f.node).n then _ else _)
   by_cases hn : n = (ndT ts f.node).n
   ·rw [if_pos hn, if_pos hn]; exact ⟨rfl, rfl, ⟨hv.2, hv.1, he⟩, sc_cz hs h12, hk⟩
   ·rw [if_neg hn, if_neg hn, sc_w hs h12, find_at]
    cases hw : f.env.find (ndT ts f.node).w with
    | none => exact ⟨rfl, rfl⟩
    | some who => exact ⟨rfl, ⟨hv.1, hv.2, he.find hw⟩, hk⟩
  | _ => exact ⟨rfl, rfl⟩
 rw [if_neg h12, if_neg h12]
 exact ⟨rfl, hv, hk⟩
omit hkk in
theorem sim_second {g : RF} {f : NF} {v : NV} {s : List RF} {s' : List NF} (hf : FSim ts fur g f) (h1 : f.st = 1) (hv : v.sc ts fur) (hk : StkSim ts fur s s') :
  MSim ts fur (rSecond (ndT ts g.node) g v.er s) (nSecond (ndT ts f.node) f v s') := by
 rw [hf.one h1]
 unfold rSecond nSecond
 rw [hf.val]
 by_cases h10 : (ndT ts f.node).k = 10
 ·rw [if_pos h10, if_pos h10]; exact ⟨rfl, ⟨hf.vs, hv⟩, hk⟩
 rw [if_neg h10, if_neg h10]
 obtain ⟨st, nd, en, u⟩ := f
 dsimp only
 cases u with
 | num a =>
  cases v with
  | num b =>
   show MSim ts fur (if _ then _ else (if _ then _ else _)) (if _ then _ else (if _ then _ else _))
   by_cases h0 : (prmV (ndT ts nd).n a b).1 = 0
   ·rw [if_pos h0, if_pos h0]; exact ⟨rfl, trivial, hk⟩
   rw [if_neg h0, if_neg h0]
   by_cases h2 : (prmV (ndT ts nd).n a b).1 = 1
   ·rw [if_pos h2, if_pos h2]; exact ⟨rfl, trivial, hk⟩
   rw [if_neg h2, if_neg h2]; exact ⟨rfl, rfl⟩
  | _ => exact ⟨rfl, rfl⟩
 | _ => cases v <;> exact ⟨rfl, rfl⟩
omit hkk in
theorem sim_apply {g v : NV} {s : List RF} {s' : List NF} (hg : g.sc ts fur) (hv : v.sc ts fur) (hk : StkSim ts fur s s') : MSim ts fur (rApply ts g.er v.er s) (nApply ts g v s') := by
 cases g with
 | fn n e =>
  obtain ⟨hn, hs, he⟩ := hg
  show MSim ts fur (.ev s (ndT ts n).a (.cons v.er (if (ndT ts n).k = 4 then _ else _))) (.ev s' (ndT ts n).a (if (ndT ts n).k = 4 then _ else _))
  by_cases h4 : (ndT ts n).k = 4
  ·rw [if_pos h4, if_pos h4]; exact ⟨rfl, rfl, ⟨hv, ⟨hn, hs, he⟩, he⟩, sc_f4 hs h4, hk⟩
  ·rw [if_neg h4, if_neg h4]; exact ⟨rfl, rfl, ⟨hv, he⟩, sc_f3 hs (by omega), hk⟩
 | bnd n e f => exact ⟨rfl, hv, ⟨rfl, rfl, hg.2.2.2, (fun h => by cases h), (fun h => by cases h)⟩, ⟨rfl, rfl, trivial, fun _ => ⟨rfl, rfl, hg.2.2.1, hg.2.1⟩, (fun h => by cases h)⟩, hk⟩
 | fwd f w => exact ⟨rfl, hv, ⟨rfl, rfl, hg.1, (fun h => by cases h), (fun h => by cases h)⟩, ⟨rfl, rfl, hg.2, (fun h => by cases h), (fun h => by cases h)⟩, hk⟩
 | _ => exact ⟨rfl, rfl⟩
theorem sim_step {m : RM} {m' : NM} (h : MSim ts fur m m') : MSim ts fur (rStep ts fur m) (nStep ts m') := by
 cases m with
 | ev s n e =>
  cases m' with
  | ev s' n' e' => obtain ⟨rfl, rfl, h1, h2, h3⟩ := h; exact sim_node hkk h1 h2 h3
  | gv _ _ => exact h.elim
  | en _ _ => exact h.elim
 | gv s v =>
  cases m' with
  | ev _ _ _ => exact h.elim
  | en _ _ => exact h.elim
  | gv s' v' =>
   obtain ⟨rfl, h1, h2⟩ := h
   cases s with
   | nil =>
    cases s' with
    | nil => exact ⟨rfl, h1, h2⟩
    | cons _ _ => exact h2.elim
   | cons g s =>
    cases s' with
    | nil => exact h2.elim
    | cons f s' =>
     obtain ⟨hf, hk⟩ := h2
     show MSim ts fur (rBack ts fur g v'.er s) (nBack ts f v' s')
     unfold rBack nBack
     rw [hf.st]
     by_cases h0 : f.st = 0
     ·rw [if_pos h0, if_pos h0]; exact sim_first hkk hf h0 h1 hk
     rw [if_neg h0, if_neg h0]
     by_cases h2 : f.st = 1
     ·rw [if_pos h2, if_pos h2]; exact sim_second hf h2 h1 hk
     rw [if_neg h2, if_neg h2]
     by_cases h3 : f.st = 2
     ·rw [if_pos h3, if_pos h3, hf.val]; exact sim_apply hf.vs h1 hk
     rw [if_neg h3, if_neg h3]
     exact ⟨rfl, h1, hk⟩
 | en k n =>
  cases m' with
  | ev _ _ _ => exact h.elim
  | gv _ _ => exact h.elim
  | en _ _ => exact h
end
open Go.RowKit
theorem walkR_any {R F bm cp T off ct : Nat} {ts : List Tg} (hk : KidLt ts) (hn : NamIn ts) : ∀ (n i : Nat), i < n → i < ts.length → WkOk R F bm cp T off ct ts n i
 | 0, i, h, _ => by omega
 | n + 1, i, h, hi => fun w fur lv m b hz hb hbi hmi ho => by
  obtain ⟨x, hx⟩ : ∃ x, ts.getD i tg0 = x := ⟨_, rfl⟩
  have hk1 := hk i hi
  have hn1 := hn i hi
  have hnd : ndT ts (i : Int) = x := hx
  rw [hx] at hk1 hn1
  obtain ⟨xk, xa, xb, xc, xn, xx, xy, xz, xw⟩ := x
  obtain ⟨ka, kb, kc⟩ := hk1
  obtain ⟨nn, nx, ny, nz, nw⟩ := hn1
  dsimp only at ka kb kc nn nx ny nz nw
  have wk : ∀ a : Int, 0 ≤ a → a < i → Hid (WkOk R F bm cp T off ct ts n a) := fun a h0 h1 => by
   obtain ⟨j, rfl⟩ : ∃ j : Nat, a = j := ⟨a.toNat, by omega⟩
   exact Lib.hid (walkR_any hk hn n j (by omega) (by omega))
  have e : ∀ fur, rsW ts (n + 1) (i : Int) b lv fur = rsW ts (n + 1) (i : Int) b lv fur := fun _ => rfl
  unfold rsW
  rw [hnd]
  dsimp only
  by_cases h0 : xk = 0
  ·subst h0
   rw [if_pos rfl]
   exact walk_0 R F bm cp T off ct ts n i hi w fur lv m b hz hb hbi hmi ho xa xb xc xn xx xy xz xw hx (nn rfl)
  rw [if_neg h0]
  by_cases h3 : xk = 3
  ·subst h3
   rw [if_pos rfl]
   obtain ⟨a1, a2⟩ := ka (by omega) (by omega) (by omega)
   exact walk_3 R F bm cp T off ct ts n i hi w fur lv m b hz hb hbi hmi ho xa xb xc xn xx xy xz xw hx a1 a2 (wk _ a1 a2) nx
  rw [if_neg h3]
  by_cases h4 : xk = 4
  ·subst h4
   rw [if_pos rfl]
   obtain ⟨a1, a2⟩ := ka (by omega) (by omega) (by omega)
   exact walk_4 R F bm cp T off ct ts n i hi w fur lv m b hz hb hbi hmi ho xa xb xc xn xx xy xz xw hx a1 a2 (wk _ a1 a2) nx ny
  rw [if_neg h4]
  by_cases h9 : xk = 9
  ·subst h9
   rw [if_pos rfl]
   obtain ⟨a1, a2⟩ := ka (by omega) (by omega) (by omega)
   exact walk_9 R F bm cp T off ct ts n i hi w fur lv m b hz hb hbi hmi ho xa xb xc xn xx xy xz xw hx a1 a2 (wk _ a1 a2)
  rw [if_neg h9]
  by_cases h6 : xk = 6 ∨ xk = 11
  ·rw [if_pos h6]
   obtain ⟨a1, a2⟩ := ka (by omega) (by omega) (by omega)
   obtain ⟨b1, b2⟩ := kb (by omega)
   rcases h6 with h6 | h6
   ·subst h6
    exact walk_6 R F bm cp T off ct ts n i hi w fur lv m b hz hb hbi hmi ho xa xb xc xn xx xy xz xw hx a1 a2 (wk _ a1 a2) b1 b2 (wk _ b1 b2) nx
   ·subst h6
    exact walk_11 R F bm cp T off ct ts n i hi w fur lv m b hz hb hbi hmi ho xa xb xc xn xx xy xz xw hx a1 a2 (wk _ a1 a2) b1 b2 (wk _ b1 b2) nx
  rw [if_neg h6]
  by_cases h12 : xk = 12
  ·subst h12
   rw [if_pos rfl]
   obtain ⟨a1, a2⟩ := ka (by omega) (by omega) (by omega)
   obtain ⟨b1, b2⟩ := kb (by omega)
   obtain ⟨c1, c2⟩ := kc (by omega)
   exact walk_12 R F bm cp T off ct ts n i hi w fur lv m b hz hb hbi hmi ho xa xb xc xn xx xy xz xw hx a1 a2 (wk _ a1 a2) b1 b2 (wk _ b1 b2) c1 c2 (wk _ c1 c2) nw nx ny nz
  rw [if_neg h12]
  by_cases h7 : xk = 7
  ·subst h7
   rw [if_pos rfl]
   obtain ⟨a1, a2⟩ := ka (by omega) (by omega) (by omega)
   obtain ⟨b1, b2⟩ := kb (by omega)
   obtain ⟨c1, c2⟩ := kc (by omega)
   exact walk_7 R F bm cp T off ct ts n i hi w fur lv m b hz hb hbi hmi ho xa xb xc xn xx xy xz xw hx a1 a2 (wk _ a1 a2) b1 b2 (wk _ b1 b2) c1 c2 (wk _ c1 c2)
  rw [if_neg h7]
  by_cases h5 : xk = 5 ∨ xk = 8 ∨ xk = 10
  ·rw [if_pos h5]
   obtain ⟨a1, a2⟩ := ka (by omega) (by omega) (by omega)
   obtain ⟨b1, b2⟩ := kb (by omega)
   rcases h5 with h5 | h5 | h5
   ·subst h5
    exact walk_5 R F bm cp T off ct ts n i hi w fur lv m b hz hb hbi hmi ho xa xb xc xn xx xy xz xw hx a1 a2 (wk _ a1 a2) b1 b2 (wk _ b1 b2)
   ·subst h5
    exact walk_8 R F bm cp T off ct ts n i hi w fur lv m b hz hb hbi hmi ho xa xb xc xn xx xy xz xw hx a1 a2 (wk _ a1 a2) b1 b2 (wk _ b1 b2)
   ·subst h5
    exact walk_10 R F bm cp T off ct ts n i hi w fur lv m b hz hb hbi hmi ho xa xb xc xn xx xy xz xw hx a1 a2 (wk _ a1 a2) b1 b2 (wk _ b1 b2)
  rw [if_neg h5]
  exact walk_no R F bm cp T off ct ts n i hi w fur lv m b hz hb hbi hmi ho xk xa xb xc xn xx xy xz xw hx ⟨h0, h3, h4, h9, by omega, by omega, h12, h7, by omega, by omega, by omega⟩
theorem made_at {w : World} {n i : Nat} (hi : i < n) : (w.alloc (.cells (madeCells #[.int .i64 0] n) 3)).cell? ⟨w.heap.size, i, none⟩ = some (.int .i64 0) := by
 rw [World.cell?_alloc_at _ _ _ _ rfl]
 simp [madeCells, hi, Nat.mod_one]
def RvP (w : World) (ts : List Tg) (e : Ending) (w' : World) : Prop := ∃ F c, e = .returned (.slice (some ⟨F, 0, none⟩) ts.length c) ∧ w.heap.size ≤ F ∧ F < w'.heap.size ∧ (∀ i, i < ts.length → w'.cell? ⟨F, i, none⟩ = some (.int .i64 ((furV ts).getD i 0))) ∧ Below w.heap.size w w'
theorem resolve_any (T off ct : Nat) (ts : List Tg) (w : World) (h : Hid (TgSl w T off ts)) (hT : T < w.heap.size) (h1 : 1 ≤ ts.length) (h2 : ts.length ≤ 8192) (hk : KidLt ts) (hn : NamIn ts) :
  Calls Try.prog 16 #[.slice (some ⟨T, off, none⟩) ts.length ct] w (RvP w ts) := by
 have hmk := run_make_row' (P := Try.prog) 46 3 (.int .i64 0) 8 Try.underlying46 (by kernel_rfl) rfl .i64 .i64 ts.length (by omega) (by omega)
 have hmm := @run_makeMap Try.prog
 have wl : IntKind.i64.wrap ((ts.length : Int) - 1) = ((ts.length - 1 : Nat) : Int) := by rw [IntWalk.i64_in _ (by omega)]; omega
 go_enter Try.func16, Try.ntmps16
 go_wp2_with fail
 obtain ⟨W0, hW0⟩ : ∃ W, ((w.alloc (.cells (madeCells #[.int .i64 0] ts.length) 3)).alloc (.map #[] 0)).alloc (.cells #[.slice (some ⟨T, off, none⟩) ts.length ct, .slice (some ⟨w.heap.size, 0, none⟩) ts.length ts.length, .map (some (w.heap.size + 1))] 82) = W := ⟨_, rfl⟩
 rw [hW0]
 have hB : Below w.heap.size w W0 := by rw [← hW0]; (repeat' (first | (with_reducible first | exact bR _ _ | assumption | apply bS | apply bA | apply bD | apply bN | exact bL _) | (simp; done) | (simp; omega) | omega | exact bL _))
 have hz : RzC (w.heap.size + 2) w.heap.size (w.heap.size + 1) ts.length T off ct ts W0 (List.replicate ts.length 0) Lv.no 0 := by
  have hsz : W0.heap.size = w.heap.size + 3 := by rw [← hW0]; simp
  have b1 : Below (w.alloc (.cells (madeCells #[.int .i64 0] ts.length) 3)).heap.size (w.alloc (.cells (madeCells #[.int .i64 0] ts.length) 3)) W0 := by rw [← hW0]; exact ((Below.refl _ _).alloc (Nat.le_refl _) _).alloc (by simp) _
  have b2 : Below ((w.alloc (.cells (madeCells #[.int .i64 0] ts.length) 3)).alloc (.map #[] 0)).heap.size ((w.alloc (.cells (madeCells #[.int .i64 0] ts.length) 3)).alloc (.map #[] 0)) W0 := by rw [← hW0]; exact (Below.refl _ _).alloc (Nat.le_refl _) _
  have hl := (lvM_made (w.alloc (.cells (madeCells #[.int .i64 0] ts.length) 3))).below b2
  rw [show (w.alloc (.cells (madeCells #[.int .i64 0] ts.length) 3)).heap.size = w.heap.size + 1 from by simp] at hl
  exact ⟨by omega, by omega, by omega, by rw [← hW0]; simp [go_sem], by rw [← hW0]; simp [go_sem], by rw [← hW0]; simp [go_sem], by simp,
   fun i hi => by
    have hi : i < ts.length := by simpa using hi
    rw [List.getD_eq_getElem?_getD, List.getElem?_replicate, if_pos hi]
    exact carry b1 (by simp) (made_at hi),
   fun o => by rw [← hW0]; simp [go_sem], hl, h.out.below hB hT, by omega, by omega, by omega, by omega, by omega⟩
 have hwk := walkR_any (R := w.heap.size + 2) (F := w.heap.size) (bm := w.heap.size + 1) (cp := ts.length) (T := T) (off := off) (ct := ct) hk hn ts.length (ts.length - 1) (by omega) (by omega) W0 _ _ _ 0 (Lib.hid hz) (by omega) (by omega) (by omega) Lv.ok_no
 have hBh := Lib.hid hB
 clear hW0 hz hB hmk hmm
 refine hwk.mono ?_
 rintro e w1 ⟨rfl, hz, hb⟩
 have hR := hz.r
 have r1 := hz.r1
 have hfin := Lib.hid (show RvP w ts (.returned (.slice (some ⟨w.heap.size, 0, none⟩) ts.length ts.length)) w1 from ⟨w.heap.size, ts.length, rfl, Nat.le_refl _, hz.f, fun i hi => by
   have := hz.fs i (by rw [rsW_len]; simpa using hi)
   rw [show ((ts.length - 1 : Nat) : Int) = (ts.length : Int) - 1 by omega] at this
   exact this, ⟨hb.os.trans hBh.out.os, hb.tape.trans hBh.out.tape, hb.output.trans hBh.out.output, Nat.le_trans hBh.out.size hb.size, fun k hk => (hb.block k (by have := hBh.out.size; omega) (fun e => by rcases e with e | e <;> omega)).trans (hBh.out.block k hk)⟩⟩)
 clear hz hb hwk
 go_wp2_with fail
 go_ret
 exact hfin.out
end Go.Proofs.Ytnjalpcmjkahkaa
