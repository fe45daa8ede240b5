/- The machine of layer 21, plain: what it is, its steps, its run; more fuel. -/
import Derived.Test.YtnjalpcmjkahkaaZt1
import Derived.Test.YtnjalpcmjkahkaaZt4
import Derived.Test.YtnjalpcmjkahkaaZt8
import Derived.Laws.AppendOwn
set_option maxRecDepth 100000
set_option maxHeartbeats 8000000
namespace Go.Proofs.Ytnjalpcmjkahkaa
open Go.RowKit
set_option linter.unusedVariables false
set_option linter.unusedSimpArgs false
inductive RV where
 | num (n : Int)
 | tru (n : Int)
 | fn (node : Int) (env : RV)
 | bnd (node : Int) (env : RV) (f : RV)
 | fwd (f : RV) (who : RV)
 | ret (v : RV)
 | op (n : Int) (v : RV) (f : RV)
 | nil
 | cons (v : RV) (rest : RV)
def RV.list : RV → List RV
 | .cons v r => v :: r.list
 | _ => []
def RV.atI (e : RV) (i : Int) : Option RV := if 0 ≤ i then e.list[i.toNat]? else none
def RV.ok (L : Int) : RV → Prop
 | .num _ => True
 | .tru _ => True
 | .fn n e => (0 ≤ n ∧ n < L) ∧ e.ok L
 | .bnd n e f => (0 ≤ n ∧ n < L) ∧ e.ok L ∧ f.ok L
 | .fwd f g => f.ok L ∧ g.ok L
 | .ret v => v.ok L
 | .op _ v f => v.ok L ∧ f.ok L
 | .nil => True
 | .cons v r => v.ok L ∧ r.ok L
structure RF where
 st : Int
 node : Int
 env : RV
 val : RV
inductive RM where
 | ev (stk : List RF) (node : Int) (env : RV)
 | gv (stk : List RF) (v : RV)
 | en (kind num : Int)
def rNode (t : Tg) (fur : Int) (stk : List RF) (node : Int) (env : RV) : RM :=
 if t.k = 0 then (match env.atI fur with | none => .en 5 0 | some v => .gv stk v)
 else if t.k = 1 then .gv stk (.num t.n)
 else if t.k = 2 then .gv stk (.tru t.n)
 else if t.k = 3 ∨ t.k = 4 then .gv stk (.fn node env)
 else .ev (⟨0, node, env, .num 0⟩ :: stk) t.a env
def rIf (t : Tg) (stk : List RF) (env v : RV) : RM :=
 match v with
 | .tru x => if x = 1 then .ev stk t.b env else .ev stk t.c env
 | _ => .en 5 0
def rBind (t : Tg) (stk : List RF) (node : Int) (env v : RV) : RM :=
 match v with
 | .ret u => .ev stk t.b (.cons u env)
 | .op n u g => .gv stk (.op n u (.bnd node env g))
 | _ => .en 5 0
def rCase (t : Tg) (fur : Int) (stk : List RF) (env v : RV) : RM :=
 match v with
 | .ret u => .ev stk t.b (.cons u env)
 | .op n u g =>
  if n = t.n then .ev stk t.c (.cons g (.cons u env))
  else (match env.atI fur with | none => .en 5 0 | some who => .gv stk (.op n u (.fwd g who)))
 | _ => .en 5 0
def rFirst (t : Tg) (fur : Int) (f : RF) (v : RV) (stk : List RF) : RM :=
 if t.k = 5 then .ev (⟨2, f.node, f.env, v⟩ :: stk) t.b f.env
 else if t.k = 8 ∨ t.k = 10 then .ev (⟨1, f.node, f.env, v⟩ :: stk) t.b f.env
 else if t.k = 6 then .ev stk t.b (.cons v f.env)
 else if t.k = 7 then rIf t stk f.env v
 else if t.k = 9 then .gv stk (.ret v)
 else if t.k = 11 then rBind t stk f.node f.env v
 else if t.k = 12 then rCase t fur stk f.env v
 else .gv stk v
def rPrim (p : Int) (stk : List RF) (u v : RV) : RM :=
 match u, v with
 | .num a, .num b =>
  if (prmV p a b).1 = 0 then .gv stk (.num (prmV p a b).2)
  else if (prmV p a b).1 = 1 then .gv stk (.tru (prmV p a b).2)
  else .en (prmV p a b).1 (prmV p a b).2
 | _, _ => .en 5 0
def rSecond (t : Tg) (f : RF) (v : RV) (stk : List RF) : RM :=
 if t.k = 10 then .gv stk (.op t.n f.val v) else rPrim t.n stk f.val v
def ndT (ts : List Tg) (i : Int) : Tg := ts.getD i.toNat tg0
def rApply (ts : List Tg) (g v : RV) (stk : List RF) : RM :=
 match g with
 | .fn node env => .ev stk (ndT ts node).a (.cons v (if (ndT ts node).k = 4 then .cons (.fn node env) env else env))
 | .bnd node env f => .gv (⟨2, 0, .nil, f⟩ :: ⟨0, node, env, .num 0⟩ :: stk) v
 | .fwd f who => .gv (⟨2, 0, .nil, f⟩ :: ⟨2, 0, .nil, who⟩ :: stk) v
 | _ => .en 5 0
def rBack (ts : List Tg) (fur : List Int) (f : RF) (v : RV) (stk : List RF) : RM :=
 if f.st = 0 then rFirst (ndT ts f.node) (fur.getD f.node.toNat 0) f v stk
 else if f.st = 1 then rSecond (ndT ts f.node) f v stk
 else if f.st = 2 then rApply ts f.val v stk
 else .gv stk v
def rStep (ts : List Tg) (fur : List Int) : RM → RM
 | .ev stk node env => rNode (ndT ts node) (fur.getD node.toNat 0) stk node env
 | .gv (f :: stk) v => rBack ts fur f v stk
 | m => m
def outN : RV → Int × Int
 | .num n => (0, n)
 | .tru n => (1, n)
 | .fn _ _ => (2, 0)
 | .bnd _ _ _ => (2, 0)
 | .fwd _ _ => (2, 0)
 | _ => (5, 0)
def outR : RV → Int × Int
 | .ret v => outN v
 | _ => (5, 0)
def rOver : RM → Option (Int × Int)
 | .en k n => some (k, n)
 | .gv [] v => some (outR v)
 | _ => none
def rLen : RM → Nat
 | .ev stk _ _ => stk.length
 | .gv stk _ => stk.length
 | .en _ _ => 0
def rRun (ts : List Tg) (fur : List Int) : Nat → Nat → RM → (Int × Int) × Nat
 | n, made, m =>
  match rOver m with
  | some o => (o, made)
  | none =>
   match n with
   | 0 => ((4, 0), made)
   | n + 1 => if 4096 < rLen m then ((4, 0), made) else rRun ts fur n (made + 1) (rStep ts fur m)
theorem rRun_over {ts : List Tg} {fur : List Int} {n made : Nat} {m : RM} {o : Int × Int} (h : rOver m = some o) : rRun ts fur n made m = (o, made) := by
 unfold rRun; rw [h]
theorem rRun_zero {ts : List Tg} {fur : List Int} {made : Nat} {m : RM} (h : rOver m = none) : rRun ts fur 0 made m = ((4, 0), made) := by
 unfold rRun; rw [h]
theorem rRun_deep {ts : List Tg} {fur : List Int} {n made : Nat} {m : RM} (h : rOver m = none) (hl : 4096 < rLen m) : rRun ts fur n made m = ((4, 0), made) := by
 unfold rRun; rw [h]; cases n
 ·rfl
 ·simp only [hl, if_true]
theorem rRun_step {ts : List Tg} {fur : List Int} {n made : Nat} {m : RM} (h : rOver m = none) (hl : ¬ 4096 < rLen m) : rRun ts fur (n + 1) made m = rRun ts fur n (made + 1) (rStep ts fur m) := by
 rw [rRun]; rw [h]; simp only [hl, if_false]
open Go.RowKit
theorem carry {W W1 : World} {g o : Nat} {v : Value} (hb : Below W.heap.size W W1) (hg : g < W.heap.size) (h : W.cell? ⟨g, o, none⟩ = some v) : W1.cell? ⟨g, o, none⟩ = some v := by
 rw [hb.cell (p := ⟨g, o, none⟩) hg]; exact h
theorem below_alc (w : World) (o : Obj) : Below w.heap.size w (w.alloc o) := (Below.refl _ _).alloc (Nat.le_refl _) _
theorem belA {w W : World} (o : Obj) (h : Below w.heap.size w W) : Below w.heap.size w (W.alloc o) := h.alloc h.size _
theorem setS {W : World} {p : Addr} {v u : Value} (h : W.cell? p = some u) : (W.setCell p v).cell? p = some v := by
 rw [World.cell?_setCell_same _ _ _ h]
theorem setO {W : World} {p q : Addr} {v u : Value} (h : W.cell? p = some u) (hne : q ≠ p) : (W.setCell q v).cell? p = some u := (World.cell?_setCell_other _ _ _ _ hne).trans h
structure Bar (S : Nat → Prop) (w w' : World) : Prop where
 os : w'.os = w.os
 tape : w'.tape = w.tape
 output : w'.output = w.output
 size : w.heap.size ≤ w'.heap.size
 block : ∀ k, k < w.heap.size → ¬ S k → w'.heap[k]? = w.heap[k]?
theorem Bar.refl (S : Nat → Prop) (w : World) : Bar S w w := ⟨rfl, rfl, rfl, Nat.le_refl _, fun _ _ _ => rfl⟩
theorem Bar.trans {S S' : Nat → Prop} {w w1 w2 : World} (h : Bar S w w1) (h' : Bar S' w1 w2) (hs : ∀ k, k < w.heap.size → S' k → S k) : Bar S w w2 :=
 ⟨h'.os.trans h.os, h'.tape.trans h.tape, h'.output.trans h.output, Nat.le_trans h.size h'.size, fun k hk hn => (h'.block k (Nat.lt_of_lt_of_le hk h.size) (fun hc => hn (hs k hk hc))).trans (h.block k hk hn)⟩
theorem Bar.of_below {S : Nat → Prop} {w w' : World} (h : Below w.heap.size w w') : Bar S w w' := ⟨h.os, h.tape, h.output, h.size, fun k hk _ => h.block k hk⟩
theorem Bar.next {S : Nat → Prop} {w w1 w2 : World} (h : Bar S w w1) (h' : Below w1.heap.size w1 w2) : Bar S w w2 := h.trans (Bar.of_below (S := S) h') fun _ _ hs => hs
theorem Bar.below {S : Nat → Prop} {B : Nat} {w w' : World} (h : Bar S w w') (hB : B ≤ w.heap.size) (hS : ∀ k, S k → B ≤ k) : Below B w w' :=
 ⟨h.os, h.tape, h.output, h.size, fun k hk => h.block k (by omega) (fun hs => by have := hS k hs; omega)⟩
theorem Bar.set {S : Nat → Prop} {w : World} (p : Addr) (v : Value) (hp : S p.block) : Bar S w (w.setCell p v) :=
 ⟨rfl, rfl, rfl, by simp [World.setCell], fun k _ hn => Below.heap_setCell w p v k (fun e => hn (e ▸ hp))⟩
theorem Bar.cell {S : Nat → Prop} {w w' : World} {a : Addr} {v : Value} (h : Bar S w w') (hc : w.cell? a = some v) (hn : ¬ S a.block) : w'.cell? a = some v :=
 (World.cell?_of_block (h.block a.block (World.block_lt_of_cell? w a hc) hn)).trans hc
theorem Bar.frozen {S : Nat → Prop} {w w' : World} {a : Addr} (h : Bar S w w') (hl : a.block < w.heap.size) (hn : ¬ S a.block) : w'.frozen? a = w.frozen? a :=
 World.frozen?_of_block (h.block a.block hl hn)
theorem Bar.own {S : Nat → Prop} {w w' : World} {base : Nat} {e : TypeId} {size : Nat} {v : Value} {n : Nat} {xs : List Value} (h : Bar S w w') (ho : w.ownsRow base e size v n xs) (hn : ∀ k, v.ownBlock = some k → ¬ S k) : w'.ownsRow base e size v n xs := by
 refine ⟨ho.1, ?_⟩
 rcases ho.2 with h0 | ⟨g, cap, cur, rfl, hb, hgg, rest⟩
 ·exact .inl h0
 ·exact .inr ⟨g, cap, cur, rfl, hb, (h.block g (Array.getElem?_eq_some_iff.1 hgg).1 (hn g rfl)).trans hgg, rest⟩
theorem own_lt {w : World} {B : Nat} {e : TypeId} {s : Nat} {v : Value} {n : Nat} {xs : List Value} (h : w.ownsRow B e s v n xs) : ∀ k, v.ownBlock = some k → B ≤ k ∧ k < w.heap.size := h.lt
def TyAt (w : World) (b : Nat) (T : TypeId) : Prop := ∃ arr fz, w.heap[b]? = some (.cells arr T fz)
theorem TyAt.bar {S : Nat → Prop} {w w' : World} {b : Nat} {T : TypeId} (h : TyAt w b T) (hb : Bar S w w') (hn : ¬ S b) : TyAt w' b T := by
 obtain ⟨arr, fz, h⟩ := h
 exact ⟨arr, fz, (hb.block b (Array.getElem?_eq_some_iff.1 h).1 hn).trans h⟩
theorem TyAt.set {w : World} {b : Nat} {T : TypeId} (h : TyAt w b T) (a : Addr) (v : Value) : TyAt (w.setCell a v) b T := by
 obtain ⟨arr, fz, h⟩ := h
 by_cases e : a.block = b
 ·subst e
  refine ⟨if a.spot.isSome then arr else arr.setIfInBounds a.off v, fz, ?_⟩
  show (w.heap.modify a.block _)[a.block]? = _
  rw [Array.getElem?_modify, if_pos rfl, h]
  rfl
 ·exact ⟨arr, fz, by
   show (w.heap.modify a.block _)[b]? = _
   rw [Array.getElem?_modify, if_neg e, h]⟩
theorem TyAt.ne {w : World} {b b' : Nat} {T T' : TypeId} (h : TyAt w b T) (h' : TyAt w b' T') (hT : T ≠ T') : b ≠ b' := by
 rintro rfl
 obtain ⟨_, _, h⟩ := h
 obtain ⟨_, _, h'⟩ := h'
 rw [h] at h'
 injection h' with h'
 injection h' with _ h' _
 exact hT h'
theorem TyAt.new (w : World) (arr : Array Value) (T : TypeId) : TyAt (w.alloc (.cells arr T)) w.heap.size T := ⟨arr, (0, 0), by show (w.heap.push _)[w.heap.size]? = _; simp⟩
end Go.Proofs.Ytnjalpcmjkahkaa
