/- The machine of layer 21, plain: what it is, its steps, its run; more fuel. -/
import Derived.Test.YtnjalpcmjkahkaaTgD
import Derived.Test.YtnjalpcmjkahkaaPmP
namespace Go.Proofs.Ytnjalpcmjkahkaa
open Go.RowKit
set_option linter.unusedVariables false
set_option linter.unusedSimpArgs false

inductive RV where
  | num (n : Int)
  | tru (n : Int)
  | fn (node : Int) (env : RV)
  | bnd (node : Int) (env : RV) (f : RV)
  | fwd (f : RV) (who : RV)
  | ret (v : RV)
  | op (n : Int) (v : RV) (f : RV)
  | nil
  | cons (v : RV) (rest : RV)

def RV.list : RV → List RV
  | .cons v r => v :: r.list
  | _ => []

def RV.atI (e : RV) (i : Int) : Option RV := if 0 ≤ i then e.list[i.toNat]? else none

/-- Every node that a value speaks of is one of L. -/
def RV.ok (L : Int) : RV → Prop
  | .num _ => True
  | .tru _ => True
  | .fn n e => (0 ≤ n ∧ n < L) ∧ e.ok L
  | .bnd n e f => (0 ≤ n ∧ n < L) ∧ e.ok L ∧ f.ok L
  | .fwd f g => f.ok L ∧ g.ok L
  | .ret v => v.ok L
  | .op _ v f => v.ok L ∧ f.ok L
  | .nil => True
  | .cons v r => v.ok L ∧ r.ok L

structure RF where
  st : Int
  node : Int
  env : RV
  val : RV

inductive RM where
  | ev (stk : List RF) (node : Int) (env : RV)
  | gv (stk : List RF) (v : RV)
  | en (kind num : Int)

def rNode (t : Tg) (fur : Int) (stk : List RF) (node : Int) (env : RV) : RM :=
  if t.k = 0 then (match env.atI fur with | none => .en 5 0 | some v => .gv stk v)
  else if t.k = 1 then .gv stk (.num t.n)
  else if t.k = 2 then .gv stk (.tru t.n)
  else if t.k = 3 ∨ t.k = 4 then .gv stk (.fn node env)
  else .ev (⟨0, node, env, .num 0⟩ :: stk) t.a env

def rIf (t : Tg) (stk : List RF) (env v : RV) : RM :=
  match v with
  | .tru x => if x = 1 then .ev stk t.b env else .ev stk t.c env
  | _ => .en 5 0

def rBind (t : Tg) (stk : List RF) (node : Int) (env v : RV) : RM :=
  match v with
  | .ret u => .ev stk t.b (.cons u env)
  | .op n u g => .gv stk (.op n u (.bnd node env g))
  | _ => .en 5 0

def rCase (t : Tg) (fur : Int) (stk : List RF) (env v : RV) : RM :=
  match v with
  | .ret u => .ev stk t.b (.cons u env)
  | .op n u g =>
    if n = t.n then .ev stk t.c (.cons g (.cons u env))
    else (match env.atI fur with | none => .en 5 0 | some who => .gv stk (.op n u (.fwd g who)))
  | _ => .en 5 0

def rFirst (t : Tg) (fur : Int) (f : RF) (v : RV) (stk : List RF) : RM :=
  if t.k = 5 then .ev (⟨2, f.node, f.env, v⟩ :: stk) t.b f.env
  else if t.k = 8 ∨ t.k = 10 then .ev (⟨1, f.node, f.env, v⟩ :: stk) t.b f.env
  else if t.k = 6 then .ev stk t.b (.cons v f.env)
  else if t.k = 7 then rIf t stk f.env v
  else if t.k = 9 then .gv stk (.ret v)
  else if t.k = 11 then rBind t stk f.node f.env v
  else if t.k = 12 then rCase t fur stk f.env v
  else .gv stk v

def rPrim (p : Int) (stk : List RF) (u v : RV) : RM :=
  match u, v with
  | .num a, .num b =>
    if (prmV p a b).1 = 0 then .gv stk (.num (prmV p a b).2)
    else if (prmV p a b).1 = 1 then .gv stk (.tru (prmV p a b).2)
    else .en (prmV p a b).1 (prmV p a b).2
  | _, _ => .en 5 0

def rSecond (t : Tg) (f : RF) (v : RV) (stk : List RF) : RM :=
  if t.k = 10 then .gv stk (.op t.n f.val v) else rPrim t.n stk f.val v

def ndT (ts : List Tg) (i : Int) : Tg := ts.getD i.toNat tg0

def rApply (ts : List Tg) (g v : RV) (stk : List RF) : RM :=
  match g with
  | .fn node env => .ev stk (ndT ts node).a (.cons v (if (ndT ts node).k = 4 then .cons (.fn node env) env else env))
  | .bnd node env f => .gv (⟨2, 0, .nil, f⟩ :: ⟨0, node, env, .num 0⟩ :: stk) v
  | .fwd f who => .gv (⟨2, 0, .nil, f⟩ :: ⟨2, 0, .nil, who⟩ :: stk) v
  | _ => .en 5 0

def rBack (ts : List Tg) (fur : List Int) (f : RF) (v : RV) (stk : List RF) : RM :=
  if f.st = 0 then rFirst (ndT ts f.node) (fur.getD f.node.toNat 0) f v stk
  else if f.st = 1 then rSecond (ndT ts f.node) f v stk
  else if f.st = 2 then rApply ts f.val v stk
  else .gv stk v

def rStep (ts : List Tg) (fur : List Int) : RM → RM
  | .ev stk node env => rNode (ndT ts node) (fur.getD node.toNat 0) stk node env
  | .gv (f :: stk) v => rBack ts fur f v stk
  | m => m

def outN : RV → Int × Int
  | .num n => (0, n)
  | .tru n => (1, n)
  | .fn _ _ => (2, 0)
  | .bnd _ _ _ => (2, 0)
  | .fwd _ _ => (2, 0)
  | _ => (5, 0)
def outR : RV → Int × Int
  | .ret v => outN v
  | _ => (5, 0)

def rOver : RM → Option (Int × Int)
  | .en k n => some (k, n)
  | .gv [] v => some (outR v)
  | _ => none

def rLen : RM → Nat
  | .ev stk _ _ => stk.length
  | .gv stk _ => stk.length
  | .en _ _ => 0

def rRun (ts : List Tg) (fur : List Int) : Nat → Nat → RM → (Int × Int) × Nat
  | n, made, m =>
    match rOver m with
    | some o => (o, made)
    | none =>
      match n with
      | 0 => ((4, 0), made)
      | n + 1 => if 4096 < rLen m then ((4, 0), made) else rRun ts fur n (made + 1) (rStep ts fur m)

theorem rRun_over {ts : List Tg} {fur : List Int} {n made : Nat} {m : RM} {o : Int × Int} (h : rOver m = some o) : rRun ts fur n made m = (o, made) := by
  unfold rRun; rw [h]
theorem rRun_zero {ts : List Tg} {fur : List Int} {made : Nat} {m : RM} (h : rOver m = none) : rRun ts fur 0 made m = ((4, 0), made) := by
  unfold rRun; rw [h]
theorem rRun_deep {ts : List Tg} {fur : List Int} {n made : Nat} {m : RM} (h : rOver m = none) (hl : 4096 < rLen m) : rRun ts fur n made m = ((4, 0), made) := by
  unfold rRun; rw [h]; cases n
  · rfl
  · simp only [hl, if_true]
theorem rRun_step {ts : List Tg} {fur : List Int} {n made : Nat} {m : RM} (h : rOver m = none) (hl : ¬ 4096 < rLen m) : rRun ts fur (n + 1) made m = rRun ts fur n (made + 1) (rStep ts fur m) := by
  rw [rRun]; rw [h]; simp only [hl, if_false]

theorem rRun_more (ts : List Tg) (fur : List Int) : ∀ (n d made : Nat) (m : RM),
    made ≤ (rRun ts fur n made m).2 ∧ (rRun ts fur n made m).2 ≤ made + n ∧ (rRun ts fur n made m).2 ≤ (rRun ts fur (n + d) made m).2
      ∧ ((rRun ts fur n made m).1 = (4, 0) ∨ rRun ts fur (n + d) made m = rRun ts fur n made m)
  | n, d, made, m => by
    cases ho : rOver m with
    | some o => rw [rRun_over ho, rRun_over ho]; exact ⟨Nat.le_refl _, Nat.le_add_right _ _, Nat.le_refl _, .inr rfl⟩
    | none =>
      by_cases hl : 4096 < rLen m
      · rw [rRun_deep ho hl, rRun_deep ho hl]; exact ⟨Nat.le_refl _, Nat.le_add_right _ _, Nat.le_refl _, .inr rfl⟩
      · cases n with
        | zero =>
          rw [rRun_zero ho]
          refine ⟨Nat.le_refl _, Nat.le_refl _, ?_, .inl rfl⟩
          cases d with
          | zero => rw [rRun_zero ho]; exact Nat.le_refl _
          | succ d =>
            rw [show 0 + (d + 1) = d + 1 from by omega, rRun_step ho hl]
            have := (rRun_more ts fur d 0 (made + 1) (rStep ts fur m)).1
            show made ≤ _
            omega
        | succ n =>
          rw [show n + 1 + d = n + d + 1 from by omega, rRun_step ho hl, rRun_step ho hl]
          obtain ⟨a, b, c, e⟩ := rRun_more ts fur n d (made + 1) (rStep ts fur m)
          exact ⟨by omega, by omega, c, e⟩
  termination_by n d => n + d

end Go.Proofs.Ytnjalpcmjkahkaa
