/- Parsing: plain. What both parsers are shown to reckon; an error tells its number and its place. -/
import Derived.Test.YtidlljookjicpaaGreatDoorBa0
import Derived.Test.YtidlljookjicpaaGreatDoorNaC
import Derived.Test.YtidlljookjicpaaGreatDoorNaH
import Derived.Test.YtidlljookjicpaaGreatDoorNaG
/- Parsing: plain. What both parsers are shown to reckon; an error tells its number and its place. -/
/- Parsing: plain. What both parsers are shown to reckon; an error tells its number and its place. -/
namespace Go.Proofs.YtidlljookjicpaaGreatDoor
set_option linter.unusedVariables false
set_option linter.unusedSimpArgs false

abbrev PE := Int × Int
/-- the next token's index, the nodes that are there. -/
structure PS where
  i : Nat
  ns : List Nd
section
variable (ts : List Tk) (en : Int)
/-- where the next token is. -/
def hereP (i : Nat) : Int := match ts[i]? with | some t => t.at_ | none => en
/-- is it this word or sign? -/
def isP (i : Nat) (u : List UInt8) : Bool := match ts[i]? with | some t => (t.kind == 2 || t.kind == 3) && t.text == u | none => false
def wantP (u : List UInt8) (st : PS) : Except PE PS := if isP ts st.i u then .ok ⟨st.i + 1, st.ns⟩ else .error (403, hereP ts en st.i)
def nameP (st : PS) : Except PE (ByteArray × PS) := match ts[st.i]? with
  | some t => if t.kind = 0 then .ok (bs t.text, ⟨st.i + 1, st.ns⟩) else .error (403, hereP ts en st.i)
  | none => .error (403, hereP ts en st.i)
def putP (x : Nd) (st : PS) : Except PE (Nat × PS) := if 512 ≤ st.ns.length then .error (402, hereP ts en st.i) else .ok (st.ns.length, ⟨st.i, st.ns ++ [x]⟩)
def kwFun : List UInt8 := [102, 117, 110]
def kwLet : List UInt8 := [108, 101, 116]
def kwRec : List UInt8 := [114, 101, 99]
def kwIn : List UInt8 := [105, 110]
def kwIf : List UInt8 := [105, 102]
def kwThen : List UInt8 := [116, 104, 101, 110]
def kwElse : List UInt8 := [101, 108, 115, 101]
def kwHandle : List UInt8 := [104, 97, 110, 100, 108, 101]
def kwWith : List UInt8 := [119, 105, 116, 104]
def kwReturn : List UInt8 := [114, 101, 116, 117, 114, 110]
def kwEnd : List UInt8 := [101, 110, 100]
def kwDo : List UInt8 := [100, 111]
def kwOp : List UInt8 := [111, 112]
def kwTrue : List UInt8 := [116, 114, 117, 101]
def kwFalse : List UInt8 := [102, 97, 108, 115, 101]
def kwInt : List UInt8 := [105, 110, 116]
def kwBool : List UInt8 := [98, 111, 111, 108]
def sgArrow : List UInt8 := [45, 62]
def sgEq : List UInt8 := [61]
def sgEq2 : List UInt8 := [61, 61]
def sgLess : List UInt8 := [60]
def sgAdd : List UInt8 := [43]
def sgSub : List UInt8 := [45]
def sgMul : List UInt8 := [42]
def sgDiv : List UInt8 := [47]
def sgOpen : List UInt8 := [40]
def sgShut : List UInt8 := [41]
def sgColon : List UInt8 := [58]
def sgSemi : List UInt8 := [59]
/-- behind 'fun'. -/
def funP (e : PS → Except PE (Nat × PS)) (beg : Int) (st : PS) : Except PE (Nat × PS) := do
  let (x, st) ← nameP ts en st
  let st ← wantP ts en sgArrow st
  let (a, st) ← e st
  putP ts en ⟨3, (a : Nat), 0, 0, 0, ba0, x, ba0, ba0, beg⟩ st
/-- behind 'let'. -/
def letP (e : PS → Except PE (Nat × PS)) (beg : Int) (st : PS) : Except PE (Nat × PS) := do
  let (x, st) ← nameP ts en st
  let st ← wantP ts en sgEq st
  let (a, st) ← e st
  let st ← wantP ts en kwIn st
  let (b, st) ← e st
  putP ts en ⟨5, (a : Nat), (b : Nat), 0, 0, ba0, x, ba0, ba0, beg⟩ st
/-- behind 'let rec'. -/
def recP (e : PS → Except PE (Nat × PS)) (beg : Int) (st : PS) : Except PE (Nat × PS) := do
  let (x, st) ← nameP ts en st
  let (y, st) ← nameP ts en st
  let st ← wantP ts en sgEq st
  let (a, st) ← e st
  let st ← wantP ts en kwIn st
  let (b, st) ← e st
  putP ts en ⟨6, (a : Nat), (b : Nat), 0, 0, ba0, x, y, ba0, beg⟩ st
/-- behind 'if'. -/
def ifP (e : PS → Except PE (Nat × PS)) (beg : Int) (st : PS) : Except PE (Nat × PS) := do
  let (a, st) ← e st
  let st ← wantP ts en kwThen st
  let (b, st) ← e st
  let st ← wantP ts en kwElse st
  let (c, st) ← e st
  putP ts en ⟨7, (a : Nat), (b : Nat), (c : Nat), 0, ba0, ba0, ba0, ba0, beg⟩ st
/-- behind 'handle'. -/
def handleP (e : PS → Except PE (Nat × PS)) (beg : Int) (st : PS) : Except PE (Nat × PS) := do
  let (a, st) ← e st
  let st ← wantP ts en kwWith st
  let (o, st) ← nameP ts en st
  let (x, st) ← nameP ts en st
  let (y, st) ← nameP ts en st
  let st ← wantP ts en sgArrow st
  let (b, st) ← e st
  let st ← wantP ts en kwReturn st
  let (z, st) ← nameP ts en st
  let st ← wantP ts en sgArrow st
  let (c, st) ← e st
  let st ← wantP ts en kwEnd st
  putP ts en ⟨10, (a : Nat), (b : Nat), (c : Nat), 0, o, x, y, z, beg⟩ st
/-- may an atom begin here? -/
def startsP (i : Nat) : Bool := match ts[i]? with
  | some t => t.kind == 0 || t.kind == 1 || isP ts i kwTrue || isP ts i kwFalse || isP ts i sgOpen || isP ts i kwHandle
  | none => false
def atomP (e : PS → Except PE (Nat × PS)) (st : PS) : Except PE (Nat × PS) := match ts[st.i]? with
  | none => .error (403, hereP ts en st.i)
  | some t =>
    if t.kind = 0 then putP ts en ⟨0, 0, 0, 0, 0, bs t.text, ba0, ba0, ba0, t.at_⟩ ⟨st.i + 1, st.ns⟩
    else if t.kind = 1 then putP ts en ⟨1, 0, 0, 0, t.num, ba0, ba0, ba0, ba0, t.at_⟩ ⟨st.i + 1, st.ns⟩
    else if isP ts st.i kwTrue then putP ts en ⟨2, 0, 0, 0, 1, ba0, ba0, ba0, ba0, t.at_⟩ ⟨st.i + 1, st.ns⟩
    else if isP ts st.i kwFalse then putP ts en ⟨2, 0, 0, 0, 0, ba0, ba0, ba0, ba0, t.at_⟩ ⟨st.i + 1, st.ns⟩
    else if isP ts st.i sgOpen then do
      let (a, st) ← e ⟨st.i + 1, st.ns⟩
      let st ← wantP ts en sgShut st
      .ok (a, st)
    else if isP ts st.i kwHandle then handleP ts en e t.at_ ⟨st.i + 1, st.ns⟩
    else .error (403, hereP ts en st.i)
/-- what an application begins with. -/
def firstP (e : PS → Except PE (Nat × PS)) (st : PS) : Except PE (Nat × PS) :=
  if isP ts st.i kwDo then do
    let (o, st') ← nameP ts en ⟨st.i + 1, st.ns⟩
    let (a, st') ← atomP ts en e st'
    putP ts en ⟨9, (a : Nat), 0, 0, 0, o, ba0, ba0, ba0, hereP ts en st.i⟩ st'
  else atomP ts en e st
def appLoop (e : PS → Except PE (Nat × PS)) (beg : Int) : Nat → Nat → PS → Except PE (Nat × PS)
  | 0, _, _ => .error (0, 0)
  | f + 1, l, st => if startsP ts st.i then do
      let (b, st) ← atomP ts en e st
      let (l, st) ← putP ts en ⟨4, (l : Nat), (b : Nat), 0, 0, ba0, ba0, ba0, ba0, beg⟩ st
      appLoop e beg f l st
    else .ok (l, st)
def applyP (e : PS → Except PE (Nat × PS)) (st : PS) : Except PE (Nat × PS) := do
  let (l, st') ← firstP ts en e st
  appLoop ts en e (hereP ts en st.i) (ts.length + 1) l st'
/-- a prim's right operand, and the prim; the sign is taken. -/
def primP (num : Int) (at_ : Int) (l : Nat) (o : PS → Except PE (Nat × PS)) (st : PS) : Except PE (Nat × PS) := do
  let (b, st) ← o st
  putP ts en ⟨8, (l : Nat), (b : Nat), 0, num, ba0, ba0, ba0, ba0, at_⟩ st
/-- operands with signs of one rank between them. -/
def rankLoop (u v : List UInt8) (nu nv : Int) (o : PS → Except PE (Nat × PS)) : Nat → Nat → PS → Except PE (Nat × PS)
  | 0, _, _ => .error (0, 0)
  | f + 1, l, st => if isP ts st.i u then do
      let (l, st) ← primP ts en nu (hereP ts en st.i) l o ⟨st.i + 1, st.ns⟩
      rankLoop u v nu nv o f l st
    else if isP ts st.i v then do
      let (l, st) ← primP ts en nv (hereP ts en st.i) l o ⟨st.i + 1, st.ns⟩
      rankLoop u v nu nv o f l st
    else .ok (l, st)
def productP (e : PS → Except PE (Nat × PS)) (st : PS) : Except PE (Nat × PS) := do
  let (l, st) ← applyP ts en e st
  rankLoop ts en sgMul sgDiv 2 3 (applyP ts en e) (ts.length + 1) l st
def sumP (e : PS → Except PE (Nat × PS)) (st : PS) : Except PE (Nat × PS) := do
  let (l, st) ← productP ts en e st
  rankLoop ts en sgAdd sgSub 0 1 (productP ts en e) (ts.length + 1) l st
def compareP (e : PS → Except PE (Nat × PS)) (st : PS) : Except PE (Nat × PS) := do
  let (l, st) ← sumP ts en e st
  if isP ts st.i sgEq2 then primP ts en 4 (hereP ts en st.i) l (sumP ts en e) ⟨st.i + 1, st.ns⟩
  else if isP ts st.i sgLess then primP ts en 5 (hereP ts en st.i) l (sumP ts en e) ⟨st.i + 1, st.ns⟩
  else .ok (l, st)
def openP (e : PS → Except PE (Nat × PS)) (st : PS) : Except PE (Nat × PS) :=
  if isP ts st.i kwFun then funP ts en e (hereP ts en st.i) ⟨st.i + 1, st.ns⟩
  else if isP ts st.i kwLet then
    (if isP ts (st.i + 1) kwRec then recP ts en e (hereP ts en st.i) ⟨st.i + 2, st.ns⟩ else letP ts en e (hereP ts en st.i) ⟨st.i + 1, st.ns⟩)
  else if isP ts st.i kwIf then ifP ts en e (hereP ts en st.i) ⟨st.i + 1, st.ns⟩
  else compareP ts en e st
/-- an expression, where so many more may lie within one another. -/
def exprP : Nat → PS → Except PE (Nat × PS)
  | 0, st => .error (401, hereP ts en st.i)
  | r + 1, st => openP ts en (exprP r) st
def baseP (st : PS) : Except PE (Int × PS) :=
  if isP ts st.i kwInt then .ok (0, ⟨st.i + 1, st.ns⟩) else if isP ts st.i kwBool then .ok (1, ⟨st.i + 1, st.ns⟩) else .error (403, hereP ts en st.i)
/-- one operation, declared. -/
def declP (os : List Or) (st : PS) : Except PE (List Or × PS) :=
  if 4 ≤ os.length then .error (402, hereP ts en st.i) else do
    let (o, st) ← nameP ts en ⟨st.i + 1, st.ns⟩
    let st ← wantP ts en sgColon st
    let (a, st) ← baseP ts en st
    let st ← wantP ts en sgArrow st
    let (b, st) ← baseP ts en st
    let st ← wantP ts en sgSemi st
    .ok (os ++ [⟨o, a, b⟩], st)
def declLoop : Nat → List Or → PS → Except PE (List Or × PS)
  | 0, _, _ => .error (0, 0)
  | f + 1, os, st => if isP ts st.i kwOp then do
      let (os, st) ← declP ts en os st
      declLoop f os st
    else .ok (os, st)
def progP : Except PE (List Or × List Nd) := do
  let (os, st) ← declLoop ts en (ts.length + 1) [] ⟨0, []⟩
  let (_, st) ← exprP ts en 40 st
  if st.i < ts.length then .error (403, hereP ts en st.i) else .ok (os, st.ns)
end
/-- the program of a text, or an error. -/
def parseV (s : ByteArray) : Except PE (List Or × List Nd) := if (lexR s).2.2 = 0 then progP (lexR s).1 s.size else .error (400, (lexR s).2.1)
end Go.Proofs.YtidlljookjicpaaGreatDoor

/- Parsing, plain: how far a step goes. -/
namespace Go.Proofs.YtidlljookjicpaaGreatDoor
set_option linter.unusedVariables false
set_option linter.unusedSimpArgs false

theorem ex_ok {α β : Type} {x : Except PE α} {f : α → Except PE β} {y : β} : (x >>= f) = .ok y ↔ ∃ a, x = .ok a ∧ f a = .ok y := by
  cases x with
  | error e =>
    refine ⟨fun h => ?_, fun ⟨_, h, _⟩ => ?_⟩
    · cases h
    · cases h
  | ok a =>
    refine ⟨fun h => ⟨a, rfl, h⟩, fun ⟨b, h, h'⟩ => ?_⟩
    injection h with h; subst h; exact h'
section
variable {ts : List Tk} {en : Int}
theorem isP_lt {i : Nat} {u : List UInt8} (h : isP ts i u = true) : i < ts.length := by
  unfold isP at h
  by_cases hl : i < ts.length
  · exact hl
  · rw [List.getElem?_eq_none (by omega)] at h; cases h
theorem startsP_lt {i : Nat} (h : startsP ts i = true) : i < ts.length := by
  unfold startsP at h
  by_cases hl : i < ts.length
  · exact hl
  · rw [List.getElem?_eq_none (by omega)] at h; cases h
theorem wantP_ok {u : List UInt8} {st s1 : PS} (h : wantP ts en u st = .ok s1) : isP ts st.i u = true ∧ s1 = ⟨st.i + 1, st.ns⟩ ∧ st.i < ts.length := by
  unfold wantP at h
  by_cases hi : isP ts st.i u = true
  · rw [if_pos hi] at h; injection h with h; exact ⟨hi, h.symm, isP_lt hi⟩
  · rw [if_neg hi] at h; cases h
theorem nameP_ok {st s1 : PS} {x : ByteArray} (h : nameP ts en st = .ok (x, s1)) : s1 = ⟨st.i + 1, st.ns⟩ ∧ st.i < ts.length ∧ ∃ t, ts[st.i]? = some t ∧ t.kind = 0 ∧ x = bs t.text := by
  unfold nameP at h
  cases ht : ts[st.i]? with
  | none => rw [ht] at h; cases h
  | some t =>
    rw [ht] at h
    have hl := (List.getElem?_eq_some_iff.1 ht).1
    by_cases hk : t.kind = 0
    · simp only [if_pos hk] at h; injection h with h; injection h with h1 h2; exact ⟨h2.symm, hl, t, rfl, hk, h1.symm⟩
    · simp only [if_neg hk] at h; cases h
theorem putP_ok {x : Nd} {st s1 : PS} {r : Nat} (h : putP ts en x st = .ok (r, s1)) : s1 = ⟨st.i, st.ns ++ [x]⟩ ∧ r = st.ns.length ∧ st.ns.length < 512 := by
  unfold putP at h
  by_cases hl : 512 ≤ st.ns.length
  · rw [if_pos hl] at h; cases h
  · rw [if_neg hl] at h; injection h with h; injection h with h1 h2; exact ⟨h2.symm, h1.symm, by omega⟩
/-- what a step leaves: it goes on, and puts its node last. -/
structure Fwd (ts : List Tk) (st : PS) (r : Nat) (s1 : PS) : Prop where
  lt : st.i < s1.i
  le : s1.i ≤ ts.length
  last : r + 1 = s1.ns.length
  more : ∃ l, s1.ns = st.ns ++ l
  ne : st.ns.length < s1.ns.length
  most : s1.ns.length ≤ 512
def Mono (ts : List Tk) (e : PS → Except PE (Nat × PS)) : Prop := ∀ st r s1, e st = .ok (r, s1) → Fwd ts st r s1
theorem fwd_put {st s1 : PS} {x : Nd} {r : Nat} (st0 : PS) (h : putP ts en x st = .ok (r, s1)) (hl : st0.i < st.i) (hle : st.i ≤ ts.length) (hm : ∃ l, st.ns = st0.ns ++ l) : Fwd ts st0 r s1 := by
  obtain ⟨rfl, rfl, h3⟩ := putP_ok h
  obtain ⟨l, hl2⟩ := hm
  exact ⟨hl, hle, by simp, ⟨l ++ [x], by rw [hl2]; simp⟩, by rw [hl2]; simp, by simp; omega⟩
theorem more_trans {a b c : List Nd} (h : ∃ l, b = a ++ l) (h' : ∃ l, c = b ++ l) : ∃ l, c = a ++ l := by
  obtain ⟨l, rfl⟩ := h; obtain ⟨m, rfl⟩ := h'; exact ⟨l ++ m, by simp⟩
theorem more_self (a : List Nd) : ∃ l, a = a ++ l := ⟨[], by simp⟩
theorem funP_fwd {e : PS → Except PE (Nat × PS)} (he : Mono ts e) {b : Int} {st s9 : PS} {r : Nat} (h : funP ts en e b st = .ok (r, s9)) : Fwd ts st r s9 := by
  unfold funP at h
  simp only [ex_ok, Prod.exists] at h
  obtain ⟨x, s1, h1, s2, h2, a, s3, h3, h4⟩ := h
  obtain ⟨rfl, l1, _⟩ := nameP_ok h1
  obtain ⟨_, rfl, l2⟩ := wantP_ok h2
  have f3 := he _ _ _ h3
  have := f3.lt
  exact fwd_put st h4 (by dsimp only at *; omega) f3.le f3.more
theorem letP_fwd {e : PS → Except PE (Nat × PS)} (he : Mono ts e) {b : Int} {st s9 : PS} {r : Nat} (h : letP ts en e b st = .ok (r, s9)) : Fwd ts st r s9 := by
  unfold letP at h
  simp only [ex_ok, Prod.exists] at h
  obtain ⟨x, s1, h1, s2, h2, a, s3, h3, s4, h4, a2, s5, h5, h6⟩ := h
  obtain ⟨rfl, l1, _⟩ := nameP_ok h1
  obtain ⟨_, rfl, l2⟩ := wantP_ok h2
  have f3 := he _ _ _ h3
  obtain ⟨_, rfl, l4⟩ := wantP_ok h4
  have f5 := he _ _ _ h5
  have := f3.lt
  have := f5.lt
  exact fwd_put st h6 (by dsimp only at *; omega) f5.le (more_trans f3.more f5.more)
theorem recP_fwd {e : PS → Except PE (Nat × PS)} (he : Mono ts e) {b : Int} {st s9 : PS} {r : Nat} (h : recP ts en e b st = .ok (r, s9)) : Fwd ts st r s9 := by
  unfold recP at h
  simp only [ex_ok, Prod.exists] at h
  obtain ⟨x, s1, h1, y, s1', h1', s2, h2, a, s3, h3, s4, h4, a2, s5, h5, h6⟩ := h
  obtain ⟨rfl, l1, _⟩ := nameP_ok h1
  obtain ⟨rfl, l1', _⟩ := nameP_ok h1'
  obtain ⟨_, rfl, l2⟩ := wantP_ok h2
  have f3 := he _ _ _ h3
  obtain ⟨_, rfl, l4⟩ := wantP_ok h4
  have f5 := he _ _ _ h5
  have := f3.lt
  have := f5.lt
  exact fwd_put st h6 (by dsimp only at *; omega) f5.le (more_trans f3.more f5.more)
theorem ifP_fwd {e : PS → Except PE (Nat × PS)} (he : Mono ts e) {b : Int} {st s9 : PS} {r : Nat} (h : ifP ts en e b st = .ok (r, s9)) : Fwd ts st r s9 := by
  unfold ifP at h
  simp only [ex_ok, Prod.exists] at h
  obtain ⟨a, s1, h1, s2, h2, a2, s3, h3, s4, h4, a3, s5, h5, h6⟩ := h
  have f1 := he _ _ _ h1
  obtain ⟨_, rfl, l2⟩ := wantP_ok h2
  have f3 := he _ _ _ h3
  obtain ⟨_, rfl, l4⟩ := wantP_ok h4
  have f5 := he _ _ _ h5
  have := f1.lt
  have := f3.lt
  have := f5.lt
  exact fwd_put st h6 (by dsimp only at *; omega) f5.le (more_trans f1.more (more_trans f3.more f5.more))
theorem handleP_fwd {e : PS → Except PE (Nat × PS)} (he : Mono ts e) {b : Int} {st s9 : PS} {r : Nat} (h : handleP ts en e b st = .ok (r, s9)) : Fwd ts st r s9 := by
  unfold handleP at h
  simp only [ex_ok, Prod.exists] at h
  obtain ⟨a, s1, h1, s2, h2, o, s3, h3, x, s4, h4, y, s5, h5, s6, h6, b2, s7, h7, s8, h8, z, s10, h10, s11, h11, c, s12, h12, s13, h13, h14⟩ := h
  have f1 := he _ _ _ h1
  obtain ⟨_, rfl, l2⟩ := wantP_ok h2
  obtain ⟨rfl, l3, _⟩ := nameP_ok h3
  obtain ⟨rfl, l4, _⟩ := nameP_ok h4
  obtain ⟨rfl, l5, _⟩ := nameP_ok h5
  obtain ⟨_, rfl, l6⟩ := wantP_ok h6
  have f7 := he _ _ _ h7
  obtain ⟨_, rfl, l8⟩ := wantP_ok h8
  obtain ⟨rfl, l10, _⟩ := nameP_ok h10
  obtain ⟨_, rfl, l11⟩ := wantP_ok h11
  have f12 := he _ _ _ h12
  obtain ⟨_, rfl, l13⟩ := wantP_ok h13
  have := f1.lt
  have := f7.lt
  have := f12.lt
  exact fwd_put st h14 (by dsimp only at *; omega) (by dsimp only at *; omega) (more_trans f1.more (more_trans f7.more f12.more))
theorem atomP_fwd {e : PS → Except PE (Nat × PS)} (he : Mono ts e) : Mono ts (atomP ts en e) := by
  intro st r s9 h
  unfold atomP at h
  cases ht : ts[st.i]? with
  | none => rw [ht] at h; cases h
  | some t =>
    rw [ht] at h
    have hl := (List.getElem?_eq_some_iff.1 ht).1
    dsimp only at h
    by_cases h0 : t.kind = 0
    · rw [if_pos h0] at h; exact fwd_put st h (by dsimp only; omega) (by dsimp only; omega) (more_self _)
    rw [if_neg h0] at h
    by_cases h1 : t.kind = 1
    · rw [if_pos h1] at h; exact fwd_put st h (by dsimp only; omega) (by dsimp only; omega) (more_self _)
    rw [if_neg h1] at h
    by_cases h2 : isP ts st.i kwTrue = true
    · rw [if_pos h2] at h; exact fwd_put st h (by dsimp only; omega) (by dsimp only; omega) (more_self _)
    rw [if_neg h2] at h
    by_cases h3 : isP ts st.i kwFalse = true
    · rw [if_pos h3] at h; exact fwd_put st h (by dsimp only; omega) (by dsimp only; omega) (more_self _)
    rw [if_neg h3] at h
    by_cases h4 : isP ts st.i sgOpen = true
    · rw [if_pos h4] at h
      simp only [ex_ok, Prod.exists] at h
      obtain ⟨a, s1, g1, s2, g2, g3⟩ := h
      injection g3 with g3
      injection g3 with g4 g5
      subst g4 g5
      obtain ⟨_, rfl, l2⟩ := wantP_ok g2
      have f1 := he _ _ _ g1
      have := f1.lt
      exact ⟨by dsimp only at *; omega, by dsimp only at *; omega, f1.last, f1.more, f1.ne, f1.most⟩
    rw [if_neg h4] at h
    by_cases h5 : isP ts st.i kwHandle = true
    · rw [if_pos h5] at h
      have f := handleP_fwd he h
      have := f.lt
      exact ⟨by dsimp only at *; omega, f.le, f.last, f.more, f.ne, f.most⟩
    · rw [if_neg h5] at h; cases h
theorem firstP_fwd {e : PS → Except PE (Nat × PS)} (he : Mono ts e) : Mono ts (firstP ts en e) := by
  intro st r s9 h
  unfold firstP at h
  by_cases h0 : isP ts st.i kwDo = true
  · rw [if_pos h0] at h
    simp only [ex_ok, Prod.exists] at h
    obtain ⟨o, s1, h1, a, s2, h2, h3⟩ := h
    obtain ⟨rfl, l1, _⟩ := nameP_ok h1
    have f2 := atomP_fwd he _ _ _ h2
    have := f2.lt
    exact fwd_put st h3 (by dsimp only at *; omega) f2.le f2.more
  · rw [if_neg h0] at h; exact atomP_fwd he _ _ _ h
theorem Fwd.trans {st s1 s2 : PS} {r r2 : Nat} (h : Fwd ts st r s1) (h' : Fwd ts s1 r2 s2) : Fwd ts st r2 s2 :=
  ⟨Nat.lt_trans h.lt h'.lt, h'.le, h'.last, more_trans h.more h'.more, Nat.lt_trans h.ne h'.ne, h'.most⟩
theorem appLoop_fwd {e : PS → Except PE (Nat × PS)} (he : Mono ts e) {b : Int} : ∀ (f l : Nat) (st : PS) (r : Nat) (s9 : PS) (st0 : PS), Fwd ts st0 l st → appLoop ts en e b f l st = .ok (r, s9) → Fwd ts st0 r s9
  | 0, l, st, r, s9, st0, _, h => by cases h
  | f + 1, l, st, r, s9, st0, h0, h => by
    unfold appLoop at h
    by_cases hs : startsP ts st.i = true
    · rw [if_pos hs] at h
      simp only [ex_ok, Prod.exists] at h
      obtain ⟨a, s1, h1, l2, s2, h2, h3⟩ := h
      have f1 := atomP_fwd he _ _ _ h1
      have f2 := fwd_put st h2 f1.lt f1.le f1.more
      exact appLoop_fwd he f l2 s2 r s9 st0 (h0.trans f2) h3
    · rw [if_neg hs] at h
      injection h with h; injection h with h1 h2; subst h1 h2; exact h0
theorem applyP_fwd {e : PS → Except PE (Nat × PS)} (he : Mono ts e) : Mono ts (applyP ts en e) := by
  intro st r s9 h
  unfold applyP at h
  simp only [ex_ok, Prod.exists] at h
  obtain ⟨l, s1, h1, h2⟩ := h
  exact appLoop_fwd he _ _ _ _ _ st (firstP_fwd he _ _ _ h1) h2
theorem primP_fwd {o : PS → Except PE (Nat × PS)} (ho : Mono ts o) {nu p : Int} {l : Nat} {st s9 : PS} {r : Nat} (h : primP ts en nu p l o st = .ok (r, s9)) : Fwd ts st r s9 := by
  unfold primP at h
  simp only [ex_ok, Prod.exists] at h
  obtain ⟨a, s1, h1, h2⟩ := h
  have f1 := ho _ _ _ h1
  exact fwd_put st h2 f1.lt f1.le f1.more
theorem rankLoop_fwd {o : PS → Except PE (Nat × PS)} (ho : Mono ts o) {u v : List UInt8} {nu nv : Int} : ∀ (f l : Nat) (st : PS) (r : Nat) (s9 : PS) (st0 : PS), Fwd ts st0 l st → rankLoop ts en u v nu nv o f l st = .ok (r, s9) → Fwd ts st0 r s9
  | 0, l, st, r, s9, st0, _, h => by cases h
  | f + 1, l, st, r, s9, st0, h0, h => by
    unfold rankLoop at h
    by_cases hu : isP ts st.i u = true
    · rw [if_pos hu] at h
      simp only [ex_ok, Prod.exists] at h
      obtain ⟨l2, s1, h1, h2⟩ := h
      have f1 := primP_fwd ho h1
      have := f1.lt
      exact rankLoop_fwd ho f l2 s1 r s9 st0 (h0.trans ⟨by dsimp only at *; omega, f1.le, f1.last, f1.more, f1.ne, f1.most⟩) h2
    · rw [if_neg hu] at h
      by_cases hv : isP ts st.i v = true
      · rw [if_pos hv] at h
        simp only [ex_ok, Prod.exists] at h
        obtain ⟨l2, s1, h1, h2⟩ := h
        have f1 := primP_fwd ho h1
        have := f1.lt
        exact rankLoop_fwd ho f l2 s1 r s9 st0 (h0.trans ⟨by dsimp only at *; omega, f1.le, f1.last, f1.more, f1.ne, f1.most⟩) h2
      · rw [if_neg hv] at h
        injection h with h; injection h with h1 h2; subst h1 h2; exact h0
theorem productP_fwd {e : PS → Except PE (Nat × PS)} (he : Mono ts e) : Mono ts (productP ts en e) := by
  intro st r s9 h
  unfold productP at h
  simp only [ex_ok, Prod.exists] at h
  obtain ⟨l, s1, h1, h2⟩ := h
  exact rankLoop_fwd (applyP_fwd he) _ _ _ _ _ st (applyP_fwd he _ _ _ h1) h2
theorem sumP_fwd {e : PS → Except PE (Nat × PS)} (he : Mono ts e) : Mono ts (sumP ts en e) := by
  intro st r s9 h
  unfold sumP at h
  simp only [ex_ok, Prod.exists] at h
  obtain ⟨l, s1, h1, h2⟩ := h
  exact rankLoop_fwd (productP_fwd he) _ _ _ _ _ st (productP_fwd he _ _ _ h1) h2
theorem compareP_fwd {e : PS → Except PE (Nat × PS)} (he : Mono ts e) : Mono ts (compareP ts en e) := by
  intro st r s9 h
  unfold compareP at h
  simp only [ex_ok, Prod.exists] at h
  obtain ⟨l, s1, h1, h2⟩ := h
  have f1 := sumP_fwd he _ _ _ h1
  by_cases hu : isP ts s1.i sgEq2 = true
  · rw [if_pos hu] at h2
    have f2 := primP_fwd (sumP_fwd he) h2
    have := f2.lt
    exact f1.trans ⟨by dsimp only at *; omega, f2.le, f2.last, f2.more, f2.ne, f2.most⟩
  · rw [if_neg hu] at h2
    by_cases hv : isP ts s1.i sgLess = true
    · rw [if_pos hv] at h2
      have f2 := primP_fwd (sumP_fwd he) h2
      have := f2.lt
      exact f1.trans ⟨by dsimp only at *; omega, f2.le, f2.last, f2.more, f2.ne, f2.most⟩
    · rw [if_neg hv] at h2
      injection h2 with h2; injection h2 with h3 h4; subst h3 h4; exact f1
theorem openP_fwd {e : PS → Except PE (Nat × PS)} (he : Mono ts e) : Mono ts (openP ts en e) := by
  intro st r s9 h
  unfold openP at h
  have sh : ∀ (k : Nat) (s : PS), s.i = st.i + k → s.ns = st.ns → Fwd ts s r s9 → Fwd ts st r s9 := fun k s hi hn f => ⟨by have := f.lt; omega, f.le, f.last, by rw [← hn]; exact f.more, by rw [← hn]; exact f.ne, f.most⟩
  by_cases h0 : isP ts st.i kwFun = true
  · rw [if_pos h0] at h; exact sh 1 ⟨st.i + 1, st.ns⟩ rfl rfl (funP_fwd he h)
  rw [if_neg h0] at h
  by_cases h1 : isP ts st.i kwLet = true
  · rw [if_pos h1] at h
    by_cases h2 : isP ts (st.i + 1) kwRec = true
    · rw [if_pos h2] at h; exact sh 2 ⟨st.i + 2, st.ns⟩ rfl rfl (recP_fwd he h)
    · rw [if_neg h2] at h; exact sh 1 ⟨st.i + 1, st.ns⟩ rfl rfl (letP_fwd he h)
  rw [if_neg h1] at h
  by_cases h3 : isP ts st.i kwIf = true
  · rw [if_pos h3] at h; exact sh 1 ⟨st.i + 1, st.ns⟩ rfl rfl (ifP_fwd he h)
  · rw [if_neg h3] at h; exact compareP_fwd he _ _ _ h
theorem exprP_fwd : ∀ r, Mono ts (exprP ts en r)
  | 0 => fun st r s9 h => by cases h
  | r + 1 => fun st r' s9 h => openP_fwd (exprP_fwd r) st r' s9 h
end
end Go.Proofs.YtidlljookjicpaaGreatDoor

/- Parsing, plain: what is parsed is a tree. -/
/- Parsing, plain: what is parsed is a tree. -/
namespace Go.Proofs.YtidlljookjicpaaGreatDoor
set_option linter.unusedVariables false
set_option linter.unusedSimpArgs false

theorem bg_cong {ks k2 : Nat → List Int} : ∀ (n i : Nat), i < n → (∀ j, j ≤ i → ks j = k2 j) → bg ks i = bg k2 i
  | 0, i, h, _ => by omega
  | n + 1, i, h, hk => by
    rw [bg_eq ks, bg_eq k2, hk i (Nat.le_refl _)]
    exact bgK_congr _ _ (bg_le ks) _ _ fun j hj => bg_cong n j (by omega) fun m hm => hk m (by omega)
theorem ksN_app (ns l : List Nd) (j : Nat) (h : j < ns.length) : ksN (ns ++ l) j = ksN ns j := by
  unfold ksN
  rw [List.getD_eq_getElem?_getD, List.getD_eq_getElem?_getD, List.getElem?_append_left h]
theorem bg_app (ns l : List Nd) (i : Nat) (h : i < ns.length) : bg (ksN (ns ++ l)) i = bg (ksN ns) i :=
  bg_cong (i + 1) i (by omega) fun j hj => ksN_app ns l j (by omega)
theorem ksN_last (ns : List Nd) (x : Nd) : ksN (ns ++ [x]) ns.length = kidsL x.k x.a x.b x.c := by
  unfold ksN
  rw [List.getD_eq_getElem?_getD, List.getElem?_append_right (Nat.le_refl _), Nat.sub_self]; rfl
theorem part0 {ns : List Nd} {x : Nd} (hk : kidsL x.k x.a x.b x.c = []) : bg (ksN (ns ++ [x])) ns.length = ns.length := by
  rw [bg_eq, ksN_last, hk]; rfl
theorem part1 {ns : List Nd} {x : Nd} {a lo : Nat} (hk : kidsL x.k x.a x.b x.c = [(a : Int)]) (ha : a + 1 = ns.length) (h1 : bg (ksN ns) a = lo) : bg (ksN (ns ++ [x])) ns.length = lo := by
  rw [bg_eq, ksN_last, hk]
  show bgK _ [(a : Int)] _ = _
  unfold bgK
  rw [if_pos (by omega), show ((ns.length : Int) - 1).toNat = a by omega, bg_app _ _ _ (by omega), h1, if_neg (by omega)]
  rfl
theorem part2 {ns : List Nd} {x : Nd} {a b lo : Nat} (hk : kidsL x.k x.a x.b x.c = [(a : Int), (b : Int)]) (hb : b + 1 = ns.length) (hab : a < b) (h2 : bg (ksN ns) b = ((a + 1 : Nat) : Int)) (h1 : bg (ksN ns) a = lo) : bg (ksN (ns ++ [x])) ns.length = lo := by
  rw [bg_eq, ksN_last, hk]
  show bgK _ [(b : Int), (a : Int)] _ = _
  unfold bgK
  rw [if_pos (by omega), show ((ns.length : Int) - 1).toNat = b by omega, bg_app _ _ _ (by omega), h2, if_neg (by omega)]
  unfold bgK
  rw [if_pos (by omega), show (((a + 1 : Nat) : Int) - 1).toNat = a by omega, bg_app _ _ _ (by omega), h1, if_neg (by omega)]
  rfl
theorem part3 {ns : List Nd} {x : Nd} {a b c lo : Nat} (hk : kidsL x.k x.a x.b x.c = [(a : Int), (b : Int), (c : Int)]) (hc : c + 1 = ns.length) (hbc : b < c) (hab : a < b) (h3 : bg (ksN ns) c = ((b + 1 : Nat) : Int)) (h2 : bg (ksN ns) b = ((a + 1 : Nat) : Int)) (h1 : bg (ksN ns) a = lo) : bg (ksN (ns ++ [x])) ns.length = lo := by
  rw [bg_eq, ksN_last, hk]
  show bgK _ [(c : Int), (b : Int), (a : Int)] _ = _
  unfold bgK
  rw [if_pos (by omega), show ((ns.length : Int) - 1).toNat = c by omega, bg_app _ _ _ (by omega), h3, if_neg (by omega)]
  unfold bgK
  rw [if_pos (by omega), show (((b + 1 : Nat) : Int) - 1).toNat = b by omega, bg_app _ _ _ (by omega), h2, if_neg (by omega)]
  unfold bgK
  rw [if_pos (by omega), show (((a + 1 : Nat) : Int) - 1).toNat = a by omega, bg_app _ _ _ (by omega), h1, if_neg (by omega)]
  rfl
/-- a node that may be, within a text. -/
def OkM (M : Int) (t : Nd) : Prop := okNd (okNm true) t = true ∧ 0 ≤ t.p ∧ t.p < M
structure TsOk (ts : List Tk) (M : Int) : Prop where
  nm : ∀ t ∈ ts, t.kind = 0 → nmB t.text = true
  num : ∀ t ∈ ts, t.kind = 1 → 0 ≤ t.num ∧ t.num ≤ 1073741823
  at_ : ∀ t ∈ ts, 0 ≤ t.at_ ∧ t.at_ < M
  most : M ≤ 4096
theorem z0 : ba0.toList = [] := by unfold ba0; rw [ByteArray.toList_eq]
section
variable {M : Int} (hM : M ≤ 4096) {p : Int} (hp : 0 ≤ p ∧ p < M)
include hM hp
theorem okM0 {x : ByteArray} (hx : nmB x.data.toList = true) : OkM M ⟨0, 0, 0, 0, 0, x, ba0, ba0, ba0, p⟩ := by
  refine ⟨?_, hp⟩
  unfold okNd plainB numB okNm namedB namesL
  simp [z0, hx]; omega
theorem okM1 {n : Int} (hn : 0 ≤ n ∧ n ≤ 1073741823) : OkM M ⟨1, 0, 0, 0, n, ba0, ba0, ba0, ba0, p⟩ := by
  refine ⟨?_, hp⟩
  unfold okNd plainB numB okNm namedB namesL
  simp [z0]; omega
theorem okM2 {n : Int} (hn : n = 0 ∨ n = 1) : OkM M ⟨2, 0, 0, 0, n, ba0, ba0, ba0, ba0, p⟩ := by
  refine ⟨?_, hp⟩
  unfold okNd plainB numB okNm namedB namesL
  simp [z0]; omega
theorem okM3 {a : Int} {x : ByteArray} (hx : nmB x.data.toList = true) : OkM M ⟨3, a, 0, 0, 0, ba0, x, ba0, ba0, p⟩ := by
  refine ⟨?_, hp⟩
  unfold okNd plainB numB okNm namedB namesL
  simp [z0, hx]; omega
theorem okM4 {a b : Int} : OkM M ⟨4, a, b, 0, 0, ba0, ba0, ba0, ba0, p⟩ := by
  refine ⟨?_, hp⟩
  unfold okNd plainB numB okNm namedB namesL
  simp [z0]; omega
theorem okM5 {a b : Int} {x : ByteArray} (hx : nmB x.data.toList = true) : OkM M ⟨5, a, b, 0, 0, ba0, x, ba0, ba0, p⟩ := by
  refine ⟨?_, hp⟩
  unfold okNd plainB numB okNm namedB namesL
  simp [z0, hx]; omega
theorem okM6 {a b : Int} {x y : ByteArray} (hx : nmB x.data.toList = true) (hy : nmB y.data.toList = true) : OkM M ⟨6, a, b, 0, 0, ba0, x, y, ba0, p⟩ := by
  refine ⟨?_, hp⟩
  unfold okNd plainB numB okNm namedB namesL
  simp [z0, hx, hy]; omega
theorem okM7 {a b c : Int} : OkM M ⟨7, a, b, c, 0, ba0, ba0, ba0, ba0, p⟩ := by
  refine ⟨?_, hp⟩
  unfold okNd plainB numB okNm namedB namesL
  simp [z0]; omega
theorem okM8 {a b n : Int} (hn : 0 ≤ n ∧ n ≤ 5) : OkM M ⟨8, a, b, 0, n, ba0, ba0, ba0, ba0, p⟩ := by
  refine ⟨?_, hp⟩
  unfold okNd plainB numB okNm namedB namesL
  simp [z0]; omega
theorem okM9 {a : Int} {x : ByteArray} (hx : nmB x.data.toList = true) : OkM M ⟨9, a, 0, 0, 0, x, ba0, ba0, ba0, p⟩ := by
  refine ⟨?_, hp⟩
  unfold okNd plainB numB okNm namedB namesL
  simp [z0, hx]; omega
theorem okM10 {a b c : Int} {o x y z : ByteArray} (ho : nmB o.data.toList = true) (hx : nmB x.data.toList = true) (hy : nmB y.data.toList = true) (hz : nmB z.data.toList = true) : OkM M ⟨10, a, b, c, 0, o, x, y, z, p⟩ := by
  refine ⟨?_, hp⟩
  unfold okNd plainB numB okNm namedB namesL
  simp [ho, hx, hy, hz]; omega
end
/-- what a step leaves: a part of a tree, from where it began. -/
structure Gr (M : Int) (st : PS) (r : Nat) (s1 : PS) : Prop where
  part : bg (ksN s1.ns) r = st.ns.length
  ok : ∀ t ∈ s1.ns, t ∈ st.ns ∨ OkM M t
def MonoG (ts : List Tk) (M : Int) (e : PS → Except PE (Nat × PS)) : Prop := ∀ st r s1, e st = .ok (r, s1) → Fwd ts st r s1 ∧ Gr M st r s1
theorem ok_trans {M : Int} {a b c : List Nd} (h : ∀ t ∈ b, t ∈ a ∨ OkM M t) (h' : ∀ t ∈ c, t ∈ b ∨ OkM M t) : ∀ t ∈ c, t ∈ a ∨ OkM M t := fun t ht => by
  rcases h' t ht with h1 | h1
  · exact h t h1
  · exact .inr h1
theorem ok_put {M : Int} {a b : List Nd} {x : Nd} (h : ∀ t ∈ b, t ∈ a ∨ OkM M t) (hx : OkM M x) : ∀ t ∈ b ++ [x], t ∈ a ∨ OkM M t := fun t ht => by
  rcases List.mem_append.1 ht with h1 | h1
  · exact h t h1
  · rw [List.mem_singleton.1 h1]; exact .inr hx
theorem part_on {n1 n2 : List Nd} {r : Nat} {lo : Int} (f : r + 1 = n1.length) (h : bg (ksN n1) r = lo) (m : ∃ l, n2 = n1 ++ l) : bg (ksN n2) r = lo := by
  obtain ⟨l, hl⟩ := m
  rw [hl, bg_app _ _ _ (by omega)]; exact h
theorem mono_of {ts : List Tk} {M : Int} {e : PS → Except PE (Nat × PS)} (he : MonoG ts M e) : Mono ts e := fun st r s1 h => (he st r s1 h).1
theorem gr_put0 {ts : List Tk} {en M : Int} {x : Nd} {st s1 s9 : PS} {r : Nat} (h : putP ts en x s1 = .ok (r, s9)) (hn : s1.ns = st.ns) (hk : kidsL x.k x.a x.b x.c = []) (hx : OkM M x) : Gr M st r s9 := by
  obtain ⟨rfl, rfl, _⟩ := putP_ok h
  rw [hn]
  exact ⟨part0 hk, ok_put (fun t ht => .inl ht) hx⟩
/-- an operand more: a node of two children, the first of which is what there was. -/
theorem gr_two {ts : List Tk} {en M : Int} {st0 st s1 s9 : PS} {l a r : Nat} {x : Nd} (f0 : Fwd ts st0 l st) (g0 : Gr M st0 l st) (f1 : Fwd ts st a s1) (g1 : Gr M st a s1) (h : putP ts en x s1 = .ok (r, s9)) (hk : kidsL x.k x.a x.b x.c = [(l : Int), (a : Int)]) (hx : OkM M x) : Gr M st0 r s9 := by
  obtain ⟨rfl, rfl, _⟩ := putP_ok h
  have e0 := f0.last
  have e1 := f1.last
  have e2 := f1.ne
  exact ⟨part2 hk f1.last (by omega) (by rw [g1.part, ← e0]) (part_on f0.last g0.part f1.more), ok_put (ok_trans g0.ok g1.ok) hx⟩
section
variable {ts : List Tk} {en M : Int} (hT : TsOk ts M)
include hT
theorem here_ok {i : Nat} (h : i < ts.length) : 0 ≤ hereP ts en i ∧ hereP ts en i < M := by
  unfold hereP
  rw [List.getElem?_eq_getElem h]
  exact hT.at_ _ (List.getElem_mem h)
theorem name_ok {st s1 : PS} {x : ByteArray} (h : nameP ts en st = .ok (x, s1)) : nmB x.data.toList = true := by
  obtain ⟨_, _, t, ht, hk, rfl⟩ := nameP_ok h
  exact hT.nm t (List.mem_of_getElem? ht) hk
theorem funP_gr {e : PS → Except PE (Nat × PS)} (he : MonoG ts M e) {b : Int} (hb : 0 ≤ b ∧ b < M) {st s9 : PS} {r : Nat} (h : funP ts en e b st = .ok (r, s9)) : Gr M st r s9 := by
  unfold funP at h
  simp only [ex_ok, Prod.exists] at h
  obtain ⟨x, s1, h1, s2, h2, a, s3, h3, h4⟩ := h
  have n1 := name_ok hT h1
  obtain ⟨rfl, l1, _⟩ := nameP_ok h1
  obtain ⟨_, rfl, l2⟩ := wantP_ok h2
  obtain ⟨f3, g3⟩ := he _ _ _ h3
  obtain ⟨rfl, rfl, _⟩ := putP_ok h4
  exact ⟨part1 rfl f3.last g3.part, ok_put g3.ok (okM3 hT.most hb n1)⟩
theorem letP_gr {e : PS → Except PE (Nat × PS)} (he : MonoG ts M e) {b : Int} (hb : 0 ≤ b ∧ b < M) {st s9 : PS} {r : Nat} (h : letP ts en e b st = .ok (r, s9)) : Gr M st r s9 := by
  unfold letP at h
  simp only [ex_ok, Prod.exists] at h
  obtain ⟨x, s1, h1, s2, h2, a, s3, h3, s4, h4, a2, s5, h5, h6⟩ := h
  have n1 := name_ok hT h1
  obtain ⟨rfl, l1, _⟩ := nameP_ok h1
  obtain ⟨_, rfl, l2⟩ := wantP_ok h2
  obtain ⟨f3, g3⟩ := he _ _ _ h3
  obtain ⟨_, rfl, l4⟩ := wantP_ok h4
  obtain ⟨f5, g5⟩ := he _ _ _ h5
  obtain ⟨rfl, rfl, _⟩ := putP_ok h6
  have e3 := f3.last
  have e5 := f5.last
  have e6 := f5.ne
  refine ⟨part2 rfl f5.last (by dsimp only at *; omega) (by rw [g5.part]; dsimp only; rw [← e3]) (part_on f3.last g3.part f5.more), ok_put (ok_trans g3.ok g5.ok) (okM5 hT.most hb n1)⟩
theorem recP_gr {e : PS → Except PE (Nat × PS)} (he : MonoG ts M e) {b : Int} (hb : 0 ≤ b ∧ b < M) {st s9 : PS} {r : Nat} (h : recP ts en e b st = .ok (r, s9)) : Gr M st r s9 := by
  unfold recP at h
  simp only [ex_ok, Prod.exists] at h
  obtain ⟨x, s1, h1, y, s1', h1', s2, h2, a, s3, h3, s4, h4, a2, s5, h5, h6⟩ := h
  have n1 := name_ok hT h1
  have n2 := name_ok hT h1'
  obtain ⟨rfl, l1, _⟩ := nameP_ok h1
  obtain ⟨rfl, l1', _⟩ := nameP_ok h1'
  obtain ⟨_, rfl, l2⟩ := wantP_ok h2
  obtain ⟨f3, g3⟩ := he _ _ _ h3
  obtain ⟨_, rfl, l4⟩ := wantP_ok h4
  obtain ⟨f5, g5⟩ := he _ _ _ h5
  obtain ⟨rfl, rfl, _⟩ := putP_ok h6
  have e3 := f3.last
  have e5 := f5.last
  have e6 := f5.ne
  refine ⟨part2 rfl f5.last (by dsimp only at *; omega) (by rw [g5.part]; dsimp only; rw [← e3]) (part_on f3.last g3.part f5.more), ok_put (ok_trans g3.ok g5.ok) (okM6 hT.most hb n1 n2)⟩
theorem ifP_gr {e : PS → Except PE (Nat × PS)} (he : MonoG ts M e) {b : Int} (hb : 0 ≤ b ∧ b < M) {st s9 : PS} {r : Nat} (h : ifP ts en e b st = .ok (r, s9)) : Gr M st r s9 := by
  unfold ifP at h
  simp only [ex_ok, Prod.exists] at h
  obtain ⟨a, s1, h1, s2, h2, a2, s3, h3, s4, h4, a3, s5, h5, h6⟩ := h
  obtain ⟨f1, g1⟩ := he _ _ _ h1
  obtain ⟨_, rfl, l2⟩ := wantP_ok h2
  obtain ⟨f3, g3⟩ := he _ _ _ h3
  obtain ⟨_, rfl, l4⟩ := wantP_ok h4
  obtain ⟨f5, g5⟩ := he _ _ _ h5
  obtain ⟨rfl, rfl, _⟩ := putP_ok h6
  have e1 := f1.last
  have e3 := f3.last
  have e5 := f5.last
  have e6 := f5.ne
  have e7 := f3.ne
  have k1 := part_on f1.last g1.part f3.more
  refine ⟨part3 rfl f5.last (by dsimp only at *; omega) (by dsimp only at *; omega) (by rw [g5.part]; dsimp only; rw [← e3]) (part_on f3.last (by rw [g3.part]; dsimp only; rw [← e1]) f5.more) ?_, ok_put (ok_trans g1.ok (ok_trans g3.ok g5.ok)) (okM7 hT.most hb)⟩
  obtain ⟨l, hl⟩ := f5.more
  rw [hl, bg_app _ _ _ (by dsimp only at *; omega)]; exact k1
theorem handleP_gr {e : PS → Except PE (Nat × PS)} (he : MonoG ts M e) {b : Int} (hb : 0 ≤ b ∧ b < M) {st s9 : PS} {r : Nat} (h : handleP ts en e b st = .ok (r, s9)) : Gr M st r s9 := by
  unfold handleP at h
  simp only [ex_ok, Prod.exists] at h
  obtain ⟨a, s1, h1, s2, h2, o, s3, h3, x, s4, h4, y, s5, h5, s6, h6, b2, s7, h7, s8, h8, z, s10, h10, s11, h11, c, s12, h12, s13, h13, h14⟩ := h
  have n3 := name_ok hT h3
  have n4 := name_ok hT h4
  have n5 := name_ok hT h5
  have n10 := name_ok hT h10
  obtain ⟨f1, g1⟩ := he _ _ _ h1
  obtain ⟨_, rfl, l2⟩ := wantP_ok h2
  obtain ⟨rfl, l3, _⟩ := nameP_ok h3
  obtain ⟨rfl, l4, _⟩ := nameP_ok h4
  obtain ⟨rfl, l5, _⟩ := nameP_ok h5
  obtain ⟨_, rfl, l6⟩ := wantP_ok h6
  obtain ⟨f7, g7⟩ := he _ _ _ h7
  obtain ⟨_, rfl, l8⟩ := wantP_ok h8
  obtain ⟨rfl, l10, _⟩ := nameP_ok h10
  obtain ⟨_, rfl, l11⟩ := wantP_ok h11
  obtain ⟨f12, g12⟩ := he _ _ _ h12
  obtain ⟨_, rfl, l13⟩ := wantP_ok h13
  obtain ⟨rfl, rfl, _⟩ := putP_ok h14
  have e1 := f1.last
  have e3 := f7.last
  have e5 := f12.last
  have e6 := f12.ne
  have e7 := f7.ne
  have k1 := part_on f1.last g1.part f7.more
  refine ⟨part3 rfl f12.last (by dsimp only at *; omega) (by dsimp only at *; omega) (by rw [g12.part]; dsimp only; rw [← e3]) (part_on f7.last (by rw [g7.part]; dsimp only; rw [← e1]) f12.more) ?_, ok_put (ok_trans g1.ok (ok_trans g7.ok g12.ok)) (okM10 hT.most hb n3 n4 n5 n10)⟩
  obtain ⟨l, hl⟩ := f12.more
  rw [hl, bg_app _ _ _ (by dsimp only at *; omega)]; exact k1
theorem atomP_gr {e : PS → Except PE (Nat × PS)} (he : MonoG ts M e) : MonoG ts M (atomP ts en e) := by
  intro st r s9 h
  refine ⟨atomP_fwd (mono_of he) _ _ _ h, ?_⟩
  unfold atomP at h
  cases ht : ts[st.i]? with
  | none => rw [ht] at h; cases h
  | some t =>
    rw [ht] at h
    have hl := (List.getElem?_eq_some_iff.1 ht).1
    have hm := List.mem_of_getElem? ht
    have hat := hT.at_ t hm
    dsimp only at h
    by_cases h0 : t.kind = 0
    · rw [if_pos h0] at h; exact gr_put0 h rfl rfl (okM0 hT.most hat (hT.nm t hm h0))
    rw [if_neg h0] at h
    by_cases h1 : t.kind = 1
    · rw [if_pos h1] at h; exact gr_put0 h rfl rfl (okM1 hT.most hat (hT.num t hm h1))
    rw [if_neg h1] at h
    by_cases h2 : isP ts st.i kwTrue = true
    · rw [if_pos h2] at h; exact gr_put0 h rfl rfl (okM2 hT.most hat (.inr rfl))
    rw [if_neg h2] at h
    by_cases h3 : isP ts st.i kwFalse = true
    · rw [if_pos h3] at h; exact gr_put0 h rfl rfl (okM2 hT.most hat (.inl rfl))
    rw [if_neg h3] at h
    by_cases h4 : isP ts st.i sgOpen = true
    · rw [if_pos h4] at h
      simp only [ex_ok, Prod.exists] at h
      obtain ⟨a, s1, g1, s2, g2, g3⟩ := h
      injection g3 with g3
      injection g3 with g4 g5
      subst g4 g5
      obtain ⟨_, rfl, l2⟩ := wantP_ok g2
      obtain ⟨_, g⟩ := he _ _ _ g1
      exact ⟨g.part, g.ok⟩
    rw [if_neg h4] at h
    by_cases h5 : isP ts st.i kwHandle = true
    · rw [if_pos h5] at h
      have g := handleP_gr hT he hat h
      exact ⟨g.part, g.ok⟩
    · rw [if_neg h5] at h; cases h
theorem firstP_gr {e : PS → Except PE (Nat × PS)} (he : MonoG ts M e) : MonoG ts M (firstP ts en e) := by
  intro st r s9 h
  refine ⟨firstP_fwd (mono_of he) _ _ _ h, ?_⟩
  unfold firstP at h
  by_cases h0 : isP ts st.i kwDo = true
  · rw [if_pos h0] at h
    have hb := here_ok (en := en) hT (isP_lt h0)
    simp only [ex_ok, Prod.exists] at h
    obtain ⟨o, s1, h1, a, s2, h2, h3⟩ := h
    have n1 := name_ok hT h1
    obtain ⟨rfl, l1, _⟩ := nameP_ok h1
    obtain ⟨f2, g2⟩ := atomP_gr hT he _ _ _ h2
    obtain ⟨rfl, rfl, _⟩ := putP_ok h3
    exact ⟨part1 rfl f2.last g2.part, ok_put g2.ok (okM9 hT.most hb n1)⟩
  · rw [if_neg h0] at h; exact (atomP_gr hT he _ _ _ h).2
theorem appLoop_gr {e : PS → Except PE (Nat × PS)} (he : MonoG ts M e) {b : Int} (hb : 0 ≤ b ∧ b < M) : ∀ (f l : Nat) (st : PS) (r : Nat) (s9 : PS) (st0 : PS), Fwd ts st0 l st → Gr M st0 l st → appLoop ts en e b f l st = .ok (r, s9) → Gr M st0 r s9
  | 0, l, st, r, s9, st0, _, _, h => by cases h
  | f + 1, l, st, r, s9, st0, h0, g0, h => by
    unfold appLoop at h
    by_cases hs : startsP ts st.i = true
    · rw [if_pos hs] at h
      simp only [ex_ok, Prod.exists] at h
      obtain ⟨a, s1, h1, l2, s2, h2, h3⟩ := h
      obtain ⟨f1, g1⟩ := atomP_gr hT he _ _ _ h1
      have f2 := fwd_put st h2 f1.lt f1.le f1.more
      exact appLoop_gr he hb f l2 s2 r s9 st0 (h0.trans f2) (gr_two h0 g0 f1 g1 h2 rfl (okM4 hT.most hb)) h3
    · rw [if_neg hs] at h
      injection h with h; injection h with h1 h2; subst h1 h2; exact g0
theorem applyP_gr {e : PS → Except PE (Nat × PS)} (he : MonoG ts M e) : MonoG ts M (applyP ts en e) := by
  intro st r s9 h
  refine ⟨applyP_fwd (mono_of he) _ _ _ h, ?_⟩
  unfold applyP at h
  simp only [ex_ok, Prod.exists] at h
  obtain ⟨l, s1, h1, h2⟩ := h
  obtain ⟨f1, g1⟩ := firstP_gr hT he _ _ _ h1
  exact appLoop_gr hT he (here_ok (en := en) hT (by have := f1.lt; have := f1.le; omega)) _ _ _ _ _ st f1 g1 h2
theorem rankLoop_gr {o : PS → Except PE (Nat × PS)} (ho : MonoG ts M o) {u v : List UInt8} {nu nv : Int} (hu : 0 ≤ nu ∧ nu ≤ 5) (hv : 0 ≤ nv ∧ nv ≤ 5) : ∀ (f l : Nat) (st : PS) (r : Nat) (s9 : PS) (st0 : PS), Fwd ts st0 l st → Gr M st0 l st → rankLoop ts en u v nu nv o f l st = .ok (r, s9) → Gr M st0 r s9
  | 0, l, st, r, s9, st0, _, _, h => by cases h
  | f + 1, l, st, r, s9, st0, h0, g0, h => by
    have key : ∀ (n : Int), 0 ≤ n ∧ n ≤ 5 → st.i < ts.length → ∀ l2 s1, primP ts en n (hereP ts en st.i) l o ⟨st.i + 1, st.ns⟩ = .ok (l2, s1) → Fwd ts st0 l2 s1 ∧ Gr M st0 l2 s1 := by
      intro n hn hl l2 s1 h1
      have f1 := primP_fwd (mono_of ho) h1
      unfold primP at h1
      simp only [ex_ok, Prod.exists] at h1
      obtain ⟨a, s2, h2, h3⟩ := h1
      obtain ⟨f2, g2⟩ := ho _ _ _ h2
      have q2 : Fwd ts st a s2 := ⟨by have := f2.lt; dsimp only at *; omega, f2.le, f2.last, f2.more, f2.ne, f2.most⟩
      have := f1.lt
      exact ⟨h0.trans ⟨by dsimp only at *; omega, f1.le, f1.last, f1.more, f1.ne, f1.most⟩, gr_two h0 g0 q2 ⟨g2.part, g2.ok⟩ h3 rfl (okM8 hT.most (here_ok (en := en) hT hl) hn)⟩
    unfold rankLoop at h
    by_cases hu1 : isP ts st.i u = true
    · rw [if_pos hu1] at h
      simp only [ex_ok, Prod.exists] at h
      obtain ⟨l2, s1, h1, h2⟩ := h
      obtain ⟨f1, g1⟩ := key nu hu (isP_lt hu1) _ _ h1
      exact rankLoop_gr ho hu hv f l2 s1 r s9 st0 f1 g1 h2
    · rw [if_neg hu1] at h
      by_cases hv1 : isP ts st.i v = true
      · rw [if_pos hv1] at h
        simp only [ex_ok, Prod.exists] at h
        obtain ⟨l2, s1, h1, h2⟩ := h
        obtain ⟨f1, g1⟩ := key nv hv (isP_lt hv1) _ _ h1
        exact rankLoop_gr ho hu hv f l2 s1 r s9 st0 f1 g1 h2
      · rw [if_neg hv1] at h
        injection h with h; injection h with h1 h2; subst h1 h2; exact g0
theorem productP_gr {e : PS → Except PE (Nat × PS)} (he : MonoG ts M e) : MonoG ts M (productP ts en e) := by
  intro st r s9 h
  refine ⟨productP_fwd (mono_of he) _ _ _ h, ?_⟩
  unfold productP at h
  simp only [ex_ok, Prod.exists] at h
  obtain ⟨l, s1, h1, h2⟩ := h
  obtain ⟨f1, g1⟩ := applyP_gr hT he _ _ _ h1
  exact rankLoop_gr hT (applyP_gr hT he) (by omega) (by omega) _ _ _ _ _ st f1 g1 h2
theorem sumP_gr {e : PS → Except PE (Nat × PS)} (he : MonoG ts M e) : MonoG ts M (sumP ts en e) := by
  intro st r s9 h
  refine ⟨sumP_fwd (mono_of he) _ _ _ h, ?_⟩
  unfold sumP at h
  simp only [ex_ok, Prod.exists] at h
  obtain ⟨l, s1, h1, h2⟩ := h
  obtain ⟨f1, g1⟩ := productP_gr hT he _ _ _ h1
  exact rankLoop_gr hT (productP_gr hT he) (by omega) (by omega) _ _ _ _ _ st f1 g1 h2
theorem compareP_gr {e : PS → Except PE (Nat × PS)} (he : MonoG ts M e) : MonoG ts M (compareP ts en e) := by
  intro st r s9 h
  refine ⟨compareP_fwd (mono_of he) _ _ _ h, ?_⟩
  unfold compareP at h
  simp only [ex_ok, Prod.exists] at h
  obtain ⟨l, s1, h1, h2⟩ := h
  obtain ⟨f1, g1⟩ := sumP_gr hT he _ _ _ h1
  have key : ∀ (n : Int), 0 ≤ n ∧ n ≤ 5 → s1.i < ts.length → primP ts en n (hereP ts en s1.i) l (sumP ts en e) ⟨s1.i + 1, s1.ns⟩ = .ok (r, s9) → Gr M st r s9 := by
    intro n hn hl h3
    unfold primP at h3
    simp only [ex_ok, Prod.exists] at h3
    obtain ⟨a, s2, h4, h5⟩ := h3
    obtain ⟨f2, g2⟩ := sumP_gr hT he _ _ _ h4
    have q2 : Fwd ts s1 a s2 := ⟨by have := f2.lt; dsimp only at *; omega, f2.le, f2.last, f2.more, f2.ne, f2.most⟩
    exact gr_two f1 g1 q2 ⟨g2.part, g2.ok⟩ h5 rfl (okM8 hT.most (here_ok (en := en) hT hl) hn)
  by_cases hu : isP ts s1.i sgEq2 = true
  · rw [if_pos hu] at h2; exact key 4 (by omega) (isP_lt hu) h2
  · rw [if_neg hu] at h2
    by_cases hv : isP ts s1.i sgLess = true
    · rw [if_pos hv] at h2; exact key 5 (by omega) (isP_lt hv) h2
    · rw [if_neg hv] at h2
      injection h2 with h2; injection h2 with h3 h4; subst h3 h4; exact g1
theorem openP_gr {e : PS → Except PE (Nat × PS)} (he : MonoG ts M e) : MonoG ts M (openP ts en e) := by
  intro st r s9 h
  refine ⟨openP_fwd (mono_of he) _ _ _ h, ?_⟩
  unfold openP at h
  by_cases h0 : isP ts st.i kwFun = true
  · rw [if_pos h0] at h
    have g := funP_gr hT he (here_ok (en := en) hT (isP_lt h0)) h
    exact ⟨g.part, g.ok⟩
  rw [if_neg h0] at h
  by_cases h1 : isP ts st.i kwLet = true
  · rw [if_pos h1] at h
    by_cases h2 : isP ts (st.i + 1) kwRec = true
    · rw [if_pos h2] at h
      have g := recP_gr hT he (here_ok (en := en) hT (isP_lt h1)) h
      exact ⟨g.part, g.ok⟩
    · rw [if_neg h2] at h
      have g := letP_gr hT he (here_ok (en := en) hT (isP_lt h1)) h
      exact ⟨g.part, g.ok⟩
  rw [if_neg h1] at h
  by_cases h3 : isP ts st.i kwIf = true
  · rw [if_pos h3] at h
    have g := ifP_gr hT he (here_ok (en := en) hT (isP_lt h3)) h
    exact ⟨g.part, g.ok⟩
  · rw [if_neg h3] at h; exact (compareP_gr hT he _ _ _ h).2
theorem exprP_gr : ∀ r, MonoG ts M (exprP ts en r)
  | 0 => fun st r s9 h => by cases h
  | r + 1 => fun st r' s9 h => openP_gr hT (exprP_gr r) st r' s9 h
end
end Go.Proofs.YtidlljookjicpaaGreatDoor

/- Parsing, plain: tokens that stand further on. -/
namespace Go.Proofs.YtidlljookjicpaaGreatDoor
set_option linter.unusedVariables false
set_option linter.unusedSimpArgs false

def shN (d : Int) (t : Nd) : Nd := { t with p := t.p + d }
def shT (d : Int) (t : Tk) : Tk := { t with at_ := t.at_ + d }
structure SR (d : Int) (s s' : PS) : Prop where
  i : s'.i = s.i
  ns : s'.ns = s.ns.map (shN d)
/-- errors of one number, as far on, or both at the end. -/
def ER (d en en' : Int) (e e' : PE) : Prop := e'.1 = e.1 ∧ (e'.2 = e.2 + d ∨ (e.2 = en ∧ e'.2 = en'))
def RR {α : Type} (d en en' : Int) (V : α → α → Prop) (x x' : Except PE α) : Prop := match x with
  | .ok a => ∃ a', x' = .ok a' ∧ V a a'
  | .error e => ∃ e', x' = .error e' ∧ ER d en en' e e'
theorem RR.ok {α : Type} {d en en' : Int} {V : α → α → Prop} {a a' : α} (h : V a a') : RR d en en' V (.ok a) (.ok a') := ⟨a', rfl, h⟩
theorem RR.bind {α β : Type} {d en en' : Int} {V : α → α → Prop} {U : β → β → Prop} {x x' : Except PE α} {f f' : α → Except PE β} (h : RR d en en' V x x') (hf : ∀ a a', x = .ok a → V a a' → RR d en en' U (f a) (f' a')) : RR d en en' U (x >>= f) (x' >>= f') := by
  cases x with
  | error e => obtain ⟨e', rfl, h2⟩ := h; exact ⟨e', rfl, h2⟩
  | ok a => obtain ⟨a', rfl, h2⟩ := h; exact hf a a' rfl h2
def VR {α : Type} (d : Int) (a a' : α × PS) : Prop := a'.1 = a.1 ∧ SR d a.2 a'.2
section
variable {ts : List Tk} {d en en' : Int}
theorem get_sh (i : Nat) : (ts.map (shT d))[i]? = (ts[i]?).map (shT d) := List.getElem?_map
theorem here_sh (i : Nat) : (i < ts.length → hereP (ts.map (shT d)) en' i = hereP ts en i + d) ∧ (hereP (ts.map (shT d)) en' i = hereP ts en i + d ∨ (hereP ts en i = en ∧ hereP (ts.map (shT d)) en' i = en')) := by
  unfold hereP
  rw [get_sh]
  by_cases h : i < ts.length
  · rw [List.getElem?_eq_getElem h]; exact ⟨fun _ => rfl, .inl rfl⟩
  · rw [List.getElem?_eq_none (by omega)]; exact ⟨fun h' => absurd h' h, .inr ⟨rfl, rfl⟩⟩
theorem isP_sh (i : Nat) (u : List UInt8) : isP (ts.map (shT d)) i u = isP ts i u := by
  unfold isP
  rw [get_sh]
  cases ts[i]? <;> rfl
theorem starts_sh (i : Nat) : startsP (ts.map (shT d)) i = startsP ts i := by
  unfold startsP
  simp only [isP_sh]
  rw [get_sh]
  cases ts[i]? <;> rfl
theorem err_sh {α : Type} {V : α → α → Prop} (c : Int) (i : Nat) : RR d en en' V (.error (c, hereP ts en i) : Except PE α) (.error (c, hereP (ts.map (shT d)) en' i)) := ⟨_, rfl, rfl, (here_sh i).2⟩
theorem want_sh (u : List UInt8) {st st' : PS} (h : SR d st st') : RR d en en' (SR d) (wantP ts en u st) (wantP (ts.map (shT d)) en' u st') := by
  unfold wantP
  rw [isP_sh, h.i]
  split
  · exact RR.ok ⟨rfl, h.ns⟩
  · exact err_sh _ _
theorem name_sh {st st' : PS} (h : SR d st st') : RR d en en' (VR d) (nameP ts en st) (nameP (ts.map (shT d)) en' st') := by
  unfold nameP
  rw [get_sh, h.i]
  cases hg : ts[st.i]? with
  | none => exact err_sh _ _
  | some t =>
    show RR d en en' (VR d) (if t.kind = 0 then _ else _) (if t.kind = 0 then _ else _)
    split
    · exact RR.ok ⟨rfl, rfl, h.ns⟩
    · exact err_sh _ _
theorem put_sh {x x' : Nd} (hx : x' = shN d x) {st st' : PS} (h : SR d st st') : RR d en en' (VR d) (putP ts en x st) (putP (ts.map (shT d)) en' x' st') := by
  subst hx
  unfold putP
  rw [h.ns, h.i, List.length_map]
  split
  · exact err_sh _ _
  · exact RR.ok ⟨rfl, rfl, by rw [List.map_append]; rfl⟩
def MS (ts : List Tk) (d en en' : Int) (e e' : PS → Except PE (Nat × PS)) : Prop := ∀ st st', SR d st st' → RR d en en' (VR d) (e st) (e' st')
theorem fun_sh {e e' : PS → Except PE (Nat × PS)} (he : MS ts d en en' e e') {b : Int} {st st' : PS} (h : SR d st st') : RR d en en' (VR d) (funP ts en e b st) (funP (ts.map (shT d)) en' e' (b + d) st') := by
  unfold funP
  refine (name_sh h).bind fun ⟨x, s⟩ ⟨x', s'⟩ _ ⟨h1, h2⟩ => ?_
  obtain rfl : x' = x := h1
  refine (want_sh _ h2).bind fun s1 s1' _ h3 => ?_
  refine (he _ _ h3).bind fun ⟨a, s2⟩ ⟨a', s2'⟩ _ ⟨h4, h5⟩ => ?_
  obtain rfl : a' = a := h4
  exact put_sh rfl h5
theorem let_sh {e e' : PS → Except PE (Nat × PS)} (he : MS ts d en en' e e') {b : Int} {st st' : PS} (h : SR d st st') : RR d en en' (VR d) (letP ts en e b st) (letP (ts.map (shT d)) en' e' (b + d) st') := by
  unfold letP
  refine (name_sh h).bind fun ⟨x, s⟩ ⟨x', s'⟩ _ ⟨h1, h2⟩ => ?_
  obtain rfl : x' = x := h1
  refine (want_sh _ h2).bind fun s1 s1' _ h3 => ?_
  refine (he _ _ h3).bind fun ⟨a, s2⟩ ⟨a', s2'⟩ _ ⟨h4, h5⟩ => ?_
  obtain rfl : a' = a := h4
  refine (want_sh _ h5).bind fun s3 s3' _ h6 => ?_
  refine (he _ _ h6).bind fun ⟨a2, s4⟩ ⟨a2', s4'⟩ _ ⟨h7, h8⟩ => ?_
  obtain rfl : a2' = a2 := h7
  exact put_sh rfl h8
theorem rec_sh {e e' : PS → Except PE (Nat × PS)} (he : MS ts d en en' e e') {b : Int} {st st' : PS} (h : SR d st st') : RR d en en' (VR d) (recP ts en e b st) (recP (ts.map (shT d)) en' e' (b + d) st') := by
  unfold recP
  refine (name_sh h).bind fun ⟨x, s⟩ ⟨x', s'⟩ _ ⟨h1, h2⟩ => ?_
  obtain rfl : x' = x := h1
  refine (name_sh h2).bind fun ⟨y, s0⟩ ⟨y', s0'⟩ _ ⟨h1, h2⟩ => ?_
  obtain rfl : y' = y := h1
  refine (want_sh _ h2).bind fun s1 s1' _ h3 => ?_
  refine (he _ _ h3).bind fun ⟨a, s2⟩ ⟨a', s2'⟩ _ ⟨h4, h5⟩ => ?_
  obtain rfl : a' = a := h4
  refine (want_sh _ h5).bind fun s3 s3' _ h6 => ?_
  refine (he _ _ h6).bind fun ⟨a2, s4⟩ ⟨a2', s4'⟩ _ ⟨h7, h8⟩ => ?_
  obtain rfl : a2' = a2 := h7
  exact put_sh rfl h8
theorem if_sh {e e' : PS → Except PE (Nat × PS)} (he : MS ts d en en' e e') {b : Int} {st st' : PS} (h : SR d st st') : RR d en en' (VR d) (ifP ts en e b st) (ifP (ts.map (shT d)) en' e' (b + d) st') := by
  unfold ifP
  refine (he _ _ h).bind fun ⟨a, s2⟩ ⟨a', s2'⟩ _ ⟨h4, h5⟩ => ?_
  obtain rfl : a' = a := h4
  refine (want_sh _ h5).bind fun s3 s3' _ h6 => ?_
  refine (he _ _ h6).bind fun ⟨a2, s4⟩ ⟨a2', s4'⟩ _ ⟨h7, h8⟩ => ?_
  obtain rfl : a2' = a2 := h7
  refine (want_sh _ h8).bind fun s5 s5' _ h9 => ?_
  refine (he _ _ h9).bind fun ⟨a3, s6⟩ ⟨a3', s6'⟩ _ ⟨h10, h11⟩ => ?_
  obtain rfl : a3' = a3 := h10
  exact put_sh rfl h11
theorem handle_sh {e e' : PS → Except PE (Nat × PS)} (he : MS ts d en en' e e') {b : Int} {st st' : PS} (h : SR d st st') : RR d en en' (VR d) (handleP ts en e b st) (handleP (ts.map (shT d)) en' e' (b + d) st') := by
  unfold handleP
  refine (he _ _ h).bind fun ⟨a, s2⟩ ⟨a', s2'⟩ _ ⟨h4, h5⟩ => ?_
  obtain rfl : a' = a := h4
  refine (want_sh _ h5).bind fun s3 s3' _ h6 => ?_
  refine (name_sh h6).bind fun ⟨o, s⟩ ⟨o', s'⟩ _ ⟨h1, h2⟩ => ?_
  obtain rfl : o' = o := h1
  refine (name_sh h2).bind fun ⟨x, s0⟩ ⟨x', s0'⟩ _ ⟨h1, h2⟩ => ?_
  obtain rfl : x' = x := h1
  refine (name_sh h2).bind fun ⟨y, s1⟩ ⟨y', s1'⟩ _ ⟨h1, h2⟩ => ?_
  obtain rfl : y' = y := h1
  refine (want_sh _ h2).bind fun s4 s4' _ h7 => ?_
  refine (he _ _ h7).bind fun ⟨a2, s5⟩ ⟨a2', s5'⟩ _ ⟨h8, h9⟩ => ?_
  obtain rfl : a2' = a2 := h8
  refine (want_sh _ h9).bind fun s6 s6' _ h10 => ?_
  refine (name_sh h10).bind fun ⟨z, s7⟩ ⟨z', s7'⟩ _ ⟨h1, h2⟩ => ?_
  obtain rfl : z' = z := h1
  refine (want_sh _ h2).bind fun s8 s8' _ h11 => ?_
  refine (he _ _ h11).bind fun ⟨a3, s9⟩ ⟨a3', s9'⟩ _ ⟨h12, h13⟩ => ?_
  obtain rfl : a3' = a3 := h12
  refine (want_sh _ h13).bind fun s10 s10' _ h14 => ?_
  exact put_sh rfl h14
theorem on1 {s s' : PS} (h : SR d s s') (k : Nat) : SR d ⟨s.i + k, s.ns⟩ ⟨s'.i + k, s'.ns⟩ := ⟨by rw [h.i], h.ns⟩
theorem atom_sh {e e' : PS → Except PE (Nat × PS)} (he : MS ts d en en' e e') : MS ts d en en' (atomP ts en e) (atomP (ts.map (shT d)) en' e') := by
  intro st st' h
  unfold atomP
  simp only [isP_sh]
  rw [get_sh]
  have hi := h.i
  rw [hi]
  cases hg : ts[st.i]? with
  | none => exact err_sh _ _
  | some t =>
    simp only [Option.map_some]
    have o1 : SR d ⟨st.i + 1, st.ns⟩ ⟨st.i + 1, st'.ns⟩ := ⟨rfl, h.ns⟩
    show RR d en en' (VR d) (if t.kind = 0 then _ else _) (if t.kind = 0 then _ else _)
    split
    · exact put_sh rfl o1
    · show RR d en en' (VR d) (if t.kind = 1 then _ else _) (if t.kind = 1 then _ else _)
      split
      · exact put_sh rfl o1
      · split
        · exact put_sh rfl o1
        · split
          · exact put_sh rfl o1
          · split
            · refine (he _ _ o1).bind fun ⟨a, s2⟩ ⟨a', s2'⟩ _ ⟨h4, h5⟩ => ?_
              obtain rfl : a' = a := h4
              refine (want_sh _ h5).bind fun s3 s3' _ h6 => ?_
              exact RR.ok ⟨rfl, h6⟩
            · split
              · exact handle_sh he o1
              · exact err_sh _ _
theorem first_sh {e e' : PS → Except PE (Nat × PS)} (he : MS ts d en en' e e') : MS ts d en en' (firstP ts en e) (firstP (ts.map (shT d)) en' e') := by
  intro st st' h
  unfold firstP
  rw [isP_sh, h.i]
  by_cases h0 : isP ts st.i kwDo = true
  · rw [if_pos h0, if_pos h0]
    refine (name_sh (st := ⟨st.i + 1, st.ns⟩) (st' := ⟨st.i + 1, st'.ns⟩) ⟨rfl, h.ns⟩).bind fun ⟨x, s⟩ ⟨x', s'⟩ _ ⟨h1, h2⟩ => ?_
    obtain rfl : x' = x := h1
    refine (atom_sh he _ _ h2).bind fun ⟨a, s2⟩ ⟨a', s2'⟩ _ ⟨h4, h5⟩ => ?_
    obtain rfl : a' = a := h4
    exact put_sh (by rw [(here_sh (en := en) st.i).1 (isP_lt h0)]; rfl) h5
  · rw [if_neg h0, if_neg h0]; exact atom_sh he _ _ h
theorem appLoop_sh {e e' : PS → Except PE (Nat × PS)} (he : MS ts d en en' e e') {b : Int} : ∀ (f l : Nat) (st st' : PS), SR d st st' → f ≠ 0 → ts.length < f + st.i → st.i ≤ ts.length → Mono ts e → RR d en en' (VR d) (appLoop ts en e b f l st) (appLoop (ts.map (shT d)) en' e' (b + d) f l st')
  | 0, l, st, st', h, hf, _, _, _ => absurd rfl hf
  | f + 1, l, st, st', h, _, hlen, hle, hm => by
    unfold appLoop
    rw [starts_sh, h.i]
    by_cases hs : startsP ts st.i = true
    · rw [if_pos hs, if_pos hs]
      refine (atom_sh he _ _ h).bind fun ⟨a, s2⟩ ⟨a', s2'⟩ hx ⟨h4, h5⟩ => ?_
      obtain rfl : a' = a := h4
      have f1 := atomP_fwd hm _ _ _ hx
      refine (put_sh rfl h5).bind fun ⟨l2, s3⟩ ⟨l2', s3'⟩ hy ⟨h6, h7⟩ => ?_
      obtain rfl : l2' = l2 := h6
      obtain ⟨rfl, _, _⟩ := putP_ok hy
      have e1 := f1.lt
      have e2 := f1.le
      exact appLoop_sh he f l2' _ _ h7 (by intro e; subst e; dsimp only at *; omega) (by dsimp only at *; omega) f1.le hm
    · rw [if_neg hs, if_neg hs]; exact RR.ok ⟨rfl, h⟩
theorem apply_sh {e e' : PS → Except PE (Nat × PS)} (he : MS ts d en en' e e') (hm : Mono ts e) : MS ts d en en' (applyP ts en e) (applyP (ts.map (shT d)) en' e') := by
  intro st st' h
  unfold applyP
  refine (first_sh he _ _ h).bind fun ⟨a, s2⟩ ⟨a', s2'⟩ hx ⟨h4, h5⟩ => ?_
  obtain rfl : a' = a := h4
  have f1 := firstP_fwd hm _ _ _ hx
  have e1 := f1.lt
  have e2 := f1.le
  dsimp only
  rw [h.i, (here_sh (en := en) st.i).1 (by dsimp only at *; omega), List.length_map]
  exact appLoop_sh he _ _ _ _ h5 (by omega) (by dsimp only at *; omega) f1.le hm
theorem prim_sh {o o' : PS → Except PE (Nat × PS)} (ho : MS ts d en en' o o') {n p : Int} {l : Nat} {st st' : PS} (h : SR d st st') : RR d en en' (VR d) (primP ts en n p l o st) (primP (ts.map (shT d)) en' n (p + d) l o' st') := by
  unfold primP
  refine (ho _ _ h).bind fun ⟨a, s2⟩ ⟨a', s2'⟩ hx ⟨h4, h5⟩ => ?_
  obtain rfl : a' = a := h4
  exact put_sh rfl h5
theorem rankLoop_sh {o o' : PS → Except PE (Nat × PS)} (ho : MS ts d en en' o o') (hm : Mono ts o) {u v : List UInt8} {nu nv : Int} : ∀ (f l : Nat) (st st' : PS), SR d st st' → f ≠ 0 → ts.length < f + st.i → st.i ≤ ts.length → RR d en en' (VR d) (rankLoop ts en u v nu nv o f l st) (rankLoop (ts.map (shT d)) en' u v nu nv o' f l st')
  | 0, l, st, st', h, hf, _, _ => absurd rfl hf
  | f + 1, l, st, st', h, _, hlen, hle => by
    unfold rankLoop
    rw [isP_sh, isP_sh, h.i]
    by_cases hu : isP ts st.i u = true
    · rw [if_pos hu, if_pos hu, (here_sh (en := en) st.i).1 (isP_lt hu)]
      refine (prim_sh ho (st := ⟨st.i + 1, st.ns⟩) (st' := ⟨st.i + 1, st'.ns⟩) ⟨rfl, h.ns⟩).bind fun ⟨a, s2⟩ ⟨a', s2'⟩ hx ⟨h4, h5⟩ => ?_
      obtain rfl : a' = a := h4
      have f1 := primP_fwd hm hx
      have e1 := f1.lt
      have e2 := f1.le
      exact rankLoop_sh ho hm f a' s2 s2' h5 (by intro e; subst e; dsimp only at *; omega) (by dsimp only at *; omega) f1.le
    · rw [if_neg hu, if_neg hu]
      by_cases hv : isP ts st.i v = true
      · rw [if_pos hv, if_pos hv, (here_sh (en := en) st.i).1 (isP_lt hv)]
        refine (prim_sh ho (st := ⟨st.i + 1, st.ns⟩) (st' := ⟨st.i + 1, st'.ns⟩) ⟨rfl, h.ns⟩).bind fun ⟨a, s2⟩ ⟨a', s2'⟩ hx ⟨h4, h5⟩ => ?_
        obtain rfl : a' = a := h4
        have f1 := primP_fwd hm hx
        have e1 := f1.lt
        have e2 := f1.le
        exact rankLoop_sh ho hm f a' s2 s2' h5 (by intro e; subst e; dsimp only at *; omega) (by dsimp only at *; omega) f1.le
      · rw [if_neg hv, if_neg hv]; exact RR.ok ⟨rfl, h⟩
theorem product_sh {e e' : PS → Except PE (Nat × PS)} (he : MS ts d en en' e e') (hm : Mono ts e) : MS ts d en en' (productP ts en e) (productP (ts.map (shT d)) en' e') := by
  intro st st' h
  unfold productP
  refine (apply_sh he hm _ _ h).bind fun ⟨a, s2⟩ ⟨a', s2'⟩ hx ⟨h4, h5⟩ => ?_
  obtain rfl : a' = a := h4
  have f1 := applyP_fwd hm _ _ _ hx
  dsimp only
  rw [List.length_map]
  exact rankLoop_sh (apply_sh he hm) (applyP_fwd hm) _ _ _ _ h5 (by omega) (by dsimp only at *; omega) f1.le
theorem sum_sh {e e' : PS → Except PE (Nat × PS)} (he : MS ts d en en' e e') (hm : Mono ts e) : MS ts d en en' (sumP ts en e) (sumP (ts.map (shT d)) en' e') := by
  intro st st' h
  unfold sumP
  refine (product_sh he hm _ _ h).bind fun ⟨a, s2⟩ ⟨a', s2'⟩ hx ⟨h4, h5⟩ => ?_
  obtain rfl : a' = a := h4
  have f1 := productP_fwd hm _ _ _ hx
  dsimp only
  rw [List.length_map]
  exact rankLoop_sh (product_sh he hm) (productP_fwd hm) _ _ _ _ h5 (by omega) (by dsimp only at *; omega) f1.le
theorem compare_sh {e e' : PS → Except PE (Nat × PS)} (he : MS ts d en en' e e') (hm : Mono ts e) : MS ts d en en' (compareP ts en e) (compareP (ts.map (shT d)) en' e') := by
  intro st st' h
  unfold compareP
  refine (sum_sh he hm _ _ h).bind fun ⟨a, s2⟩ ⟨a', s2'⟩ hx ⟨h4, h5⟩ => ?_
  obtain rfl : a' = a := h4
  have hi : s2'.i = s2.i := h5.i
  dsimp only
  rw [isP_sh, isP_sh, hi]
  by_cases hu : isP ts s2.i sgEq2 = true
  · rw [if_pos hu, if_pos hu, (here_sh (en := en) s2.i).1 (isP_lt hu)]
    exact prim_sh (sum_sh he hm) (st := ⟨s2.i + 1, s2.ns⟩) (st' := ⟨s2.i + 1, s2'.ns⟩) ⟨rfl, h5.ns⟩
  · rw [if_neg hu, if_neg hu]
    by_cases hv : isP ts s2.i sgLess = true
    · rw [if_pos hv, if_pos hv, (here_sh (en := en) s2.i).1 (isP_lt hv)]
      exact prim_sh (sum_sh he hm) (st := ⟨s2.i + 1, s2.ns⟩) (st' := ⟨s2.i + 1, s2'.ns⟩) ⟨rfl, h5.ns⟩
    · rw [if_neg hv, if_neg hv]; exact RR.ok ⟨rfl, h5⟩
theorem open_sh {e e' : PS → Except PE (Nat × PS)} (he : MS ts d en en' e e') (hm : Mono ts e) : MS ts d en en' (openP ts en e) (openP (ts.map (shT d)) en' e') := by
  intro st st' h
  unfold openP
  rw [isP_sh, isP_sh, isP_sh, isP_sh, h.i]
  by_cases h0 : isP ts st.i kwFun = true
  · rw [if_pos h0, if_pos h0, (here_sh (en := en) st.i).1 (isP_lt h0)]
    exact fun_sh he (st := ⟨st.i + 1, st.ns⟩) (st' := ⟨st.i + 1, st'.ns⟩) ⟨rfl, h.ns⟩
  rw [if_neg h0, if_neg h0]
  by_cases h1 : isP ts st.i kwLet = true
  · rw [if_pos h1, if_pos h1, (here_sh (en := en) st.i).1 (isP_lt h1)]
    by_cases h2 : isP ts (st.i + 1) kwRec = true
    · rw [if_pos h2, if_pos h2]
      exact rec_sh he (st := ⟨st.i + 2, st.ns⟩) (st' := ⟨st.i + 2, st'.ns⟩) ⟨rfl, h.ns⟩
    · rw [if_neg h2, if_neg h2]
      exact let_sh he (st := ⟨st.i + 1, st.ns⟩) (st' := ⟨st.i + 1, st'.ns⟩) ⟨rfl, h.ns⟩
  rw [if_neg h1, if_neg h1]
  by_cases h3 : isP ts st.i kwIf = true
  · rw [if_pos h3, if_pos h3, (here_sh (en := en) st.i).1 (isP_lt h3)]
    exact if_sh he (st := ⟨st.i + 1, st.ns⟩) (st' := ⟨st.i + 1, st'.ns⟩) ⟨rfl, h.ns⟩
  · rw [if_neg h3, if_neg h3]; exact compare_sh he hm _ _ h
theorem expr_sh : ∀ r, MS ts d en en' (exprP ts en r) (exprP (ts.map (shT d)) en' r)
  | 0 => fun st st' h => by
    show RR d en en' (VR d) (.error (401, hereP ts en st.i)) (.error (401, hereP (ts.map (shT d)) en' st'.i))
    rw [h.i]; exact err_sh _ _
  | r + 1 => fun st st' h => open_sh (expr_sh r) (exprP_fwd r) st st' h
theorem base_sh {st st' : PS} (h : SR d st st') : RR d en en' (VR d) (baseP ts en st) (baseP (ts.map (shT d)) en' st') := by
  unfold baseP
  rw [isP_sh, isP_sh, h.i]
  split
  · exact RR.ok ⟨rfl, rfl, h.ns⟩
  · split
    · exact RR.ok ⟨rfl, rfl, h.ns⟩
    · exact err_sh _ _
theorem decl_sh (os : List Or) {st st' : PS} (h : SR d st st') : RR d en en' (VR d) (declP ts en os st) (declP (ts.map (shT d)) en' os st') := by
  unfold declP
  rw [h.i]
  split
  · exact err_sh _ _
  · refine (name_sh (st := ⟨st.i + 1, st.ns⟩) (st' := ⟨st.i + 1, st'.ns⟩) ⟨rfl, h.ns⟩).bind fun ⟨x, s⟩ ⟨x', s'⟩ _ ⟨h1, h2⟩ => ?_
    obtain rfl : x' = x := h1
    refine (want_sh _ h2).bind fun s3 s3' _ h6 => ?_
    refine (base_sh h6).bind fun ⟨a, s4⟩ ⟨a', s4'⟩ _ ⟨h1, h2⟩ => ?_
    obtain rfl : a' = a := h1
    refine (want_sh _ h2).bind fun s5 s5' _ h7 => ?_
    refine (base_sh h7).bind fun ⟨b, s6⟩ ⟨b', s6'⟩ _ ⟨h1, h2⟩ => ?_
    obtain rfl : b' = b := h1
    refine (want_sh _ h2).bind fun s7 s7' _ h8 => ?_
    exact RR.ok ⟨rfl, h8⟩
end
end Go.Proofs.YtidlljookjicpaaGreatDoor

/- Parsing, plain: operations, whole texts. -/
namespace Go.Proofs.YtidlljookjicpaaGreatDoor
set_option linter.unusedVariables false
set_option linter.unusedSimpArgs false

theorem baseP_ok {ts : List Tk} {en : Int} {st s1 : PS} {x : Int} (h : baseP ts en st = .ok (x, s1)) : s1 = ⟨st.i + 1, st.ns⟩ ∧ st.i < ts.length ∧ (x = 0 ∨ x = 1) := by
  unfold baseP at h
  by_cases h0 : isP ts st.i kwInt = true
  · rw [if_pos h0] at h; injection h with h; injection h with h1 h2; exact ⟨h2.symm, isP_lt h0, .inl h1.symm⟩
  · rw [if_neg h0] at h
    by_cases h1 : isP ts st.i kwBool = true
    · rw [if_pos h1] at h; injection h with h; injection h with h2 h3; exact ⟨h3.symm, isP_lt h1, .inr h2.symm⟩
    · rw [if_neg h1] at h; cases h
theorem declP_ok {ts : List Tk} {en : Int} {os os' : List Or} {st s1 : PS} (h : declP ts en os st = .ok (os', s1)) : st.i < s1.i ∧ s1.i ≤ ts.length ∧ s1.ns = st.ns ∧ os.length < 4 ∧ ∃ o, os' = os ++ [o] ∧ (o.f = 0 ∨ o.f = 1) ∧ (o.t = 0 ∨ o.t = 1) ∧ ∃ t ∈ ts, t.kind = 0 ∧ o.nm = bs t.text := by
  unfold declP at h
  by_cases h4 : 4 ≤ os.length
  · rw [if_pos h4] at h; cases h
  rw [if_neg h4] at h
  simp only [ex_ok, Prod.exists] at h
  obtain ⟨x, s2, h1, s3, h2, a, s4, h3, s5, h5, b, s6, h6, s7, h7, h8⟩ := h
  injection h8 with h8
  injection h8 with h9 h10
  subst h9 h10
  obtain ⟨rfl, l1, t, ht, hk, rfl⟩ := nameP_ok h1
  obtain ⟨_, rfl, l2⟩ := wantP_ok h2
  obtain ⟨rfl, l3, b1⟩ := baseP_ok h3
  obtain ⟨_, rfl, l5⟩ := wantP_ok h5
  obtain ⟨rfl, l6, b2⟩ := baseP_ok h6
  obtain ⟨_, rfl, l7⟩ := wantP_ok h7
  exact ⟨by dsimp only; omega, by dsimp only at *; omega, rfl, by omega, _, rfl, b1, b2, t, List.mem_of_getElem? ht, hk, rfl⟩
theorem declLoop_ok {ts : List Tk} {en : Int} : ∀ (f : Nat) (os os' : List Or) (st s1 : PS), declLoop ts en f os st = .ok (os', s1) → st.i ≤ ts.length → st.i ≤ s1.i ∧ s1.i ≤ ts.length ∧ s1.ns = st.ns ∧ (os.length ≤ 4 → os'.length ≤ 4) ∧ ∀ o ∈ os', o ∈ os ∨ ((o.f = 0 ∨ o.f = 1) ∧ (o.t = 0 ∨ o.t = 1) ∧ ∃ t ∈ ts, t.kind = 0 ∧ o.nm = bs t.text)
  | 0, os, os', st, s1, h, _ => by cases h
  | f + 1, os, os', st, s1, h, hl => by
    unfold declLoop at h
    by_cases h0 : isP ts st.i kwOp = true
    · rw [if_pos h0] at h
      simp only [ex_ok, Prod.exists] at h
      obtain ⟨o2, s2, h1, h2⟩ := h
      obtain ⟨a1, a2, a3, a4, o, rfl, a5, a6, a7⟩ := declP_ok h1
      obtain ⟨b1, b2, b3, b4, b5⟩ := declLoop_ok f _ _ _ _ h2 a2
      refine ⟨by omega, b2, b3.trans a3, fun _ => b4 (by simp; omega), fun x hx => ?_⟩
      rcases b5 x hx with h | h
      · rcases List.mem_append.1 h with h | h
        · exact .inl h
        · rw [List.mem_singleton.1 h]; exact .inr ⟨a5, a6, a7⟩
      · exact .inr h
    · rw [if_neg h0] at h
      injection h with h; injection h with h1 h2; subst h1 h2
      exact ⟨Nat.le_refl _, hl, rfl, id, fun x hx => .inl hx⟩
theorem declLoop_sh {ts : List Tk} {d en en' : Int} : ∀ (f : Nat) (os : List Or) (st st' : PS), SR d st st' → f ≠ 0 → ts.length < f + st.i → st.i ≤ ts.length → RR d en en' (VR d) (declLoop ts en f os st) (declLoop (ts.map (shT d)) en' f os st')
  | 0, os, st, st', h, hf, _, _ => absurd rfl hf
  | f + 1, os, st, st', h, _, hlen, hle => by
    unfold declLoop
    rw [isP_sh, h.i]
    by_cases h0 : isP ts st.i kwOp = true
    · rw [if_pos h0, if_pos h0]
      refine (decl_sh os h).bind fun ⟨o, s⟩ ⟨o', s'⟩ hx ⟨h1, h2⟩ => ?_
      obtain rfl : o' = o := h1
      obtain ⟨a1, a2, _⟩ := declP_ok hx
      exact declLoop_sh f o' s s' h2 (by intro e; subst e; omega) (by dsimp only at *; omega) a2
    · rw [if_neg h0, if_neg h0]; exact RR.ok ⟨rfl, h⟩
/-- tokens that stand further on make the same program, further on. -/
theorem prog_sh (ts : List Tk) (d en en' : Int) : RR d en en' (fun a a' => a'.1 = a.1 ∧ a'.2 = a.2.map (shN d)) (progP ts en) (progP (ts.map (shT d)) en') := by
  unfold progP
  rw [List.length_map]
  refine (declLoop_sh (ts.length + 1) [] ⟨0, []⟩ ⟨0, []⟩ ⟨rfl, rfl⟩ (by omega) (by show ts.length < ts.length + 1 + 0; omega) (Nat.zero_le _)).bind fun ⟨o, s⟩ ⟨o', s'⟩ hx ⟨h1, h2⟩ => ?_
  obtain rfl : o' = o := h1
  refine (expr_sh 40 _ _ h2).bind fun ⟨a, s2⟩ ⟨a', s2'⟩ hx ⟨h4, h5⟩ => ?_
  have hi : s2'.i = s2.i := h5.i
  dsimp only
  rw [hi]
  split
  · exact err_sh _ _
  · exact RR.ok ⟨rfl, h5.ns⟩
theorem prog_tree {ts : List Tk} {en M : Int} (hT : TsOk ts M) {os : List Or} {ns : List Nd} (h : progP ts en = .ok (os, ns)) :
    treeV (okNm true) ns = true ∧ (∀ t ∈ ns, OkM M t) ∧ os.length ≤ 4 ∧ ∀ o ∈ os, ((o.f = 0 ∨ o.f = 1) ∧ (o.t = 0 ∨ o.t = 1) ∧ nmB o.nm.data.toList = true) := by
  unfold progP at h
  simp only [ex_ok, Prod.exists] at h
  obtain ⟨o, s1, h1, r, s2, h2, h3⟩ := h
  obtain ⟨a1, a2, a3, a4, a5⟩ := declLoop_ok _ _ _ _ _ h1 (Nat.zero_le _)
  obtain ⟨f2, g2⟩ := exprP_gr hT 40 _ _ _ h2
  by_cases hlt : s2.i < ts.length
  · rw [if_pos hlt] at h3; cases h3
  rw [if_neg hlt] at h3
  injection h3 with h3; injection h3 with h4 h5; subst h4 h5
  have hok : ∀ t ∈ s2.ns, OkM M t := fun t ht => by
    rcases g2.ok t ht with h | h
    · rw [a3] at h; cases h
    · exact h
  have hl := f2.last
  have hm := f2.most
  refine ⟨?_, hok, a4 (Nat.zero_le _), fun x hx => ?_⟩
  · unfold treeV
    simp only [Bool.and_eq_true, List.all_eq_true, decide_eq_true_eq]
    refine ⟨⟨by omega, fun t ht => (hok t ht).1⟩, ?_⟩
    rw [show s2.ns.length - 1 = r by omega, g2.part, a3]; rfl
  · rcases a5 x hx with h | ⟨h1, h2, t, ht, hk, e⟩
    · cases h
    · exact ⟨h1, h2, by rw [e]; exact hT.nm t ht hk⟩
end Go.Proofs.YtidlljookjicpaaGreatDoor

/- A text's tokens are such as the parser may ask for: plain. -/
namespace Go.Proofs.YtidlljookjicpaaGreatDoor
set_option linter.unusedVariables false
set_option linter.unusedSimpArgs false

theorem first_tok {l : List UInt8} (h : l ≠ []) (he : (firstF l).2.2 = 0) : ((firstF l).1.kind = 0 → nmB (firstF l).1.text = true) ∧ ((firstF l).1.kind = 1 → 0 ≤ (firstF l).1.num ∧ (firstF l).1.num ≤ 1073741823) := by
  match l, h with
  | c :: t, _ =>
    simp only [firstF] at he ⊢
    by_cases hl : isL c = true
    · simp only [hl, if_true] at he ⊢
      by_cases hk : kwB ((c :: t).take (runN (c :: t))) = true
      · simp only [hk, if_true]; exact ⟨fun h => by simp at h, fun h => by simp at h⟩
      · by_cases h16 : ((c :: t).take (runN (c :: t))).length > 16
        · simp only [hk, h16, if_true] at he; simp at he
        · simp only [if_neg hk, if_neg h16]
          refine ⟨fun _ => ?_, fun h => by simp at h⟩
          show nmB ((c :: t).take (runN (c :: t))) = true
          have hk' : kwB ((c :: t).take (runN (c :: t))) = false := by cases hh : kwB ((c :: t).take (runN (c :: t))); rfl; exact absurd hh hk
          have hall := tw_all (c :: t)
          rw [← runN_take] at hall
          unfold nmB
          rw [hk']
          have hlet : letB ((c :: t).take (runN (c :: t))) = true := by
            rw [runN_yes (isL_isN hl), List.take_succ_cons] at hall ⊢
            rw [letB_cons, hl, Bool.true_and, List.all_eq_true]
            exact fun x hx => hall x (List.mem_cons_of_mem _ hx)
          rw [hlet, decide_eq_true (by omega)]; rfl
    · by_cases hd : isD c = true
      · simp only [hl, hd, if_true, Bool.false_eq_true, if_false] at he ⊢
        by_cases hn : numOk ((c :: t).take (runN (c :: t))) = true
        · simp only [hn, if_true]
          refine ⟨fun h => by simp at h, fun _ => ?_⟩
          unfold numOk at hn
          simp only [Bool.and_eq_true, decide_eq_true_eq] at hn
          have := hn.2
          show (0 : Int) ≤ ((valF _ : Nat) : Int) ∧ ((valF _ : Nat) : Int) ≤ _
          omega
        · simp only [hn] at he; simp at he
      · simp only [hl, hd, Bool.false_eq_true, if_false] at he ⊢
        by_cases hx : (c :: t).take (signF (c :: t)) = []
        · simp only [hx, if_true] at he; simp at he
        · simp only [if_neg hx]; exact ⟨fun h => by simp at h, fun h => by simp at h⟩
def TkFine (M : Int) (t : Tk) : Prop := (t.kind = 0 → nmB t.text = true) ∧ (t.kind = 1 → 0 ≤ t.num ∧ t.num ≤ 1073741823) ∧ 0 ≤ t.at_ ∧ t.at_ < M
theorem lx_fine (M : Int) : ∀ (f : Nat) (l : List UInt8) (p : Nat) (acc : List Tk), (∀ t ∈ acc, TkFine M t) → (p : Int) + l.length ≤ M → ∀ t ∈ (lx f l p acc).1, TkFine M t
  | 0, l, p, acc, _, _, t, ht => by cases ht
  | f + 1, l, p, acc, ha, hp, t, ht => by
    unfold lx at ht
    simp only [] at ht
    by_cases hm : l.drop (skipF false l) = []
    · rw [if_pos hm] at ht; exact ha t ht
    · rw [if_neg hm] at ht
      by_cases he : (firstF (l.drop (skipF false l))).2.2 = 0
      · rw [if_pos he] at ht
        have hpos := firstF_pos hm he
        obtain ⟨h1, h2⟩ := first_tok hm he
        have hlen : (l.drop (skipF false l)).length = l.length - skipF false l := List.length_drop
        have hsk := skipF_le l false
        have hne : 0 < (l.drop (skipF false l)).length := List.length_pos_iff.2 hm
        refine lx_fine M f _ _ _ (fun u hu => ?_) ?_ t ht
        · rcases List.mem_append.1 hu with h | h
          · exact ha u h
          · rw [List.mem_singleton.1 h]
            exact ⟨h1, h2, by dsimp only; omega, by dsimp only; omega⟩
        · rw [List.length_drop]; omega
      · rw [if_neg he] at ht; cases ht
theorem lexR_fine (s : ByteArray) (h : (lexR s).2.2 = 0) : TsOk (lexR s).1 s.size := by
  unfold lexR at h ⊢
  by_cases h1 : 4096 < s.size
  · rw [if_pos h1] at h; simp at h
  · rw [if_neg h1] at h ⊢
    by_cases h2 : (vaV s).2 = false
    · rw [if_pos h2] at h; simp at h
    · rw [if_neg h2]
      have hf := lx_fine s.size (s.data.toList.length + 1) s.data.toList 0 [] (fun t ht => by cases ht) (by
        have e : s.data.toList.length = s.size := Array.length_toList
        rw [e]; omega)
      exact ⟨fun t ht => (hf t ht).1, fun t ht => (hf t ht).2.1, fun t ht => (hf t ht).2.2, by omega⟩
/-- what is parsed is a program that may be, its places within the text. -/
theorem parseV_may {s : ByteArray} {os : List Or} {ns : List Nd} (h : parseV s = .ok (os, ns)) : treeV (okNm true) ns = true ∧ (∀ t ∈ ns, OkM s.size t) ∧ os.length ≤ 4 ∧ ∀ o ∈ os, ((o.f = 0 ∨ o.f = 1) ∧ (o.t = 0 ∨ o.t = 1) ∧ nmB o.nm.data.toList = true) := by
  unfold parseV at h
  by_cases h0 : (lexR s).2.2 = 0
  · rw [if_pos h0] at h; exact prog_tree (lexR_fine s h0) h
  · rw [if_neg h0] at h; cases h
end Go.Proofs.YtidlljookjicpaaGreatDoor

/- Parsing, plain: an error's number and place. -/
namespace Go.Proofs.YtidlljookjicpaaGreatDoor
set_option linter.unusedVariables false
set_option linter.unusedSimpArgs false

/-- an error, if it is one, has a number of the parser's and a place within the text. -/
def PB {α : Type} (en : Int) (x : Except PE α) : Prop := ∀ e, x = .error e → (401 ≤ e.1 ∧ e.1 ≤ 403) ∧ 0 ≤ e.2 ∧ e.2 ≤ en
theorem PB.bind {α β : Type} {en : Int} {x : Except PE α} {f : α → Except PE β} (h : PB en x) (hf : ∀ a, x = .ok a → PB en (f a)) : PB en (x >>= f) := by
  cases x with
  | error e => intro e' he; injection he with he; subst he; exact h e rfl
  | ok a => exact hf a rfl
theorem PB.ok {α : Type} {en : Int} (a : α) : PB en (.ok a : Except PE α) := fun e h => by cases h
section
variable {ts : List Tk} {en : Int} (hT : TsOk ts en) (he0 : 0 ≤ en)
include hT he0
theorem here_pb (i : Nat) : 0 ≤ hereP ts en i ∧ hereP ts en i ≤ en := by
  unfold hereP
  cases hg : ts[i]? with
  | none => exact ⟨he0, Int.le_refl _⟩
  | some t => have := hT.at_ t (List.mem_of_getElem? hg); exact ⟨this.1, by dsimp only; omega⟩
theorem err_pb {α : Type} {c : Int} (hc : 401 ≤ c ∧ c ≤ 403) (i : Nat) : PB en (.error (c, hereP ts en i) : Except PE α) := fun e h => by
  injection h with h; subst h; exact ⟨hc, here_pb hT he0 i⟩
theorem want_pb (u : List UInt8) (st : PS) : PB en (wantP ts en u st) := by
  unfold wantP; split
  · exact PB.ok _
  · exact err_pb hT he0 (by omega) _
theorem name_pb (st : PS) : PB en (nameP ts en st) := by
  unfold nameP; split
  · split
    · exact PB.ok _
    · exact err_pb hT he0 (by omega) _
  · exact err_pb hT he0 (by omega) _
theorem put_pb (x : Nd) (st : PS) : PB en (putP ts en x st) := by
  unfold putP; split
  · exact err_pb hT he0 (by omega) _
  · exact PB.ok _
theorem fun_pb {e : PS → Except PE (Nat × PS)} (he : ∀ st, PB en (e st)) (b : Int) (st : PS) : PB en (funP ts en e b st) := by
  unfold funP
  exact (name_pb hT he0 _).bind fun _ _ => (want_pb hT he0 _ _).bind fun _ _ => (he _).bind fun _ _ => put_pb hT he0 _ _
theorem let_pb {e : PS → Except PE (Nat × PS)} (he : ∀ st, PB en (e st)) (b : Int) (st : PS) : PB en (letP ts en e b st) := by
  unfold letP
  exact (name_pb hT he0 _).bind fun _ _ => (want_pb hT he0 _ _).bind fun _ _ => (he _).bind fun _ _ => (want_pb hT he0 _ _).bind fun _ _ => (he _).bind fun _ _ => put_pb hT he0 _ _
theorem rec_pb {e : PS → Except PE (Nat × PS)} (he : ∀ st, PB en (e st)) (b : Int) (st : PS) : PB en (recP ts en e b st) := by
  unfold recP
  exact (name_pb hT he0 _).bind fun _ _ => (name_pb hT he0 _).bind fun _ _ => (want_pb hT he0 _ _).bind fun _ _ => (he _).bind fun _ _ => (want_pb hT he0 _ _).bind fun _ _ => (he _).bind fun _ _ => put_pb hT he0 _ _
theorem if_pb {e : PS → Except PE (Nat × PS)} (he : ∀ st, PB en (e st)) (b : Int) (st : PS) : PB en (ifP ts en e b st) := by
  unfold ifP
  exact (he _).bind fun _ _ => (want_pb hT he0 _ _).bind fun _ _ => (he _).bind fun _ _ => (want_pb hT he0 _ _).bind fun _ _ => (he _).bind fun _ _ => put_pb hT he0 _ _
theorem handle_pb {e : PS → Except PE (Nat × PS)} (he : ∀ st, PB en (e st)) (b : Int) (st : PS) : PB en (handleP ts en e b st) := by
  unfold handleP
  exact (he _).bind fun _ _ => (want_pb hT he0 _ _).bind fun _ _ => (name_pb hT he0 _).bind fun _ _ => (name_pb hT he0 _).bind fun _ _ => (name_pb hT he0 _).bind fun _ _ => (want_pb hT he0 _ _).bind fun _ _ => (he _).bind fun _ _ => (want_pb hT he0 _ _).bind fun _ _ => (name_pb hT he0 _).bind fun _ _ => (want_pb hT he0 _ _).bind fun _ _ => (he _).bind fun _ _ => (want_pb hT he0 _ _).bind fun _ _ => put_pb hT he0 _ _
theorem atom_pb {e : PS → Except PE (Nat × PS)} (he : ∀ st, PB en (e st)) (st : PS) : PB en (atomP ts en e st) := by
  unfold atomP
  split
  · exact err_pb hT he0 (by omega) _
  · split
    · exact put_pb hT he0 _ _
    · split
      · exact put_pb hT he0 _ _
      · split
        · exact put_pb hT he0 _ _
        · split
          · exact put_pb hT he0 _ _
          · split
            · exact (he _).bind fun _ _ => (want_pb hT he0 _ _).bind fun _ _ => PB.ok _
            · split
              · exact handle_pb hT he0 he _ _
              · exact err_pb hT he0 (by omega) _
theorem first_pb {e : PS → Except PE (Nat × PS)} (he : ∀ st, PB en (e st)) (st : PS) : PB en (firstP ts en e st) := by
  unfold firstP
  split
  · exact (name_pb hT he0 _).bind fun _ _ => (atom_pb hT he0 he _).bind fun _ _ => put_pb hT he0 _ _
  · exact atom_pb hT he0 he _
theorem appLoop_pb {e : PS → Except PE (Nat × PS)} (he : ∀ st, PB en (e st)) (hm : Mono ts e) {b : Int} : ∀ (f l : Nat) (st : PS), f ≠ 0 → ts.length < f + st.i → PB en (appLoop ts en e b f l st)
  | 0, l, st, hf, _ => absurd rfl hf
  | f + 1, l, st, _, hlen => by
    unfold appLoop
    split
    · refine (atom_pb hT he0 he _).bind fun ⟨a, s2⟩ hx => (put_pb hT he0 _ _).bind fun ⟨l2, s3⟩ hy => ?_
      have f1 := atomP_fwd hm _ _ _ hx
      obtain ⟨rfl, _, _⟩ := putP_ok hy
      have e1 := f1.lt
      have e2 := f1.le
      exact appLoop_pb he hm f l2 _ (by intro e; subst e; omega) (by dsimp only at *; omega)
    · exact PB.ok _
theorem apply_pb {e : PS → Except PE (Nat × PS)} (he : ∀ st, PB en (e st)) (hm : Mono ts e) (st : PS) : PB en (applyP ts en e st) := by
  unfold applyP
  exact (first_pb hT he0 he _).bind fun _ _ => appLoop_pb hT he0 he hm _ _ _ (by omega) (by omega)
theorem prim_pb {o : PS → Except PE (Nat × PS)} (ho : ∀ st, PB en (o st)) (n p : Int) (l : Nat) (st : PS) : PB en (primP ts en n p l o st) := by
  unfold primP
  exact (ho _).bind fun _ _ => put_pb hT he0 _ _
theorem rankLoop_pb {o : PS → Except PE (Nat × PS)} (ho : ∀ st, PB en (o st)) (hm : Mono ts o) {u v : List UInt8} {nu nv : Int} : ∀ (f l : Nat) (st : PS), f ≠ 0 → ts.length < f + st.i → PB en (rankLoop ts en u v nu nv o f l st)
  | 0, l, st, hf, _ => absurd rfl hf
  | f + 1, l, st, _, hlen => by
    unfold rankLoop
    split
    · refine (prim_pb hT he0 ho _ _ _ _).bind fun ⟨l2, s2⟩ hx => ?_
      have f1 := primP_fwd hm hx
      have e1 := f1.lt
      have e2 := f1.le
      exact rankLoop_pb ho hm f l2 s2 (by intro e; subst e; dsimp only at *; omega) (by dsimp only at *; omega)
    · split
      · refine (prim_pb hT he0 ho _ _ _ _).bind fun ⟨l2, s2⟩ hx => ?_
        have f1 := primP_fwd hm hx
        have e1 := f1.lt
        have e2 := f1.le
        exact rankLoop_pb ho hm f l2 s2 (by intro e; subst e; dsimp only at *; omega) (by dsimp only at *; omega)
      · exact PB.ok _
theorem product_pb {e : PS → Except PE (Nat × PS)} (he : ∀ st, PB en (e st)) (hm : Mono ts e) (st : PS) : PB en (productP ts en e st) := by
  unfold productP
  exact (apply_pb hT he0 he hm _).bind fun _ _ => rankLoop_pb hT he0 (apply_pb hT he0 he hm) (applyP_fwd hm) _ _ _ (by omega) (by omega)
theorem sum_pb {e : PS → Except PE (Nat × PS)} (he : ∀ st, PB en (e st)) (hm : Mono ts e) (st : PS) : PB en (sumP ts en e st) := by
  unfold sumP
  exact (product_pb hT he0 he hm _).bind fun _ _ => rankLoop_pb hT he0 (product_pb hT he0 he hm) (productP_fwd hm) _ _ _ (by omega) (by omega)
theorem compare_pb {e : PS → Except PE (Nat × PS)} (he : ∀ st, PB en (e st)) (hm : Mono ts e) (st : PS) : PB en (compareP ts en e st) := by
  unfold compareP
  refine (sum_pb hT he0 he hm _).bind fun _ _ => ?_
  split
  split
  · exact prim_pb hT he0 (sum_pb hT he0 he hm) _ _ _ _
  · split
    · exact prim_pb hT he0 (sum_pb hT he0 he hm) _ _ _ _
    · exact PB.ok _
theorem open_pb {e : PS → Except PE (Nat × PS)} (he : ∀ st, PB en (e st)) (hm : Mono ts e) (st : PS) : PB en (openP ts en e st) := by
  unfold openP
  split
  · exact fun_pb hT he0 he _ _
  · split
    · split
      · exact rec_pb hT he0 he _ _
      · exact let_pb hT he0 he _ _
    · split
      · exact if_pb hT he0 he _ _
      · exact compare_pb hT he0 he hm _
theorem expr_pb : ∀ r st, PB en (exprP ts en r st)
  | 0, st => err_pb hT he0 (by omega) _
  | r + 1, st => open_pb hT he0 (expr_pb r) (exprP_fwd r) st
theorem base_pb (st : PS) : PB en (baseP ts en st) := by
  unfold baseP
  split
  · exact PB.ok _
  · split
    · exact PB.ok _
    · exact err_pb hT he0 (by omega) _
theorem decl_pb (os : List Or) (st : PS) : PB en (declP ts en os st) := by
  unfold declP
  split
  · exact err_pb hT he0 (by omega) _
  · exact (name_pb hT he0 _).bind fun _ _ => (want_pb hT he0 _ _).bind fun _ _ => (base_pb hT he0 _).bind fun _ _ => (want_pb hT he0 _ _).bind fun _ _ => (base_pb hT he0 _).bind fun _ _ => (want_pb hT he0 _ _).bind fun _ _ => PB.ok _
theorem declLoop_pb : ∀ (f : Nat) (os : List Or) (st : PS), f ≠ 0 → ts.length < f + st.i → PB en (declLoop ts en f os st)
  | 0, os, st, hf, _ => absurd rfl hf
  | f + 1, os, st, _, hlen => by
    unfold declLoop
    split
    · refine (decl_pb hT he0 _ _).bind fun ⟨o, s⟩ hx => ?_
      obtain ⟨a1, a2, _⟩ := declP_ok hx
      exact declLoop_pb f o s (by intro e; subst e; omega) (by omega)
    · exact PB.ok _
theorem prog_pb : PB en (progP ts en) := by
  unfold progP
  refine (declLoop_pb hT he0 _ _ _ (by omega) (by show ts.length < ts.length + 1 + 0; omega)).bind fun ⟨o, s⟩ _ => (expr_pb hT he0 _ _).bind fun ⟨r, s2⟩ _ => ?_
  dsimp only
  split
  · exact err_pb hT he0 (by omega) _
  · exact PB.ok _
end
/-- where and why a text is no program. -/
theorem parseV_bad {s : ByteArray} {e : PE} (h : parseV s = .error e) (hp : 0 ≤ (lexR s).2.1 ∧ (lexR s).2.1 ≤ s.size) : (400 ≤ e.1 ∧ e.1 ≤ 403) ∧ 0 ≤ e.2 ∧ e.2 ≤ s.size := by
  unfold parseV at h
  by_cases h0 : (lexR s).2.2 = 0
  · rw [if_pos h0] at h
    obtain ⟨h1, h2⟩ := prog_pb (lexR_fine s h0) (by omega) e h
    exact ⟨by omega, h2⟩
  · rw [if_neg h0] at h
    injection h with h; subst h
    exact ⟨by dsimp only; omega, hp⟩
end Go.Proofs.YtidlljookjicpaaGreatDoor

/- Parsing, plain: a text in brackets. -/
namespace Go.Proofs.YtidlljookjicpaaGreatDoor
set_option linter.unusedVariables false
set_option linter.unusedSimpArgs false

/-- tokens that lie among others, behind them nothing or a bracket that shuts. -/
structure Emb (ts ts' : List Tk) (k : Nat) (d : Int) : Prop where
  get : ∀ i t, ts[i]? = some t → ts'[i + k]? = some (shT d t)
  stop : ∀ t, ts'[ts.length + k]? = some t → t.kind = 3 ∧ t.text = sgShut
  le : ts.length ≤ ts'.length
structure SK (ts : List Tk) (k : Nat) (d : Int) (s s' : PS) : Prop where
  i : s'.i = s.i + k
  ns : s'.ns = s.ns.map (shN d)
  le : s.i ≤ ts.length
/-- where one finds something, so does the other, or is too deep. -/
def OkTo {α : Type} (V : α → α → Prop) (x x' : Except PE α) : Prop := ∀ a, x = .ok a → (∃ a', x' = .ok a' ∧ V a a') ∨ ∃ p, x' = .error (401, p)
theorem OkTo.ok {α : Type} {V : α → α → Prop} {a a' : α} (h : V a a') : OkTo V (.ok a) (.ok a') := fun b hb => .inl ⟨a', rfl, by injection hb with hb; subst hb; exact h⟩
theorem OkTo.err {α : Type} {V : α → α → Prop} {e : PE} {x' : Except PE α} : OkTo V (.error e) x' := fun b hb => by cases hb
theorem OkTo.bind {α β : Type} {V : α → α → Prop} {U : β → β → Prop} {x x' : Except PE α} {f f' : α → Except PE β} (h : OkTo V x x') (hf : ∀ a a', x = .ok a → V a a' → OkTo U (f a) (f' a')) : OkTo U (x >>= f) (x' >>= f') := by
  intro b hb
  obtain ⟨a, rfl, hb⟩ := ex_ok.1 hb
  rcases h a rfl with ⟨a', rfl, hv⟩ | ⟨p, rfl⟩
  · exact hf a a' rfl hv b hb
  · exact .inr ⟨p, rfl⟩
def VK {α : Type} (ts : List Tk) (k : Nat) (d : Int) (a a' : α × PS) : Prop := a'.1 = a.1 ∧ SK ts k d a.2 a'.2
theorem put_em {ts ts' : List Tk} {k : Nat} {d en en' : Int} {x x' : Nd} (hx : x' = shN d x) {st st' : PS} (h : SK ts k d st st') : OkTo (VK ts k d) (putP ts en x st) (putP ts' en' x' st') := by
  rintro ⟨r, s1⟩ h1
  obtain ⟨rfl, rfl, h3⟩ := putP_ok h1
  subst hx
  refine .inl ⟨(st.ns.length, ⟨st'.i, st'.ns ++ [shN d x]⟩), ?_, rfl, ⟨h.i, by rw [h.ns, List.map_append]; rfl, h.le⟩⟩
  unfold putP
  rw [h.ns, List.length_map, if_neg (by omega)]
section
variable {ts ts' : List Tk} {k : Nat} {d en en' : Int} (hE : Emb ts ts' k d)
include hE
theorem get_em {i : Nat} (h : i < ts.length) : ∃ t, ts[i]? = some t ∧ ts'[i + k]? = some (shT d t) := ⟨ts[i], List.getElem?_eq_getElem h, hE.get i _ (List.getElem?_eq_getElem h)⟩
theorem here_em {i : Nat} (h : i < ts.length) : hereP ts' en' (i + k) = hereP ts en i + d := by
  obtain ⟨t, h1, h2⟩ := get_em hE h
  unfold hereP; rw [h1, h2]; rfl
theorem isP_em {i : Nat} (h : i ≤ ts.length) {u : List UInt8} (hu : u ≠ sgShut) : isP ts' (i + k) u = isP ts i u := by
  by_cases hl : i < ts.length
  · obtain ⟨t, h1, h2⟩ := get_em hE hl
    unfold isP; rw [h1, h2]; rfl
  · obtain rfl : i = ts.length := by omega
    have e0 : isP ts ts.length u = false := by unfold isP; rw [List.getElem?_eq_none (Nat.le_refl _)]
    rw [e0]
    unfold isP
    cases hg : ts'[ts.length + k]? with
    | none => rfl
    | some t =>
      obtain ⟨_, h2⟩ := hE.stop t hg
      have : (t.text == u) = false := by rw [h2]; exact beq_eq_false_iff_ne.2 (Ne.symm hu)
      simp only [this, Bool.and_false]
theorem starts_em {i : Nat} (h : i ≤ ts.length) : startsP ts' (i + k) = startsP ts i := by
  have h1 := isP_em hE h (u := kwTrue) (by decide)
  have h2 := isP_em hE h (u := kwFalse) (by decide)
  have h3 := isP_em hE h (u := sgOpen) (by decide)
  have h4 := isP_em hE h (u := kwHandle) (by decide)
  unfold startsP
  rw [h1, h2, h3, h4]
  by_cases hl : i < ts.length
  · obtain ⟨t, h1, h2⟩ := get_em hE hl
    rw [h1, h2]; rfl
  · obtain rfl : i = ts.length := by omega
    have e : ∀ u, isP ts ts.length u = false := fun u => by unfold isP; rw [List.getElem?_eq_none (Nat.le_refl _)]
    rw [List.getElem?_eq_none (Nat.le_refl _)]
    cases hg : ts'[ts.length + k]? with
    | none => rfl
    | some t =>
      obtain ⟨h5, _⟩ := hE.stop t hg
      simp only [e, h5]; decide
theorem want_em (u : List UInt8) {st st' : PS} (h : SK ts k d st st') : OkTo (SK ts k d) (wantP ts en u st) (wantP ts' en' u st') := by
  intro s1 h1
  obtain ⟨h2, rfl, h3⟩ := wantP_ok h1
  refine .inl ⟨⟨st'.i + 1, st'.ns⟩, ?_, ⟨by rw [h.i]; dsimp only; omega, h.ns, h3⟩⟩
  have h4 : isP ts' st'.i u = true := by
    obtain ⟨t, g1, g2⟩ := get_em hE h3
    rw [h.i]
    unfold isP at h2 ⊢
    rw [g1] at h2; rw [g2]; exact h2
  unfold wantP; rw [if_pos h4]
theorem name_em {st st' : PS} (h : SK ts k d st st') : OkTo (VK ts k d) (nameP ts en st) (nameP ts' en' st') := by
  rintro ⟨x, s1⟩ h1
  obtain ⟨rfl, h3, t, h4, h5, rfl⟩ := nameP_ok h1
  refine .inl ⟨(bs t.text, ⟨st'.i + 1, st'.ns⟩), ?_, rfl, ⟨by rw [h.i]; dsimp only; omega, h.ns, h3⟩⟩
  unfold nameP
  rw [h.i, hE.get _ _ h4]
  show (if t.kind = 0 then _ else _) = _
  rw [if_pos h5]; rfl
def ME (ts : List Tk) (k : Nat) (d : Int) (e e' : PS → Except PE (Nat × PS)) : Prop := ∀ st st', SK ts k d st st' → OkTo (VK ts k d) (e st) (e' st')
theorem fun_em {e e' : PS → Except PE (Nat × PS)} (he : ME ts k d e e') {b : Int} {st st' : PS} (h : SK ts k d st st') : OkTo (VK ts k d) (funP ts en e b st) (funP ts' en' e' (b + d) st') := by
  unfold funP
  refine (name_em hE h).bind fun ⟨x, s⟩ ⟨x', s'⟩ _ ⟨h1, h2⟩ => ?_
  obtain rfl : x' = x := h1
  refine (want_em hE _ h2).bind fun s1 s1' _ h3 => ?_
  refine (he _ _ h3).bind fun ⟨a, s2⟩ ⟨a', s2'⟩ _ ⟨h4, h5⟩ => ?_
  obtain rfl : a' = a := h4
  exact put_em rfl h5
theorem let_em {e e' : PS → Except PE (Nat × PS)} (he : ME ts k d e e') {b : Int} {st st' : PS} (h : SK ts k d st st') : OkTo (VK ts k d) (letP ts en e b st) (letP ts' en' e' (b + d) st') := by
  unfold letP
  refine (name_em hE h).bind fun ⟨x, s⟩ ⟨x', s'⟩ _ ⟨h1, h2⟩ => ?_
  obtain rfl : x' = x := h1
  refine (want_em hE _ h2).bind fun s1 s1' _ h3 => ?_
  refine (he _ _ h3).bind fun ⟨a, s2⟩ ⟨a', s2'⟩ _ ⟨h4, h5⟩ => ?_
  obtain rfl : a' = a := h4
  refine (want_em hE _ h5).bind fun s3 s3' _ h6 => ?_
  refine (he _ _ h6).bind fun ⟨a2, s4⟩ ⟨a2', s4'⟩ _ ⟨h7, h8⟩ => ?_
  obtain rfl : a2' = a2 := h7
  exact put_em rfl h8
theorem rec_em {e e' : PS → Except PE (Nat × PS)} (he : ME ts k d e e') {b : Int} {st st' : PS} (h : SK ts k d st st') : OkTo (VK ts k d) (recP ts en e b st) (recP ts' en' e' (b + d) st') := by
  unfold recP
  refine (name_em hE h).bind fun ⟨x, s⟩ ⟨x', s'⟩ _ ⟨h1, h2⟩ => ?_
  obtain rfl : x' = x := h1
  refine (name_em hE h2).bind fun ⟨y, s0⟩ ⟨y', s0'⟩ _ ⟨h1, h2⟩ => ?_
  obtain rfl : y' = y := h1
  refine (want_em hE _ h2).bind fun s1 s1' _ h3 => ?_
  refine (he _ _ h3).bind fun ⟨a, s2⟩ ⟨a', s2'⟩ _ ⟨h4, h5⟩ => ?_
  obtain rfl : a' = a := h4
  refine (want_em hE _ h5).bind fun s3 s3' _ h6 => ?_
  refine (he _ _ h6).bind fun ⟨a2, s4⟩ ⟨a2', s4'⟩ _ ⟨h7, h8⟩ => ?_
  obtain rfl : a2' = a2 := h7
  exact put_em rfl h8
theorem if_em {e e' : PS → Except PE (Nat × PS)} (he : ME ts k d e e') {b : Int} {st st' : PS} (h : SK ts k d st st') : OkTo (VK ts k d) (ifP ts en e b st) (ifP ts' en' e' (b + d) st') := by
  unfold ifP
  refine (he _ _ h).bind fun ⟨a, s2⟩ ⟨a', s2'⟩ _ ⟨h4, h5⟩ => ?_
  obtain rfl : a' = a := h4
  refine (want_em hE _ h5).bind fun s3 s3' _ h6 => ?_
  refine (he _ _ h6).bind fun ⟨a2, s4⟩ ⟨a2', s4'⟩ _ ⟨h7, h8⟩ => ?_
  obtain rfl : a2' = a2 := h7
  refine (want_em hE _ h8).bind fun s5 s5' _ h9 => ?_
  refine (he _ _ h9).bind fun ⟨a3, s6⟩ ⟨a3', s6'⟩ _ ⟨h10, h11⟩ => ?_
  obtain rfl : a3' = a3 := h10
  exact put_em rfl h11
theorem handle_em {e e' : PS → Except PE (Nat × PS)} (he : ME ts k d e e') {b : Int} {st st' : PS} (h : SK ts k d st st') : OkTo (VK ts k d) (handleP ts en e b st) (handleP ts' en' e' (b + d) st') := by
  unfold handleP
  refine (he _ _ h).bind fun ⟨a, s2⟩ ⟨a', s2'⟩ _ ⟨h4, h5⟩ => ?_
  obtain rfl : a' = a := h4
  refine (want_em hE _ h5).bind fun s3 s3' _ h6 => ?_
  refine (name_em hE h6).bind fun ⟨o, s⟩ ⟨o', s'⟩ _ ⟨h1, h2⟩ => ?_
  obtain rfl : o' = o := h1
  refine (name_em hE h2).bind fun ⟨x, s0⟩ ⟨x', s0'⟩ _ ⟨h1, h2⟩ => ?_
  obtain rfl : x' = x := h1
  refine (name_em hE h2).bind fun ⟨y, s1⟩ ⟨y', s1'⟩ _ ⟨h1, h2⟩ => ?_
  obtain rfl : y' = y := h1
  refine (want_em hE _ h2).bind fun s4 s4' _ h7 => ?_
  refine (he _ _ h7).bind fun ⟨a2, s5⟩ ⟨a2', s5'⟩ _ ⟨h8, h9⟩ => ?_
  obtain rfl : a2' = a2 := h8
  refine (want_em hE _ h9).bind fun s6 s6' _ h10 => ?_
  refine (name_em hE h10).bind fun ⟨z, s7⟩ ⟨z', s7'⟩ _ ⟨h1, h2⟩ => ?_
  obtain rfl : z' = z := h1
  refine (want_em hE _ h2).bind fun s8 s8' _ h11 => ?_
  refine (he _ _ h11).bind fun ⟨a3, s9⟩ ⟨a3', s9'⟩ _ ⟨h12, h13⟩ => ?_
  obtain rfl : a3' = a3 := h12
  refine (want_em hE _ h13).bind fun s10 s10' _ h14 => ?_
  exact put_em rfl h14
theorem atom_em {e e' : PS → Except PE (Nat × PS)} (he : ME ts k d e e') : ME ts k d (atomP ts en e) (atomP ts' en' e') := by
  intro st st' h
  have j1 := isP_em hE h.le (u := kwTrue) (by decide)
  have j2 := isP_em hE h.le (u := kwFalse) (by decide)
  have j3 := isP_em hE h.le (u := sgOpen) (by decide)
  have j4 := isP_em hE h.le (u := kwHandle) (by decide)
  have hi := h.i
  unfold atomP
  rw [hi, j1, j2, j3, j4]
  cases hg : ts[st.i]? with
  | none => exact OkTo.err
  | some t =>
    have hl := (List.getElem?_eq_some_iff.1 hg).1
    rw [hE.get _ _ hg]
    have o1 : SK ts k d ⟨st.i + 1, st.ns⟩ ⟨st.i + k + 1, st'.ns⟩ := ⟨by dsimp only; omega, h.ns, hl⟩
    show OkTo (VK ts k d) (if t.kind = 0 then _ else _) (if t.kind = 0 then _ else _)
    split
    · exact put_em rfl o1
    · show OkTo (VK ts k d) (if t.kind = 1 then _ else _) (if t.kind = 1 then _ else _)
      split
      · exact put_em rfl o1
      · split
        · exact put_em rfl o1
        · split
          · exact put_em rfl o1
          · split
            · refine (he _ _ o1).bind fun ⟨a, s2⟩ ⟨a', s2'⟩ _ ⟨h4, h5⟩ => ?_
              obtain rfl : a' = a := h4
              refine (want_em hE _ h5).bind fun s3 s3' _ h6 => ?_
              exact OkTo.ok ⟨rfl, h6⟩
            · split
              · exact handle_em hE he o1
              · exact OkTo.err
theorem first_em {e e' : PS → Except PE (Nat × PS)} (he : ME ts k d e e') : ME ts k d (firstP ts en e) (firstP ts' en' e') := by
  intro st st' h
  unfold firstP
  rw [h.i, isP_em hE h.le (by decide)]
  by_cases h0 : isP ts st.i kwDo = true
  · rw [if_pos h0, if_pos h0]
    refine (name_em hE (st := ⟨st.i + 1, st.ns⟩) (st' := ⟨st.i + k + 1, st'.ns⟩) ⟨by dsimp only; omega, h.ns, isP_lt h0⟩).bind fun ⟨x, s⟩ ⟨x', s'⟩ _ ⟨h1, h2⟩ => ?_
    obtain rfl : x' = x := h1
    refine (atom_em hE he _ _ h2).bind fun ⟨a, s2⟩ ⟨a', s2'⟩ _ ⟨h4, h5⟩ => ?_
    obtain rfl : a' = a := h4
    exact put_em (by rw [here_em hE (en := en) (isP_lt h0)]; rfl) h5
  · rw [if_neg h0, if_neg h0]; exact atom_em hE he _ _ h
theorem appLoop_em {e e' : PS → Except PE (Nat × PS)} (he : ME ts k d e e') {b : Int} : ∀ (f f' l : Nat) (st st' : PS), f ≤ f' → SK ts k d st st' → OkTo (VK ts k d) (appLoop ts en e b f l st) (appLoop ts' en' e' (b + d) f' l st')
  | 0, f', l, st, st', _, h => OkTo.err
  | f + 1, 0, l, st, st', hf, h => by omega
  | f + 1, f' + 1, l, st, st', hf, h => by
    unfold appLoop
    rw [h.i, starts_em hE h.le]
    by_cases hs : startsP ts st.i = true
    · rw [if_pos hs, if_pos hs]
      refine (atom_em hE he _ _ h).bind fun ⟨a, s2⟩ ⟨a', s2'⟩ hx ⟨h4, h5⟩ => ?_
      obtain rfl : a' = a := h4
      refine (put_em rfl h5).bind fun ⟨l2, s3⟩ ⟨l2', s3'⟩ hy ⟨h6, h7⟩ => ?_
      obtain rfl : l2' = l2 := h6
      exact appLoop_em he f f' l2' _ _ (by omega) h7
    · rw [if_neg hs, if_neg hs]; exact OkTo.ok ⟨rfl, h⟩
theorem apply_em {e e' : PS → Except PE (Nat × PS)} (he : ME ts k d e e') (hm : Mono ts e) : ME ts k d (applyP ts en e) (applyP ts' en' e') := by
  intro st st' h
  unfold applyP
  refine (first_em hE he _ _ h).bind fun ⟨a, s2⟩ ⟨a', s2'⟩ hx ⟨h4, h5⟩ => ?_
  obtain rfl : a' = a := h4
  have f1 := firstP_fwd hm _ _ _ hx
  have e1 := f1.lt
  have e2 := f1.le
  dsimp only
  rw [h.i, here_em hE (en := en) (by omega)]
  exact appLoop_em hE he _ _ _ _ _ (by have := hE.le; omega) h5
omit hE in
theorem prim_em {o o' : PS → Except PE (Nat × PS)} (ho : ME ts k d o o') {n p : Int} {l : Nat} {st st' : PS} (h : SK ts k d st st') : OkTo (VK ts k d) (primP ts en n p l o st) (primP ts' en' n (p + d) l o' st') := by
  unfold primP
  refine (ho _ _ h).bind fun ⟨a, s2⟩ ⟨a', s2'⟩ hx ⟨h4, h5⟩ => ?_
  obtain rfl : a' = a := h4
  exact put_em rfl h5
theorem rankLoop_em {o o' : PS → Except PE (Nat × PS)} (ho : ME ts k d o o') {u v : List UInt8} (hu0 : u ≠ sgShut) (hv0 : v ≠ sgShut) {nu nv : Int} : ∀ (f f' l : Nat) (st st' : PS), f ≤ f' → SK ts k d st st' → OkTo (VK ts k d) (rankLoop ts en u v nu nv o f l st) (rankLoop ts' en' u v nu nv o' f' l st')
  | 0, f', l, st, st', _, h => OkTo.err
  | f + 1, 0, l, st, st', hf, h => by omega
  | f + 1, f' + 1, l, st, st', hf, h => by
    have o1 : st.i < ts.length → SK ts k d ⟨st.i + 1, st.ns⟩ ⟨st.i + k + 1, st'.ns⟩ := fun hl => ⟨by dsimp only; omega, h.ns, hl⟩
    unfold rankLoop
    rw [h.i, isP_em hE h.le hu0, isP_em hE h.le hv0]
    by_cases hu : isP ts st.i u = true
    · rw [if_pos hu, if_pos hu, here_em hE (en := en) (isP_lt hu)]
      refine (prim_em ho (o1 (isP_lt hu))).bind fun ⟨a, s2⟩ ⟨a', s2'⟩ hx ⟨h4, h5⟩ => ?_
      obtain rfl : a' = a := h4
      exact rankLoop_em ho hu0 hv0 f f' a' s2 s2' (by omega) h5
    · rw [if_neg hu, if_neg hu]
      by_cases hv : isP ts st.i v = true
      · rw [if_pos hv, if_pos hv, here_em hE (en := en) (isP_lt hv)]
        refine (prim_em ho (o1 (isP_lt hv))).bind fun ⟨a, s2⟩ ⟨a', s2'⟩ hx ⟨h4, h5⟩ => ?_
        obtain rfl : a' = a := h4
        exact rankLoop_em ho hu0 hv0 f f' a' s2 s2' (by omega) h5
      · rw [if_neg hv, if_neg hv]; exact OkTo.ok ⟨rfl, h⟩
theorem product_em {e e' : PS → Except PE (Nat × PS)} (he : ME ts k d e e') (hm : Mono ts e) : ME ts k d (productP ts en e) (productP ts' en' e') := by
  intro st st' h
  unfold productP
  refine (apply_em hE he hm _ _ h).bind fun ⟨a, s2⟩ ⟨a', s2'⟩ hx ⟨h4, h5⟩ => ?_
  obtain rfl : a' = a := h4
  exact rankLoop_em hE (apply_em hE he hm) (by decide) (by decide) _ _ _ _ _ (by have := hE.le; omega) h5
theorem sum_em {e e' : PS → Except PE (Nat × PS)} (he : ME ts k d e e') (hm : Mono ts e) : ME ts k d (sumP ts en e) (sumP ts' en' e') := by
  intro st st' h
  unfold sumP
  refine (product_em hE he hm _ _ h).bind fun ⟨a, s2⟩ ⟨a', s2'⟩ hx ⟨h4, h5⟩ => ?_
  obtain rfl : a' = a := h4
  exact rankLoop_em hE (product_em hE he hm) (by decide) (by decide) _ _ _ _ _ (by have := hE.le; omega) h5
theorem compare_em {e e' : PS → Except PE (Nat × PS)} (he : ME ts k d e e') (hm : Mono ts e) : ME ts k d (compareP ts en e) (compareP ts' en' e') := by
  intro st st' h
  unfold compareP
  refine (sum_em hE he hm _ _ h).bind fun ⟨a, s2⟩ ⟨a', s2'⟩ hx ⟨h4, h5⟩ => ?_
  obtain rfl : a' = a := h4
  have hi : s2'.i = s2.i + k := h5.i
  have hl : s2.i ≤ ts.length := h5.le
  have o1 : s2.i < ts.length → SK ts k d ⟨s2.i + 1, s2.ns⟩ ⟨s2.i + k + 1, s2'.ns⟩ := fun hl => ⟨by dsimp only; omega, h5.ns, hl⟩
  dsimp only
  rw [hi, isP_em hE hl (by decide), isP_em hE hl (by decide)]
  by_cases hu : isP ts s2.i sgEq2 = true
  · rw [if_pos hu, if_pos hu, here_em hE (en := en) (isP_lt hu)]
    exact prim_em (sum_em hE he hm) (o1 (isP_lt hu))
  · rw [if_neg hu, if_neg hu]
    by_cases hv : isP ts s2.i sgLess = true
    · rw [if_pos hv, if_pos hv, here_em hE (en := en) (isP_lt hv)]
      exact prim_em (sum_em hE he hm) (o1 (isP_lt hv))
    · rw [if_neg hv, if_neg hv]; exact OkTo.ok ⟨rfl, h5⟩
theorem open_em {e e' : PS → Except PE (Nat × PS)} (he : ME ts k d e e') (hm : Mono ts e) : ME ts k d (openP ts en e) (openP ts' en' e') := by
  intro st st' h
  unfold openP
  rw [h.i, isP_em hE h.le (by decide), isP_em hE h.le (by decide), isP_em hE h.le (by decide)]
  by_cases h0 : isP ts st.i kwFun = true
  · rw [if_pos h0, if_pos h0, here_em hE (en := en) (isP_lt h0)]
    exact fun_em hE he (st := ⟨st.i + 1, st.ns⟩) (st' := ⟨st.i + k + 1, st'.ns⟩) ⟨by dsimp only; omega, h.ns, isP_lt h0⟩
  rw [if_neg h0, if_neg h0]
  by_cases h1 : isP ts st.i kwLet = true
  · rw [if_pos h1, if_pos h1, here_em hE (en := en) (isP_lt h1), show st.i + k + 1 = st.i + 1 + k by omega, isP_em hE (isP_lt h1) (by decide)]
    by_cases h2 : isP ts (st.i + 1) kwRec = true
    · rw [if_pos h2, if_pos h2]
      exact rec_em hE he (st := ⟨st.i + 2, st.ns⟩) (st' := ⟨st.i + k + 2, st'.ns⟩) ⟨by dsimp only; omega, h.ns, isP_lt h2⟩
    · rw [if_neg h2, if_neg h2]
      exact let_em hE he (st := ⟨st.i + 1, st.ns⟩) (st' := ⟨st.i + 1 + k, st'.ns⟩) ⟨rfl, h.ns, isP_lt h1⟩
  rw [if_neg h1, if_neg h1]
  by_cases h3 : isP ts st.i kwIf = true
  · rw [if_pos h3, if_pos h3, here_em hE (en := en) (isP_lt h3)]
    exact if_em hE he (st := ⟨st.i + 1, st.ns⟩) (st' := ⟨st.i + k + 1, st'.ns⟩) ⟨by dsimp only; omega, h.ns, isP_lt h3⟩
  · rw [if_neg h3, if_neg h3]; exact compare_em hE he hm _ _ h
/-- one deeper. -/
theorem expr_em : ∀ r, ME ts k d (exprP ts en (r + 1)) (exprP ts' en' r)
  | 0 => fun st st' h a _ => .inr ⟨_, rfl⟩
  | r + 1 => fun st st' h => open_em hE (expr_em r) (exprP_fwd (r + 1)) st st' h
end
end Go.Proofs.YtidlljookjicpaaGreatDoor
