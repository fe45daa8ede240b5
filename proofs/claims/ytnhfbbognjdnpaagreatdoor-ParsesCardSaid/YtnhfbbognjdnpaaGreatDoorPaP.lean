/- Parsing: plain. What both parsers are shown to reckon; an error tells its number and its place. -/
import Derived.Test.YtnhfbbognjdnpaaGreatDoorNaC
import Derived.Test.YtnhfbbognjdnpaaGreatDoorNaH
/- Parsing: plain. What both parsers are shown to reckon; an error tells its number and its place. -/
namespace Go.Proofs.YtnhfbbognjdnpaaGreatDoor
set_option linter.unusedVariables false
set_option linter.unusedSimpArgs false

abbrev PE := Int × Int
/-- the next token's index, the nodes that are there. -/
structure PS where
  i : Nat
  ns : List Nd
section
variable (ts : List Tk) (en : Int)
/-- where the next token is. -/
def hereP (i : Nat) : Int := match ts[i]? with | some t => t.at_ | none => en
/-- is it this word or sign? -/
def isP (i : Nat) (u : List UInt8) : Bool := match ts[i]? with | some t => (t.kind == 2 || t.kind == 3) && t.text == u | none => false
def wantP (u : List UInt8) (st : PS) : Except PE PS := if isP ts st.i u then .ok ⟨st.i + 1, st.ns⟩ else .error (403, hereP ts en st.i)
def nameP (st : PS) : Except PE (ByteArray × PS) := match ts[st.i]? with
  | some t => if t.kind = 0 then .ok (bs t.text, ⟨st.i + 1, st.ns⟩) else .error (403, hereP ts en st.i)
  | none => .error (403, hereP ts en st.i)
def putP (x : Nd) (st : PS) : Except PE (Nat × PS) := if 512 ≤ st.ns.length then .error (402, hereP ts en st.i) else .ok (st.ns.length, ⟨st.i, st.ns ++ [x]⟩)
def ba0 : ByteArray := ⟨#[]⟩
def kwFun : List UInt8 := [102, 117, 110]
def kwLet : List UInt8 := [108, 101, 116]
def kwRec : List UInt8 := [114, 101, 99]
def kwIn : List UInt8 := [105, 110]
def kwIf : List UInt8 := [105, 102]
def kwThen : List UInt8 := [116, 104, 101, 110]
def kwElse : List UInt8 := [101, 108, 115, 101]
def kwHandle : List UInt8 := [104, 97, 110, 100, 108, 101]
def kwWith : List UInt8 := [119, 105, 116, 104]
def kwReturn : List UInt8 := [114, 101, 116, 117, 114, 110]
def kwEnd : List UInt8 := [101, 110, 100]
def kwDo : List UInt8 := [100, 111]
def kwOp : List UInt8 := [111, 112]
def kwTrue : List UInt8 := [116, 114, 117, 101]
def kwFalse : List UInt8 := [102, 97, 108, 115, 101]
def kwInt : List UInt8 := [105, 110, 116]
def kwBool : List UInt8 := [98, 111, 111, 108]
def sgArrow : List UInt8 := [45, 62]
def sgEq : List UInt8 := [61]
def sgEq2 : List UInt8 := [61, 61]
def sgLess : List UInt8 := [60]
def sgAdd : List UInt8 := [43]
def sgSub : List UInt8 := [45]
def sgMul : List UInt8 := [42]
def sgDiv : List UInt8 := [47]
def sgOpen : List UInt8 := [40]
def sgShut : List UInt8 := [41]
def sgColon : List UInt8 := [58]
def sgSemi : List UInt8 := [59]
/-- behind 'fun'. -/
def funP (e : PS → Except PE (Nat × PS)) (beg : Int) (st : PS) : Except PE (Nat × PS) := do
  let (x, st) ← nameP ts en st
  let st ← wantP ts en sgArrow st
  let (a, st) ← e st
  putP ts en ⟨3, (a : Nat), 0, 0, 0, ba0, x, ba0, ba0, beg⟩ st
/-- behind 'let'. -/
def letP (e : PS → Except PE (Nat × PS)) (beg : Int) (st : PS) : Except PE (Nat × PS) := do
  let (x, st) ← nameP ts en st
  let st ← wantP ts en sgEq st
  let (a, st) ← e st
  let st ← wantP ts en kwIn st
  let (b, st) ← e st
  putP ts en ⟨5, (a : Nat), (b : Nat), 0, 0, ba0, x, ba0, ba0, beg⟩ st
/-- behind 'let rec'. -/
def recP (e : PS → Except PE (Nat × PS)) (beg : Int) (st : PS) : Except PE (Nat × PS) := do
  let (x, st) ← nameP ts en st
  let (y, st) ← nameP ts en st
  let st ← wantP ts en sgEq st
  let (a, st) ← e st
  let st ← wantP ts en kwIn st
  let (b, st) ← e st
  putP ts en ⟨6, (a : Nat), (b : Nat), 0, 0, ba0, x, y, ba0, beg⟩ st
/-- behind 'if'. -/
def ifP (e : PS → Except PE (Nat × PS)) (beg : Int) (st : PS) : Except PE (Nat × PS) := do
  let (a, st) ← e st
  let st ← wantP ts en kwThen st
  let (b, st) ← e st
  let st ← wantP ts en kwElse st
  let (c, st) ← e st
  putP ts en ⟨7, (a : Nat), (b : Nat), (c : Nat), 0, ba0, ba0, ba0, ba0, beg⟩ st
/-- behind 'handle'. -/
def handleP (e : PS → Except PE (Nat × PS)) (beg : Int) (st : PS) : Except PE (Nat × PS) := do
  let (a, st) ← e st
  let st ← wantP ts en kwWith st
  let (o, st) ← nameP ts en st
  let (x, st) ← nameP ts en st
  let (y, st) ← nameP ts en st
  let st ← wantP ts en sgArrow st
  let (b, st) ← e st
  let st ← wantP ts en kwReturn st
  let (z, st) ← nameP ts en st
  let st ← wantP ts en sgArrow st
  let (c, st) ← e st
  let st ← wantP ts en kwEnd st
  putP ts en ⟨10, (a : Nat), (b : Nat), (c : Nat), 0, o, x, y, z, beg⟩ st
/-- may an atom begin here? -/
def startsP (i : Nat) : Bool := match ts[i]? with
  | some t => t.kind == 0 || t.kind == 1 || isP ts i kwTrue || isP ts i kwFalse || isP ts i sgOpen || isP ts i kwHandle
  | none => false
def atomP (e : PS → Except PE (Nat × PS)) (st : PS) : Except PE (Nat × PS) := match ts[st.i]? with
  | none => .error (403, hereP ts en st.i)
  | some t =>
    if t.kind = 0 then putP ts en ⟨0, 0, 0, 0, 0, bs t.text, ba0, ba0, ba0, t.at_⟩ ⟨st.i + 1, st.ns⟩
    else if t.kind = 1 then putP ts en ⟨1, 0, 0, 0, t.num, ba0, ba0, ba0, ba0, t.at_⟩ ⟨st.i + 1, st.ns⟩
    else if isP ts st.i kwTrue then putP ts en ⟨2, 0, 0, 0, 1, ba0, ba0, ba0, ba0, t.at_⟩ ⟨st.i + 1, st.ns⟩
    else if isP ts st.i kwFalse then putP ts en ⟨2, 0, 0, 0, 0, ba0, ba0, ba0, ba0, t.at_⟩ ⟨st.i + 1, st.ns⟩
    else if isP ts st.i sgOpen then do
      let (a, st) ← e ⟨st.i + 1, st.ns⟩
      let st ← wantP ts en sgShut st
      .ok (a, st)
    else if isP ts st.i kwHandle then handleP ts en e t.at_ ⟨st.i + 1, st.ns⟩
    else .error (403, hereP ts en st.i)
/-- what an application begins with. -/
def firstP (e : PS → Except PE (Nat × PS)) (st : PS) : Except PE (Nat × PS) :=
  if isP ts st.i kwDo then do
    let (o, st') ← nameP ts en ⟨st.i + 1, st.ns⟩
    let (a, st') ← atomP ts en e st'
    putP ts en ⟨9, (a : Nat), 0, 0, 0, o, ba0, ba0, ba0, hereP ts en st.i⟩ st'
  else atomP ts en e st
def appLoop (e : PS → Except PE (Nat × PS)) (beg : Int) : Nat → Nat → PS → Except PE (Nat × PS)
  | 0, _, _ => .error (0, 0)
  | f + 1, l, st => if startsP ts st.i then do
      let (b, st) ← atomP ts en e st
      let (l, st) ← putP ts en ⟨4, (l : Nat), (b : Nat), 0, 0, ba0, ba0, ba0, ba0, beg⟩ st
      appLoop e beg f l st
    else .ok (l, st)
def applyP (e : PS → Except PE (Nat × PS)) (st : PS) : Except PE (Nat × PS) := do
  let (l, st') ← firstP ts en e st
  appLoop ts en e (hereP ts en st.i) (ts.length + 1) l st'
/-- a prim's right operand, and the prim; the sign is taken. -/
def primP (num : Int) (at_ : Int) (l : Nat) (o : PS → Except PE (Nat × PS)) (st : PS) : Except PE (Nat × PS) := do
  let (b, st) ← o st
  putP ts en ⟨8, (l : Nat), (b : Nat), 0, num, ba0, ba0, ba0, ba0, at_⟩ st
/-- operands with signs of one rank between them. -/
def rankLoop (u v : List UInt8) (nu nv : Int) (o : PS → Except PE (Nat × PS)) : Nat → Nat → PS → Except PE (Nat × PS)
  | 0, _, _ => .error (0, 0)
  | f + 1, l, st => if isP ts st.i u then do
      let (l, st) ← primP ts en nu (hereP ts en st.i) l o ⟨st.i + 1, st.ns⟩
      rankLoop u v nu nv o f l st
    else if isP ts st.i v then do
      let (l, st) ← primP ts en nv (hereP ts en st.i) l o ⟨st.i + 1, st.ns⟩
      rankLoop u v nu nv o f l st
    else .ok (l, st)
def productP (e : PS → Except PE (Nat × PS)) (st : PS) : Except PE (Nat × PS) := do
  let (l, st) ← applyP ts en e st
  rankLoop ts en sgMul sgDiv 2 3 (applyP ts en e) (ts.length + 1) l st
def sumP (e : PS → Except PE (Nat × PS)) (st : PS) : Except PE (Nat × PS) := do
  let (l, st) ← productP ts en e st
  rankLoop ts en sgAdd sgSub 0 1 (productP ts en e) (ts.length + 1) l st
def compareP (e : PS → Except PE (Nat × PS)) (st : PS) : Except PE (Nat × PS) := do
  let (l, st) ← sumP ts en e st
  if isP ts st.i sgEq2 then primP ts en 4 (hereP ts en st.i) l (sumP ts en e) ⟨st.i + 1, st.ns⟩
  else if isP ts st.i sgLess then primP ts en 5 (hereP ts en st.i) l (sumP ts en e) ⟨st.i + 1, st.ns⟩
  else .ok (l, st)
def openP (e : PS → Except PE (Nat × PS)) (st : PS) : Except PE (Nat × PS) :=
  if isP ts st.i kwFun then funP ts en e (hereP ts en st.i) ⟨st.i + 1, st.ns⟩
  else if isP ts st.i kwLet then
    (if isP ts (st.i + 1) kwRec then recP ts en e (hereP ts en st.i) ⟨st.i + 2, st.ns⟩ else letP ts en e (hereP ts en st.i) ⟨st.i + 1, st.ns⟩)
  else if isP ts st.i kwIf then ifP ts en e (hereP ts en st.i) ⟨st.i + 1, st.ns⟩
  else compareP ts en e st
/-- an expression, where so many more may lie within one another. -/
def exprP : Nat → PS → Except PE (Nat × PS)
  | 0, st => .error (401, hereP ts en st.i)
  | r + 1, st => openP ts en (exprP r) st
def baseP (st : PS) : Except PE (Int × PS) :=
  if isP ts st.i kwInt then .ok (0, ⟨st.i + 1, st.ns⟩) else if isP ts st.i kwBool then .ok (1, ⟨st.i + 1, st.ns⟩) else .error (403, hereP ts en st.i)
/-- one operation, declared. -/
def declP (os : List Or) (st : PS) : Except PE (List Or × PS) :=
  if 4 ≤ os.length then .error (402, hereP ts en st.i) else do
    let (o, st) ← nameP ts en ⟨st.i + 1, st.ns⟩
    let st ← wantP ts en sgColon st
    let (a, st) ← baseP ts en st
    let st ← wantP ts en sgArrow st
    let (b, st) ← baseP ts en st
    let st ← wantP ts en sgSemi st
    .ok (os ++ [⟨o, a, b⟩], st)
def declLoop : Nat → List Or → PS → Except PE (List Or × PS)
  | 0, _, _ => .error (0, 0)
  | f + 1, os, st => if isP ts st.i kwOp then do
      let (os, st) ← declP ts en os st
      declLoop f os st
    else .ok (os, st)
def progP : Except PE (List Or × List Nd) := do
  let (os, st) ← declLoop ts en (ts.length + 1) [] ⟨0, []⟩
  let (_, st) ← exprP ts en 40 st
  if st.i < ts.length then .error (403, hereP ts en st.i) else .ok (os, st.ns)
end
/-- the program of a text, or an error. -/
def parseV (s : ByteArray) : Except PE (List Or × List Nd) := if (lexR s).2.2 = 0 then progP (lexR s).1 s.size else .error (400, (lexR s).2.1)
end Go.Proofs.YtnhfbbognjdnpaaGreatDoor

/- Parsing, plain: how far a step goes. -/
namespace Go.Proofs.YtnhfbbognjdnpaaGreatDoor
set_option linter.unusedVariables false
set_option linter.unusedSimpArgs false

theorem ex_ok {α β : Type} {x : Except PE α} {f : α → Except PE β} {y : β} : (x >>= f) = .ok y ↔ ∃ a, x = .ok a ∧ f a = .ok y := by
  cases x with
  | error e =>
    refine ⟨fun h => ?_, fun ⟨_, h, _⟩ => ?_⟩
    · cases h
    · cases h
  | ok a =>
    refine ⟨fun h => ⟨a, rfl, h⟩, fun ⟨b, h, h'⟩ => ?_⟩
    injection h with h; subst h; exact h'
section
variable {ts : List Tk} {en : Int}
theorem isP_lt {i : Nat} {u : List UInt8} (h : isP ts i u = true) : i < ts.length := by
  unfold isP at h
  by_cases hl : i < ts.length
  · exact hl
  · rw [List.getElem?_eq_none (by omega)] at h; cases h
theorem startsP_lt {i : Nat} (h : startsP ts i = true) : i < ts.length := by
  unfold startsP at h
  by_cases hl : i < ts.length
  · exact hl
  · rw [List.getElem?_eq_none (by omega)] at h; cases h
theorem wantP_ok {u : List UInt8} {st s1 : PS} (h : wantP ts en u st = .ok s1) : isP ts st.i u = true ∧ s1 = ⟨st.i + 1, st.ns⟩ ∧ st.i < ts.length := by
  unfold wantP at h
  by_cases hi : isP ts st.i u = true
  · rw [if_pos hi] at h; injection h with h; exact ⟨hi, h.symm, isP_lt hi⟩
  · rw [if_neg hi] at h; cases h
theorem nameP_ok {st s1 : PS} {x : ByteArray} (h : nameP ts en st = .ok (x, s1)) : s1 = ⟨st.i + 1, st.ns⟩ ∧ st.i < ts.length ∧ ∃ t, ts[st.i]? = some t ∧ t.kind = 0 ∧ x = bs t.text := by
  unfold nameP at h
  cases ht : ts[st.i]? with
  | none => rw [ht] at h; cases h
  | some t =>
    rw [ht] at h
    have hl := (List.getElem?_eq_some_iff.1 ht).1
    by_cases hk : t.kind = 0
    · simp only [if_pos hk] at h; injection h with h; injection h with h1 h2; exact ⟨h2.symm, hl, t, rfl, hk, h1.symm⟩
    · simp only [if_neg hk] at h; cases h
theorem putP_ok {x : Nd} {st s1 : PS} {r : Nat} (h : putP ts en x st = .ok (r, s1)) : s1 = ⟨st.i, st.ns ++ [x]⟩ ∧ r = st.ns.length ∧ st.ns.length < 512 := by
  unfold putP at h
  by_cases hl : 512 ≤ st.ns.length
  · rw [if_pos hl] at h; cases h
  · rw [if_neg hl] at h; injection h with h; injection h with h1 h2; exact ⟨h2.symm, h1.symm, by omega⟩
/-- what a step leaves: it goes on, and puts its node last. -/
structure Fwd (ts : List Tk) (st : PS) (r : Nat) (s1 : PS) : Prop where
  lt : st.i < s1.i
  le : s1.i ≤ ts.length
  last : r + 1 = s1.ns.length
  more : ∃ l, s1.ns = st.ns ++ l
  ne : st.ns.length < s1.ns.length
  most : s1.ns.length ≤ 512
def Mono (ts : List Tk) (e : PS → Except PE (Nat × PS)) : Prop := ∀ st r s1, e st = .ok (r, s1) → Fwd ts st r s1
theorem fwd_put {st s1 : PS} {x : Nd} {r : Nat} (st0 : PS) (h : putP ts en x st = .ok (r, s1)) (hl : st0.i < st.i) (hle : st.i ≤ ts.length) (hm : ∃ l, st.ns = st0.ns ++ l) : Fwd ts st0 r s1 := by
  obtain ⟨rfl, rfl, h3⟩ := putP_ok h
  obtain ⟨l, hl2⟩ := hm
  exact ⟨hl, hle, by simp, ⟨l ++ [x], by rw [hl2]; simp⟩, by rw [hl2]; simp, by simp; omega⟩
theorem more_trans {a b c : List Nd} (h : ∃ l, b = a ++ l) (h' : ∃ l, c = b ++ l) : ∃ l, c = a ++ l := by
  obtain ⟨l, rfl⟩ := h; obtain ⟨m, rfl⟩ := h'; exact ⟨l ++ m, by simp⟩
theorem more_self (a : List Nd) : ∃ l, a = a ++ l := ⟨[], by simp⟩
theorem funP_fwd {e : PS → Except PE (Nat × PS)} (he : Mono ts e) {b : Int} {st s9 : PS} {r : Nat} (h : funP ts en e b st = .ok (r, s9)) : Fwd ts st r s9 := by
  unfold funP at h
  simp only [ex_ok, Prod.exists] at h
  obtain ⟨x, s1, h1, s2, h2, a, s3, h3, h4⟩ := h
  obtain ⟨rfl, l1, _⟩ := nameP_ok h1
  obtain ⟨_, rfl, l2⟩ := wantP_ok h2
  have f3 := he _ _ _ h3
  have := f3.lt
  exact fwd_put st h4 (by dsimp only at *; omega) f3.le f3.more
theorem letP_fwd {e : PS → Except PE (Nat × PS)} (he : Mono ts e) {b : Int} {st s9 : PS} {r : Nat} (h : letP ts en e b st = .ok (r, s9)) : Fwd ts st r s9 := by
  unfold letP at h
  simp only [ex_ok, Prod.exists] at h
  obtain ⟨x, s1, h1, s2, h2, a, s3, h3, s4, h4, a2, s5, h5, h6⟩ := h
  obtain ⟨rfl, l1, _⟩ := nameP_ok h1
  obtain ⟨_, rfl, l2⟩ := wantP_ok h2
  have f3 := he _ _ _ h3
  obtain ⟨_, rfl, l4⟩ := wantP_ok h4
  have f5 := he _ _ _ h5
  have := f3.lt
  have := f5.lt
  exact fwd_put st h6 (by dsimp only at *; omega) f5.le (more_trans f3.more f5.more)
theorem recP_fwd {e : PS → Except PE (Nat × PS)} (he : Mono ts e) {b : Int} {st s9 : PS} {r : Nat} (h : recP ts en e b st = .ok (r, s9)) : Fwd ts st r s9 := by
  unfold recP at h
  simp only [ex_ok, Prod.exists] at h
  obtain ⟨x, s1, h1, y, s1', h1', s2, h2, a, s3, h3, s4, h4, a2, s5, h5, h6⟩ := h
  obtain ⟨rfl, l1, _⟩ := nameP_ok h1
  obtain ⟨rfl, l1', _⟩ := nameP_ok h1'
  obtain ⟨_, rfl, l2⟩ := wantP_ok h2
  have f3 := he _ _ _ h3
  obtain ⟨_, rfl, l4⟩ := wantP_ok h4
  have f5 := he _ _ _ h5
  have := f3.lt
  have := f5.lt
  exact fwd_put st h6 (by dsimp only at *; omega) f5.le (more_trans f3.more f5.more)
theorem ifP_fwd {e : PS → Except PE (Nat × PS)} (he : Mono ts e) {b : Int} {st s9 : PS} {r : Nat} (h : ifP ts en e b st = .ok (r, s9)) : Fwd ts st r s9 := by
  unfold ifP at h
  simp only [ex_ok, Prod.exists] at h
  obtain ⟨a, s1, h1, s2, h2, a2, s3, h3, s4, h4, a3, s5, h5, h6⟩ := h
  have f1 := he _ _ _ h1
  obtain ⟨_, rfl, l2⟩ := wantP_ok h2
  have f3 := he _ _ _ h3
  obtain ⟨_, rfl, l4⟩ := wantP_ok h4
  have f5 := he _ _ _ h5
  have := f1.lt
  have := f3.lt
  have := f5.lt
  exact fwd_put st h6 (by dsimp only at *; omega) f5.le (more_trans f1.more (more_trans f3.more f5.more))
theorem handleP_fwd {e : PS → Except PE (Nat × PS)} (he : Mono ts e) {b : Int} {st s9 : PS} {r : Nat} (h : handleP ts en e b st = .ok (r, s9)) : Fwd ts st r s9 := by
  unfold handleP at h
  simp only [ex_ok, Prod.exists] at h
  obtain ⟨a, s1, h1, s2, h2, o, s3, h3, x, s4, h4, y, s5, h5, s6, h6, b2, s7, h7, s8, h8, z, s10, h10, s11, h11, c, s12, h12, s13, h13, h14⟩ := h
  have f1 := he _ _ _ h1
  obtain ⟨_, rfl, l2⟩ := wantP_ok h2
  obtain ⟨rfl, l3, _⟩ := nameP_ok h3
  obtain ⟨rfl, l4, _⟩ := nameP_ok h4
  obtain ⟨rfl, l5, _⟩ := nameP_ok h5
  obtain ⟨_, rfl, l6⟩ := wantP_ok h6
  have f7 := he _ _ _ h7
  obtain ⟨_, rfl, l8⟩ := wantP_ok h8
  obtain ⟨rfl, l10, _⟩ := nameP_ok h10
  obtain ⟨_, rfl, l11⟩ := wantP_ok h11
  have f12 := he _ _ _ h12
  obtain ⟨_, rfl, l13⟩ := wantP_ok h13
  have := f1.lt
  have := f7.lt
  have := f12.lt
  exact fwd_put st h14 (by dsimp only at *; omega) (by dsimp only at *; omega) (more_trans f1.more (more_trans f7.more f12.more))
theorem atomP_fwd {e : PS → Except PE (Nat × PS)} (he : Mono ts e) : Mono ts (atomP ts en e) := by
  intro st r s9 h
  unfold atomP at h
  cases ht : ts[st.i]? with
  | none => rw [ht] at h; cases h
  | some t =>
    rw [ht] at h
    have hl := (List.getElem?_eq_some_iff.1 ht).1
    dsimp only at h
    by_cases h0 : t.kind = 0
    · rw [if_pos h0] at h; exact fwd_put st h (by dsimp only; omega) (by dsimp only; omega) (more_self _)
    rw [if_neg h0] at h
    by_cases h1 : t.kind = 1
    · rw [if_pos h1] at h; exact fwd_put st h (by dsimp only; omega) (by dsimp only; omega) (more_self _)
    rw [if_neg h1] at h
    by_cases h2 : isP ts st.i kwTrue = true
    · rw [if_pos h2] at h; exact fwd_put st h (by dsimp only; omega) (by dsimp only; omega) (more_self _)
    rw [if_neg h2] at h
    by_cases h3 : isP ts st.i kwFalse = true
    · rw [if_pos h3] at h; exact fwd_put st h (by dsimp only; omega) (by dsimp only; omega) (more_self _)
    rw [if_neg h3] at h
    by_cases h4 : isP ts st.i sgOpen = true
    · rw [if_pos h4] at h
      simp only [ex_ok, Prod.exists] at h
      obtain ⟨a, s1, g1, s2, g2, g3⟩ := h
      injection g3 with g3
      injection g3 with g4 g5
      subst g4 g5
      obtain ⟨_, rfl, l2⟩ := wantP_ok g2
      have f1 := he _ _ _ g1
      have := f1.lt
      exact ⟨by dsimp only at *; omega, by dsimp only at *; omega, f1.last, f1.more, f1.ne, f1.most⟩
    rw [if_neg h4] at h
    by_cases h5 : isP ts st.i kwHandle = true
    · rw [if_pos h5] at h
      have f := handleP_fwd he h
      have := f.lt
      exact ⟨by dsimp only at *; omega, f.le, f.last, f.more, f.ne, f.most⟩
    · rw [if_neg h5] at h; cases h
theorem firstP_fwd {e : PS → Except PE (Nat × PS)} (he : Mono ts e) : Mono ts (firstP ts en e) := by
  intro st r s9 h
  unfold firstP at h
  by_cases h0 : isP ts st.i kwDo = true
  · rw [if_pos h0] at h
    simp only [ex_ok, Prod.exists] at h
    obtain ⟨o, s1, h1, a, s2, h2, h3⟩ := h
    obtain ⟨rfl, l1, _⟩ := nameP_ok h1
    have f2 := atomP_fwd he _ _ _ h2
    have := f2.lt
    exact fwd_put st h3 (by dsimp only at *; omega) f2.le f2.more
  · rw [if_neg h0] at h; exact atomP_fwd he _ _ _ h
theorem Fwd.trans {st s1 s2 : PS} {r r2 : Nat} (h : Fwd ts st r s1) (h' : Fwd ts s1 r2 s2) : Fwd ts st r2 s2 :=
  ⟨Nat.lt_trans h.lt h'.lt, h'.le, h'.last, more_trans h.more h'.more, Nat.lt_trans h.ne h'.ne, h'.most⟩
theorem appLoop_fwd {e : PS → Except PE (Nat × PS)} (he : Mono ts e) {b : Int} : ∀ (f l : Nat) (st : PS) (r : Nat) (s9 : PS) (st0 : PS), Fwd ts st0 l st → appLoop ts en e b f l st = .ok (r, s9) → Fwd ts st0 r s9
  | 0, l, st, r, s9, st0, _, h => by cases h
  | f + 1, l, st, r, s9, st0, h0, h => by
    unfold appLoop at h
    by_cases hs : startsP ts st.i = true
    · rw [if_pos hs] at h
      simp only [ex_ok, Prod.exists] at h
      obtain ⟨a, s1, h1, l2, s2, h2, h3⟩ := h
      have f1 := atomP_fwd he _ _ _ h1
      have f2 := fwd_put st h2 f1.lt f1.le f1.more
      exact appLoop_fwd he f l2 s2 r s9 st0 (h0.trans f2) h3
    · rw [if_neg hs] at h
      injection h with h; injection h with h1 h2; subst h1 h2; exact h0
theorem applyP_fwd {e : PS → Except PE (Nat × PS)} (he : Mono ts e) : Mono ts (applyP ts en e) := by
  intro st r s9 h
  unfold applyP at h
  simp only [ex_ok, Prod.exists] at h
  obtain ⟨l, s1, h1, h2⟩ := h
  exact appLoop_fwd he _ _ _ _ _ st (firstP_fwd he _ _ _ h1) h2
theorem primP_fwd {o : PS → Except PE (Nat × PS)} (ho : Mono ts o) {nu p : Int} {l : Nat} {st s9 : PS} {r : Nat} (h : primP ts en nu p l o st = .ok (r, s9)) : Fwd ts st r s9 := by
  unfold primP at h
  simp only [ex_ok, Prod.exists] at h
  obtain ⟨a, s1, h1, h2⟩ := h
  have f1 := ho _ _ _ h1
  exact fwd_put st h2 f1.lt f1.le f1.more
theorem rankLoop_fwd {o : PS → Except PE (Nat × PS)} (ho : Mono ts o) {u v : List UInt8} {nu nv : Int} : ∀ (f l : Nat) (st : PS) (r : Nat) (s9 : PS) (st0 : PS), Fwd ts st0 l st → rankLoop ts en u v nu nv o f l st = .ok (r, s9) → Fwd ts st0 r s9
  | 0, l, st, r, s9, st0, _, h => by cases h
  | f + 1, l, st, r, s9, st0, h0, h => by
    unfold rankLoop at h
    by_cases hu : isP ts st.i u = true
    · rw [if_pos hu] at h
      simp only [ex_ok, Prod.exists] at h
      obtain ⟨l2, s1, h1, h2⟩ := h
      have f1 := primP_fwd ho h1
      have := f1.lt
      exact rankLoop_fwd ho f l2 s1 r s9 st0 (h0.trans ⟨by dsimp only at *; omega, f1.le, f1.last, f1.more, f1.ne, f1.most⟩) h2
    · rw [if_neg hu] at h
      by_cases hv : isP ts st.i v = true
      · rw [if_pos hv] at h
        simp only [ex_ok, Prod.exists] at h
        obtain ⟨l2, s1, h1, h2⟩ := h
        have f1 := primP_fwd ho h1
        have := f1.lt
        exact rankLoop_fwd ho f l2 s1 r s9 st0 (h0.trans ⟨by dsimp only at *; omega, f1.le, f1.last, f1.more, f1.ne, f1.most⟩) h2
      · rw [if_neg hv] at h
        injection h with h; injection h with h1 h2; subst h1 h2; exact h0
theorem productP_fwd {e : PS → Except PE (Nat × PS)} (he : Mono ts e) : Mono ts (productP ts en e) := by
  intro st r s9 h
  unfold productP at h
  simp only [ex_ok, Prod.exists] at h
  obtain ⟨l, s1, h1, h2⟩ := h
  exact rankLoop_fwd (applyP_fwd he) _ _ _ _ _ st (applyP_fwd he _ _ _ h1) h2
theorem sumP_fwd {e : PS → Except PE (Nat × PS)} (he : Mono ts e) : Mono ts (sumP ts en e) := by
  intro st r s9 h
  unfold sumP at h
  simp only [ex_ok, Prod.exists] at h
  obtain ⟨l, s1, h1, h2⟩ := h
  exact rankLoop_fwd (productP_fwd he) _ _ _ _ _ st (productP_fwd he _ _ _ h1) h2
theorem compareP_fwd {e : PS → Except PE (Nat × PS)} (he : Mono ts e) : Mono ts (compareP ts en e) := by
  intro st r s9 h
  unfold compareP at h
  simp only [ex_ok, Prod.exists] at h
  obtain ⟨l, s1, h1, h2⟩ := h
  have f1 := sumP_fwd he _ _ _ h1
  by_cases hu : isP ts s1.i sgEq2 = true
  · rw [if_pos hu] at h2
    have f2 := primP_fwd (sumP_fwd he) h2
    have := f2.lt
    exact f1.trans ⟨by dsimp only at *; omega, f2.le, f2.last, f2.more, f2.ne, f2.most⟩
  · rw [if_neg hu] at h2
    by_cases hv : isP ts s1.i sgLess = true
    · rw [if_pos hv] at h2
      have f2 := primP_fwd (sumP_fwd he) h2
      have := f2.lt
      exact f1.trans ⟨by dsimp only at *; omega, f2.le, f2.last, f2.more, f2.ne, f2.most⟩
    · rw [if_neg hv] at h2
      injection h2 with h2; injection h2 with h3 h4; subst h3 h4; exact f1
theorem openP_fwd {e : PS → Except PE (Nat × PS)} (he : Mono ts e) : Mono ts (openP ts en e) := by
  intro st r s9 h
  unfold openP at h
  have sh : ∀ (k : Nat) (s : PS), s.i = st.i + k → s.ns = st.ns → Fwd ts s r s9 → Fwd ts st r s9 := fun k s hi hn f => ⟨by have := f.lt; omega, f.le, f.last, by rw [← hn]; exact f.more, by rw [← hn]; exact f.ne, f.most⟩
  by_cases h0 : isP ts st.i kwFun = true
  · rw [if_pos h0] at h; exact sh 1 ⟨st.i + 1, st.ns⟩ rfl rfl (funP_fwd he h)
  rw [if_neg h0] at h
  by_cases h1 : isP ts st.i kwLet = true
  · rw [if_pos h1] at h
    by_cases h2 : isP ts (st.i + 1) kwRec = true
    · rw [if_pos h2] at h; exact sh 2 ⟨st.i + 2, st.ns⟩ rfl rfl (recP_fwd he h)
    · rw [if_neg h2] at h; exact sh 1 ⟨st.i + 1, st.ns⟩ rfl rfl (letP_fwd he h)
  rw [if_neg h1] at h
  by_cases h3 : isP ts st.i kwIf = true
  · rw [if_pos h3] at h; exact sh 1 ⟨st.i + 1, st.ns⟩ rfl rfl (ifP_fwd he h)
  · rw [if_neg h3] at h; exact compareP_fwd he _ _ _ h
theorem exprP_fwd : ∀ r, Mono ts (exprP ts en r)
  | 0 => fun st r s9 h => by cases h
  | r + 1 => fun st r' s9 h => openP_fwd (exprP_fwd r) st r' s9 h
end
end Go.Proofs.YtnhfbbognjdnpaaGreatDoor
