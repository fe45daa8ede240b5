/- The empty text. -/
import Derived.Test.YthpcbgljbpmafaaGreatDoorW5
import Derived.Test.YthpcbgljbpmafaaGreatDoorW9
import Derived.Test.YthpcbgljbpmafaaGreatDoorW11
import Derived.Test.YthpcbgljbpmafaaGreatDoorW15
import Derived.Test.YthpcbgljbpmafaaGreatDoorW16
import Derived.Test.YthpcbgljbpmafaaGreatDoorW18
import Derived.Test.YthpcbgljbpmafaaGreatDoorChecked
import Derived.BigQuiet
set_option maxRecDepth 100000
set_option maxHeartbeats 8000000
namespace Go.Proofs.YthpcbgljbpmafaaGreatDoor
def ba0:ByteArray:=⟨#[]⟩
set_option linter.unusedVariables false
set_option linter.unusedSimpArgs false
abbrev PE:=Int × Int
structure PS where
 i:Nat
 ns:List Nd
section
variable (ts : List Tk) (en : Int)
def hereP (i:Nat):Int:=match ts[i]? with|some t=>t.at_|none=>en
def isP (i:Nat) (u:List UInt8):Bool:=match ts[i]? with|some t=>(t.kind==2 || t.kind==3) && t.text==u|none=>false
def wantP (u:List UInt8) (st:PS):Except PE PS:=if isP ts st.i u then .ok ⟨st.i+1,st.ns⟩ else .error (403,hereP ts en st.i)
def nameP (st:PS):Except PE (ByteArray × PS):=match ts[st.i]? with
 | some t=>if t.kind=0 then .ok (bs t.text,⟨st.i+1,st.ns⟩) else .error (403,hereP ts en st.i)
 | none=> .error (403,hereP ts en st.i)
def putP (x:Nd) (st:PS):Except PE (Nat × PS):=if 512≤st.ns.length then .error (402,hereP ts en st.i) else .ok (st.ns.length,⟨st.i,st.ns++[x]⟩)
def kwFun:List UInt8:=[102,117,110]
def kwLet:List UInt8:=[108,101,116]
def kwRec:List UInt8:=[114,101,99]
def kwIn:List UInt8:=[105,110]
def kwIf:List UInt8:=[105,102]
def kwThen:List UInt8:=[116,104,101,110]
def kwElse:List UInt8:=[101,108,115,101]
def kwHandle:List UInt8:=[104,97,110,100,108,101]
def kwWith:List UInt8:=[119,105,116,104]
def kwReturn:List UInt8:=[114,101,116,117,114,110]
def kwEnd:List UInt8:=[101,110,100]
def kwDo:List UInt8:=[100,111]
def kwOp:List UInt8:=[111,112]
def kwTrue:List UInt8:=[116,114,117,101]
def kwFalse:List UInt8:=[102,97,108,115,101]
def kwInt:List UInt8:=[105,110,116]
def kwBool:List UInt8:=[98,111,111,108]
def sgArrow:List UInt8:=[45,62]
def sgEq:List UInt8:=[61]
def sgEq2:List UInt8:=[61,61]
def sgLess:List UInt8:=[60]
def sgAdd:List UInt8:=[43]
def sgSub:List UInt8:=[45]
def sgMul:List UInt8:=[42]
def sgDiv:List UInt8:=[47]
def sgOpen:List UInt8:=[40]
def sgShut:List UInt8:=[41]
def sgColon:List UInt8:=[58]
def sgSemi:List UInt8:=[59]
def funP (e:PS→Except PE (Nat × PS)) (beg:Int) (st:PS):Except PE (Nat × PS):=do
 let (x,st) ← nameP ts en st
 let st ← wantP ts en sgArrow st
 let (a,st) ← e st
 putP ts en ⟨3,(a:Nat),0,0,0,ba0,x,ba0,ba0,beg⟩ st
def letP (e:PS→Except PE (Nat × PS)) (beg:Int) (st:PS):Except PE (Nat × PS):=do
 let (x,st) ← nameP ts en st
 let st ← wantP ts en sgEq st
 let (a,st) ← e st
 let st ← wantP ts en kwIn st
 let (b,st) ← e st
 putP ts en ⟨5,(a:Nat),(b:Nat),0,0,ba0,x,ba0,ba0,beg⟩ st
def recP (e:PS→Except PE (Nat × PS)) (beg:Int) (st:PS):Except PE (Nat × PS):=do
 let (x,st) ← nameP ts en st
 let (y,st) ← nameP ts en st
 let st ← wantP ts en sgEq st
 let (a,st) ← e st
 let st ← wantP ts en kwIn st
 let (b,st) ← e st
 putP ts en ⟨6,(a:Nat),(b:Nat),0,0,ba0,x,y,ba0,beg⟩ st
def ifP (e:PS→Except PE (Nat × PS)) (beg:Int) (st:PS):Except PE (Nat × PS):=do
 let (a,st) ← e st
 let st ← wantP ts en kwThen st
 let (b,st) ← e st
 let st ← wantP ts en kwElse st
 let (c,st) ← e st
 putP ts en ⟨7,(a:Nat),(b:Nat),(c:Nat),0,ba0,ba0,ba0,ba0,beg⟩ st
def handleP (e:PS→Except PE (Nat × PS)) (beg:Int) (st:PS):Except PE (Nat × PS):=do
 let (a,st) ← e st
 let st ← wantP ts en kwWith st
 let (o,st) ← nameP ts en st
 let (x,st) ← nameP ts en st
 let (y,st) ← nameP ts en st
 let st ← wantP ts en sgArrow st
 let (b,st) ← e st
 let st ← wantP ts en kwReturn st
 let (z,st) ← nameP ts en st
 let st ← wantP ts en sgArrow st
 let (c,st) ← e st
 let st ← wantP ts en kwEnd st
 putP ts en ⟨10,(a:Nat),(b:Nat),(c:Nat),0,o,x,y,z,beg⟩ st
def startsP (i:Nat):Bool:=match ts[i]? with
 | some t=>t.kind==0 || t.kind==1 || isP ts i kwTrue || isP ts i kwFalse || isP ts i sgOpen || isP ts i kwHandle
 | none=>false
def atomP (e:PS→Except PE (Nat × PS)) (st:PS):Except PE (Nat × PS):=match ts[st.i]? with
 | none=> .error (403,hereP ts en st.i)
 | some t=>
  if t.kind=0 then putP ts en ⟨0,0,0,0,0,bs t.text,ba0,ba0,ba0,t.at_⟩ ⟨st.i+1,st.ns⟩
  else if t.kind=1 then putP ts en ⟨1,0,0,0,t.num,ba0,ba0,ba0,ba0,t.at_⟩ ⟨st.i+1,st.ns⟩
  else if isP ts st.i kwTrue then putP ts en ⟨2,0,0,0,1,ba0,ba0,ba0,ba0,t.at_⟩ ⟨st.i+1,st.ns⟩
  else if isP ts st.i kwFalse then putP ts en ⟨2,0,0,0,0,ba0,ba0,ba0,ba0,t.at_⟩ ⟨st.i+1,st.ns⟩
  else if isP ts st.i sgOpen then do
   let (a,st) ← e ⟨st.i+1,st.ns⟩
   let st ← wantP ts en sgShut st
   .ok (a,st)
  else if isP ts st.i kwHandle then handleP ts en e t.at_ ⟨st.i+1,st.ns⟩
  else .error (403,hereP ts en st.i)
def firstP (e:PS→Except PE (Nat × PS)) (st:PS):Except PE (Nat × PS):=
 if isP ts st.i kwDo then do
  let (o,st') ← nameP ts en ⟨st.i+1,st.ns⟩
  let (a,st') ← atomP ts en e st'
  putP ts en ⟨9,(a:Nat),0,0,0,o,ba0,ba0,ba0,hereP ts en st.i⟩ st'
 else atomP ts en e st
def appLoop (e:PS→Except PE (Nat × PS)) (beg:Int):Nat→Nat→PS→Except PE (Nat × PS)
 | 0,_,_=> .error (0,0)
 | f+1,l,st=>if startsP ts st.i then do
   let (b,st) ← atomP ts en e st
   let (l,st) ← putP ts en ⟨4,(l:Nat),(b:Nat),0,0,ba0,ba0,ba0,ba0,beg⟩ st
   appLoop e beg f l st
  else .ok (l,st)
def applyP (e:PS→Except PE (Nat × PS)) (st:PS):Except PE (Nat × PS):=do
 let (l,st') ← firstP ts en e st
 appLoop ts en e (hereP ts en st.i) (ts.length+1) l st'
def primP (num:Int) (at_:Int) (l:Nat) (o:PS→Except PE (Nat × PS)) (st:PS):Except PE (Nat × PS):=do
 let (b,st) ← o st
 putP ts en ⟨8,(l:Nat),(b:Nat),0,num,ba0,ba0,ba0,ba0,at_⟩ st
def rankLoop (u v:List UInt8) (nu nv:Int) (o:PS→Except PE (Nat × PS)):Nat→Nat→PS→Except PE (Nat × PS)
 | 0,_,_=> .error (0,0)
 | f+1,l,st=>if isP ts st.i u then do
   let (l,st) ← primP ts en nu (hereP ts en st.i) l o ⟨st.i+1,st.ns⟩
   rankLoop u v nu nv o f l st
  else if isP ts st.i v then do
   let (l,st) ← primP ts en nv (hereP ts en st.i) l o ⟨st.i+1,st.ns⟩
   rankLoop u v nu nv o f l st
  else .ok (l,st)
def productP (e:PS→Except PE (Nat × PS)) (st:PS):Except PE (Nat × PS):=do
 let (l,st) ← applyP ts en e st
 rankLoop ts en sgMul sgDiv 2 3 (applyP ts en e) (ts.length+1) l st
def sumP (e:PS→Except PE (Nat × PS)) (st:PS):Except PE (Nat × PS):=do
 let (l,st) ← productP ts en e st
 rankLoop ts en sgAdd sgSub 0 1 (productP ts en e) (ts.length+1) l st
def compareP (e:PS→Except PE (Nat × PS)) (st:PS):Except PE (Nat × PS):=do
 let (l,st) ← sumP ts en e st
 if isP ts st.i sgEq2 then primP ts en 4 (hereP ts en st.i) l (sumP ts en e) ⟨st.i+1,st.ns⟩
 else if isP ts st.i sgLess then primP ts en 5 (hereP ts en st.i) l (sumP ts en e) ⟨st.i+1,st.ns⟩
 else .ok (l,st)
def openP (e:PS→Except PE (Nat × PS)) (st:PS):Except PE (Nat × PS):=
 if isP ts st.i kwFun then funP ts en e (hereP ts en st.i) ⟨st.i+1,st.ns⟩
 else if isP ts st.i kwLet then
  (if isP ts (st.i+1) kwRec then recP ts en e (hereP ts en st.i) ⟨st.i+2,st.ns⟩ else letP ts en e (hereP ts en st.i) ⟨st.i+1,st.ns⟩)
 else if isP ts st.i kwIf then ifP ts en e (hereP ts en st.i) ⟨st.i+1,st.ns⟩
 else compareP ts en e st
def exprP:Nat→PS→Except PE (Nat × PS)
 | 0,st=> .error (401,hereP ts en st.i)
 | r+1,st=>openP ts en (exprP r) st
def baseP (st:PS):Except PE (Int × PS):=
 if isP ts st.i kwInt then .ok (0,⟨st.i+1,st.ns⟩) else if isP ts st.i kwBool then .ok (1,⟨st.i+1,st.ns⟩) else .error (403,hereP ts en st.i)
def declP (os:List Or) (st:PS):Except PE (List Or × PS):=
 if 4≤os.length then .error (402,hereP ts en st.i) else do
  let (o,st) ← nameP ts en ⟨st.i+1,st.ns⟩
  let st ← wantP ts en sgColon st
  let (a,st) ← baseP ts en st
  let st ← wantP ts en sgArrow st
  let (b,st) ← baseP ts en st
  let st ← wantP ts en sgSemi st
  .ok (os++[⟨o,a,b⟩],st)
def declLoop:Nat→List Or→PS→Except PE (List Or × PS)
 | 0,_,_=> .error (0,0)
 | f+1,os,st=>if isP ts st.i kwOp then do
   let (os,st) ← declP ts en os st
   declLoop f os st
  else .ok (os,st)
def progP:Except PE (List Or × List Nd):=do
 let (os,st) ← declLoop ts en (ts.length+1) [] ⟨0,[]⟩
 let (_,st) ← exprP ts en 40 st
 if st.i<ts.length then .error (403,hereP ts en st.i) else .ok (os,st.ns)
end
def parseV (s:ByteArray):Except PE (List Or × List Nd):=if (lexR s).2.2=0 then progP (lexR s).1 s.size else .error (400,(lexR s).2.1)
theorem ex_ok {α β:Type} {x:Except PE α} {f:α→Except PE β} {y:β}:(x >>= f)= .ok y ↔ ∃a,x= .ok a∧f a= .ok y:=by
 cases x with
 | error e=>
  refine⟨fun h=> ?_,fun ⟨_,h,_⟩=> ?_⟩
  ·cases h
  ·cases h
 | ok a=>
  refine⟨fun h=>⟨a,rfl,h⟩,fun ⟨b,h,h'⟩=> ?_⟩
  injection h with h;subst h;exact h'
section
variable {ts : List Tk} {en : Int}
theorem isP_lt {i:Nat} {u:List UInt8} (h:isP ts i u=true):i<ts.length:=by
 unfold isP at h
 by_cases hl:i<ts.length
 ·exact hl
 ·rw[List.getElem?_eq_none (by omega)] at h;cases h
theorem startsP_lt {i:Nat} (h:startsP ts i=true):i<ts.length:=by
 unfold startsP at h
 by_cases hl:i<ts.length
 ·exact hl
 ·rw[List.getElem?_eq_none (by omega)] at h;cases h
theorem wantP_ok {u:List UInt8} {st s1:PS} (h:wantP ts en u st= .ok s1):isP ts st.i u=true∧s1=⟨st.i+1,st.ns⟩∧st.i<ts.length:=by
 unfold wantP at h
 by_cases hi:isP ts st.i u=true
 ·rw[if_pos hi] at h;injection h with h;exact⟨hi,h.symm,isP_lt hi⟩
 ·rw[if_neg hi] at h;cases h
theorem nameP_ok {st s1:PS} {x:ByteArray} (h:nameP ts en st= .ok (x,s1)):s1=⟨st.i+1,st.ns⟩∧st.i<ts.length∧ ∃t,ts[st.i]? = some t∧t.kind=0∧x=bs t.text:=by
 unfold nameP at h
 cases ht:ts[st.i]? with
 | none=>rw[ht] at h;cases h
 | some t=>
  rw[ht] at h
  have hl:=(List.getElem?_eq_some_iff.1 ht).1
  by_cases hk:t.kind=0
  ·simp only[if_pos hk] at h;injection h with h;injection h with h1 h2;exact⟨h2.symm,hl,t,rfl,hk,h1.symm⟩
  ·simp only[if_neg hk] at h;cases h
theorem putP_ok {x:Nd} {st s1:PS} {r:Nat} (h:putP ts en x st= .ok (r,s1)):s1=⟨st.i,st.ns++[x]⟩∧r=st.ns.length∧st.ns.length<512:=by
 unfold putP at h
 by_cases hl:512≤st.ns.length
 ·rw[if_pos hl] at h;cases h
 ·rw[if_neg hl] at h;injection h with h;injection h with h1 h2;exact⟨h2.symm,h1.symm,by omega⟩
structure Fwd (ts:List Tk) (st:PS) (r:Nat) (s1:PS):Prop where
 lt:st.i<s1.i
 le:s1.i≤ts.length
 last:r+1=s1.ns.length
 more : ∃l,s1.ns=st.ns++l
 ne:st.ns.length<s1.ns.length
 most:s1.ns.length≤512
def Mono (ts:List Tk) (e:PS→Except PE (Nat × PS)):Prop:= ∀st r s1,e st= .ok (r,s1)→Fwd ts st r s1
theorem fwd_put {st s1:PS} {x:Nd} {r:Nat} (st0:PS) (h:putP ts en x st= .ok (r,s1)) (hl:st0.i<st.i) (hle:st.i≤ts.length) (hm : ∃l,st.ns=st0.ns++l):Fwd ts st0 r s1:=by
 obtain⟨rfl,rfl,h3⟩:=putP_ok h
 obtain⟨l,hl2⟩:=hm
 exact⟨hl,hle,by simp,⟨l++[x],by rw[hl2];simp⟩,by rw[hl2];simp,by simp;omega⟩
theorem more_trans {a b c:List Nd} (h : ∃l,b=a++l) (h' : ∃l,c=b++l) : ∃l,c=a++l:=by
 obtain⟨l,rfl⟩:=h;obtain⟨m,rfl⟩:=h';exact⟨l++m,by simp⟩
theorem more_self (a:List Nd) : ∃l,a=a++l:=⟨[],by simp⟩
theorem funP_fwd {e:PS→Except PE (Nat × PS)} (he:Mono ts e) {b:Int} {st s9:PS} {r:Nat} (h:funP ts en e b st= .ok (r,s9)):Fwd ts st r s9:=by
 unfold funP at h
 simp only[ex_ok,Prod.exists] at h
 obtain⟨x,s1,h1,s2,h2,a,s3,h3,h4⟩:=h
 obtain⟨rfl,l1,_⟩:=nameP_ok h1
 obtain⟨_,rfl,l2⟩:=wantP_ok h2
 have f3:=he _ _ _ h3
 have:=f3.lt
 exact fwd_put st h4 (by dsimp only at *;omega) f3.le f3.more
theorem letP_fwd {e:PS→Except PE (Nat × PS)} (he:Mono ts e) {b:Int} {st s9:PS} {r:Nat} (h:letP ts en e b st= .ok (r,s9)):Fwd ts st r s9:=by
 unfold letP at h
 simp only[ex_ok,Prod.exists] at h
 obtain⟨x,s1,h1,s2,h2,a,s3,h3,s4,h4,a2,s5,h5,h6⟩:=h
 obtain⟨rfl,l1,_⟩:=nameP_ok h1
 obtain⟨_,rfl,l2⟩:=wantP_ok h2
 have f3:=he _ _ _ h3
 obtain⟨_,rfl,l4⟩:=wantP_ok h4
 have f5:=he _ _ _ h5
 have:=f3.lt
 have:=f5.lt
 exact fwd_put st h6 (by dsimp only at *;omega) f5.le (more_trans f3.more f5.more)
theorem recP_fwd {e:PS→Except PE (Nat × PS)} (he:Mono ts e) {b:Int} {st s9:PS} {r:Nat} (h:recP ts en e b st= .ok (r,s9)):Fwd ts st r s9:=by
 unfold recP at h
 simp only[ex_ok,Prod.exists] at h
 obtain⟨x,s1,h1,y,s1',h1',s2,h2,a,s3,h3,s4,h4,a2,s5,h5,h6⟩:=h
 obtain⟨rfl,l1,_⟩:=nameP_ok h1
 obtain⟨rfl,l1',_⟩:=nameP_ok h1'
 obtain⟨_,rfl,l2⟩:=wantP_ok h2
 have f3:=he _ _ _ h3
 obtain⟨_,rfl,l4⟩:=wantP_ok h4
 have f5:=he _ _ _ h5
 have:=f3.lt
 have:=f5.lt
 exact fwd_put st h6 (by dsimp only at *;omega) f5.le (more_trans f3.more f5.more)
theorem ifP_fwd {e:PS→Except PE (Nat × PS)} (he:Mono ts e) {b:Int} {st s9:PS} {r:Nat} (h:ifP ts en e b st= .ok (r,s9)):Fwd ts st r s9:=by
 unfold ifP at h
 simp only[ex_ok,Prod.exists] at h
 obtain⟨a,s1,h1,s2,h2,a2,s3,h3,s4,h4,a3,s5,h5,h6⟩:=h
 have f1:=he _ _ _ h1
 obtain⟨_,rfl,l2⟩:=wantP_ok h2
 have f3:=he _ _ _ h3
 obtain⟨_,rfl,l4⟩:=wantP_ok h4
 have f5:=he _ _ _ h5
 have:=f1.lt
 have:=f3.lt
 have:=f5.lt
 exact fwd_put st h6 (by dsimp only at *;omega) f5.le (more_trans f1.more (more_trans f3.more f5.more))
theorem handleP_fwd {e:PS→Except PE (Nat × PS)} (he:Mono ts e) {b:Int} {st s9:PS} {r:Nat} (h:handleP ts en e b st= .ok (r,s9)):Fwd ts st r s9:=by
 unfold handleP at h
 simp only[ex_ok,Prod.exists] at h
 obtain⟨a,s1,h1,s2,h2,o,s3,h3,x,s4,h4,y,s5,h5,s6,h6,b2,s7,h7,s8,h8,z,s10,h10,s11,h11,c,s12,h12,s13,h13,h14⟩:=h
 have f1:=he _ _ _ h1
 obtain⟨_,rfl,l2⟩:=wantP_ok h2
 obtain⟨rfl,l3,_⟩:=nameP_ok h3
 obtain⟨rfl,l4,_⟩:=nameP_ok h4
 obtain⟨rfl,l5,_⟩:=nameP_ok h5
 obtain⟨_,rfl,l6⟩:=wantP_ok h6
 have f7:=he _ _ _ h7
 obtain⟨_,rfl,l8⟩:=wantP_ok h8
 obtain⟨rfl,l10,_⟩:=nameP_ok h10
 obtain⟨_,rfl,l11⟩:=wantP_ok h11
 have f12:=he _ _ _ h12
 obtain⟨_,rfl,l13⟩:=wantP_ok h13
 have:=f1.lt
 have:=f7.lt
 have:=f12.lt
 exact fwd_put st h14 (by dsimp only at *;omega) (by dsimp only at *;omega) (more_trans f1.more (more_trans f7.more f12.more))
theorem atomP_fwd {e:PS→Except PE (Nat × PS)} (he:Mono ts e):Mono ts (atomP ts en e):=by
 intro st r s9 h
 unfold atomP at h
 cases ht:ts[st.i]? with
 | none=>rw[ht] at h;cases h
 | some t=>
  rw[ht] at h
  have hl:=(List.getElem?_eq_some_iff.1 ht).1
  dsimp only at h
  by_cases h0:t.kind=0
  ·rw[if_pos h0] at h;exact fwd_put st h (by dsimp only;omega) (by dsimp only;omega) (more_self _)
  rw[if_neg h0] at h
  by_cases h1:t.kind=1
  ·rw[if_pos h1] at h;exact fwd_put st h (by dsimp only;omega) (by dsimp only;omega) (more_self _)
  rw[if_neg h1] at h
  by_cases h2:isP ts st.i kwTrue=true
  ·rw[if_pos h2] at h;exact fwd_put st h (by dsimp only;omega) (by dsimp only;omega) (more_self _)
  rw[if_neg h2] at h
  by_cases h3:isP ts st.i kwFalse=true
  ·rw[if_pos h3] at h;exact fwd_put st h (by dsimp only;omega) (by dsimp only;omega) (more_self _)
  rw[if_neg h3] at h
  by_cases h4:isP ts st.i sgOpen=true
  ·rw[if_pos h4] at h
   simp only[ex_ok,Prod.exists] at h
   obtain⟨a,s1,g1,s2,g2,g3⟩:=h
   injection g3 with g3
   injection g3 with g4 g5
   subst g4 g5
   obtain⟨_,rfl,l2⟩:=wantP_ok g2
   have f1:=he _ _ _ g1
   have:=f1.lt
   exact⟨by dsimp only at *;omega,by dsimp only at *;omega,f1.last,f1.more,f1.ne,f1.most⟩
  rw[if_neg h4] at h
  by_cases h5:isP ts st.i kwHandle=true
  ·rw[if_pos h5] at h
   have f:=handleP_fwd he h
   have:=f.lt
   exact⟨by dsimp only at *;omega,f.le,f.last,f.more,f.ne,f.most⟩
  ·rw[if_neg h5] at h;cases h
theorem firstP_fwd {e:PS→Except PE (Nat × PS)} (he:Mono ts e):Mono ts (firstP ts en e):=by
 intro st r s9 h
 unfold firstP at h
 by_cases h0:isP ts st.i kwDo=true
 ·rw[if_pos h0] at h
  simp only[ex_ok,Prod.exists] at h
  obtain⟨o,s1,h1,a,s2,h2,h3⟩:=h
  obtain⟨rfl,l1,_⟩:=nameP_ok h1
  have f2:=atomP_fwd he _ _ _ h2
  have:=f2.lt
  exact fwd_put st h3 (by dsimp only at *;omega) f2.le f2.more
 ·rw[if_neg h0] at h;exact atomP_fwd he _ _ _ h
theorem Fwd.trans {st s1 s2:PS} {r r2:Nat} (h:Fwd ts st r s1) (h':Fwd ts s1 r2 s2):Fwd ts st r2 s2:=
 ⟨Nat.lt_trans h.lt h'.lt,h'.le,h'.last,more_trans h.more h'.more,Nat.lt_trans h.ne h'.ne,h'.most⟩
theorem appLoop_fwd {e:PS→Except PE (Nat × PS)} (he:Mono ts e) {b:Int} : ∀(f l:Nat) (st:PS) (r:Nat) (s9:PS) (st0:PS),Fwd ts st0 l st→appLoop ts en e b f l st= .ok (r,s9)→Fwd ts st0 r s9
 | 0,l,st,r,s9,st0,_,h=>by cases h
 | f+1,l,st,r,s9,st0,h0,h=>by
  unfold appLoop at h
  by_cases hs:startsP ts st.i=true
  ·rw[if_pos hs] at h
   simp only[ex_ok,Prod.exists] at h
   obtain⟨a,s1,h1,l2,s2,h2,h3⟩:=h
   have f1:=atomP_fwd he _ _ _ h1
   have f2:=fwd_put st h2 f1.lt f1.le f1.more
   exact appLoop_fwd he f l2 s2 r s9 st0 (h0.trans f2) h3
  ·rw[if_neg hs] at h
   injection h with h;injection h with h1 h2;subst h1 h2;exact h0
theorem applyP_fwd {e:PS→Except PE (Nat × PS)} (he:Mono ts e):Mono ts (applyP ts en e):=by
 intro st r s9 h
 unfold applyP at h
 simp only[ex_ok,Prod.exists] at h
 obtain⟨l,s1,h1,h2⟩:=h
 exact appLoop_fwd he _ _ _ _ _ st (firstP_fwd he _ _ _ h1) h2
theorem primP_fwd {o:PS→Except PE (Nat × PS)} (ho:Mono ts o) {nu p:Int} {l:Nat} {st s9:PS} {r:Nat} (h:primP ts en nu p l o st= .ok (r,s9)):Fwd ts st r s9:=by
 unfold primP at h
 simp only[ex_ok,Prod.exists] at h
 obtain⟨a,s1,h1,h2⟩:=h
 have f1:=ho _ _ _ h1
 exact fwd_put st h2 f1.lt f1.le f1.more
theorem rankLoop_fwd {o:PS→Except PE (Nat × PS)} (ho:Mono ts o) {u v:List UInt8} {nu nv:Int} : ∀(f l:Nat) (st:PS) (r:Nat) (s9:PS) (st0:PS),Fwd ts st0 l st→rankLoop ts en u v nu nv o f l st= .ok (r,s9)→Fwd ts st0 r s9
 | 0,l,st,r,s9,st0,_,h=>by cases h
 | f+1,l,st,r,s9,st0,h0,h=>by
  unfold rankLoop at h
  by_cases hu:isP ts st.i u=true
  ·rw[if_pos hu] at h
   simp only[ex_ok,Prod.exists] at h
   obtain⟨l2,s1,h1,h2⟩:=h
   have f1:=primP_fwd ho h1
   have:=f1.lt
   exact rankLoop_fwd ho f l2 s1 r s9 st0 (h0.trans ⟨by dsimp only at *;omega,f1.le,f1.last,f1.more,f1.ne,f1.most⟩) h2
  ·rw[if_neg hu] at h
   by_cases hv:isP ts st.i v=true
   ·rw[if_pos hv] at h
    simp only[ex_ok,Prod.exists] at h
    obtain⟨l2,s1,h1,h2⟩:=h
    have f1:=primP_fwd ho h1
    have:=f1.lt
    exact rankLoop_fwd ho f l2 s1 r s9 st0 (h0.trans ⟨by dsimp only at *;omega,f1.le,f1.last,f1.more,f1.ne,f1.most⟩) h2
   ·rw[if_neg hv] at h
    injection h with h;injection h with h1 h2;subst h1 h2;exact h0
theorem productP_fwd {e:PS→Except PE (Nat × PS)} (he:Mono ts e):Mono ts (productP ts en e):=by
 intro st r s9 h
 unfold productP at h
 simp only[ex_ok,Prod.exists] at h
 obtain⟨l,s1,h1,h2⟩:=h
 exact rankLoop_fwd (applyP_fwd he) _ _ _ _ _ st (applyP_fwd he _ _ _ h1) h2
theorem sumP_fwd {e:PS→Except PE (Nat × PS)} (he:Mono ts e):Mono ts (sumP ts en e):=by
 intro st r s9 h
 unfold sumP at h
 simp only[ex_ok,Prod.exists] at h
 obtain⟨l,s1,h1,h2⟩:=h
 exact rankLoop_fwd (productP_fwd he) _ _ _ _ _ st (productP_fwd he _ _ _ h1) h2
theorem compareP_fwd {e:PS→Except PE (Nat × PS)} (he:Mono ts e):Mono ts (compareP ts en e):=by
 intro st r s9 h
 unfold compareP at h
 simp only[ex_ok,Prod.exists] at h
 obtain⟨l,s1,h1,h2⟩:=h
 have f1:=sumP_fwd he _ _ _ h1
 by_cases hu:isP ts s1.i sgEq2=true
 ·rw[if_pos hu] at h2
  have f2:=primP_fwd (sumP_fwd he) h2
  have:=f2.lt
  exact f1.trans ⟨by dsimp only at *;omega,f2.le,f2.last,f2.more,f2.ne,f2.most⟩
 ·rw[if_neg hu] at h2
  by_cases hv:isP ts s1.i sgLess=true
  ·rw[if_pos hv] at h2
   have f2:=primP_fwd (sumP_fwd he) h2
   have:=f2.lt
   exact f1.trans ⟨by dsimp only at *;omega,f2.le,f2.last,f2.more,f2.ne,f2.most⟩
  ·rw[if_neg hv] at h2
   injection h2 with h2;injection h2 with h3 h4;subst h3 h4;exact f1
theorem openP_fwd {e:PS→Except PE (Nat × PS)} (he:Mono ts e):Mono ts (openP ts en e):=by
 intro st r s9 h
 unfold openP at h
 have sh : ∀(k:Nat) (s:PS),s.i=st.i+k→s.ns=st.ns→Fwd ts s r s9→Fwd ts st r s9:=fun k s hi hn f=>⟨by have:=f.lt;omega,f.le,f.last,by rw[← hn];exact f.more,by rw[← hn];exact f.ne,f.most⟩
 by_cases h0:isP ts st.i kwFun=true
 ·rw[if_pos h0] at h;exact sh 1 ⟨st.i+1,st.ns⟩ rfl rfl (funP_fwd he h)
 rw[if_neg h0] at h
 by_cases h1:isP ts st.i kwLet=true
 ·rw[if_pos h1] at h
  by_cases h2:isP ts (st.i+1) kwRec=true
  ·rw[if_pos h2] at h;exact sh 2 ⟨st.i+2,st.ns⟩ rfl rfl (recP_fwd he h)
  ·rw[if_neg h2] at h;exact sh 1 ⟨st.i+1,st.ns⟩ rfl rfl (letP_fwd he h)
 rw[if_neg h1] at h
 by_cases h3:isP ts st.i kwIf=true
 ·rw[if_pos h3] at h;exact sh 1 ⟨st.i+1,st.ns⟩ rfl rfl (ifP_fwd he h)
 ·rw[if_neg h3] at h;exact compareP_fwd he _ _ _ h
theorem exprP_fwd : ∀r,Mono ts (exprP ts en r)
 | 0=>fun st r s9 h=>by cases h
 | r+1=>fun st r' s9 h=>openP_fwd (exprP_fwd r) st r' s9 h
end
theorem bg_cong {ks k2:Nat→List Int} : ∀(n i:Nat),i<n→(∀j,j≤i→ks j=k2 j)→bg ks i=bg k2 i
 | 0,i,h,_=>by omega
 | n+1,i,h,hk=>by
  rw[bg_eq ks,bg_eq k2,hk i (Nat.le_refl _)]
  exact bgK_congr _ _ (bg_le ks) _ _ fun j hj=>bg_cong n j (by omega) fun m hm=>hk m (by omega)
theorem ksN_app (ns l:List Nd) (j:Nat) (h:j<ns.length):ksN (ns++l) j=ksN ns j:=by
 unfold ksN
 rw[List.getD_eq_getElem?_getD,List.getD_eq_getElem?_getD,List.getElem?_append_left h]
theorem bg_app (ns l:List Nd) (i:Nat) (h:i<ns.length):bg (ksN (ns++l)) i=bg (ksN ns) i:=
 bg_cong (i+1) i (by omega) fun j hj=>ksN_app ns l j (by omega)
theorem ksN_last (ns:List Nd) (x:Nd):ksN (ns++[x]) ns.length=kidsL x.k x.a x.b x.c:=by
 unfold ksN
 rw[List.getD_eq_getElem?_getD,List.getElem?_append_right (Nat.le_refl _),Nat.sub_self];rfl
theorem part0 {ns:List Nd} {x:Nd} (hk:kidsL x.k x.a x.b x.c=[]):bg (ksN (ns++[x])) ns.length=ns.length:=by
 rw[bg_eq,ksN_last,hk];rfl
theorem part1 {ns:List Nd} {x:Nd} {a lo:Nat} (hk:kidsL x.k x.a x.b x.c=[(a:Int)]) (ha:a+1=ns.length) (h1:bg (ksN ns) a=lo):bg (ksN (ns++[x])) ns.length=lo:=by
 rw[bg_eq,ksN_last,hk]
 show bgK _ [(a:Int)] _=_
 unfold bgK
 rw[if_pos (by omega),show ((ns.length:Int)-1).toNat=a by omega,bg_app _ _ _ (by omega),h1,if_neg (by omega)]
 rfl
theorem part2 {ns:List Nd} {x:Nd} {a b lo:Nat} (hk:kidsL x.k x.a x.b x.c=[(a:Int),(b:Int)]) (hb:b+1=ns.length) (hab:a<b) (h2:bg (ksN ns) b=((a+1:Nat):Int)) (h1:bg (ksN ns) a=lo):bg (ksN (ns++[x])) ns.length=lo:=by
 rw[bg_eq,ksN_last,hk]
 show bgK _ [(b:Int),(a:Int)] _=_
 unfold bgK
 rw[if_pos (by omega),show ((ns.length:Int)-1).toNat=b by omega,bg_app _ _ _ (by omega),h2,if_neg (by omega)]
 unfold bgK
 rw[if_pos (by omega),show (((a+1:Nat):Int)-1).toNat=a by omega,bg_app _ _ _ (by omega),h1,if_neg (by omega)]
 rfl
theorem part3 {ns:List Nd} {x:Nd} {a b c lo:Nat} (hk:kidsL x.k x.a x.b x.c=[(a:Int),(b:Int),(c:Int)]) (hc:c+1=ns.length) (hbc:b<c) (hab:a<b) (h3:bg (ksN ns) c=((b+1:Nat):Int)) (h2:bg (ksN ns) b=((a+1:Nat):Int)) (h1:bg (ksN ns) a=lo):bg (ksN (ns++[x])) ns.length=lo:=by
 rw[bg_eq,ksN_last,hk]
 show bgK _ [(c:Int),(b:Int),(a:Int)] _=_
 unfold bgK
 rw[if_pos (by omega),show ((ns.length:Int)-1).toNat=c by omega,bg_app _ _ _ (by omega),h3,if_neg (by omega)]
 unfold bgK
 rw[if_pos (by omega),show (((b+1:Nat):Int)-1).toNat=b by omega,bg_app _ _ _ (by omega),h2,if_neg (by omega)]
 unfold bgK
 rw[if_pos (by omega),show (((a+1:Nat):Int)-1).toNat=a by omega,bg_app _ _ _ (by omega),h1,if_neg (by omega)]
 rfl
def OkM (M:Int) (t:Nd):Prop:=okNd (okNm true) t=true∧0≤t.p∧t.p<M
structure TsOk (ts:List Tk) (M:Int):Prop where
 nm : ∀t∈ts,t.kind=0→nmB t.text=true
 num : ∀t∈ts,t.kind=1→0≤t.num∧t.num≤1073741823
 at_ : ∀t∈ts,0≤t.at_∧t.at_<M
 most:M≤4096
theorem z0:ba0.toList=[]:=by unfold ba0;rw[ByteArray.toList_eq]
section
variable {M : Int} (hM : M ≤ 4096) {p : Int} (hp : 0 ≤ p ∧ p < M)
include hM hp
theorem okM0 {x:ByteArray} (hx:nmB x.data.toList=true):OkM M ⟨0,0,0,0,0,x,ba0,ba0,ba0,p⟩:=by
 refine⟨?_,hp⟩
 unfold okNd plainB numB okNm namedB namesL
 simp[z0,hx];omega
theorem okM1 {n:Int} (hn:0≤n∧n≤1073741823):OkM M ⟨1,0,0,0,n,ba0,ba0,ba0,ba0,p⟩:=by
 refine⟨?_,hp⟩
 unfold okNd plainB numB okNm namedB namesL
 simp[z0];omega
theorem okM2 {n:Int} (hn:n=0∨n=1):OkM M ⟨2,0,0,0,n,ba0,ba0,ba0,ba0,p⟩:=by
 refine⟨?_,hp⟩
 unfold okNd plainB numB okNm namedB namesL
 simp[z0];omega
theorem okM3 {a:Int} {x:ByteArray} (hx:nmB x.data.toList=true):OkM M ⟨3,a,0,0,0,ba0,x,ba0,ba0,p⟩:=by
 refine⟨?_,hp⟩
 unfold okNd plainB numB okNm namedB namesL
 simp[z0,hx];omega
theorem okM4 {a b:Int}:OkM M ⟨4,a,b,0,0,ba0,ba0,ba0,ba0,p⟩:=by
 refine⟨?_,hp⟩
 unfold okNd plainB numB okNm namedB namesL
 simp[z0];omega
theorem okM5 {a b:Int} {x:ByteArray} (hx:nmB x.data.toList=true):OkM M ⟨5,a,b,0,0,ba0,x,ba0,ba0,p⟩:=by
 refine⟨?_,hp⟩
 unfold okNd plainB numB okNm namedB namesL
 simp[z0,hx];omega
theorem okM6 {a b:Int} {x y:ByteArray} (hx:nmB x.data.toList=true) (hy:nmB y.data.toList=true):OkM M ⟨6,a,b,0,0,ba0,x,y,ba0,p⟩:=by
 refine⟨?_,hp⟩
 unfold okNd plainB numB okNm namedB namesL
 simp[z0,hx,hy];omega
theorem okM7 {a b c:Int}:OkM M ⟨7,a,b,c,0,ba0,ba0,ba0,ba0,p⟩:=by
 refine⟨?_,hp⟩
 unfold okNd plainB numB okNm namedB namesL
 simp[z0];omega
theorem okM8 {a b n:Int} (hn:0≤n∧n≤5):OkM M ⟨8,a,b,0,n,ba0,ba0,ba0,ba0,p⟩:=by
 refine⟨?_,hp⟩
 unfold okNd plainB numB okNm namedB namesL
 simp[z0];omega
theorem okM9 {a:Int} {x:ByteArray} (hx:nmB x.data.toList=true):OkM M ⟨9,a,0,0,0,x,ba0,ba0,ba0,p⟩:=by
 refine⟨?_,hp⟩
 unfold okNd plainB numB okNm namedB namesL
 simp[z0,hx];omega
theorem okM10 {a b c:Int} {o x y z:ByteArray} (ho:nmB o.data.toList=true) (hx:nmB x.data.toList=true) (hy:nmB y.data.toList=true) (hz:nmB z.data.toList=true):OkM M ⟨10,a,b,c,0,o,x,y,z,p⟩:=by
 refine⟨?_,hp⟩
 unfold okNd plainB numB okNm namedB namesL
 simp[ho,hx,hy,hz];omega
end
structure Gr (M:Int) (st:PS) (r:Nat) (s1:PS):Prop where
 part:bg (ksN s1.ns) r=st.ns.length
 ok : ∀t∈s1.ns,t∈st.ns∨OkM M t
def MonoG (ts:List Tk) (M:Int) (e:PS→Except PE (Nat × PS)):Prop:= ∀st r s1,e st= .ok (r,s1)→Fwd ts st r s1∧Gr M st r s1
theorem ok_trans {M:Int} {a b c:List Nd} (h : ∀t∈b,t∈a∨OkM M t) (h' : ∀t∈c,t∈b∨OkM M t) : ∀t∈c,t∈a∨OkM M t:=fun t ht=>by
 rcases h' t ht with h1|h1
 ·exact h t h1
 ·exact .inr h1
theorem ok_put {M:Int} {a b:List Nd} {x:Nd} (h : ∀t∈b,t∈a∨OkM M t) (hx:OkM M x) : ∀t∈b++[x],t∈a∨OkM M t:=fun t ht=>by
 rcases List.mem_append.1 ht with h1|h1
 ·exact h t h1
 ·rw[List.mem_singleton.1 h1];exact .inr hx
theorem part_on {n1 n2:List Nd} {r:Nat} {lo:Int} (f:r+1=n1.length) (h:bg (ksN n1) r=lo) (m : ∃l,n2=n1++l):bg (ksN n2) r=lo:=by
 obtain⟨l,hl⟩:=m
 rw[hl,bg_app _ _ _ (by omega)];exact h
theorem mono_of {ts:List Tk} {M:Int} {e:PS→Except PE (Nat × PS)} (he:MonoG ts M e):Mono ts e:=fun st r s1 h=>(he st r s1 h).1
theorem gr_put0 {ts:List Tk} {en M:Int} {x:Nd} {st s1 s9:PS} {r:Nat} (h:putP ts en x s1= .ok (r,s9)) (hn:s1.ns=st.ns) (hk:kidsL x.k x.a x.b x.c=[]) (hx:OkM M x):Gr M st r s9:=by
 obtain⟨rfl,rfl,_⟩:=putP_ok h
 rw[hn]
 exact⟨part0 hk,ok_put (fun t ht=> .inl ht) hx⟩
theorem gr_two {ts:List Tk} {en M:Int} {st0 st s1 s9:PS} {l a r:Nat} {x:Nd} (f0:Fwd ts st0 l st) (g0:Gr M st0 l st) (f1:Fwd ts st a s1) (g1:Gr M st a s1) (h:putP ts en x s1= .ok (r,s9)) (hk:kidsL x.k x.a x.b x.c=[(l:Int),(a:Int)]) (hx:OkM M x):Gr M st0 r s9:=by
 obtain⟨rfl,rfl,_⟩:=putP_ok h
 have e0:=f0.last
 have e1:=f1.last
 have e2:=f1.ne
 exact⟨part2 hk f1.last (by omega) (by rw[g1.part, ← e0]) (part_on f0.last g0.part f1.more),ok_put (ok_trans g0.ok g1.ok) hx⟩
section
variable {ts : List Tk} {en M : Int} (hT : TsOk ts M)
include hT
theorem here_ok {i:Nat} (h:i<ts.length):0≤hereP ts en i∧hereP ts en i<M:=by
 unfold hereP
 rw[List.getElem?_eq_getElem h]
 exact hT.at_ _ (List.getElem_mem h)
theorem name_ok {st s1:PS} {x:ByteArray} (h:nameP ts en st= .ok (x,s1)):nmB x.data.toList=true:=by
 obtain⟨_,_,t,ht,hk,rfl⟩:=nameP_ok h
 exact hT.nm t (List.mem_of_getElem? ht) hk
theorem funP_gr {e:PS→Except PE (Nat × PS)} (he:MonoG ts M e) {b:Int} (hb:0≤b∧b<M) {st s9:PS} {r:Nat} (h:funP ts en e b st= .ok (r,s9)):Gr M st r s9:=by
 unfold funP at h
 simp only[ex_ok,Prod.exists] at h
 obtain⟨x,s1,h1,s2,h2,a,s3,h3,h4⟩:=h
 have n1:=name_ok hT h1
 obtain⟨rfl,l1,_⟩:=nameP_ok h1
 obtain⟨_,rfl,l2⟩:=wantP_ok h2
 obtain⟨f3,g3⟩:=he _ _ _ h3
 obtain⟨rfl,rfl,_⟩:=putP_ok h4
 exact⟨part1 rfl f3.last g3.part,ok_put g3.ok (okM3 hT.most hb n1)⟩
theorem letP_gr {e:PS→Except PE (Nat × PS)} (he:MonoG ts M e) {b:Int} (hb:0≤b∧b<M) {st s9:PS} {r:Nat} (h:letP ts en e b st= .ok (r,s9)):Gr M st r s9:=by
 unfold letP at h
 simp only[ex_ok,Prod.exists] at h
 obtain⟨x,s1,h1,s2,h2,a,s3,h3,s4,h4,a2,s5,h5,h6⟩:=h
 have n1:=name_ok hT h1
 obtain⟨rfl,l1,_⟩:=nameP_ok h1
 obtain⟨_,rfl,l2⟩:=wantP_ok h2
 obtain⟨f3,g3⟩:=he _ _ _ h3
 obtain⟨_,rfl,l4⟩:=wantP_ok h4
 obtain⟨f5,g5⟩:=he _ _ _ h5
 obtain⟨rfl,rfl,_⟩:=putP_ok h6
 have e3:=f3.last
 have e5:=f5.last
 have e6:=f5.ne
 refine⟨part2 rfl f5.last (by dsimp only at *;omega) (by rw[g5.part];dsimp only;rw[← e3]) (part_on f3.last g3.part f5.more),ok_put (ok_trans g3.ok g5.ok) (okM5 hT.most hb n1)⟩
theorem recP_gr {e:PS→Except PE (Nat × PS)} (he:MonoG ts M e) {b:Int} (hb:0≤b∧b<M) {st s9:PS} {r:Nat} (h:recP ts en e b st= .ok (r,s9)):Gr M st r s9:=by
 unfold recP at h
 simp only[ex_ok,Prod.exists] at h
 obtain⟨x,s1,h1,y,s1',h1',s2,h2,a,s3,h3,s4,h4,a2,s5,h5,h6⟩:=h
 have n1:=name_ok hT h1
 have n2:=name_ok hT h1'
 obtain⟨rfl,l1,_⟩:=nameP_ok h1
 obtain⟨rfl,l1',_⟩:=nameP_ok h1'
 obtain⟨_,rfl,l2⟩:=wantP_ok h2
 obtain⟨f3,g3⟩:=he _ _ _ h3
 obtain⟨_,rfl,l4⟩:=wantP_ok h4
 obtain⟨f5,g5⟩:=he _ _ _ h5
 obtain⟨rfl,rfl,_⟩:=putP_ok h6
 have e3:=f3.last
 have e5:=f5.last
 have e6:=f5.ne
 refine⟨part2 rfl f5.last (by dsimp only at *;omega) (by rw[g5.part];dsimp only;rw[← e3]) (part_on f3.last g3.part f5.more),ok_put (ok_trans g3.ok g5.ok) (okM6 hT.most hb n1 n2)⟩
theorem ifP_gr {e:PS→Except PE (Nat × PS)} (he:MonoG ts M e) {b:Int} (hb:0≤b∧b<M) {st s9:PS} {r:Nat} (h:ifP ts en e b st= .ok (r,s9)):Gr M st r s9:=by
 unfold ifP at h
 simp only[ex_ok,Prod.exists] at h
 obtain⟨a,s1,h1,s2,h2,a2,s3,h3,s4,h4,a3,s5,h5,h6⟩:=h
 obtain⟨f1,g1⟩:=he _ _ _ h1
 obtain⟨_,rfl,l2⟩:=wantP_ok h2
 obtain⟨f3,g3⟩:=he _ _ _ h3
 obtain⟨_,rfl,l4⟩:=wantP_ok h4
 obtain⟨f5,g5⟩:=he _ _ _ h5
 obtain⟨rfl,rfl,_⟩:=putP_ok h6
 have e1:=f1.last
 have e3:=f3.last
 have e5:=f5.last
 have e6:=f5.ne
 have e7:=f3.ne
 have k1:=part_on f1.last g1.part f3.more
 refine⟨part3 rfl f5.last (by dsimp only at *;omega) (by dsimp only at *;omega) (by rw[g5.part];dsimp only;rw[← e3]) (part_on f3.last (by rw[g3.part];dsimp only;rw[← e1]) f5.more) ?_,ok_put (ok_trans g1.ok (ok_trans g3.ok g5.ok)) (okM7 hT.most hb)⟩
 obtain⟨l,hl⟩:=f5.more
 rw[hl,bg_app _ _ _ (by dsimp only at *;omega)];exact k1
theorem handleP_gr {e:PS→Except PE (Nat × PS)} (he:MonoG ts M e) {b:Int} (hb:0≤b∧b<M) {st s9:PS} {r:Nat} (h:handleP ts en e b st= .ok (r,s9)):Gr M st r s9:=by
 unfold handleP at h
 simp only[ex_ok,Prod.exists] at h
 obtain⟨a,s1,h1,s2,h2,o,s3,h3,x,s4,h4,y,s5,h5,s6,h6,b2,s7,h7,s8,h8,z,s10,h10,s11,h11,c,s12,h12,s13,h13,h14⟩:=h
 have n3:=name_ok hT h3
 have n4:=name_ok hT h4
 have n5:=name_ok hT h5
 have n10:=name_ok hT h10
 obtain⟨f1,g1⟩:=he _ _ _ h1
 obtain⟨_,rfl,l2⟩:=wantP_ok h2
 obtain⟨rfl,l3,_⟩:=nameP_ok h3
 obtain⟨rfl,l4,_⟩:=nameP_ok h4
 obtain⟨rfl,l5,_⟩:=nameP_ok h5
 obtain⟨_,rfl,l6⟩:=wantP_ok h6
 obtain⟨f7,g7⟩:=he _ _ _ h7
 obtain⟨_,rfl,l8⟩:=wantP_ok h8
 obtain⟨rfl,l10,_⟩:=nameP_ok h10
 obtain⟨_,rfl,l11⟩:=wantP_ok h11
 obtain⟨f12,g12⟩:=he _ _ _ h12
 obtain⟨_,rfl,l13⟩:=wantP_ok h13
 obtain⟨rfl,rfl,_⟩:=putP_ok h14
 have e1:=f1.last
 have e3:=f7.last
 have e5:=f12.last
 have e6:=f12.ne
 have e7:=f7.ne
 have k1:=part_on f1.last g1.part f7.more
 refine⟨part3 rfl f12.last (by dsimp only at *;omega) (by dsimp only at *;omega) (by rw[g12.part];dsimp only;rw[← e3]) (part_on f7.last (by rw[g7.part];dsimp only;rw[← e1]) f12.more) ?_,ok_put (ok_trans g1.ok (ok_trans g7.ok g12.ok)) (okM10 hT.most hb n3 n4 n5 n10)⟩
 obtain⟨l,hl⟩:=f12.more
 rw[hl,bg_app _ _ _ (by dsimp only at *;omega)];exact k1
theorem atomP_gr {e:PS→Except PE (Nat × PS)} (he:MonoG ts M e):MonoG ts M (atomP ts en e):=by
 intro st r s9 h
 refine⟨atomP_fwd (mono_of he) _ _ _ h, ?_⟩
 unfold atomP at h
 cases ht:ts[st.i]? with
 | none=>rw[ht] at h;cases h
 | some t=>
  rw[ht] at h
  have hl:=(List.getElem?_eq_some_iff.1 ht).1
  have hm:=List.mem_of_getElem? ht
  have hat:=hT.at_ t hm
  dsimp only at h
  by_cases h0:t.kind=0
  ·rw[if_pos h0] at h;exact gr_put0 h rfl rfl (okM0 hT.most hat (hT.nm t hm h0))
  rw[if_neg h0] at h
  by_cases h1:t.kind=1
  ·rw[if_pos h1] at h;exact gr_put0 h rfl rfl (okM1 hT.most hat (hT.num t hm h1))
  rw[if_neg h1] at h
  by_cases h2:isP ts st.i kwTrue=true
  ·rw[if_pos h2] at h;exact gr_put0 h rfl rfl (okM2 hT.most hat (.inr rfl))
  rw[if_neg h2] at h
  by_cases h3:isP ts st.i kwFalse=true
  ·rw[if_pos h3] at h;exact gr_put0 h rfl rfl (okM2 hT.most hat (.inl rfl))
  rw[if_neg h3] at h
  by_cases h4:isP ts st.i sgOpen=true
  ·rw[if_pos h4] at h
   simp only[ex_ok,Prod.exists] at h
   obtain⟨a,s1,g1,s2,g2,g3⟩:=h
   injection g3 with g3
   injection g3 with g4 g5
   subst g4 g5
   obtain⟨_,rfl,l2⟩:=wantP_ok g2
   obtain⟨_,g⟩:=he _ _ _ g1
   exact⟨g.part,g.ok⟩
  rw[if_neg h4] at h
  by_cases h5:isP ts st.i kwHandle=true
  ·rw[if_pos h5] at h
   have g:=handleP_gr hT he hat h
   exact⟨g.part,g.ok⟩
  ·rw[if_neg h5] at h;cases h
theorem firstP_gr {e:PS→Except PE (Nat × PS)} (he:MonoG ts M e):MonoG ts M (firstP ts en e):=by
 intro st r s9 h
 refine⟨firstP_fwd (mono_of he) _ _ _ h, ?_⟩
 unfold firstP at h
 by_cases h0:isP ts st.i kwDo=true
 ·rw[if_pos h0] at h
  have hb:=here_ok (en:=en) hT (isP_lt h0)
  simp only[ex_ok,Prod.exists] at h
  obtain⟨o,s1,h1,a,s2,h2,h3⟩:=h
  have n1:=name_ok hT h1
  obtain⟨rfl,l1,_⟩:=nameP_ok h1
  obtain⟨f2,g2⟩:=atomP_gr hT he _ _ _ h2
  obtain⟨rfl,rfl,_⟩:=putP_ok h3
  exact⟨part1 rfl f2.last g2.part,ok_put g2.ok (okM9 hT.most hb n1)⟩
 ·rw[if_neg h0] at h;exact(atomP_gr hT he _ _ _ h).2
theorem appLoop_gr {e:PS→Except PE (Nat × PS)} (he:MonoG ts M e) {b:Int} (hb:0≤b∧b<M) : ∀(f l:Nat) (st:PS) (r:Nat) (s9:PS) (st0:PS),Fwd ts st0 l st→Gr M st0 l st→appLoop ts en e b f l st= .ok (r,s9)→Gr M st0 r s9
 | 0,l,st,r,s9,st0,_,_,h=>by cases h
 | f+1,l,st,r,s9,st0,h0,g0,h=>by
  unfold appLoop at h
  by_cases hs:startsP ts st.i=true
  ·rw[if_pos hs] at h
   simp only[ex_ok,Prod.exists] at h
   obtain⟨a,s1,h1,l2,s2,h2,h3⟩:=h
   obtain⟨f1,g1⟩:=atomP_gr hT he _ _ _ h1
   have f2:=fwd_put st h2 f1.lt f1.le f1.more
   exact appLoop_gr he hb f l2 s2 r s9 st0 (h0.trans f2) (gr_two h0 g0 f1 g1 h2 rfl (okM4 hT.most hb)) h3
  ·rw[if_neg hs] at h
   injection h with h;injection h with h1 h2;subst h1 h2;exact g0
theorem applyP_gr {e:PS→Except PE (Nat × PS)} (he:MonoG ts M e):MonoG ts M (applyP ts en e):=by
 intro st r s9 h
 refine⟨applyP_fwd (mono_of he) _ _ _ h, ?_⟩
 unfold applyP at h
 simp only[ex_ok,Prod.exists] at h
 obtain⟨l,s1,h1,h2⟩:=h
 obtain⟨f1,g1⟩:=firstP_gr hT he _ _ _ h1
 exact appLoop_gr hT he (here_ok (en:=en) hT (by have:=f1.lt;have:=f1.le;omega)) _ _ _ _ _ st f1 g1 h2
theorem rankLoop_gr {o:PS→Except PE (Nat × PS)} (ho:MonoG ts M o) {u v:List UInt8} {nu nv:Int} (hu:0≤nu∧nu≤5) (hv:0≤nv∧nv≤5) : ∀(f l:Nat) (st:PS) (r:Nat) (s9:PS) (st0:PS),Fwd ts st0 l st→Gr M st0 l st→rankLoop ts en u v nu nv o f l st= .ok (r,s9)→Gr M st0 r s9
 | 0,l,st,r,s9,st0,_,_,h=>by cases h
 | f+1,l,st,r,s9,st0,h0,g0,h=>by
  have key : ∀(n:Int),0≤n∧n≤5→st.i<ts.length→ ∀l2 s1,primP ts en n (hereP ts en st.i) l o ⟨st.i+1,st.ns⟩= .ok (l2,s1)→Fwd ts st0 l2 s1∧Gr M st0 l2 s1:=by
   intro n hn hl l2 s1 h1
   have f1:=primP_fwd (mono_of ho) h1
   unfold primP at h1
   simp only[ex_ok,Prod.exists] at h1
   obtain⟨a,s2,h2,h3⟩:=h1
   obtain⟨f2,g2⟩:=ho _ _ _ h2
   have q2:Fwd ts st a s2:=⟨by have:=f2.lt;dsimp only at *;omega,f2.le,f2.last,f2.more,f2.ne,f2.most⟩
   have:=f1.lt
   exact⟨h0.trans ⟨by dsimp only at *;omega,f1.le,f1.last,f1.more,f1.ne,f1.most⟩,gr_two h0 g0 q2 ⟨g2.part,g2.ok⟩ h3 rfl (okM8 hT.most (here_ok (en:=en) hT hl) hn)⟩
  unfold rankLoop at h
  by_cases hu1:isP ts st.i u=true
  ·rw[if_pos hu1] at h
   simp only[ex_ok,Prod.exists] at h
   obtain⟨l2,s1,h1,h2⟩:=h
   obtain⟨f1,g1⟩:=key nu hu (isP_lt hu1) _ _ h1
   exact rankLoop_gr ho hu hv f l2 s1 r s9 st0 f1 g1 h2
  ·rw[if_neg hu1] at h
   by_cases hv1:isP ts st.i v=true
   ·rw[if_pos hv1] at h
    simp only[ex_ok,Prod.exists] at h
    obtain⟨l2,s1,h1,h2⟩:=h
    obtain⟨f1,g1⟩:=key nv hv (isP_lt hv1) _ _ h1
    exact rankLoop_gr ho hu hv f l2 s1 r s9 st0 f1 g1 h2
   ·rw[if_neg hv1] at h
    injection h with h;injection h with h1 h2;subst h1 h2;exact g0
theorem productP_gr {e:PS→Except PE (Nat × PS)} (he:MonoG ts M e):MonoG ts M (productP ts en e):=by
 intro st r s9 h
 refine⟨productP_fwd (mono_of he) _ _ _ h, ?_⟩
 unfold productP at h
 simp only[ex_ok,Prod.exists] at h
 obtain⟨l,s1,h1,h2⟩:=h
 obtain⟨f1,g1⟩:=applyP_gr hT he _ _ _ h1
 exact rankLoop_gr hT (applyP_gr hT he) (by omega) (by omega) _ _ _ _ _ st f1 g1 h2
theorem sumP_gr {e:PS→Except PE (Nat × PS)} (he:MonoG ts M e):MonoG ts M (sumP ts en e):=by
 intro st r s9 h
 refine⟨sumP_fwd (mono_of he) _ _ _ h, ?_⟩
 unfold sumP at h
 simp only[ex_ok,Prod.exists] at h
 obtain⟨l,s1,h1,h2⟩:=h
 obtain⟨f1,g1⟩:=productP_gr hT he _ _ _ h1
 exact rankLoop_gr hT (productP_gr hT he) (by omega) (by omega) _ _ _ _ _ st f1 g1 h2
theorem compareP_gr {e:PS→Except PE (Nat × PS)} (he:MonoG ts M e):MonoG ts M (compareP ts en e):=by
 intro st r s9 h
 refine⟨compareP_fwd (mono_of he) _ _ _ h, ?_⟩
 unfold compareP at h
 simp only[ex_ok,Prod.exists] at h
 obtain⟨l,s1,h1,h2⟩:=h
 obtain⟨f1,g1⟩:=sumP_gr hT he _ _ _ h1
 have key : ∀(n:Int),0≤n∧n≤5→s1.i<ts.length→primP ts en n (hereP ts en s1.i) l (sumP ts en e) ⟨s1.i+1,s1.ns⟩= .ok (r,s9)→Gr M st r s9:=by
  intro n hn hl h3
  unfold primP at h3
  simp only[ex_ok,Prod.exists] at h3
  obtain⟨a,s2,h4,h5⟩:=h3
  obtain⟨f2,g2⟩:=sumP_gr hT he _ _ _ h4
  have q2:Fwd ts s1 a s2:=⟨by have:=f2.lt;dsimp only at *;omega,f2.le,f2.last,f2.more,f2.ne,f2.most⟩
  exact gr_two f1 g1 q2 ⟨g2.part,g2.ok⟩ h5 rfl (okM8 hT.most (here_ok (en:=en) hT hl) hn)
 by_cases hu:isP ts s1.i sgEq2=true
 ·rw[if_pos hu] at h2;exact key 4 (by omega) (isP_lt hu) h2
 ·rw[if_neg hu] at h2
  by_cases hv:isP ts s1.i sgLess=true
  ·rw[if_pos hv] at h2;exact key 5 (by omega) (isP_lt hv) h2
  ·rw[if_neg hv] at h2
   injection h2 with h2;injection h2 with h3 h4;subst h3 h4;exact g1
theorem openP_gr {e:PS→Except PE (Nat × PS)} (he:MonoG ts M e):MonoG ts M (openP ts en e):=by
 intro st r s9 h
 refine⟨openP_fwd (mono_of he) _ _ _ h, ?_⟩
 unfold openP at h
 by_cases h0:isP ts st.i kwFun=true
 ·rw[if_pos h0] at h
  have g:=funP_gr hT he (here_ok (en:=en) hT (isP_lt h0)) h
  exact⟨g.part,g.ok⟩
 rw[if_neg h0] at h
 by_cases h1:isP ts st.i kwLet=true
 ·rw[if_pos h1] at h
  by_cases h2:isP ts (st.i+1) kwRec=true
  ·rw[if_pos h2] at h
   have g:=recP_gr hT he (here_ok (en:=en) hT (isP_lt h1)) h
   exact⟨g.part,g.ok⟩
  ·rw[if_neg h2] at h
   have g:=letP_gr hT he (here_ok (en:=en) hT (isP_lt h1)) h
   exact⟨g.part,g.ok⟩
 rw[if_neg h1] at h
 by_cases h3:isP ts st.i kwIf=true
 ·rw[if_pos h3] at h
  have g:=ifP_gr hT he (here_ok (en:=en) hT (isP_lt h3)) h
  exact⟨g.part,g.ok⟩
 ·rw[if_neg h3] at h;exact(compareP_gr hT he _ _ _ h).2
theorem exprP_gr : ∀r,MonoG ts M (exprP ts en r)
 | 0=>fun st r s9 h=>by cases h
 | r+1=>fun st r' s9 h=>openP_gr hT (exprP_gr r) st r' s9 h
end
def shT (d:Int) (t:Tk):Tk:= { t with at_:=t.at_+d }
section
variable {ts : List Tk} {d en en' : Int}
end
theorem baseP_ok {ts:List Tk} {en:Int} {st s1:PS} {x:Int} (h:baseP ts en st= .ok (x,s1)):s1=⟨st.i+1,st.ns⟩∧st.i<ts.length∧(x=0∨x=1):=by
 unfold baseP at h
 by_cases h0:isP ts st.i kwInt=true
 ·rw[if_pos h0] at h;injection h with h;injection h with h1 h2;exact⟨h2.symm,isP_lt h0, .inl h1.symm⟩
 ·rw[if_neg h0] at h
  by_cases h1:isP ts st.i kwBool=true
  ·rw[if_pos h1] at h;injection h with h;injection h with h2 h3;exact⟨h3.symm,isP_lt h1, .inr h2.symm⟩
  ·rw[if_neg h1] at h;cases h
theorem declP_ok {ts:List Tk} {en:Int} {os os':List Or} {st s1:PS} (h:declP ts en os st= .ok (os',s1)):st.i<s1.i∧s1.i≤ts.length∧s1.ns=st.ns∧os.length<4∧ ∃o,os'=os++[o]∧(o.f=0∨o.f=1)∧(o.t=0∨o.t=1)∧ ∃t∈ts,t.kind=0∧o.nm=bs t.text:=by
 unfold declP at h
 by_cases h4:4≤os.length
 ·rw[if_pos h4] at h;cases h
 rw[if_neg h4] at h
 simp only[ex_ok,Prod.exists] at h
 obtain⟨x,s2,h1,s3,h2,a,s4,h3,s5,h5,b,s6,h6,s7,h7,h8⟩:=h
 injection h8 with h8
 injection h8 with h9 h10
 subst h9 h10
 obtain⟨rfl,l1,t,ht,hk,rfl⟩:=nameP_ok h1
 obtain⟨_,rfl,l2⟩:=wantP_ok h2
 obtain⟨rfl,l3,b1⟩:=baseP_ok h3
 obtain⟨_,rfl,l5⟩:=wantP_ok h5
 obtain⟨rfl,l6,b2⟩:=baseP_ok h6
 obtain⟨_,rfl,l7⟩:=wantP_ok h7
 exact⟨by dsimp only;omega,by dsimp only at *;omega,rfl,by omega,_,rfl,b1,b2,t,List.mem_of_getElem? ht,hk,rfl⟩
theorem declLoop_ok {ts:List Tk} {en:Int} : ∀(f:Nat) (os os':List Or) (st s1:PS),declLoop ts en f os st= .ok (os',s1)→st.i≤ts.length→st.i≤s1.i∧s1.i≤ts.length∧s1.ns=st.ns∧(os.length≤4→os'.length≤4)∧ ∀o∈os',o∈os∨((o.f=0∨o.f=1)∧(o.t=0∨o.t=1)∧ ∃t∈ts,t.kind=0∧o.nm=bs t.text)
 | 0,os,os',st,s1,h,_=>by cases h
 | f+1,os,os',st,s1,h,hl=>by
  unfold declLoop at h
  by_cases h0:isP ts st.i kwOp=true
  ·rw[if_pos h0] at h
   simp only[ex_ok,Prod.exists] at h
   obtain⟨o2,s2,h1,h2⟩:=h
   obtain⟨a1,a2,a3,a4,o,rfl,a5,a6,a7⟩:=declP_ok h1
   obtain⟨b1,b2,b3,b4,b5⟩:=declLoop_ok f _ _ _ _ h2 a2
   refine⟨by omega,b2,b3.trans a3,fun _=>b4 (by simp;omega),fun x hx=> ?_⟩
   rcases b5 x hx with h|h
   ·rcases List.mem_append.1 h with h|h
    ·exact .inl h
    ·rw[List.mem_singleton.1 h];exact .inr ⟨a5,a6,a7⟩
   ·exact .inr h
  ·rw[if_neg h0] at h
   injection h with h;injection h with h1 h2;subst h1 h2
   exact⟨Nat.le_refl _,hl,rfl,id,fun x hx=> .inl hx⟩
theorem prog_tree {ts:List Tk} {en M:Int} (hT:TsOk ts M) {os:List Or} {ns:List Nd} (h:progP ts en= .ok (os,ns)) :
  treeV (okNm true) ns=true∧(∀t∈ns,OkM M t)∧os.length≤4∧ ∀o∈os,((o.f=0∨o.f=1)∧(o.t=0∨o.t=1)∧nmB o.nm.data.toList=true):=by
 unfold progP at h
 simp only[ex_ok,Prod.exists] at h
 obtain⟨o,s1,h1,r,s2,h2,h3⟩:=h
 obtain⟨a1,a2,a3,a4,a5⟩:=declLoop_ok _ _ _ _ _ h1 (Nat.zero_le _)
 obtain⟨f2,g2⟩:=exprP_gr hT 40 _ _ _ h2
 by_cases hlt:s2.i<ts.length
 ·rw[if_pos hlt] at h3;cases h3
 rw[if_neg hlt] at h3
 injection h3 with h3;injection h3 with h4 h5;subst h4 h5
 have hok : ∀t∈s2.ns,OkM M t:=fun t ht=>by
  rcases g2.ok t ht with h|h
  ·rw[a3] at h;cases h
  ·exact h
 have hl:=f2.last
 have hm:=f2.most
 refine⟨?_,hok,a4 (Nat.zero_le _),fun x hx=> ?_⟩
 ·unfold treeV
  simp only[Bool.and_eq_true,List.all_eq_true,decide_eq_true_eq]
  refine⟨⟨by omega,fun t ht=>(hok t ht).1⟩, ?_⟩
  rw[show s2.ns.length-1=r by omega,g2.part,a3];rfl
 ·rcases a5 x hx with h|⟨h1,h2,t,ht,hk,e⟩
  ·cases h
  ·exact⟨h1,h2,by rw[e];exact hT.nm t ht hk⟩
theorem first_tok {l:List UInt8} (h:l≠[]) (he:(firstF l).2.2=0):((firstF l).1.kind=0→nmB (firstF l).1.text=true)∧((firstF l).1.kind=1→0≤(firstF l).1.num∧(firstF l).1.num≤1073741823):=by
 match l,h with
 | c :: t,_=>
  simp only[firstF] at he ⊢
  by_cases hl:isL c=true
  ·simp only[hl,if_true] at he ⊢
   by_cases hk:kwB ((c :: t).take (runN (c :: t)))=true
   ·simp only[hk,if_true];exact⟨fun h=>by simp at h,fun h=>by simp at h⟩
   ·by_cases h16:((c :: t).take (runN (c :: t))).length > 16
    ·simp only[hk,h16,if_true] at he;simp at he
    ·simp only[if_neg hk,if_neg h16]
     refine⟨fun _=> ?_,fun h=>by simp at h⟩
     show nmB ((c :: t).take (runN (c :: t)))=true
     have hk':kwB ((c :: t).take (runN (c :: t)))=false:=by cases hh:kwB ((c :: t).take (runN (c :: t)));rfl;exact absurd hh hk
     have hall:=tw_all (c :: t)
     rw[← runN_take] at hall
     unfold nmB
     rw[hk']
     have hlet:letB ((c :: t).take (runN (c :: t)))=true:=by
      rw[runN_yes (isL_isN hl),List.take_succ_cons] at hall ⊢
      rw[letB_cons,hl,Bool.true_and,List.all_eq_true]
      exact fun x hx=>hall x (List.mem_cons_of_mem _ hx)
     rw[hlet,decide_eq_true (by omega)];rfl
  ·by_cases hd:isD c=true
   ·simp only[hl,hd,if_true,Bool.false_eq_true,if_false] at he ⊢
    by_cases hn:numOk ((c :: t).take (runN (c :: t)))=true
    ·simp only[hn,if_true]
     refine⟨fun h=>by simp at h,fun _=> ?_⟩
     unfold numOk at hn
     simp only[Bool.and_eq_true,decide_eq_true_eq] at hn
     have:=hn.2
     show (0:Int)≤((valF _:Nat):Int)∧((valF _:Nat):Int)≤_
     omega
    ·simp only[hn] at he;simp at he
   ·simp only[hl,hd,Bool.false_eq_true,if_false] at he ⊢
    by_cases hx:(c :: t).take (signF (c :: t))=[]
    ·simp only[hx,if_true] at he;simp at he
    ·simp only[if_neg hx];exact⟨fun h=>by simp at h,fun h=>by simp at h⟩
def TkFine (M:Int) (t:Tk):Prop:=(t.kind=0→nmB t.text=true)∧(t.kind=1→0≤t.num∧t.num≤1073741823)∧0≤t.at_∧t.at_<M
theorem lx_fine (M:Int) : ∀(f:Nat) (l:List UInt8) (p:Nat) (acc:List Tk),(∀t∈acc,TkFine M t)→(p:Int)+l.length≤M→ ∀t∈(lx f l p acc).1,TkFine M t
 | 0,l,p,acc,_,_,t,ht=>by cases ht
 | f+1,l,p,acc,ha,hp,t,ht=>by
  unfold lx at ht
  simp only[] at ht
  by_cases hm:l.drop (skipF false l)=[]
  ·rw[if_pos hm] at ht;exact ha t ht
  ·rw[if_neg hm] at ht
   by_cases he:(firstF (l.drop (skipF false l))).2.2=0
   ·rw[if_pos he] at ht
    have hpos:=firstF_pos hm he
    obtain⟨h1,h2⟩:=first_tok hm he
    have hlen:(l.drop (skipF false l)).length=l.length-skipF false l:=List.length_drop
    have hsk:=skipF_le l false
    have hne:0<(l.drop (skipF false l)).length:=List.length_pos_iff.2 hm
    refine lx_fine M f _ _ _ (fun u hu=> ?_) ?_ t ht
    ·rcases List.mem_append.1 hu with h|h
     ·exact ha u h
     ·rw[List.mem_singleton.1 h]
      exact⟨h1,h2,by dsimp only;omega,by dsimp only;omega⟩
    ·rw[List.length_drop];omega
   ·rw[if_neg he] at ht;cases ht
theorem lexR_fine (s:ByteArray) (h:(lexR s).2.2=0):TsOk (lexR s).1 s.size:=by
 unfold lexR at h ⊢
 by_cases h1:4096<s.size
 ·rw[if_pos h1] at h;simp at h
 ·rw[if_neg h1] at h ⊢
  by_cases h2:(vaV s).2=false
  ·rw[if_pos h2] at h;simp at h
  ·rw[if_neg h2]
   have hf:=lx_fine s.size (s.data.toList.length+1) s.data.toList 0 [] (fun t ht=>by cases ht) (by
    have e:s.data.toList.length=s.size:=Array.length_toList
    rw[e];omega)
   exact⟨fun t ht=>(hf t ht).1,fun t ht=>(hf t ht).2.1,fun t ht=>(hf t ht).2.2,by omega⟩
theorem parseV_may {s:ByteArray} {os:List Or} {ns:List Nd} (h:parseV s= .ok (os,ns)):treeV (okNm true) ns=true∧(∀t∈ns,OkM s.size t)∧os.length≤4∧ ∀o∈os,((o.f=0∨o.f=1)∧(o.t=0∨o.t=1)∧nmB o.nm.data.toList=true):=by
 unfold parseV at h
 by_cases h0:(lexR s).2.2=0
 ·rw[if_pos h0] at h;exact prog_tree (lexR_fine s h0) h
 ·rw[if_neg h0] at h;cases h
def PB {α:Type} (en:Int) (x:Except PE α):Prop:= ∀e,x= .error e→(401≤e.1∧e.1≤403)∧0≤e.2∧e.2≤en
theorem PB.bind {α β:Type} {en:Int} {x:Except PE α} {f:α→Except PE β} (h:PB en x) (hf : ∀a,x= .ok a→PB en (f a)):PB en (x >>= f):=by
 cases x with
 | error e=>intro e' he;injection he with he;subst he;exact h e rfl
 | ok a=>exact hf a rfl
theorem PB.ok {α:Type} {en:Int} (a:α):PB en (.ok a:Except PE α):=fun e h=>by cases h
section
variable {ts : List Tk} {en : Int} (hT : TsOk ts en) (he0 : 0 ≤ en)
include hT he0
end
structure Emb (ts ts':List Tk) (k:Nat) (d:Int):Prop where
 get : ∀i t,ts[i]? = some t→ts'[i+k]? = some (shT d t)
 stop : ∀t,ts'[ts.length+k]? = some t→t.kind=3∧t.text=sgShut
 le:ts.length≤ts'.length
section
variable {ts ts' : List Tk} {k : Nat} {d en en' : Int} (hE : Emb ts ts' k d)
include hE
end
open Go.RowKit
def TkIn (B G:Nat) (w:World) (tv:Value) (ts:List Tk):Prop:=(ts=[]∧ ∃ad c,tv= .slice ad 0 c) ∨ ∃T c,tv= .slice (some ⟨T,0,none⟩) ts.length c∧T<B∧T≠G∧T<w.heap.size∧TkSl w T 0 ts
theorem TkSl.bar {S:Nat→Prop} {w w':World} {b off:Nat} {l:List Tk} (h:TkSl w b off l) (hb:Bar S w w') (hn : ¬ S b):TkSl w' b off l:=by
 intro i hi
 obtain⟨h0,h1,h2,h3⟩:=h i hi
 exact⟨hb.cell h0 hn,hb.cell h1 hn,hb.cell h2 hn,hb.cell h3 hn⟩
theorem TkIn.bar {S:Nat→Prop} {B G:Nat} {w w':World} {tv:Value} {ts:List Tk} (h:TkIn B G w tv ts) (hb:Bar S w w') (hn : ∀k,k<B→k≠G→ ¬ S k):TkIn B G w' tv ts:=by
 rcases h with h|⟨T,c,h1,h2,h3,h4,h5⟩
 ·exact .inl h
 ·exact .inr ⟨T,c,h1,h2,h3,by have:=hb.size;omega,h5.bar hb (hn T h2 h3)⟩
structure PkW (B G:Nat) (tv:Value) (ts:List Tk) (en:Int) (w:World) (nv:Value) (st:PS) (er:PE):Prop where
 t:w.cell? ⟨G,0,none⟩=some tv
 e:w.cell? ⟨G,1,none⟩=some (.int .i64 en)
 i:w.cell? ⟨G,2,none⟩=some (.int .i64 st.i)
 n:w.cell? ⟨G,3,none⟩=some nv
 c:w.cell? ⟨G,4,none⟩=some (.int .i64 er.1)
 p:w.cell? ⟨G,5,none⟩=some (.int .i64 er.2)
 gB:G<B
 bl:B≤w.heap.size
 fg : ∀o,w.frozen? ⟨G,o,none⟩=false
 tk:TkIn B G w tv ts
 own:OwnN B w nv st.ns
 il:st.i≤ts.length
 nl:st.ns.length≤512
def PFr (G:Nat) (nv:Value) (k:Nat):Prop:=k=G∨nv.ownBlock=some k
def PHop (nv nv':Value) (w:World):Prop:= ∀g,nv'.ownBlock=some g→nv.ownBlock=some g∨w.heap.size≤g
theorem PkW.bar {S:Nat→Prop} {B G:Nat} {tv:Value} {ts:List Tk} {en:Int} {w w':World} {nv:Value} {st:PS} {er:PE} (h:PkW B G tv ts en w nv st er) (hb:Bar S w w') (hG : ¬ S G) (hB : ∀k,k<B→k≠G→ ¬ S k) (hn : ∀k,nv.ownBlock=some k→ ¬ S k):PkW B G tv ts en w' nv st er:=
 ⟨hb.cell h.t hG,hb.cell h.e hG,hb.cell h.i hG,hb.cell h.n hG,hb.cell h.c hG,hb.cell h.p hG,h.gB,by have:=hb.size;have:=h.bl;omega,fun o=>by rw[hb.frozen (a:=⟨G,o,none⟩) (by have:=h.gB;have:=h.bl;show G<_;omega) hG];exact h.fg o,h.tk.bar hb hB,Bar.own hb h.own hn,h.il,h.nl⟩
theorem PkW.below {B G:Nat} {tv:Value} {ts:List Tk} {en:Int} {w w':World} {nv:Value} {st:PS} {er:PE} (h:PkW B G tv ts en w nv st er) (hb:Below w.heap.size w w'):PkW B G tv ts en w' nv st er:=
 h.bar (Bar.of_below (S:=fun _=>False) hb) id (fun _ _ _=>id) (fun _ _=>id)
def PkX (B G:Nat) (tv:Value) (ts:List Tk) (en:Int) (w:World) (nv:Value) (R:Except PE PS):Prop:=match R with
 | .ok st=> ∃p,PkW B G tv ts en w nv st (0,p)
 | .error e=>e.1≠0∧ ∃st,PkW B G tv ts en w nv st e
theorem PkX.below {B G:Nat} {tv:Value} {ts:List Tk} {en:Int} {w w':World} {nv:Value} {R:Except PE PS} (h:PkX B G tv ts en w nv R) (hb:Below w.heap.size w w'):PkX B G tv ts en w' nv R:=by
 cases R with
 | ok st=>obtain⟨p,h⟩:=h;exact⟨p,h.below hb⟩
 | error e=>obtain⟨h0,st,h⟩:=h;exact⟨h0,st,h.below hb⟩
theorem PkX.any {B G:Nat} {tv:Value} {ts:List Tk} {en:Int} {w:World} {nv:Value} {R:Except PE PS} (h:PkX B G tv ts en w nv R) : ∃st er,PkW B G tv ts en w nv st er∧(er.1=0→R= .ok st)∧(er.1≠0→R= .error er):=by
 cases R with
 | ok st=>obtain⟨p,h⟩:=h;exact⟨st,(0,p),h,fun _=>rfl,fun h=>absurd rfl h⟩
 | error e=>obtain⟨h0,st,h⟩:=h;exact⟨st,e,h,fun e0=>absurd e0 h0,fun _=>rfl⟩
def isX (ts:List Tk) (R:Except PE PS) (u:List UInt8):Bool:=match R with
 | .ok st=>isP ts st.i u
 | .error _=>false
def failX (ts:List Tk) (en:Int) (R:Except PE PS) (c:Int):Except PE PS:=match R with
 | .ok st=> .error (c,hereP ts en st.i)
 | .error e=> .error e
def stX {α:Type} (R:Except PE (α × PS)):Except PE PS:=match R with
 | .ok a=> .ok a.2
 | .error e=> .error e
theorem tk_get {B G:Nat} {w:World} {tv:Value} {ts:List Tk} (h:TkIn B G w tv ts) {i:Nat} (hi:i<ts.length) : ∃T c,tv= .slice (some ⟨T,0,none⟩) ts.length c∧T<w.heap.size∧TkAt w T 0 (ts.getD i tk0) i∧ts[i]? = some (ts.getD i tk0):=by
 rcases h with ⟨h,_⟩|⟨T,c,h1,_,_,h4,h5⟩
 ·rw[h] at hi;simp at hi
 ·exact⟨T,c,h1,h4,h5 i hi,by rw[List.getD_eq_getElem?_getD,List.getElem?_eq_getElem hi];rfl⟩
theorem tk_len {B G:Nat} {w:World} {tv:Value} {ts:List Tk} (h:TkIn B G w tv ts) : ∃a c,tv= .slice a ts.length c:=by
 rcases h with ⟨h,a,c,h2⟩|⟨T,c,h1,_⟩
 ·exact⟨a,c,by rw[h2,h];rfl⟩
 ·exact⟨_,c,h1⟩
def lfN (k n p:Int):Nd:=⟨k,0,0,0,n,⟨#[]⟩,⟨#[]⟩,⟨#[]⟩,⟨#[]⟩,p⟩
def knownV (x a b : Nd) : Option Nd :=
  if a.k = 1 ∧ b.k = 1 then
    (if (prmV x.n a.n b.n).1 = 1 then some (lfN 2 (prmV x.n a.n b.n).2 x.p)
     else if (prmV x.n a.n b.n).1 = 0 ∧ 0 ≤ (prmV x.n a.n b.n).2 then some (lfN 1 (prmV x.n a.n b.n).2 x.p) else none)
  else none
def lstI (m:List Nd):Nat:=m.length-1
def setA (x:Nd) (a:Nat):Nd:= { x with a:=(a:Int) }
def setAB (x:Nd) (a b:Nat):Nd:= { x with a:=(a:Int),b:=(b:Int) }
def setABC (x:Nd) (a b c:Nat):Nd:= { x with a:=(a:Int),b:=(b:Int),c:=(c:Int) }
def tdF : Nat → List Nd → Nat → List Nd → List Nd
  | 0, _, _, m => m
  | f + 1, ts, i, m =>
    let x := ts.getD i nd0
    if x.k = 0 ∨ x.k = 1 ∨ x.k = 2 then m ++ [x]
    else
      let m1 := tdF f ts x.a.toNat m
      if x.k = 3 ∨ x.k = 9 then m1 ++ [setA x (lstI m1)]
      else if x.k = 7 ∧ (m1.getD (lstI m1) nd0).k = 2 then
        (if (m1.getD (lstI m1) nd0).n = 1 then tdF f ts x.b.toNat (m1.take (lstI m1)) else tdF f ts x.c.toNat (m1.take (lstI m1)))
      else
        let m2 := tdF f ts x.b.toNat m1
        if x.k = 7 ∨ x.k = 10 then
          let m3 := tdF f ts x.c.toNat m2
          m3 ++ [setABC x (lstI m1) (lstI m2) (lstI m3)]
        else if x.k = 8 then
          (match knownV x (m2.getD (lstI m1) nd0) (m2.getD (lstI m2) nd0) with
           | some y => m2.take (lstI m1) ++ [y]
           | none => m2 ++ [setAB x (lstI m1) (lstI m2)])
        else m2 ++ [setAB x (lstI m1) (lstI m2)]
def td (ts:List Nd) (i:Nat) (m:List Nd):List Nd:=tdF (i+1) ts i m
def KidB (ts:List Nd) (i:Nat):Prop:=
 (¬ ((ts.getD i nd0).k=0∨(ts.getD i nd0).k=1∨(ts.getD i nd0).k=2)→(ts.getD i nd0).a.toNat<i)∧
 (¬ ((ts.getD i nd0).k=0∨(ts.getD i nd0).k=1∨(ts.getD i nd0).k=2)→ ¬ ((ts.getD i nd0).k=3∨(ts.getD i nd0).k=9)→(ts.getD i nd0).b.toNat<i)∧
 ((ts.getD i nd0).k=7∨(ts.getD i nd0).k=10→(ts.getD i nd0).c.toNat<i)
def Adds (m r:List Nd):Prop:= ∃q x,r=m++(q++[x])∧(x.k=0∨x.k=1∨x.k=2→q=[])
theorem Adds.last {m r:List Nd} (h:Adds m r):(r.getD (lstI r) nd0).k=0∨(r.getD (lstI r) nd0).k=1∨(r.getD (lstI r) nd0).k=2→lstI r=m.length∧r.take (lstI r)=m:=by
 obtain⟨q,x,rfl,hx⟩:=h
 have e:lstI (m++(q++[x]))=m.length+q.length:=by unfold lstI;simp only[List.length_append,List.length_cons,List.length_nil];omega
 rw[e]
 have e2:(m++(q++[x])).getD (m.length+q.length) nd0=x:=by
  rw[List.getD_eq_getElem?_getD,List.getElem?_append_right (by omega),List.getElem?_append_right (by omega)]
  simp
 rw[e2]
 intro hk
 rw[hx hk]
 simp
theorem Adds.trans {m r s:List Nd} (h:Adds m r) (x:Nd) (hx : ¬ (x.k=0∨x.k=1∨x.k=2)) (q:List Nd):Adds m (r++(q++[x])):=by
 obtain⟨a,y,rfl,_⟩:=h
 exact⟨a++[y]++q,x,by simp,fun h=>absurd h hx⟩
theorem Adds.pre {m r:List Nd} (h:Adds m r) : ∃q,r=m++q:=by obtain⟨q,x,h,_⟩:=h;exact⟨_,h⟩
theorem Adds.lenlt {m r:List Nd} (h:Adds m r):m.length<r.length:=by obtain⟨q,x,rfl,_⟩:=h;simp only[List.length_append,List.length_cons,List.length_nil];omega
theorem knownV_k {x a b y:Nd} (h:knownV x a b=some y):(a.k=1∧b.k=1)∧(y.k=1∨y.k=2):=by
 unfold knownV at h
 split at h
 ·rename_i h1
  split at h
  ·injection h with h;exact⟨h1, .inr (by rw[← h];rfl)⟩
  ·split at h
   ·injection h with h;exact⟨h1, .inl (by rw[← h];rfl)⟩
   ·cases h
 ·cases h
def tdS (e : Nat → List Nd → List Nd) (x : Nd) (m : List Nd) : List Nd :=
  if x.k = 0 ∨ x.k = 1 ∨ x.k = 2 then m ++ [x]
  else
    let m1 := e x.a.toNat m
    if x.k = 3 ∨ x.k = 9 then m1 ++ [setA x (lstI m1)]
    else if x.k = 7 ∧ (m1.getD (lstI m1) nd0).k = 2 then
      (if (m1.getD (lstI m1) nd0).n = 1 then e x.b.toNat (m1.take (lstI m1)) else e x.c.toNat (m1.take (lstI m1)))
    else
      let m2 := e x.b.toNat m1
      if x.k = 7 ∨ x.k = 10 then
        let m3 := e x.c.toNat m2
        m3 ++ [setABC x (lstI m1) (lstI m2) (lstI m3)]
      else if x.k = 8 then
        (match knownV x (m2.getD (lstI m1) nd0) (m2.getD (lstI m2) nd0) with
         | some y => m2.take (lstI m1) ++ [y]
         | none => m2 ++ [setAB x (lstI m1) (lstI m2)])
      else m2 ++ [setAB x (lstI m1) (lstI m2)]
theorem tdF_succ (f:Nat) (ts:List Nd) (i:Nat) (m:List Nd):tdF (f+1) ts i m=tdS (fun j m=>tdF f ts j m) (ts.getD i nd0) m:=rfl
theorem tdS_congr {e e':Nat→List Nd→List Nd} {x:Nd} {i:Nat} (hx:(¬ (x.k=0∨x.k=1∨x.k=2)→x.a.toNat<i)∧(¬ (x.k=0∨x.k=1∨x.k=2)→ ¬ (x.k=3∨x.k=9)→x.b.toNat<i)∧(x.k=7∨x.k=10→x.c.toNat<i)) (h : ∀j,j<i→ ∀m,e j m=e' j m) (m:List Nd):tdS e x m=tdS e' x m:=by
 obtain⟨h1,h2,h3⟩:=hx
 unfold tdS
 by_cases k0:x.k=0∨x.k=1∨x.k=2
 ·rw[if_pos k0,if_pos k0]
 rw[if_neg k0,if_neg k0]
 dsimp only
 rw[h _ (h1 k0)]
 by_cases k3:x.k=3∨x.k=9
 ·rw[if_pos k3,if_pos k3]
 rw[if_neg k3,if_neg k3]
 have hb:=h _ (h2 k0 k3)
 by_cases k7:x.k=7∨x.k=10
 ·have hc:=h _ (h3 k7)
  simp only[hb,hc]
 ·have k77 : ¬ x.k=7:=fun h=>k7 (.inl h)
  have k10 : ¬ x.k=10:=fun h=>k7 (.inr h)
  simp only[hb,k77,k10,false_and,or_self, ↓reduceIte]
theorem tdF_fuel (ts:List Nd) (hk : ∀i,i<ts.length→KidB ts i) : ∀(i f:Nat),i<f→i<ts.length→ ∀m,tdF f ts i m=td ts i m:=by
 intro i
 induction i using Nat.strongRecOn with
 | ind i ih=>
  intro f hf hi m
  obtain⟨g,rfl⟩ : ∃g,f=g+1:=⟨f-1,by omega⟩
  unfold td
  rw[tdF_succ,tdF_succ]
  refine tdS_congr (hk i hi) (fun j hj m=> ?_) m
  rw[ih j hj g (by omega) (by omega),ih j hj i (by omega) (by omega)]
theorem td_eq (ts:List Nd) (hk : ∀i,i<ts.length→KidB ts i) (i:Nat) (hi:i<ts.length) (m:List Nd):td ts i m=tdS (td ts) (ts.getD i nd0) m:=by
 show tdF (i+1) ts i m=_
 rw[tdF_succ]
 refine tdS_congr (hk i hi) (fun j hj m=> ?_) m
 exact tdF_fuel ts hk j i hj (by omega) m
theorem tdS_adds {e:Nat→List Nd→List Nd} {x:Nd} {i:Nat} (hx:(¬ (x.k=0∨x.k=1∨x.k=2)→x.a.toNat<i)∧(¬ (x.k=0∨x.k=1∨x.k=2)→ ¬ (x.k=3∨x.k=9)→x.b.toNat<i)∧(x.k=7∨x.k=10→x.c.toNat<i)) (h : ∀j,j<i→ ∀m,Adds m (e j m)) (m:List Nd):Adds m (tdS e x m):=by
 obtain⟨h1,h2,h3⟩:=hx
 unfold tdS
 by_cases k0:x.k=0∨x.k=1∨x.k=2
 ·rw[if_pos k0];exact⟨[],x,rfl,fun _=>rfl⟩
 rw[if_neg k0]
 dsimp only
 have a1:=h _ (h1 k0) m
 by_cases k3:x.k=3∨x.k=9
 ·rw[if_pos k3];exact a1.trans (s:=[]) (setA x _) k0 []
 rw[if_neg k3]
 have hb:=h _ (h2 k0 k3)
 by_cases k7:x.k=7∧((e x.a.toNat m).getD (lstI (e x.a.toNat m)) nd0).k=2
 ·rw[if_pos k7,(a1.last (.inr (.inr k7.2))).2]
  split
  ·exact hb m
  ·exact h _ (h3 (.inl k7.1)) m
 rw[if_neg k7]
 have a2 : ∀y, ¬ (y.k=0∨y.k=1∨y.k=2)→Adds m (e x.b.toNat (e x.a.toNat m)++[y]):=by
  intro y hy
  obtain⟨q,z,hq,_⟩:=hb (e x.a.toNat m)
  rw[hq,List.append_assoc]
  have:=a1.trans (s:=[]) y hy (q++[z])
  simpa using this
 by_cases k77:x.k=7∨x.k=10
 ·rw[if_pos k77]
  obtain⟨q,z,hq,_⟩:=hb (e x.a.toNat m)
  obtain⟨q2,z2,hq2,_⟩:=h _ (h3 k77) (e x.b.toNat (e x.a.toNat m))
  obtain⟨a,z0,h0,_⟩:=a1
  have key:e x.c.toNat (e x.b.toNat (e x.a.toNat m))=m++(a++[z0]++(q++[z])++(q2++[z2])):=by rw[hq2,hq,h0];simp
  generalize hY:setABC x (lstI (e x.a.toNat m)) (lstI (e x.b.toNat (e x.a.toNat m))) (lstI (e x.c.toNat (e x.b.toNat (e x.a.toNat m))))=Y
  have hYk:Y.k=x.k:=by rw[← hY];rfl
  rw[key,List.append_assoc]
  exact⟨_,Y,rfl,fun hk=>absurd (by rw[← hYk];exact hk) k0⟩
 rw[if_neg k77]
 by_cases k8:x.k=8
 ·rw[if_pos k8]
  split
  ·rename_i y hy
   obtain⟨⟨hka,_⟩,hky⟩:=knownV_k hy
   obtain⟨q,hq⟩:=(hb (e x.a.toNat m)).pre
   have hla:lstI (e x.a.toNat m)<(e x.a.toNat m).length:=by have:=a1.lenlt;unfold lstI;omega
   have hga:(e x.b.toNat (e x.a.toNat m)).getD (lstI (e x.a.toNat m)) nd0=(e x.a.toNat m).getD (lstI (e x.a.toNat m)) nd0:=by
    rw[hq,List.getD_eq_getElem?_getD,List.getElem?_append_left hla,List.getD_eq_getElem?_getD]
   rw[hga] at hka
   have hl:=a1.last (.inr (.inl hka))
   have ht:(e x.b.toNat (e x.a.toNat m)).take (lstI (e x.a.toNat m))=m:=by
    rw[hq,List.take_append_of_le_length (by omega)];exact hl.2
   rw[ht]
   exact⟨[],y,rfl,fun _=>rfl⟩
  ·exact a2 _ k0
 ·rw[if_neg k8];exact a2 _ k0
theorem td_adds (ts:List Nd) (hk : ∀i,i<ts.length→KidB ts i) : ∀(i:Nat),i<ts.length→ ∀m,Adds m (td ts i m):=by
 intro i
 induction i using Nat.strongRecOn with
 | ind i ih=>
  intro hi m
  rw[td_eq ts hk i hi]
  exact tdS_adds (hk i hi) (fun j hj m=>ih j hj (by omega) m) m
def trS (e : Nat → List Nd → List Nd) (x : Nd) (m : List Nd) : List Nd :=
  if x.k = 7 then
    let m1 := e x.a.toNat m
    if (m1.getD (lstI m1) nd0).k = 2 then
      (if (m1.getD (lstI m1) nd0).n = 1 then e x.b.toNat m else e x.c.toNat m)
    else
      let m2 := e x.b.toNat m1
      let m3 := e x.c.toNat m2
      m3 ++ [setABC x (lstI m1) (lstI m2) (lstI m3)]
  else if x.k = 0 ∨ x.k = 1 ∨ x.k = 2 then m ++ [x]
  else
    let m1 := e x.a.toNat m
    if x.k = 3 ∨ x.k = 9 then m1 ++ [setA x (lstI m1)]
    else
      let m2 := e x.b.toNat m1
      if x.k = 10 then
        let m3 := e x.c.toNat m2
        m3 ++ [setABC x (lstI m1) (lstI m2) (lstI m3)]
      else if x.k = 8 then
        (if m2.length = m.length + 2 then
          (match knownV x (m2.getD m.length nd0) (m2.getD (m.length + 1) nd0) with
           | some y => m ++ [y]
           | none => m2 ++ [setAB x (lstI m1) (lstI m2)])
         else m2 ++ [setAB x (lstI m1) (lstI m2)])
      else m2 ++ [setAB x (lstI m1) (lstI m2)]
theorem trS_eq {e:Nat→List Nd→List Nd} {x:Nd} {i:Nat} (hx:(¬ (x.k=0∨x.k=1∨x.k=2)→x.a.toNat<i)∧(¬ (x.k=0∨x.k=1∨x.k=2)→ ¬ (x.k=3∨x.k=9)→x.b.toNat<i)∧(x.k=7∨x.k=10→x.c.toNat<i)) (h : ∀j,j<i→ ∀m,Adds m (e j m)) (m:List Nd):trS e x m=tdS e x m:=by
 obtain⟨h1,h2,h3⟩:=hx
 unfold trS tdS
 by_cases k7:x.k=7
 ·have k0 : ¬ (x.k=0∨x.k=1∨x.k=2):=by omega
  have k3 : ¬ (x.k=3∨x.k=9):=by omega
  rw[if_pos k7,if_neg k0]
  dsimp only
  rw[if_neg k3]
  by_cases kb:((e x.a.toNat m).getD (lstI (e x.a.toNat m)) nd0).k=2
  ·rw[if_pos kb,if_pos (show x.k=7∧((e x.a.toNat m).getD (lstI (e x.a.toNat m)) nd0).k=2 from ⟨k7,kb⟩),((h _ (h1 k0) m).last (.inr (.inr kb))).2]
  ·rw[if_neg kb,if_neg (show ¬ (x.k=7∧((e x.a.toNat m).getD (lstI (e x.a.toNat m)) nd0).k=2) from fun h=>kb h.2),if_pos (show x.k=7∨x.k=10 from .inl k7)]
 rw[if_neg k7]
 by_cases k0:x.k=0∨x.k=1∨x.k=2
 ·rw[if_pos k0,if_pos k0]
 rw[if_neg k0,if_neg k0]
 dsimp only
 by_cases k3:x.k=3∨x.k=9
 ·rw[if_pos k3,if_pos k3]
 rw[if_neg k3,if_neg k3,if_neg (show ¬ (x.k=7∧((e x.a.toNat m).getD (lstI (e x.a.toNat m)) nd0).k=2) from fun h=>k7 h.1)]
 by_cases k10:x.k=10
 ·rw[if_pos k10,if_pos (show x.k=7∨x.k=10 from .inr k10)]
 rw[if_neg k10,if_neg (show ¬ (x.k=7∨x.k=10) by omega)]
 by_cases k8:x.k=8
 ·rw[if_pos k8,if_pos k8]
  have a1:=h _ (h1 k0) m
  have a2:=h _ (h2 k0 k3) (e x.a.toNat m)
  have l1:=a1.lenlt
  have l2:=a2.lenlt
  by_cases hl:(e x.b.toNat (e x.a.toNat m)).length=m.length+2
  ·rw[if_pos hl]
   have e1:lstI (e x.a.toNat m)=m.length:=by unfold lstI;omega
   have e2:lstI (e x.b.toNat (e x.a.toNat m))=m.length+1:=by unfold lstI;omega
   rw[e1,e2]
   obtain⟨q,hq⟩:=a1.pre
   obtain⟨q2,hq2⟩:=a2.pre
   have ht:(e x.b.toNat (e x.a.toNat m)).take m.length=m:=by rw[hq2,hq,List.append_assoc];simp
   rw[ht]
  ·rw[if_neg hl]
   split
   ·rename_i y hy
    exfalso
    obtain⟨⟨ka,kb⟩,_⟩:=knownV_k hy
    have e2:=(a2.last (.inr (.inl kb))).1
    obtain⟨q,hq⟩:=a2.pre
    have hla:lstI (e x.a.toNat m)<(e x.a.toNat m).length:=by unfold lstI;omega
    rw[hq,List.getD_eq_getElem?_getD,List.getElem?_append_left hla, ← List.getD_eq_getElem?_getD] at ka
    have e1:=(a1.last (.inr (.inl ka))).1
    unfold lstI at e1 e2
    omega
   ·rfl
 ·rw[if_neg k8,if_neg k8]
def IntOk (m:List Nd):Prop:= ∀t∈m,t.k=1→0≤t.n∧t.n≤1073741823
theorem numO_le {n:Int} (h:(numO n).1=0):(numO n).2≤1073741823:=by
 unfold numO at h ⊢
 split
 ·rename_i hc;rw[if_pos hc] at h;cases h
 ·rename_i hc;show n≤_;omega
theorem truO_1 (b:Bool):(truO b).1=1:=by unfold truO;split<;>rfl
theorem prmV_le {p u v:Int} (h:(prmV p u v).1=0):(prmV p u v).2≤1073741823:=by
 unfold prmV at h ⊢
 by_cases h0:p=0
 ·rw[if_pos h0] at h ⊢;exact numO_le h
 rw[if_neg h0] at h ⊢
 by_cases h1:p=1
 ·rw[if_pos h1] at h ⊢;exact numO_le h
 rw[if_neg h1] at h ⊢
 by_cases h2:p=2
 ·rw[if_pos h2] at h ⊢;exact numO_le h
 rw[if_neg h2] at h ⊢
 by_cases h3:p=3
 ·rw[if_pos h3] at h ⊢
  by_cases hv:v=0
  ·rw[if_pos hv] at h;cases h
  ·rw[if_neg hv] at h ⊢;exact numO_le h
 rw[if_neg h3] at h
 split at h<;>(rw[truO_1] at h;cases h)
theorem knownV_ok {x a b y:Nd} (h:knownV x a b=some y):y.k=1→0≤y.n∧y.n≤1073741823:=by
 unfold knownV at h
 split at h
 ·split at h
  ·injection h with h;subst h;intro hk;cases hk
  ·split at h
   ·rename_i hc
    injection h with h;subst h
    exact fun _=>⟨hc.2,prmV_le hc.1⟩
   ·cases h
 ·cases h
theorem IntOk.app {m:List Nd} {y:Nd} (h:IntOk m) (hy:y.k=1→0≤y.n∧y.n≤1073741823):IntOk (m++[y]):=by
 intro t ht
 rcases List.mem_append.1 ht with ht|ht
 ·exact h t ht
 ·rcases List.mem_singleton.1 ht with rfl;exact hy
theorem IntOk.take {m:List Nd} (h:IntOk m) (n:Nat):IntOk (m.take n):=fun t ht=>h t (List.mem_of_mem_take ht)
theorem tdS_int {e:Nat→List Nd→List Nd} {x:Nd} {i:Nat} (hx:(¬ (x.k=0∨x.k=1∨x.k=2)→x.a.toNat<i)∧(¬ (x.k=0∨x.k=1∨x.k=2)→ ¬ (x.k=3∨x.k=9)→x.b.toNat<i)∧(x.k=7∨x.k=10→x.c.toNat<i)) (hi:x.k=1→0≤x.n∧x.n≤1073741823) (h : ∀j,j<i→ ∀m,IntOk m→IntOk (e j m)) (m:List Nd) (hm:IntOk m):IntOk (tdS e x m):=by
 obtain⟨h1,h2,h3⟩:=hx
 unfold tdS
 by_cases k0:x.k=0∨x.k=1∨x.k=2
 ·rw[if_pos k0];exact hm.app hi
 rw[if_neg k0]
 dsimp only
 have a1:=h _ (h1 k0) m hm
 have nk : ¬ x.k=1:=fun h=>k0 (.inr (.inl h))
 by_cases k3:x.k=3∨x.k=9
 ·rw[if_pos k3];exact a1.app (fun h=>absurd h nk)
 rw[if_neg k3]
 have hb:=h _ (h2 k0 k3)
 by_cases k7:x.k=7∧((e x.a.toNat m).getD (lstI (e x.a.toNat m)) nd0).k=2
 ·rw[if_pos k7]
  split
  ·exact hb _ (a1.take _)
  ·exact h _ (h3 (.inl k7.1)) _ (a1.take _)
 rw[if_neg k7]
 by_cases k77:x.k=7∨x.k=10
 ·rw[if_pos k77];exact(h _ (h3 k77) _ (hb _ a1)).app (fun h=>absurd h nk)
 rw[if_neg k77]
 by_cases k8:x.k=8
 ·rw[if_pos k8]
  split
  ·rename_i y hy;exact((hb _ a1).take _).app (knownV_ok hy)
  ·exact(hb _ a1).app (fun h=>absurd h nk)
 ·rw[if_neg k8];exact(hb _ a1).app (fun h=>absurd h nk)
theorem td_int (ts:List Nd) (hk : ∀i,i<ts.length→KidB ts i) (hn:IntOk ts) : ∀(i:Nat),i<ts.length→ ∀m,IntOk m→IntOk (td ts i m):=by
 intro i
 induction i using Nat.strongRecOn with
 | ind i ih=>
  intro hi m hm
  rw[td_eq ts hk i hi]
  exact tdS_int (hk i hi) (hn _ (by rw[List.getD_eq_getElem?_getD,List.getElem?_eq_getElem hi];exact List.getElem_mem hi)) (fun j hj m=>ih j hj (by omega) m) m hm
theorem ok_kind {ok:Nd→Bool} {t:Nd} (h:okNd ok t=true):t.k=0∨t.k=1∨t.k=2∨t.k=3∨t.k=4∨t.k=5∨t.k=6∨t.k=7∨t.k=8∨t.k=9∨t.k=10:=by
 unfold okNd at h
 simp only[Bool.and_eq_true] at h
 have h:=h.1.1.1.1
 by_cases h0:t.k=0∨t.k=1∨t.k=2∨t.k=3∨t.k=4∨t.k=5∨t.k=6∨t.k=7∨t.k=8∨t.k=9
 ·omega
 ·unfold plainB at h
  rw[if_neg (by omega),if_neg (by omega),if_neg (by omega),if_neg (by omega),if_neg (by omega),if_neg (by omega),if_neg (by omega),if_neg (by omega),if_neg (by omega),decide_eq_true_eq] at h
  omega
theorem ok_int {ok:Nd→Bool} {t:Nd} (h:okNd ok t=true):(t.k=1→0≤t.n∧t.n≤1073741823)∧(t.k=8→0≤t.n∧t.n≤5):=by
 unfold okNd at h
 simp only[Bool.and_eq_true] at h
 have h:=h.1.2
 unfold numB at h
 constructor
 ·intro hk
  rw[if_pos hk,decide_eq_true_eq] at h
  exact h
 ·intro hk
  rw[if_neg (by omega),if_neg (by omega),if_pos hk,decide_eq_true_eq] at h
  exact h
structure Tre (ts:List Nd):Prop where
 len:0<ts.length∧ts.length≤512
 ok : ∀t∈ts,t.k=0∨t.k=1∨t.k=2∨t.k=3∨t.k=4∨t.k=5∨t.k=6∨t.k=7∨t.k=8∨t.k=9∨t.k=10
 int:IntOk ts
 prim : ∀t∈ts,t.k=8→0≤t.n∧t.n≤5
 bgs : ∀i,i<ts.length→0≤bg (ksN ts) i
theorem tre_of {ok:Nd→Bool} {ts:List Nd} (h:treeV ok ts=true):Tre ts:=by
 unfold treeV at h
 simp only[Bool.and_eq_true,List.all_eq_true,decide_eq_true_eq] at h
 obtain⟨⟨hl,ha⟩,hb⟩:=h
 exact⟨⟨by omega,hl.2⟩,fun t ht=>ok_kind (ha t ht),fun t ht=>(ok_int (ha t ht)).1,fun t ht=>(ok_int (ha t ht)).2,fun i hi=>bg_all hb i (by omega)⟩
theorem Tre.mem {ts:List Nd} {i:Nat} (hi:i<ts.length):ts.getD i nd0∈ts:=by
 rw[List.getD_eq_getElem?_getD,List.getElem?_eq_getElem hi];exact List.getElem_mem hi
theorem Tre.kids {ts:List Nd} (h:Tre ts) {i:Nat} (hi:i<ts.length) :
  let x:=ts.getD i nd0
  (¬ (x.k=0∨x.k=1∨x.k=2)→ ∃a:Nat,x.a=a∧a<i∧bg (ksN ts) a=bg (ksN ts) i∧
   ((x.k=3∨x.k=9)∧a+1=i ∨ ¬ (x.k=3∨x.k=9)∧ ∃b:Nat,x.b=b∧b<i∧a<b∧bg (ksN ts) b=(a:Int)+1∧
    ((x.k=7∨x.k=10)∧(∃c:Nat,x.c=c∧c<i∧b<c∧bg (ksN ts) c=(b:Int)+1∧c+1=i) ∨ ¬ (x.k=7∨x.k=10)∧b+1=i))):=by
 intro x hx
 have hk:=h.ok _ (Tre.mem hi)
 have hs:=seg_bg (ksN ts) i (h.bgs i hi)
 have e:ksN ts i=kidsL x.k x.a x.b x.c:=rfl
 have hk:x.k=0∨x.k=1∨x.k=2∨x.k=3∨x.k=4∨x.k=5∨x.k=6∨x.k=7∨x.k=8∨x.k=9∨x.k=10:=hk
 rw[e] at hs
 clear e
 by_cases k3:x.k=3∨x.k=9
 ·have e:kidsL x.k x.a x.b x.c=[x.a]:=by unfold kidsL;rw[if_pos k3]
  rw[e] at hs
  obtain⟨h0,h1,h2⟩:=hs
  have h2:x.a+1=(i:Int):=h2
  obtain⟨a,ha⟩:=Int.eq_ofNat_of_zero_le h0
  rw[ha] at h1 h2
  exact⟨a,ha,by omega,h1, .inl ⟨k3,by omega⟩⟩
 by_cases k4:x.k=4∨x.k=5∨x.k=6∨x.k=8
 ·have e:kidsL x.k x.a x.b x.c=[x.a,x.b]:=by unfold kidsL;rw[if_neg k3,if_pos k4]
  rw[e] at hs
  obtain⟨h0,h1,g0,g1,g2⟩:=hs
  have g2:x.b+1=(i:Int):=g2
  obtain⟨a,ha⟩:=Int.eq_ofNat_of_zero_le h0
  obtain⟨b,hb⟩:=Int.eq_ofNat_of_zero_le g0
  rw[ha] at h1 g1
  rw[hb] at g1 g2
  have hl:=bg_le (ksN ts) b
  have g1:bg (ksN ts) b=(a:Int)+1:=g1
  exact⟨a,ha,by omega,h1, .inr ⟨k3,b,hb,by omega,by omega,g1, .inr ⟨by omega,by omega⟩⟩⟩
 ·have k7:x.k=7∨x.k=10:=by omega
  have e:kidsL x.k x.a x.b x.c=[x.a,x.b,x.c]:=by unfold kidsL;rw[if_neg k3,if_neg k4,if_pos k7]
  rw[e] at hs
  obtain⟨h0,h1,g0,g1,f0,f1,f2⟩:=hs
  have f2:x.c+1=(i:Int):=f2
  obtain⟨a,ha⟩:=Int.eq_ofNat_of_zero_le h0
  obtain⟨b,hb⟩:=Int.eq_ofNat_of_zero_le g0
  obtain⟨c,hc⟩:=Int.eq_ofNat_of_zero_le f0
  rw[ha] at h1 g1
  rw[hb] at g1 f1
  rw[hc] at f1 f2
  have hl:=bg_le (ksN ts) b
  have hl2:=bg_le (ksN ts) c
  have g1:bg (ksN ts) b=(a:Int)+1:=g1
  have f1:bg (ksN ts) c=(b:Int)+1:=f1
  exact⟨a,ha,by omega,h1, .inr ⟨k3,b,hb,by omega,by omega,g1, .inl ⟨k7,c,hc,by omega,by omega,f1,by omega⟩⟩⟩
theorem Tre.kidB {ts:List Nd} (h:Tre ts) {i:Nat} (hi:i<ts.length):KidB ts i:=by
 have hk:=h.kids hi
 dsimp only at hk
 unfold KidB
 generalize ts.getD i nd0=x at hk ⊢
 refine⟨fun hx=> ?_,fun hx h3=> ?_,fun h7=> ?_⟩
 ·obtain⟨a,ha,h1,_⟩:=hk hx;rw[ha];simpa using h1
 ·obtain⟨a,ha,h1,_,h2⟩:=hk hx
  rcases h2 with h2|⟨_,b,hb,h4,_⟩
  ·exact absurd h2.1 h3
  ·rw[hb];simpa using h4
 ·obtain⟨a,ha,h1,_,h2⟩:=hk (by omega)
  rcases h2 with h2|⟨_,b,hb,h4,_,_,h5⟩
  ·omega
  ·rcases h5 with ⟨_,c,hc,h6,_⟩|h5
   ·rw[hc];simpa using h6
   ·exact absurd h7 h5.1
theorem tdS_len {e:Nat→List Nd→List Nd} {x:Nd} {A B C:Nat} (ha : ∀m,(e x.a.toNat m).length≤m.length+A) (hb : ¬ (x.k=3∨x.k=9)→ ∀m,(e x.b.toNat m).length≤m.length+B) (hc:x.k=7∨x.k=10→ ∀m,(e x.c.toNat m).length≤m.length+C) (hk : ¬ (x.k=0∨x.k=1∨x.k=2)) (m:List Nd) :
  (tdS e x m).length≤m.length+(A+1+(if x.k=3∨x.k=9 then 0 else B)+(if x.k=7∨x.k=10 then C else 0)):=by
 unfold tdS
 rw[if_neg hk]
 dsimp only
 have a1:=ha m
 by_cases k3:x.k=3∨x.k=9
 ·rw[if_pos k3,if_pos k3];simp only[List.length_append,List.length_singleton];omega
 rw[if_neg k3,if_neg k3]
 by_cases k7:x.k=7∨x.k=10
 ·rw[if_pos k7,if_pos k7]
  have b1:=hb k3 (e x.a.toNat m)
  have c1:=hc k7 (e x.b.toNat (e x.a.toNat m))
  have b2:=hb k3 ((e x.a.toNat m).take (lstI (e x.a.toNat m)))
  have c2:=hc k7 ((e x.a.toNat m).take (lstI (e x.a.toNat m)))
  rw[List.length_take] at b2 c2
  split
  ·split<;>omega
  ·simp only[List.length_append,List.length_singleton];omega
 ·rw[if_neg k7,if_neg k7,if_neg (show ¬ (x.k=7∧((e x.a.toNat m).getD (lstI (e x.a.toNat m)) nd0).k=2) from fun h=>k7 (.inl h.1))]
  have b1:=hb k3 (e x.a.toNat m)
  split
  ·split
   ·simp only[List.length_append,List.length_singleton,List.length_take];omega
   ·simp only[List.length_append,List.length_singleton];omega
  ·simp only[List.length_append,List.length_singleton];omega
theorem td_len {ts:List Nd} (h:Tre ts) : ∀(i:Nat),i<ts.length→ ∀m,((td ts i m).length:Int)≤m.length+(i+1-bg (ksN ts) i):=by
 intro i
 induction i using Nat.strongRecOn with
 | ind i ih=>
  intro hi m
  have hkb:=fun j hj=>h.kidB (i:=j) hj
  rw[td_eq ts hkb i hi]
  have hk:=h.kids hi
  dsimp only at hk
  have hle:=bg_le (ksN ts) i
  obtain⟨x,hx⟩ : ∃x,ts.getD i nd0=x:=⟨_,rfl⟩
  rw[hx] at hk ⊢
  by_cases k0:x.k=0∨x.k=1∨x.k=2
  ·unfold tdS;rw[if_pos k0];simp only[List.length_append,List.length_singleton];omega
  obtain⟨a,ha,h1,h2,h3⟩:=hk k0
  have bd : ∀j:Nat,j<i→ ∀m,(td ts j m).length≤m.length+((j:Int)+1-bg (ksN ts) j).toNat:=fun j hj m=>by
   have:=ih j hj (by omega) m
   have:=bg_le (ksN ts) j
   omega
  rcases h3 with ⟨k3,h3⟩|⟨k3,b,hb,h4,h5,h6,h7⟩
  ·have:=tdS_len (e:=td ts) (x:=x) (A:=((a:Int)+1-bg (ksN ts) a).toNat) (B:=0) (C:=0) (by rw[ha];exact bd a h1) (fun h=>absurd k3 h) (fun h=>by omega) k0 m
   rw[if_pos k3,if_neg (show ¬ (x.k=7∨x.k=10) by omega)] at this
   have:=bg_le (ksN ts) a
   omega
  ·have hla:=bg_le (ksN ts) a
   have hlb:=bg_le (ksN ts) b
   rcases h7 with ⟨k7,c,hc,h8,h9,h10,h11⟩|⟨k7,h8⟩
   ·have hlc:=bg_le (ksN ts) c
    have:=tdS_len (e:=td ts) (x:=x) (A:=((a:Int)+1-bg (ksN ts) a).toNat) (B:=((b:Int)+1-bg (ksN ts) b).toNat) (C:=((c:Int)+1-bg (ksN ts) c).toNat) (by rw[ha];exact bd a h1) (fun _=>by rw[hb];exact bd b h4) (fun _=>by rw[hc];exact bd c h8) k0 m
    rw[if_neg k3,if_pos k7] at this
    omega
   ·have:=tdS_len (e:=td ts) (x:=x) (A:=((a:Int)+1-bg (ksN ts) a).toNat) (B:=((b:Int)+1-bg (ksN ts) b).toNat) (C:=0) (by rw[ha];exact bd a h1) (fun _=>by rw[hb];exact bd b h4) (fun h=>absurd h k7) k0 m
    rw[if_neg k3,if_neg k7] at this
    omega
theorem td_le {ts:List Nd} (h:Tre ts) (i:Nat) (hi:i<ts.length) (m:List Nd):(td ts i m).length≤m.length+(i+1):=by
 have:=td_len h i hi m
 have:=h.bgs i hi
 omega
open Go.RowKit
theorem nm_sz {x:ByteArray} (h:nmB x.data.toList=true):x.size≤1125899906842624:=by
 unfold nmB at h
 simp only[Bool.and_eq_true,decide_eq_true_eq] at h
 have:=h.1.1
 show x.data.size≤_
 rw[← Array.length_toList];omega
theorem e_sz {x:ByteArray} (h:x.data.toList=[]):x.size≤1125899906842624:=by
 show x.data.size≤_
 rw[← Array.length_toList,h];decide
theorem plain_sz {t:Nd} (hp:plainC t.k t.a t.b t.c t.n t.nm.data.toList t.x.data.toList t.y.data.toList t.z.data.toList=true) (hn:namedB t.k t.n (namesL t.k t.nm t.x t.y t.z)=true):NdSz t:=by
 obtain⟨k,a,b,c,n,nm,x,y,z,p⟩:=t
 dsimp only at hp hn
 unfold namedB at hn
 rw[Bool.and_eq_true] at hn
 have hn:=hn.2
 unfold plainC at hp
 show nm.size≤_∧x.size≤_∧y.size≤_∧z.size≤_
 by_cases h0:k=0
 ·subst h0
  rw[if_pos rfl,decide_eq_true_eq] at hp
  have hn:[nm].all (fun s=>nmB s.data.toList)=true:=hn
  rw[List.all_cons,Bool.and_eq_true] at hn
  exact⟨nm_sz hn.1,e_sz hp.2.2.2.1,e_sz hp.2.2.2.2.1,e_sz hp.2.2.2.2.2⟩
 rw[if_neg h0] at hp
 by_cases h1:k=1∨k=2
 ·rw[if_pos h1,decide_eq_true_eq] at hp
  exact⟨e_sz hp.2.2.2.1,e_sz hp.2.2.2.2.1,e_sz hp.2.2.2.2.2.1,e_sz hp.2.2.2.2.2.2⟩
 rw[if_neg h1] at hp
 by_cases h3:k=3
 ·subst h3
  rw[if_pos rfl,decide_eq_true_eq] at hp
  have hn:[x].all (fun s=>nmB s.data.toList)=true:=hn
  rw[List.all_cons,Bool.and_eq_true] at hn
  exact⟨e_sz hp.2.2.2.1,nm_sz hn.1,e_sz hp.2.2.2.2.1,e_sz hp.2.2.2.2.2⟩
 rw[if_neg h3] at hp
 by_cases h4:k=4
 ·rw[if_pos h4,decide_eq_true_eq] at hp
  exact⟨e_sz hp.2.2.1,e_sz hp.2.2.2.1,e_sz hp.2.2.2.2.1,e_sz hp.2.2.2.2.2⟩
 rw[if_neg h4] at hp
 by_cases h5:k=5
 ·subst h5
  rw[if_pos rfl,decide_eq_true_eq] at hp
  have hn:[x].all (fun s=>nmB s.data.toList)=true:=hn
  rw[List.all_cons,Bool.and_eq_true] at hn
  exact⟨e_sz hp.2.2.1,nm_sz hn.1,e_sz hp.2.2.2.1,e_sz hp.2.2.2.2⟩
 rw[if_neg h5] at hp
 by_cases h6:k=6
 ·subst h6
  rw[if_pos rfl,decide_eq_true_eq] at hp
  have hn:[x,y].all (fun s=>nmB s.data.toList)=true:=hn
  rw[List.all_cons,List.all_cons,Bool.and_eq_true,Bool.and_eq_true] at hn
  exact⟨e_sz hp.2.2.1,nm_sz hn.1,nm_sz hn.2.1,e_sz hp.2.2.2⟩
 rw[if_neg h6] at hp
 by_cases h7:k=7
 ·rw[if_pos h7,decide_eq_true_eq] at hp
  exact⟨e_sz hp.2.1,e_sz hp.2.2.1,e_sz hp.2.2.2.1,e_sz hp.2.2.2.2⟩
 rw[if_neg h7] at hp
 by_cases h8:k=8
 ·rw[if_pos h8,decide_eq_true_eq] at hp
  exact⟨e_sz hp.2.1,e_sz hp.2.2.1,e_sz hp.2.2.2.1,e_sz hp.2.2.2.2⟩
 rw[if_neg h8] at hp
 by_cases h9:k=9
 ·subst h9
  rw[if_pos rfl,decide_eq_true_eq] at hp
  have hn:[nm].all (fun s=>nmB s.data.toList)=true:=hn
  rw[List.all_cons,Bool.and_eq_true] at hn
  exact⟨nm_sz hn.1,e_sz hp.2.2.1,e_sz hp.2.2.2.1,e_sz hp.2.2.2.2⟩
 rw[if_neg h9,decide_eq_true_eq] at hp
 subst hp
 have hn:[nm,x,y,z].all (fun s=>nmB s.data.toList)=true:=hn
 simp only[List.all_cons,Bool.and_eq_true] at hn
 exact⟨nm_sz hn.1,nm_sz hn.2.1,nm_sz hn.2.2.1,nm_sz hn.2.2.2.1⟩
theorem ok_sz {t:Nd} (h:okNd (okNm true) t=true):NdSz t:=by
 unfold okNd okNm at h
 rw[plain_c] at h
 simp only[Bool.and_eq_true,if_true] at h
 exact plain_sz h.1.1.1.1 h.2
theorem PT.At.k {ts:List Nd} {T:PT} {i:Nat} (h:T.At ts i):(T.atm=true∧((ts.getD i nd0).k=0∨(ts.getD i nd0).k=1∨(ts.getD i nd0).k=2∨(ts.getD i nd0).k=10))∨(T.atm=false∧((ts.getD i nd0).k=3∨(ts.getD i nd0).k=4∨(ts.getD i nd0).k=5∨(ts.getD i nd0).k=6∨(ts.getD i nd0).k=7∨(ts.getD i nd0).k=8∨(ts.getD i nd0).k=9)):=by
 cases T with
 | var nm=>obtain⟨p,h⟩:=h;rw[h];exact .inl ⟨rfl, .inl rfl⟩
 | int n=>obtain⟨p,h⟩:=h;rw[h];exact .inl ⟨rfl, .inr (.inl rfl)⟩
 | bol n=>obtain⟨p,h⟩:=h;rw[h];exact .inl ⟨rfl, .inr (.inr (.inl rfl))⟩
 | fn x a=>obtain⟨j,p,_,h,_⟩:=h;rw[h];exact .inr ⟨rfl, .inl rfl⟩
 | app a b=>obtain⟨j,k,p,_,_,h,_⟩:=h;rw[h];exact .inr ⟨rfl, .inr (.inl rfl)⟩
 | lt x a b=>obtain⟨j,k,p,_,_,h,_⟩:=h;rw[h];exact .inr ⟨rfl, .inr (.inr (.inl rfl))⟩
 | rc x y a b=>obtain⟨j,k,p,_,_,h,_⟩:=h;rw[h];exact .inr ⟨rfl, .inr (.inr (.inr (.inl rfl)))⟩
 | cd a b c=>obtain⟨j,k,m,p,_,_,_,h,_⟩:=h;rw[h];exact .inr ⟨rfl, .inr (.inr (.inr (.inr (.inl rfl))))⟩
 | pr n a b=>obtain⟨j,k,p,_,_,h,_⟩:=h;rw[h];exact .inr ⟨rfl, .inr (.inr (.inr (.inr (.inr (.inl rfl)))))⟩
 | ac nm a=>obtain⟨j,p,_,h,_⟩:=h;rw[h];exact .inr ⟨rfl, .inr (.inr (.inr (.inr (.inr (.inr rfl)))))⟩
 | hn nm x y z a b c=>obtain⟨j,k,m,p,_,_,_,h,_⟩:=h;rw[h];exact .inl ⟨rfl, .inr (.inr (.inr rfl))⟩
end Go.Proofs.YthpcbgljbpmafaaGreatDoor
