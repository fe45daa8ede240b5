/- What the names of a program mean, by numbers: plain. -/
import Derived.Test.YthpcbgljbpmafaaGreatDoorW9
import Derived.Test.YthpcbgljbpmafaaGreatDoorW11
import Derived.Test.YthpcbgljbpmafaaGreatDoorW16
import Derived.BigQuiet
set_option maxRecDepth 100000
set_option maxHeartbeats 8000000
namespace Go.Proofs.YthpcbgljbpmafaaGreatDoor
set_option linter.unusedVariables false
set_option linter.unusedSimpArgs false
def nearI (bd:List ByteArray) (s:ByteArray):Option Nat:=bd.reverse.findIdx? fun u=>eqS u s
def placeI (ops:List ByteArray) (s:ByteArray):Option Nat:=ops.findIdx? fun u=>eqS u s
def meanV (ops bd:List ByteArray) (t:Nd):Except Int Int:=
 if t.k=0 then match nearI bd t.nm with
  | some i=> .ok i
  | none=> .error 601
 else if t.k=9∨t.k=10 then match placeI ops t.nm with
  | some i=> .ok i
  | none=> .error 602
 else .ok t.n
def kidsS (t:Nd):List (Int × List ByteArray):=
 if t.k=3 then [(t.a,[t.x])]
 else if t.k=4∨t.k=8 then [(t.a,[]),(t.b,[])]
 else if t.k=5 then [(t.a,[]),(t.b,[t.x])]
 else if t.k=6 then [(t.a,[t.x,t.y]),(t.b,[t.x])]
 else if t.k=7 then [(t.a,[]),(t.b,[]),(t.c,[])]
 else if t.k=9 then [(t.a,[])]
 else if t.k=10 then [(t.a,[]),(t.b,[t.x,t.y]),(t.c,[t.z])]
 else []
def bare (t:Nd) (m:Int):Nd:= { t with n:=m,nm:=⟨#[]⟩,x:=⟨#[]⟩,y:=⟨#[]⟩,z:=⟨#[]⟩ }
def kidsRun (rec:List Nd→Nat→List ByteArray→Except (Int × Int) (List Nd)):List Nd→List (Int × List ByteArray)→List ByteArray→Except (Int × Int) (List Nd)
 | st,[],_=> .ok st
 | st,(c,bs) :: l,bd=>match rec st c.toNat (bd++bs) with
  | .error e=> .error e
  | .ok st'=>kidsRun rec st' l bd
def resS (ops:List ByteArray):Nat→List Nd→Nat→List ByteArray→Except (Int × Int) (List Nd)
 | 0,_,_,_=> .error (0,0)
 | f+1,st,at_,bd=>match meanV ops bd (st.getD at_ nd0) with
  | .error c=> .error (c,(st.getD at_ nd0).p)
  | .ok m=>match kidsRun (resS ops f) st (kidsS (st.getD at_ nd0)) bd with
   | .error e=> .error e
   | .ok st'=> .ok (st'.set at_ (bare (st.getD at_ nd0) m))
def Downs (st:List Nd):Prop:= ∀i,i<st.length→ ∀c∈kidsS (st.getD i nd0),0≤c.1∧c.1<i
theorem kidsS_bare (t:Nd) (m:Int):(kidsS (bare t m)).map (·.1)=(kidsS t).map (·.1):=by
 unfold kidsS bare
 simp only
 (repeat' split)<;>simp_all
theorem Downs.set {st:List Nd} (h:Downs st) {at_:Nat} (m:Int) {u:Nd} (hu:u=bare (st.getD at_ nd0) m):Downs (st.set at_ u):=by
 intro i hi c hc
 rw[List.length_set] at hi
 by_cases e:i=at_
 ·subst e
  rw[List.getD_eq_getElem?_getD,List.getElem?_set_self hi,Option.getD_some,hu] at hc
  have hm:c.1∈(kidsS (bare (st.getD i nd0) m)).map (·.1):=List.mem_map.2 ⟨c,hc,rfl⟩
  rw[kidsS_bare] at hm
  obtain⟨d,hd,e⟩:=List.mem_map.1 hm
  rw[← e];exact h i hi d hd
 ·rw[List.getD_eq_getElem?_getD,List.getElem?_set_ne (Ne.symm e), ← List.getD_eq_getElem?_getD] at hc
  exact h i hi c hc
structure Same (st st':List Nd):Prop where
 len:st'.length=st.length
 shape : ∀i,(kidsS (st'.getD i nd0)).map (·.1)=(kidsS (st.getD i nd0)).map (·.1)
theorem Same.refl (st:List Nd):Same st st:=⟨rfl,fun _=>rfl⟩
theorem Same.trans {a b c:List Nd} (h:Same a b) (h':Same b c):Same a c:=⟨h'.len.trans h.len,fun i=>(h'.shape i).trans (h.shape i)⟩
theorem Same.downs {a b:List Nd} (h:Same a b) (hd:Downs a):Downs b:=by
 intro i hi c hc
 have hm:c.1∈(kidsS (b.getD i nd0)).map (·.1):=List.mem_map.2 ⟨c,hc,rfl⟩
 rw[h.shape] at hm
 obtain⟨d,hd',e⟩:=List.mem_map.1 hm
 rw[← e];exact hd i (by rw[← h.len];exact hi) d hd'
open Go.RowKit
structure Kd where
 (at_:Int) (ad:Option Addr) (n c:Nat)
def kd0:Kd:=⟨0,none,0,0⟩
def kdL (vs:List Kd):List Value:=vs.flatMap fun x=>[.int .i64 x.at_, .slice x.ad x.n x.c]
theorem kdL_get : ∀(vs:List Kd) (i:Nat),i<vs.length→(kdL vs)[i*2]? = some (.int .i64 (vs.getD i kd0).at_)∧(kdL vs)[i*2+1]? = some (.slice (vs.getD i kd0).ad (vs.getD i kd0).n (vs.getD i kd0).c)
 | [],i,h=>by simp at h
 | x :: vs,0,_=>by simp[kdL]
 | x :: vs,i+1,h=>by
  have ih:=kdL_get vs i (by simpa using h)
  have e1:(i+1)*2=i*2+1+1:=by omega
  have e2:(i+1)*2+1=i*2+1+1+1:=by omega
  have e:kdL (x :: vs)= .int .i64 x.at_ :: .slice x.ad x.n x.c :: kdL vs:=rfl
  rw[e,e2,e1]
  simp only[List.getElem?_cons_succ,List.getD_cons_succ]
  exact ih
def KidsAt (B:Nat) (W:World) (v:Value) (l:List (Int × List ByteArray)):Prop:=
 (v= .slice none 0 0∧l=[]) ∨ ∃g,v= .slice (some ⟨g,0,none⟩) l.length l.length∧B≤g∧g<W.heap.size∧ ∀i,i<l.length→W.cell? ⟨g,i*2,none⟩=some (.int .i64 (l.getD i (0,[])).1)∧
  ∃a n c,W.cell? ⟨g,i*2+1,none⟩=some (.slice a n c)∧StArg W a n (l.getD i (0,[])).2∧(a=none→c=0)∧ ∀b off,a=some ⟨b,off,none⟩→B≤b∧b<W.heap.size
theorem kids_lit (B:Nat) (W:World) (T:TypeId) (g n:Nat) (hg:g=W.heap.size) (hB:B≤W.heap.size) (arr:Array Value) (vs:List Kd) (l:List (Int × List ByteArray)) (h:arr.toList=kdL vs) (hn:n=l.length) (hl:vs.length=l.length)
  (hv : ∀i,i<l.length→(vs.getD i kd0).at_=(l.getD i (0,[])).1∧StArg W (vs.getD i kd0).ad (vs.getD i kd0).n (l.getD i (0,[])).2∧((vs.getD i kd0).ad=none→(vs.getD i kd0).c=0)∧ ∀b off,(vs.getD i kd0).ad=some ⟨b,off,none⟩→B≤b∧b<W.heap.size) :
  KidsAt B (W.alloc (.cells arr T)) (.slice (some ⟨g,0,none⟩) n n) l:=by
 subst hg hn
 refine .inr ⟨_,rfl,hB,by simp,fun i hi=> ?_⟩
 obtain⟨h1,h2,h3,h4⟩:=hv i hi
 obtain⟨g1,g2⟩:=kdL_get vs i (by omega)
 refine⟨?_,_,_,_, ?_,h2.below (below_alc _ _),h3,fun b off e=>⟨(h4 b off e).1,by have:=(h4 b off e).2;simp;omega⟩⟩
 ·rw[World.cell?_alloc_at _ _ _ _ rfl, ← Array.getElem?_toList,h,g1,h1]
 ·rw[World.cell?_alloc_at _ _ _ _ rfl, ← Array.getElem?_toList,h,g2]
theorem StArg.bar {S:Nat→Prop} {w w':World} {a:Option Addr} {n:Nat} {l:List ByteArray} (h:StArg w a n l) (hb:Bar S w w') (hn : ∀b off,a=some ⟨b,off,none⟩→ ¬ S b):StArg w' a n l:=by
 obtain⟨h1,h2|⟨b,off,h2,h3,h4⟩⟩:=h
 ·exact⟨h1, .inl h2⟩
 ·exact⟨h1, .inr ⟨b,off,h2,fun i hi=>hb.cell (h3 i hi) (hn b off h2),by have:=hb.size;omega⟩⟩
theorem KidsAt.bar {S:Nat→Prop} {B:Nat} {w w':World} {v:Value} {l:List (Int × List ByteArray)} (h:KidsAt B w v l) (hb:Bar S w w') (hn : ∀k,B≤k→k<w.heap.size→ ¬ S k):KidsAt B w' v l:=by
 rcases h with h|⟨g,h1,h2,h3,h4⟩
 ·exact .inl h
 ·refine .inr ⟨g,h1,h2,by have:=hb.size;omega,fun i hi=> ?_⟩
  obtain⟨g1,a,n,c,g2,g3,g4,g5⟩:=h4 i hi
  exact⟨hb.cell g1 (hn g h2 h3),a,n,c,hb.cell g2 (hn g h2 h3),g3.bar hb (fun b off e=>hn b (g5 b off e).1 (g5 b off e).2),g4,fun b off e=>⟨(g5 b off e).1,by have:=(g5 b off e).2;have:=hb.size;omega⟩⟩
theorem children_any (t:Nd) (w:World):Calls Tryz.prog 59 #[.agg #[.int .i64 t.k, .int .i64 t.a, .int .i64 t.b, .int .i64 t.c, .int .i64 t.n, .string t.nm, .string t.x, .string t.y, .string t.z, .int .i64 t.p]] w fun e w'=> ∃v,e= .returned v∧KidsAt w.heap.size w' v (kidsS t)∧Below w.heap.size w w':=by
 obtain⟨k,a,b,c,n,nm,x,y,z,p⟩:=t
 have hc:k=3∨k=4∨k=8∨k=5∨k=6∨k=7∨k=9∨k=10∨(k≠3∧k≠4∧k≠8∧k≠5∧k≠6∧k≠7∧k≠9∧k≠10):=by omega
 rcases hc with rfl|rfl|rfl|rfl|rfl|rfl|rfl|rfl|⟨h1,h2,h3,h4,h5,h6,h7,h8⟩
 ·go_enter Tryz.func59,Tryz.ntmps59
  go_wp2_with fail
  go_ret
  refine⟨_,rfl,kids_lit _ _ _ _ _ (by simp) (by first|(simp;done)|(simp;omega)) _ [⟨a,(some ⟨w.heap.size+1,0,none⟩),1,1⟩] _ rfl rfl rfl (fun i hi=> ?_),bZ⟩
  have hi:i<1:=hi
  have hc:i=0:=by omega
  rcases hc with rfl
  ·exact⟨rfl,(by first|exact stArg_lit _ _ _ _ _ _ (by simp) rfl rfl|exact StArg.below (by exact stArg_lit _ _ _ _ _ _ (by simp) rfl rfl) (below_alc _ _)),(fun h=>by cases h),fun b off e=>by injection e with e;injection e with e _ _;first|(simp;done)|(simp;omega)⟩
 ·go_enter Tryz.func59,Tryz.ntmps59
  go_wp2_with fail
  go_ret
  refine⟨_,rfl,kids_lit _ _ _ _ _ (by simp) (by first|(simp;done)|(simp;omega)) _ [⟨a,none,0,0⟩,⟨b,none,0,0⟩] _ rfl rfl rfl (fun i hi=> ?_),bZ⟩
  have hi:i<2:=hi
  have hc:i=0∨i=1:=by omega
  rcases hc with rfl|rfl
  ·exact⟨rfl,⟨rfl, .inl rfl⟩,fun _=>rfl,fun b off e=>by cases e⟩
  ·exact⟨rfl,⟨rfl, .inl rfl⟩,fun _=>rfl,fun b off e=>by cases e⟩
 ·go_enter Tryz.func59,Tryz.ntmps59
  go_wp2_with fail
  go_ret
  refine⟨_,rfl,kids_lit _ _ _ _ _ (by simp) (by first|(simp;done)|(simp;omega)) _ [⟨a,none,0,0⟩,⟨b,none,0,0⟩] _ rfl rfl rfl (fun i hi=> ?_),bZ⟩
  have hi:i<2:=hi
  have hc:i=0∨i=1:=by omega
  rcases hc with rfl|rfl
  ·exact⟨rfl,⟨rfl, .inl rfl⟩,fun _=>rfl,fun b off e=>by cases e⟩
  ·exact⟨rfl,⟨rfl, .inl rfl⟩,fun _=>rfl,fun b off e=>by cases e⟩
 ·go_enter Tryz.func59,Tryz.ntmps59
  go_wp2_with fail
  go_ret
  refine⟨_,rfl,kids_lit _ _ _ _ _ (by simp) (by first|(simp;done)|(simp;omega)) _ [⟨a,none,0,0⟩,⟨b,(some ⟨w.heap.size+1,0,none⟩),1,1⟩] _ rfl rfl rfl (fun i hi=> ?_),bZ⟩
  have hi:i<2:=hi
  have hc:i=0∨i=1:=by omega
  rcases hc with rfl|rfl
  ·exact⟨rfl,⟨rfl, .inl rfl⟩,fun _=>rfl,fun b off e=>by cases e⟩
  ·exact⟨rfl,(by first|exact stArg_lit _ _ _ _ _ _ (by simp) rfl rfl|exact StArg.below (by exact stArg_lit _ _ _ _ _ _ (by simp) rfl rfl) (below_alc _ _)),(fun h=>by cases h),fun b off e=>by injection e with e;injection e with e _ _;first|(simp;done)|(simp;omega)⟩
 ·go_enter Tryz.func59,Tryz.ntmps59
  go_wp2_with fail
  go_ret
  refine⟨_,rfl,kids_lit _ _ _ _ _ (by simp) (by first|(simp;done)|(simp;omega)) _ [⟨a,(some ⟨w.heap.size+1,0,none⟩),2,2⟩,⟨b,(some ⟨w.heap.size+1+1,0,none⟩),1,1⟩] _ rfl rfl rfl (fun i hi=> ?_),bZ⟩
  have hi:i<2:=hi
  have hc:i=0∨i=1:=by omega
  rcases hc with rfl|rfl
  ·exact⟨rfl,(by first|exact stArg_lit _ _ _ _ _ _ (by simp) rfl rfl|exact StArg.below (by exact stArg_lit _ _ _ _ _ _ (by simp) rfl rfl) (below_alc _ _)),(fun h=>by cases h),fun b off e=>by injection e with e;injection e with e _ _;first|(simp;done)|(simp;omega)⟩
  ·exact⟨rfl,(by first|exact stArg_lit _ _ _ _ _ _ (by simp) rfl rfl|exact StArg.below (by exact stArg_lit _ _ _ _ _ _ (by simp) rfl rfl) (below_alc _ _)),(fun h=>by cases h),fun b off e=>by injection e with e;injection e with e _ _;first|(simp;done)|(simp;omega)⟩
 ·go_enter Tryz.func59,Tryz.ntmps59
  go_wp2_with fail
  go_ret
  refine⟨_,rfl,kids_lit _ _ _ _ _ (by simp) (by first|(simp;done)|(simp;omega)) _ [⟨a,none,0,0⟩,⟨b,none,0,0⟩,⟨c,none,0,0⟩] _ rfl rfl rfl (fun i hi=> ?_),bZ⟩
  have hi:i<3:=hi
  have hc:i=0∨i=1∨i=2:=by omega
  rcases hc with rfl|rfl|rfl
  ·exact⟨rfl,⟨rfl, .inl rfl⟩,fun _=>rfl,fun b off e=>by cases e⟩
  ·exact⟨rfl,⟨rfl, .inl rfl⟩,fun _=>rfl,fun b off e=>by cases e⟩
  ·exact⟨rfl,⟨rfl, .inl rfl⟩,fun _=>rfl,fun b off e=>by cases e⟩
 ·go_enter Tryz.func59,Tryz.ntmps59
  go_wp2_with fail
  go_ret
  refine⟨_,rfl,kids_lit _ _ _ _ _ (by simp) (by first|(simp;done)|(simp;omega)) _ [⟨a,none,0,0⟩] _ rfl rfl rfl (fun i hi=> ?_),bZ⟩
  have hi:i<1:=hi
  have hc:i=0:=by omega
  rcases hc with rfl
  ·exact⟨rfl,⟨rfl, .inl rfl⟩,fun _=>rfl,fun b off e=>by cases e⟩
 ·go_enter Tryz.func59,Tryz.ntmps59
  go_wp2_with fail
  go_ret
  refine⟨_,rfl,kids_lit _ _ _ _ _ (by simp) (by first|(simp;done)|(simp;omega)) _ [⟨a,none,0,0⟩,⟨b,(some ⟨w.heap.size+1,0,none⟩),2,2⟩,⟨c,(some ⟨w.heap.size+1+1,0,none⟩),1,1⟩] _ rfl rfl rfl (fun i hi=> ?_),bZ⟩
  have hi:i<3:=hi
  have hc:i=0∨i=1∨i=2:=by omega
  rcases hc with rfl|rfl|rfl
  ·exact⟨rfl,⟨rfl, .inl rfl⟩,fun _=>rfl,fun b off e=>by cases e⟩
  ·exact⟨rfl,(by first|exact stArg_lit _ _ _ _ _ _ (by simp) rfl rfl|exact StArg.below (by exact stArg_lit _ _ _ _ _ _ (by simp) rfl rfl) (below_alc _ _)),(fun h=>by cases h),fun b off e=>by injection e with e;injection e with e _ _;first|(simp;done)|(simp;omega)⟩
  ·exact⟨rfl,(by first|exact stArg_lit _ _ _ _ _ _ (by simp) rfl rfl|exact StArg.below (by exact stArg_lit _ _ _ _ _ _ (by simp) rfl rfl) (below_alc _ _)),(fun h=>by cases h),fun b off e=>by injection e with e;injection e with e _ _;first|(simp;done)|(simp;omega)⟩
 ·have e3:(k==3)=false:=beq_eq_false_iff_ne.2 h1
  have e4:(k==4)=false:=beq_eq_false_iff_ne.2 h2
  have e8:(k==8)=false:=beq_eq_false_iff_ne.2 h3
  have e5:(k==5)=false:=beq_eq_false_iff_ne.2 h4
  have e6:(k==6)=false:=beq_eq_false_iff_ne.2 h5
  have e7:(k==7)=false:=beq_eq_false_iff_ne.2 h6
  have e9:(k==9)=false:=beq_eq_false_iff_ne.2 h7
  have e10:(k==10)=false:=beq_eq_false_iff_ne.2 h8
  have hk:kidsS ⟨k,a,b,c,n,nm,x,y,z,p⟩=[]:=by unfold kidsS;simp[h1,h2,h3,h4,h5,h6,h7,h8]
  rw[hk]
  clear hk
  go_enter Tryz.func59,Tryz.ntmps59
  go_wp2_with fail
  go_ret
  exact⟨_,rfl, .inl ⟨rfl,rfl⟩,bZ⟩
open Go.RowKit
def NoNear (bd:List ByteArray) (s:ByteArray) (m:Nat):Prop:= ∀j,j<m→eqS (bd.getD (bd.length-1-j) ⟨#[]⟩) s=false
theorem near_rev (bd:List ByteArray) {j:Nat} (h:j<bd.length):bd.reverse[j]? = some (bd.getD (bd.length-1-j) ⟨#[]⟩):=by
 rw[List.getElem?_reverse h,List.getD_eq_getElem?_getD,List.getElem?_eq_getElem (by omega)];rfl
theorem near_hit {bd:List ByteArray} {s:ByteArray} {m:Nat} (hm:m<bd.length) (hn:NoNear bd s m) (h:eqS (bd.getD (bd.length-1-m) ⟨#[]⟩) s=true):nearI bd s=some m:=by
 unfold nearI
 rw[List.findIdx?_eq_some_iff_getElem]
 refine⟨by rw[List.length_reverse];exact hm, ?_,fun j hj=> ?_⟩
 ·have e:=near_rev bd hm
  rw[List.getElem?_eq_getElem (by rw[List.length_reverse];exact hm)] at e
  injection e with e;rw[e];exact h
 ·have e:=near_rev bd (show j<bd.length by omega)
  rw[List.getElem?_eq_getElem (by rw[List.length_reverse];omega)] at e
  injection e with e;rw[e,hn j hj];simp
theorem near_none {bd:List ByteArray} {s:ByteArray} (hn:NoNear bd s bd.length):nearI bd s=none:=by
 unfold nearI
 rw[List.findIdx?_eq_none_iff]
 intro u hu
 obtain⟨j,hj,e⟩:=List.mem_iff_getElem.1 hu
 rw[List.length_reverse] at hj
 have e2:=near_rev bd hj
 rw[List.getElem?_eq_getElem (by rw[List.length_reverse];exact hj)] at e2
 injection e2 with e2
 rw[← e,e2];exact hn j hj
end Go.Proofs.YthpcbgljbpmafaaGreatDoor
