/- What the reference's prim and a known node have to do with each other. Plain. -/
import Derived.Test.YthpcbgljbpmafaaGreatDoorW16
import Derived.Test.YthpcbgljbpmafaaGreatDoorW18
import Derived.Test.YthpcbgljbpmafaaGreatDoorW19
import Derived.Test.YthpcbgljbpmafaaGreatDoorW22
import Derived.Test.YthpcbgljbpmafaaGreatDoorW24
import Derived.Test.YthpcbgljbpmafaaGreatDoorW29
import Derived.Test.YthpcbgljbpmafaaGreatDoorW30
import Derived.Test.YthpcbgljbpmafaaGreatDoorW31
import Derived.Test.YthpcbgljbpmafaaGreatDoorW32
set_option maxRecDepth 100000
set_option maxHeartbeats 8000000
namespace Go.Proofs.YthpcbgljbpmafaaGreatDoor
open Go.RowKit
set_option linter.unusedVariables false
set_option linter.unusedSimpArgs false
theorem numO_cases (n:Int):(numO n).1=0∨((numO n).1=3∧0≤(numO n).2):=by
 unfold numO;split
 ·exact .inr ⟨rfl,by decide⟩
 ·exact .inl rfl
theorem truO_cases (b:Bool):(truO b).1=1∧0≤(truO b).2:=by cases b<;>exact⟨rfl,by decide⟩
theorem prm_cases (p u v:Int):(prmV p u v).1=0∨((prmV p u v).1=1∧0≤(prmV p u v).2)∨((prmV p u v).1=3∧0≤(prmV p u v).2):=by
 have hn : ∀n,(numO n).1=0∨((numO n).1=1∧0≤(numO n).2)∨((numO n).1=3∧0≤(numO n).2):=fun n=>(numO_cases n).imp id .inr
 unfold prmV
 split
 ·exact hn _
 split
 ·exact hn _
 split
 ·exact hn _
 split
 ·split
  ·exact .inr (.inr ⟨rfl,by decide⟩)
  ·exact hn _
 split
 ·exact .inr (.inl (truO_cases _))
 ·exact .inr (.inl (truO_cases _))
theorem rfold_kv {x A B:Nd} {k1 n1 ft:Int} (hA:A.k=1) (hB:B.k=1) (h:rprV (prmV x.n A.n B.n)= .tuple #[r17V k1 n1, .int .i64 ft]) :
  ((0≤ft∨n1<0)∧knownV x A B=none)∨(ft<0∧0≤n1∧((k1=1∧knownV x A B=some (lfN 2 n1 x.p))∨(k1=0∧knownV x A B=some (lfN 1 n1 x.p)))):=by
 have hc:=prm_cases x.n A.n B.n
 obtain⟨⟨o1,o2⟩,ho⟩ : ∃o,prmV x.n A.n B.n=o:=⟨_,rfl⟩
 have hkv:knownV x A B=if o1=1 then some (lfN 2 o2 x.p) else if o1=0∧0≤o2 then some (lfN 1 o2 x.p) else none:=by
  unfold knownV;rw[if_pos ⟨hA,hB⟩,ho]
 rw[ho] at h hc
 rw[hkv]
 unfold rprV at h
 rcases hc with hc|⟨hc,h0⟩|⟨hc,h0⟩
 ·have hc:o1=0:=hc
  subst hc
  dsimp only at h
  rw[if_neg (by decide)] at h
  simp[r17V] at h
  obtain⟨⟨rfl,rfl⟩,rfl⟩:=h
  rw[if_neg (by decide)]
  by_cases hn:0≤o2
  ·rw[if_pos ⟨rfl,hn⟩];exact .inr ⟨by decide,hn, .inr ⟨rfl,rfl⟩⟩
  ·rw[if_neg (fun h=>hn h.2)];exact .inl ⟨.inr (by omega),rfl⟩
 ·have hc:o1=1:=hc
  subst hc
  dsimp only at h
  rw[if_neg (by decide)] at h
  simp[r17V] at h
  obtain⟨⟨rfl,rfl⟩,rfl⟩:=h
  rw[if_pos rfl]
  exact .inr ⟨by decide,h0, .inl ⟨rfl,rfl⟩⟩
 ·have hc:o1=3:=hc
  subst hc
  rw[if_pos rfl] at h
  simp[r17V] at h
  obtain⟨⟨rfl,rfl⟩,rfl⟩:=h
  rw[if_neg (by decide),if_neg (by omega)]
  exact .inl ⟨.inl h0,rfl⟩
open Go.RowKit
theorem tput_any {B G:Nat} {sv:Value} {ts:List Nd} (hT:Tre ts) : ∀(i:Nat),i<ts.length→TdP B G sv ts i:=by
 have hkb : ∀i,i<ts.length→KidB ts i:=fun j hj=>hT.kidB hj
 intro i
 induction i using Nat.strongRecOn with
 | ind i ih=>
  intro hi W mv1 m h hn hbd
  rw[td_eq ts hkb i hi]
  have hk:=hT.ok _ (Tre.mem hi)
  have hkids:=hT.kids hi
  have hnn:=hT.prim _ (Tre.mem hi)
  dsimp only at hkids
  obtain⟨x,hx⟩ : ∃x,ts.getD i nd0=x:=⟨_,rfl⟩
  rw[hx] at hk hkids hnn ⊢
  obtain⟨k,xa,xb,xc,n,nm,u,y,z,at_⟩:=x
  have hle:=bg_le (ksN ts) i
  have hTh:=bH hT
  have hk:k=0∨k=1∨k=2∨k=3∨k=4∨k=5∨k=6∨k=7∨k=8∨k=9∨k=10:=hk
  have hkids : ¬ (k=0∨k=1∨k=2)→ ∃a:Nat,xa=a∧a<i∧bg (ksN ts) a=bg (ksN ts) i∧
   ((k=3∨k=9)∧a+1=i ∨ ¬ (k=3∨k=9)∧ ∃b:Nat,xb=b∧b<i∧a<b∧bg (ksN ts) b=(a:Int)+1∧
    ((k=7∨k=10)∧(∃c:Nat,xc=c∧c<i∧b<c∧bg (ksN ts) c=(b:Int)+1∧c+1=i) ∨ ¬ (k=7∨k=10)∧b+1=i)):=hkids
  have hnn:k=8→0≤n∧n≤5:=hnn
  have hint:=fun (j:Nat) (hj:j<ts.length) (m:List Nd) (hm:IntOk m)=>td_int ts hkb hT.int j hj m hm
  have hadd:=fun (j:Nat) (hj:j<ts.length) (m:List Nd)=>td_adds ts hkb j hj m
  have hln:=fun (j:Nat) (hj:j<ts.length) (m:List Nd)=>td_len hT j hj m
  rcases hk with rfl|rfl|rfl|rfl|rfl|rfl|rfl|rfl|rfl|rfl|rfl
  ·have e:tdS (td ts) ⟨0,xa,xb,xc,n,nm,u,y,z,at_⟩ m=m++[⟨0,xa,xb,xc,n,nm,u,y,z,at_⟩]:=by simp[tdS]
   rw[e]
   exact tput0 B G sv ts i W mv1 m xa xb xc n nm u y z at_ hx hi h hn hTh (by omega)
  ·have e:tdS (td ts) ⟨1,xa,xb,xc,n,nm,u,y,z,at_⟩ m=m++[⟨1,xa,xb,xc,n,nm,u,y,z,at_⟩]:=by simp[tdS]
   rw[e]
   exact tput1 B G sv ts i W mv1 m xa xb xc n nm u y z at_ hx hi h hn hTh (by omega)
  ·have e:tdS (td ts) ⟨2,xa,xb,xc,n,nm,u,y,z,at_⟩ m=m++[⟨2,xa,xb,xc,n,nm,u,y,z,at_⟩]:=by simp[tdS]
   rw[e]
   exact tput2 B G sv ts i W mv1 m xa xb xc n nm u y z at_ hx hi h hn hTh (by omega)
  ·obtain⟨a,rfl,h1,h2,h3⟩:=hkids (by decide)
   rcases h3 with ⟨_,h3⟩|⟨hf,_⟩
   ·have la:=hln a (by omega) m
    have e:tdS (td ts) ⟨3,a,xb,xc,n,nm,u,y,z,at_⟩ m=td ts a m++[⟨3,lstI (td ts a m),xb,xc,n,nm,u,y,z,at_⟩]:=by simp[tdS,setA]
    rw[e]
    exact tput3 B G sv ts i W mv1 m a xb xc n nm u y z at_ hx hi h hn hTh (bH (ih a h1 (by omega))) (by omega) (by omega)
   ·exact absurd (by decide) hf
  ·obtain⟨a,rfl,h1,h2,h3⟩:=hkids (by decide)
   rcases h3 with ⟨hf,_⟩|⟨_,b,rfl,h4,h5,h6,h7⟩
   ·exact absurd hf (by decide)
   have la:=hln a (by omega) m
   have lb:=hln b (by omega) (td ts a m)
   have ia:=hint a (by omega) m hn.out
   have ib:=hint b (by omega) (td ts a m) ia
   have aa:=(hadd a (by omega) m).lenlt
   have ab:=(hadd b (by omega) (td ts a m)).lenlt
   rcases h7 with ⟨hf,_⟩|⟨_,h7⟩
   ·exact absurd hf (by decide)
   have e:tdS (td ts) ⟨4,a,b,xc,n,nm,u,y,z,at_⟩ m=td ts b (td ts a m)++[⟨4,lstI (td ts a m),lstI (td ts b (td ts a m)),xc,n,nm,u,y,z,at_⟩]:=by simp[tdS,setAB]
   rw[e]
   exact tput4 B G sv ts i W mv1 m a b xc n nm u y z at_ hx hi h hn hTh (bH (ih a h1 (by omega))) (by omega) (bH (ih b h4 (by omega))) (bH ia) (by omega) (by omega)
  ·obtain⟨a,rfl,h1,h2,h3⟩:=hkids (by decide)
   rcases h3 with ⟨hf,_⟩|⟨_,b,rfl,h4,h5,h6,h7⟩
   ·exact absurd hf (by decide)
   have la:=hln a (by omega) m
   have lb:=hln b (by omega) (td ts a m)
   have ia:=hint a (by omega) m hn.out
   have ib:=hint b (by omega) (td ts a m) ia
   have aa:=(hadd a (by omega) m).lenlt
   have ab:=(hadd b (by omega) (td ts a m)).lenlt
   rcases h7 with ⟨hf,_⟩|⟨_,h7⟩
   ·exact absurd hf (by decide)
   have e:tdS (td ts) ⟨5,a,b,xc,n,nm,u,y,z,at_⟩ m=td ts b (td ts a m)++[⟨5,lstI (td ts a m),lstI (td ts b (td ts a m)),xc,n,nm,u,y,z,at_⟩]:=by simp[tdS,setAB]
   rw[e]
   exact tput5 B G sv ts i W mv1 m a b xc n nm u y z at_ hx hi h hn hTh (bH (ih a h1 (by omega))) (by omega) (bH (ih b h4 (by omega))) (bH ia) (by omega) (by omega)
  ·obtain⟨a,rfl,h1,h2,h3⟩:=hkids (by decide)
   rcases h3 with ⟨hf,_⟩|⟨_,b,rfl,h4,h5,h6,h7⟩
   ·exact absurd hf (by decide)
   have la:=hln a (by omega) m
   have lb:=hln b (by omega) (td ts a m)
   have ia:=hint a (by omega) m hn.out
   have ib:=hint b (by omega) (td ts a m) ia
   have aa:=(hadd a (by omega) m).lenlt
   have ab:=(hadd b (by omega) (td ts a m)).lenlt
   rcases h7 with ⟨hf,_⟩|⟨_,h7⟩
   ·exact absurd hf (by decide)
   have e:tdS (td ts) ⟨6,a,b,xc,n,nm,u,y,z,at_⟩ m=td ts b (td ts a m)++[⟨6,lstI (td ts a m),lstI (td ts b (td ts a m)),xc,n,nm,u,y,z,at_⟩]:=by simp[tdS,setAB]
   rw[e]
   exact tput6 B G sv ts i W mv1 m a b xc n nm u y z at_ hx hi h hn hTh (bH (ih a h1 (by omega))) (by omega) (bH (ih b h4 (by omega))) (bH ia) (by omega) (by omega)
  ·obtain⟨a,rfl,h1,h2,h3⟩:=hkids (by decide)
   rcases h3 with ⟨hf,_⟩|⟨_,b,rfl,h4,h5,h6,h7⟩
   ·exact absurd hf (by decide)
   have la:=hln a (by omega) m
   have lb:=hln b (by omega) (td ts a m)
   have ia:=hint a (by omega) m hn.out
   have ib:=hint b (by omega) (td ts a m) ia
   have aa:=(hadd a (by omega) m).lenlt
   have ab:=(hadd b (by omega) (td ts a m)).lenlt
   obtain⟨_,c,rfl,h8,h9,h10,h11⟩:=h7.resolve_right (fun h=>h.1 (by decide))
   have lc:=hln c (by omega) (td ts b (td ts a m))
   have hpos:lstI (td ts a m)<(td ts a m).length:=by unfold lstI;omega
   by_cases hk2:((td ts a m).getD (lstI (td ts a m)) nd0).k=2
   ·have ht:=((hadd a (by omega) m).last (.inr (.inr hk2))).2
    by_cases hq:((td ts a m).getD (lstI (td ts a m)) nd0).n=1
    ·have e:tdS (td ts) ⟨7,a,b,c,n,nm,u,y,z,at_⟩ m=td ts b m:=by
      unfold tdS
      rw[if_neg (by show ¬ ((7:Int)=0∨(7:Int)=1∨(7:Int)=2);decide)]
      show (if (7:Int)=3∨(7:Int)=9 then _ else if (7:Int)=7∧((td ts a m).getD (lstI (td ts a m)) nd0).k=2 then (if ((td ts a m).getD (lstI (td ts a m)) nd0).n=1 then td ts b ((td ts a m).take (lstI (td ts a m))) else _) else _)=_
      rw[if_neg (by decide),if_pos ⟨rfl,hk2⟩,if_pos hq,ht]
     rw[e]
     exact tput7y B G sv ts i W mv1 m _ a b c n nm u y z at_ hx hi h hn hTh (bH (ih a h1 (by omega))) (by omega) hpos hk2 (bH fun _ W1 mv2 hW=>by rw[ht] at hW;exact ih b h4 (by omega) W1 mv2 m hW hn (by omega)) (bH fun h0=>absurd hq h0)
    ·have e:tdS (td ts) ⟨7,a,b,c,n,nm,u,y,z,at_⟩ m=td ts c m:=by
      unfold tdS
      rw[if_neg (by show ¬ ((7:Int)=0∨(7:Int)=1∨(7:Int)=2);decide)]
      show (if (7:Int)=3∨(7:Int)=9 then _ else if (7:Int)=7∧((td ts a m).getD (lstI (td ts a m)) nd0).k=2 then (if ((td ts a m).getD (lstI (td ts a m)) nd0).n=1 then _ else td ts c ((td ts a m).take (lstI (td ts a m)))) else _)=_
      rw[if_neg (by decide),if_pos ⟨rfl,hk2⟩,if_neg hq,ht]
     rw[e]
     exact tput7y B G sv ts i W mv1 m _ a b c n nm u y z at_ hx hi h hn hTh (bH (ih a h1 (by omega))) (by omega) hpos hk2 (bH fun h0=>absurd h0 hq) (bH fun _ W1 mv2 hW=>by rw[ht] at hW;exact ih c h8 (by omega) W1 mv2 m hW hn (by omega))
   ·have e:tdS (td ts) ⟨7,a,b,c,n,nm,u,y,z,at_⟩ m=td ts c (td ts b (td ts a m))++[⟨7,lstI (td ts a m),lstI (td ts b (td ts a m)),lstI (td ts c (td ts b (td ts a m))),n,nm,u,y,z,at_⟩]:=by
     unfold tdS
     rw[if_neg (by show ¬ ((7:Int)=0∨(7:Int)=1∨(7:Int)=2);decide)]
     show (if (7:Int)=3∨(7:Int)=9 then _ else if (7:Int)=7∧((td ts a m).getD (lstI (td ts a m)) nd0).k=2 then _ else if (7:Int)=7∨(7:Int)=10 then td ts c (td ts b (td ts a m))++[setABC _ (lstI (td ts a m)) (lstI (td ts b (td ts a m))) (lstI (td ts c (td ts b (td ts a m))))] else _)=_
     rw[if_neg (by decide),if_neg (fun h=>hk2 h.2),if_pos (by decide)]
     rfl
    rw[e]
    exact tput7n B G sv ts i W mv1 m a b c n nm u y z at_ hx hi h hn hTh (bH (ih a h1 (by omega))) (by omega) hpos hk2 (bH (ih b h4 (by omega))) (bH ia) (by omega) (bH (ih c h8 (by omega))) (bH ib) (by omega) (by omega)
  ·obtain⟨a,rfl,h1,h2,h3⟩:=hkids (by decide)
   rcases h3 with ⟨hf,_⟩|⟨_,b,rfl,h4,h5,h6,h7⟩
   ·exact absurd hf (by decide)
   have la:=hln a (by omega) m
   have lb:=hln b (by omega) (td ts a m)
   have ia:=hint a (by omega) m hn.out
   have ib:=hint b (by omega) (td ts a m) ia
   have aa:=(hadd a (by omega) m).lenlt
   have ab:=(hadd b (by omega) (td ts a m)).lenlt
   rcases h7 with ⟨hf,_⟩|⟨_,h7⟩
   ·exact absurd hf (by decide)
   have hpa:lstI (td ts a m)<(td ts b (td ts a m)).length:=by unfold lstI;omega
   have hpb:lstI (td ts b (td ts a m))<(td ts b (td ts a m)).length:=by unfold lstI;omega
   have e:tdS (td ts) ⟨8,a,b,xc,n,nm,u,y,z,at_⟩ m=(match knownV ⟨8,lstI (td ts a m),lstI (td ts b (td ts a m)),xc,n,nm,u,y,z,at_⟩ ((td ts b (td ts a m)).getD (lstI (td ts a m)) nd0) ((td ts b (td ts a m)).getD (lstI (td ts b (td ts a m))) nd0) with
     | some v=>(td ts b (td ts a m)).take (lstI (td ts a m))++[v]
     | none=>td ts b (td ts a m)++[⟨8,lstI (td ts a m),lstI (td ts b (td ts a m)),xc,n,nm,u,y,z,at_⟩]):=by
    unfold tdS
    rw[if_neg (by show ¬ ((8:Int)=0∨(8:Int)=1∨(8:Int)=2);decide)]
    dsimp only
    rw[if_neg (by decide),if_neg (fun h=>absurd h.1 (by decide)),if_neg (by decide),if_pos rfl]
    rfl
   rw[e]
   exact tput8 B G sv ts i W mv1 m _ a b xc n nm u y z at_ hx hi h hn hTh (bH (ih a h1 (by omega))) (by omega) (bH (ih b h4 (by omega))) (bH ia) (by omega) hpa hpb (bH ib) (hnn rfl) (by omega) (bH fun h0=>by rw[h0]) (bH fun v h0=>by rw[h0])
  ·obtain⟨a,rfl,h1,h2,h3⟩:=hkids (by decide)
   rcases h3 with ⟨_,h3⟩|⟨hf,_⟩
   ·have la:=hln a (by omega) m
    have e:tdS (td ts) ⟨9,a,xb,xc,n,nm,u,y,z,at_⟩ m=td ts a m++[⟨9,lstI (td ts a m),xb,xc,n,nm,u,y,z,at_⟩]:=by simp[tdS,setA]
    rw[e]
    exact tput9 B G sv ts i W mv1 m a xb xc n nm u y z at_ hx hi h hn hTh (bH (ih a h1 (by omega))) (by omega) (by omega)
   ·exact absurd (by decide) hf
  ·obtain⟨a,rfl,h1,h2,h3⟩:=hkids (by decide)
   rcases h3 with ⟨hf,_⟩|⟨_,b,rfl,h4,h5,h6,h7⟩
   ·exact absurd hf (by decide)
   have la:=hln a (by omega) m
   have lb:=hln b (by omega) (td ts a m)
   have ia:=hint a (by omega) m hn.out
   have ib:=hint b (by omega) (td ts a m) ia
   have aa:=(hadd a (by omega) m).lenlt
   have ab:=(hadd b (by omega) (td ts a m)).lenlt
   obtain⟨_,c,rfl,h8,h9,h10,h11⟩:=h7.resolve_right (fun h=>h.1 (by decide))
   have lc:=hln c (by omega) (td ts b (td ts a m))
   have e:tdS (td ts) ⟨10,a,b,c,n,nm,u,y,z,at_⟩ m=td ts c (td ts b (td ts a m))++[⟨10,lstI (td ts a m),lstI (td ts b (td ts a m)),lstI (td ts c (td ts b (td ts a m))),n,nm,u,y,z,at_⟩]:=by simp[tdS,setABC]
   rw[e]
   exact tput10 B G sv ts i W mv1 m a b c n nm u y z at_ hx hi h hn hTh (bH (ih a h1 (by omega))) (by omega) (bH (ih b h4 (by omega))) (bH ia) (by omega) (bH (ih c h8 (by omega))) (bH ib) (by omega) (by omega)
open Go.RowKit
def eqC (s u:ByteArray):Bool:=s.data.toList==u.data.toList
theorem eq_c:eqS=eqC:=by funext s u;unfold eqS eqC;rw[ByteArray.toList_eq,ByteArray.toList_eq]
def meanC (ops bd:List ByteArray) (t:Nd):Except Int Int:=
 if t.k=0 then match bd.reverse.findIdx? fun u=>eqC u t.nm with
  | some i=> .ok i
  | none=> .error 601
 else if t.k=9∨t.k=10 then match ops.findIdx? fun u=>eqC u t.nm with
  | some i=> .ok i
  | none=> .error 602
 else .ok t.n
theorem mean_c:meanV=meanC:=by funext o b t;unfold meanV meanC nearI placeI;rw[eq_c];rfl
def resSC (ops:List ByteArray):Nat→List Nd→Nat→List ByteArray→Except (Int × Int) (List Nd)
 | 0,_,_,_=> .error (0,0)
 | f+1,st,at_,bd=>match meanC ops bd (st.getD at_ nd0) with
  | .error c=> .error (c,(st.getD at_ nd0).p)
  | .ok m=>match kidsRun (resSC ops f) st (kidsS (st.getD at_ nd0)) bd with
   | .error e=> .error e
   | .ok st'=> .ok (st'.set at_ (bare (st.getD at_ nd0) m))
theorem resS_c (ops:List ByteArray) : ∀f,resS ops f=resSC ops f
 | 0=>by funext _ _ _;rfl
 | f+1=>by
  funext st a bd
  unfold resS resSC
  rw[resS_c ops f,mean_c];rfl
def dupC:List ByteArray→Bool
 | []=>false
 | x :: l=>l.any (fun u=>eqC u x) || dupC l
theorem dup_c : ∀l,dupB l=dupC l
 | []=>rfl
 | x :: l=>by unfold dupB dupC inS;rw[dup_c l,eq_c]
def resVC (os:List Or) (ts:List Nd):Except (Int × Int) (List Nd):=
 if opsV os && treeC true ts then (if dupC (opN os) then .error (602,0) else resSC (opN os) ts.length ts (ts.length-1) []) else .error (600,0)
theorem resV_c (os:List Or) (ts:List Nd):resV os ts=resVC os ts:=by
 unfold resV resVC mayV;rw[tree_c,dup_c,resS_c]
theorem oarg0 (w:World) (c:Option Addr):OArg w c 0 []:=⟨rfl, .inl rfl⟩
theorem or_sz0 : ∀t∈([]:List Or),OrSz t:=by intro t ht;cases ht
def oA:Or:=⟨⟨#[97]⟩,0,0⟩
open Go.RowKit
def bareC (t:Nd):Bool:=(t.nm.data.toList==[]) && ((t.x.data.toList==[]) && ((t.y.data.toList==[]) && (t.z.data.toList==[])))
theorem bare_c:bareB=bareC:=by funext t;unfold bareB bareC;simp only[ByteArray.toList_eq]
theorem smay_c (os:List Or) (ts:List Nd):smayV os ts=((opsV os && !dupC (opN os)) && ((decide ((0:Int)≤0∧(0:Int)<ts.length) && anyC ts) && (ts.all bareC && numsV os.length ts.length ts (ts.length-1) 0))):=by
 unfold smayV hasV;rw[bare_c,any_c,dup_c]
theorem Pg.bar {S:Nat→Prop} {W W':World} {g:Nat} {a a2:Option Addr} {n c n2 c2:Nat} (h:Pg W g a n c a2 n2 c2) (hb:Bar S W W') (hn : ¬ S g):Pg W' g a n c a2 n2 c2:=⟨by have:=hb.size;have:=h.1;omega,hb.cell h.2.1 hn,hb.cell h.2.2 hn⟩
theorem NArg.bar {S:Nat→Prop} {w w':World} {g n:Nat} {ts:List Nd} (h:NArg w (some ⟨g,0,none⟩) n ts) (hb:Bar S w w') (hn : ¬ S g):NArg w' (some ⟨g,0,none⟩) n ts:=by
 obtain⟨h1,h2|⟨b,off,h3,h4,h5⟩⟩:=h
 ·exact⟨h1, .inl h2⟩
 ·injection h3 with h3;injection h3 with h6 h7 _;subst h6;subst h7
  exact⟨h1, .inr ⟨g,0,rfl,h4.bar hb hn,by have:=hb.size;omega⟩⟩
theorem OArg.bar {S:Nat→Prop} {w w':World} {a:Option Addr} {n:Nat} {ts:List Or} (h:OArg w a n ts) (hb:Bar S w w') (hn : ∀b off,a=some ⟨b,off,none⟩→ ¬ S b):OArg w' a n ts:=by
 obtain⟨h1,h2|⟨b,off,h3,h4,h5⟩⟩:=h
 ·exact⟨h1, .inl h2⟩
 ·have hs:=hn b off h3
  refine⟨h1, .inr ⟨b,off,h3,fun i hi=> ?_,by have:=hb.size;omega⟩⟩
  obtain⟨a1,a2,a3⟩:=h4 i hi
  exact⟨hb.cell a1 hs,hb.cell a2 hs,hb.cell a3 hs⟩
theorem res_ok {os:List Or} {ts ss:List Nd} {w w':World} {e:Ending} (h:ResPost os (resV os ts) w e w') (hr:resV os ts= .ok ss) :
  ∃ao co N cn,e= .returned (.tuple #[.agg #[.slice ao os.length co, .slice (some ⟨N,0,none⟩) ss.length cn], .int .i64 0, .int .i64 0])∧Below w.heap.size w w'∧OwnO w.heap.size w' (.slice ao os.length co) os∧w.heap.size≤N∧N<w'.heap.size∧NdSl w' N 0 ss:=by
 rw[hr] at h
 obtain⟨ao,no,co,an,nn,cn,at_,code,rfl,hb,rfl,rfl,ho,N,rfl,rfl,h1,h2,h3,h4⟩:=h
 have hno:=ho.arg.1
 subst hno
 exact⟨ao,co,N,cn,rfl,hb,ho,h1,h2,h3⟩
end Go.Proofs.YthpcbgljbpmafaaGreatDoor
