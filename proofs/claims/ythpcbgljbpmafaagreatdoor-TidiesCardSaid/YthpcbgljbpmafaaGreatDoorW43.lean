/- The reference's tidier: walk, every kind. -/
import Derived.Test.YthpcbgljbpmafaaGreatDoorW28
import Derived.Test.YthpcbgljbpmafaaGreatDoorW33
import Derived.Test.YthpcbgljbpmafaaGreatDoorW40
import Derived.Test.YthpcbgljbpmafaaGreatDoorW41
import Derived.Test.YthpcbgljbpmafaaGreatDoorW42
set_option maxRecDepth 100000
set_option maxHeartbeats 8000000
namespace Go.Proofs.YthpcbgljbpmafaaGreatDoor
open Go.RowKit
set_option linter.unusedVariables false
set_option linter.unusedSimpArgs false
theorem tdwalk_any {B G:Nat} {sv:Value} {ts:List Nd} (hT:Tre ts) : ∀(i:Nat),i<ts.length→TrP B G sv ts i:=by
  have hkb : ∀i,i<ts.length→KidB ts i:=fun j hj=>hT.kidB hj
  intro i
  induction i using Nat.strongRecOn with
  | ind i ih=>
    intro hi W mv1 m h hn hbd
    rw[td_eq ts hkb i hi, ← trS_eq (hkb i hi) (fun j hj m=>td_adds ts hkb j (by omega) m) m]
    have hk:=hT.ok _ (Tre.mem hi)
    have hkids:=hT.kids hi
    have hnn:=hT.prim _ (Tre.mem hi)
    dsimp only at hkids
    obtain⟨x,hx⟩ : ∃x,ts.getD i nd0=x:=⟨_,rfl⟩
    rw[hx] at hk hkids hnn ⊢
    obtain⟨k,xa,xb,xc,n,nm,u,y,z,at_⟩:=x
    have hle:=bg_le (ksN ts) i
    have hk:k=0∨k=1∨k=2∨k=3∨k=4∨k=5∨k=6∨k=7∨k=8∨k=9∨k=10:=hk
    have hkids : ¬ (k=0∨k=1∨k=2)→ ∃a:Nat,xa=a∧a<i∧bg (ksN ts) a=bg (ksN ts) i∧
      ((k=3∨k=9)∧a+1=i ∨ ¬ (k=3∨k=9)∧ ∃b:Nat,xb=b∧b<i∧a<b∧bg (ksN ts) b=(a:Int)+1∧
        ((k=7∨k=10)∧(∃c:Nat,xc=c∧c<i∧b<c∧bg (ksN ts) c=(b:Int)+1∧c+1=i) ∨ ¬ (k=7∨k=10)∧b+1=i)):=hkids
    have hnn:k=8→0≤n∧n≤5:=hnn
    have hint:=fun (j:Nat) (hj:j<ts.length) (m:List Nd) (hm:IntOk m)=>td_int ts hkb hT.int j hj m hm
    have hadd:=fun (j:Nat) (hj:j<ts.length) (m:List Nd)=>td_adds ts hkb j hj m
    have hln:=fun (j:Nat) (hj:j<ts.length) (m:List Nd)=>td_len hT j hj m
    rcases hk with rfl|rfl|rfl|rfl|rfl|rfl|rfl|rfl|rfl|rfl|rfl
    · have e:trS (td ts) ⟨0,xa,xb,xc,n,nm,u,y,z,at_⟩ m=m++[⟨0,xa,xb,xc,n,nm,u,y,z,at_⟩]:=by simp[trS]
      rw[e]
      exact rwalkG B G sv ts i W mv1 m 0 xa xb xc n nm u y z at_ hx hi h hn _ _ rfl rfl (by omega) (bH fun W0 b0 mv0 h0 hX0 hB0=>rkids0 B G b0 sv ts W0 mv0 m xa xb xc n nm u y z at_ h0 hX0 hB0 hn)
    · have e:trS (td ts) ⟨1,xa,xb,xc,n,nm,u,y,z,at_⟩ m=m++[⟨1,xa,xb,xc,n,nm,u,y,z,at_⟩]:=by simp[trS]
      rw[e]
      exact rwalkG B G sv ts i W mv1 m 1 xa xb xc n nm u y z at_ hx hi h hn _ _ rfl rfl (by omega) (bH fun W0 b0 mv0 h0 hX0 hB0=>rkids1 B G b0 sv ts W0 mv0 m xa xb xc n nm u y z at_ h0 hX0 hB0 hn)
    · have e:trS (td ts) ⟨2,xa,xb,xc,n,nm,u,y,z,at_⟩ m=m++[⟨2,xa,xb,xc,n,nm,u,y,z,at_⟩]:=by simp[trS]
      rw[e]
      exact rwalkG B G sv ts i W mv1 m 2 xa xb xc n nm u y z at_ hx hi h hn _ _ rfl rfl (by omega) (bH fun W0 b0 mv0 h0 hX0 hB0=>rkids2 B G b0 sv ts W0 mv0 m xa xb xc n nm u y z at_ h0 hX0 hB0 hn)
    · obtain⟨a,rfl,h1,h2,h3⟩:=hkids (by decide)
      rcases h3 with ⟨_,h3⟩|⟨hf,_⟩
      · have la:=hln a (by omega) m
        have aa:=(hadd a (by omega) m).lenlt
        have e:trS (td ts) ⟨3,a,xb,xc,n,nm,u,y,z,at_⟩ m=td ts a m++[⟨3,lstI (td ts a m),xb,xc,n,nm,u,y,z,at_⟩]:=by simp[trS,setA]
        rw[e]
        exact rwalkG B G sv ts i W mv1 m 3 a xb xc n nm u y z at_ hx hi h hn _ _ rfl rfl (by omega) (bH fun W0 b0 mv0 h0 hX0 hB0=>rkids3 B G b0 sv ts W0 mv0 m a xb xc n nm u y z at_ h0 hX0 hB0 hn (bH (ih a h1 (by omega))) (by omega) (by omega))
      · exact absurd (by decide) hf
    · obtain⟨a,rfl,h1,h2,h3⟩:=hkids (by decide)
      rcases h3 with ⟨hf,_⟩|⟨_,b,rfl,h4,h5,h6,h7⟩
      · exact absurd hf (by decide)
      have la:=hln a (by omega) m
      have lb:=hln b (by omega) (td ts a m)
      have ia:=hint a (by omega) m hn.out
      have ib:=hint b (by omega) (td ts a m) ia
      have aa:=(hadd a (by omega) m).lenlt
      have ab:=(hadd b (by omega) (td ts a m)).lenlt
      rcases h7 with ⟨hf,_⟩|⟨_,h7⟩
      · exact absurd hf (by decide)
      have e:trS (td ts) ⟨4,a,b,xc,n,nm,u,y,z,at_⟩ m=td ts b (td ts a m)++[⟨4,lstI (td ts a m),lstI (td ts b (td ts a m)),xc,n,nm,u,y,z,at_⟩]:=by simp[trS,setAB]
      rw[e]
      exact rwalkG B G sv ts i W mv1 m 4 a b xc n nm u y z at_ hx hi h hn _ _ rfl rfl (by omega) (bH fun W0 b0 mv0 h0 hX0 hB0=>rkids4 B G b0 sv ts W0 mv0 m a b xc n nm u y z at_ h0 hX0 hB0 hn (bH (ih a h1 (by omega))) (by omega) (by omega) (bH (ih b h4 (by omega))) (bH ia) (by omega) (by omega))
    · obtain⟨a,rfl,h1,h2,h3⟩:=hkids (by decide)
      rcases h3 with ⟨hf,_⟩|⟨_,b,rfl,h4,h5,h6,h7⟩
      · exact absurd hf (by decide)
      have la:=hln a (by omega) m
      have lb:=hln b (by omega) (td ts a m)
      have ia:=hint a (by omega) m hn.out
      have ib:=hint b (by omega) (td ts a m) ia
      have aa:=(hadd a (by omega) m).lenlt
      have ab:=(hadd b (by omega) (td ts a m)).lenlt
      rcases h7 with ⟨hf,_⟩|⟨_,h7⟩
      · exact absurd hf (by decide)
      have e:trS (td ts) ⟨5,a,b,xc,n,nm,u,y,z,at_⟩ m=td ts b (td ts a m)++[⟨5,lstI (td ts a m),lstI (td ts b (td ts a m)),xc,n,nm,u,y,z,at_⟩]:=by simp[trS,setAB]
      rw[e]
      exact rwalkG B G sv ts i W mv1 m 5 a b xc n nm u y z at_ hx hi h hn _ _ rfl rfl (by omega) (bH fun W0 b0 mv0 h0 hX0 hB0=>rkids5 B G b0 sv ts W0 mv0 m a b xc n nm u y z at_ h0 hX0 hB0 hn (bH (ih a h1 (by omega))) (by omega) (by omega) (bH (ih b h4 (by omega))) (bH ia) (by omega) (by omega))
    · obtain⟨a,rfl,h1,h2,h3⟩:=hkids (by decide)
      rcases h3 with ⟨hf,_⟩|⟨_,b,rfl,h4,h5,h6,h7⟩
      · exact absurd hf (by decide)
      have la:=hln a (by omega) m
      have lb:=hln b (by omega) (td ts a m)
      have ia:=hint a (by omega) m hn.out
      have ib:=hint b (by omega) (td ts a m) ia
      have aa:=(hadd a (by omega) m).lenlt
      have ab:=(hadd b (by omega) (td ts a m)).lenlt
      rcases h7 with ⟨hf,_⟩|⟨_,h7⟩
      · exact absurd hf (by decide)
      have e:trS (td ts) ⟨6,a,b,xc,n,nm,u,y,z,at_⟩ m=td ts b (td ts a m)++[⟨6,lstI (td ts a m),lstI (td ts b (td ts a m)),xc,n,nm,u,y,z,at_⟩]:=by simp[trS,setAB]
      rw[e]
      exact rwalkG B G sv ts i W mv1 m 6 a b xc n nm u y z at_ hx hi h hn _ _ rfl rfl (by omega) (bH fun W0 b0 mv0 h0 hX0 hB0=>rkids6 B G b0 sv ts W0 mv0 m a b xc n nm u y z at_ h0 hX0 hB0 hn (bH (ih a h1 (by omega))) (by omega) (by omega) (bH (ih b h4 (by omega))) (bH ia) (by omega) (by omega))
    · obtain⟨a,rfl,h1,h2,h3⟩:=hkids (by decide)
      rcases h3 with ⟨hf,_⟩|⟨_,b,rfl,h4,h5,h6,h7⟩
      · exact absurd hf (by decide)
      have la:=hln a (by omega) m
      have lb:=hln b (by omega) (td ts a m)
      have ia:=hint a (by omega) m hn.out
      have ib:=hint b (by omega) (td ts a m) ia
      have aa:=(hadd a (by omega) m).lenlt
      have ab:=(hadd b (by omega) (td ts a m)).lenlt
      obtain⟨_,c,rfl,h8,h9,h10,h11⟩:=h7.resolve_right (fun h=>h.1 (by decide))
      have lc:=hln c (by omega) (td ts b (td ts a m))
      have ac:=(hadd c (by omega) (td ts b (td ts a m))).lenlt
      by_cases hk2:((td ts a m).getD (lstI (td ts a m)) nd0).k=2
      · have hpre:(td ts a m).take m.length=m:=by
          obtain⟨q,hq⟩:=(hadd a (by omega) m).pre
          rw[hq];simp
        by_cases hq:((td ts a m).getD (lstI (td ts a m)) nd0).n=1
        · have e:trS (td ts) ⟨7,a,b,c,n,nm,u,y,z,at_⟩ m=td ts b m:=by
            unfold trS
            rw[if_pos rfl]
            show (if ((td ts a m).getD (lstI (td ts a m)) nd0).k=2 then (if ((td ts a m).getD (lstI (td ts a m)) nd0).n=1 then td ts b m else _) else _)=_
            rw[if_pos hk2,if_pos hq]
          rw[e]
          exact rwalk7y B G sv ts i W mv1 m _ a b c n nm u y z at_ hx hi h hn (bH (ih a h1 (by omega))) (by omega) (by omega) (bH hpre) hk2 (bH fun _ W1 mv2 hW=>ih b h4 (by omega) W1 mv2 m hW hn (by omega)) (bH fun h0=>absurd hq h0)
        · have e:trS (td ts) ⟨7,a,b,c,n,nm,u,y,z,at_⟩ m=td ts c m:=by
            unfold trS
            rw[if_pos rfl]
            show (if ((td ts a m).getD (lstI (td ts a m)) nd0).k=2 then (if ((td ts a m).getD (lstI (td ts a m)) nd0).n=1 then _ else td ts c m) else _)=_
            rw[if_pos hk2,if_neg hq]
          rw[e]
          exact rwalk7y B G sv ts i W mv1 m _ a b c n nm u y z at_ hx hi h hn (bH (ih a h1 (by omega))) (by omega) (by omega) (bH hpre) hk2 (bH fun h0=>absurd h0 hq) (bH fun _ W1 mv2 hW=>ih c h8 (by omega) W1 mv2 m hW hn (by omega))
      · have e:trS (td ts) ⟨7,a,b,c,n,nm,u,y,z,at_⟩ m=td ts c (td ts b (td ts a m))++[⟨7,lstI (td ts a m),lstI (td ts b (td ts a m)),lstI (td ts c (td ts b (td ts a m))),n,nm,u,y,z,at_⟩]:=by
          unfold trS
          rw[if_pos rfl]
          show (if ((td ts a m).getD (lstI (td ts a m)) nd0).k=2 then _ else td ts c (td ts b (td ts a m))++[setABC _ (lstI (td ts a m)) (lstI (td ts b (td ts a m))) (lstI (td ts c (td ts b (td ts a m))))])=_
          rw[if_neg hk2]
          rfl
        rw[e]
        exact rwalk7n B G sv ts i W mv1 m a b c n nm u y z at_ hx hi h hn (bH (ih a h1 (by omega))) (by omega) (by omega) hk2 (bH (ih b h4 (by omega))) (bH ia) (by omega) (by omega) (bH (ih c h8 (by omega))) (bH ib) (by omega) (by omega) (by omega)
    · obtain⟨a,rfl,h1,h2,h3⟩:=hkids (by decide)
      rcases h3 with ⟨hf,_⟩|⟨_,b,rfl,h4,h5,h6,h7⟩
      · exact absurd hf (by decide)
      have la:=hln a (by omega) m
      have lb:=hln b (by omega) (td ts a m)
      have ia:=hint a (by omega) m hn.out
      have ib:=hint b (by omega) (td ts a m) ia
      have aa:=(hadd a (by omega) m).lenlt
      have ab:=(hadd b (by omega) (td ts a m)).lenlt
      rcases h7 with ⟨hf,_⟩|⟨_,h7⟩
      · exact absurd hf (by decide)
      have e:trS (td ts) ⟨8,a,b,xc,n,nm,u,y,z,at_⟩ m=(if (td ts b (td ts a m)).length=m.length+2 then
          (match knownV ⟨8,lstI (td ts a m),lstI (td ts b (td ts a m)),xc,n,nm,u,y,z,at_⟩ ((td ts b (td ts a m)).getD m.length nd0) ((td ts b (td ts a m)).getD (m.length+1) nd0) with
           | some v=>m++[v]
           | none=>td ts b (td ts a m)++[⟨8,lstI (td ts a m),lstI (td ts b (td ts a m)),xc,n,nm,u,y,z,at_⟩])
         else td ts b (td ts a m)++[⟨8,lstI (td ts a m),lstI (td ts b (td ts a m)),xc,n,nm,u,y,z,at_⟩]):=by
        unfold trS
        rw[if_neg (by show ¬ ((8:Int)=7);decide),if_neg (by show ¬ ((8:Int)=0∨(8:Int)=1∨(8:Int)=2);decide)]
        dsimp only
        rw[if_neg (by decide),if_neg (by decide),if_pos rfl]
        rfl
      rw[e]
      have hpre:(td ts b (td ts a m)).take m.length=m:=by
        obtain⟨q,hq⟩:=(hadd a (by omega) m).pre
        obtain⟨q2,hq2⟩:=(hadd b (by omega) (td ts a m)).pre
        rw[hq2,hq,List.append_assoc];simp
      obtain⟨K,hK⟩ : ∃K,(if (td ts b (td ts a m)).length=m.length+2 then knownV ⟨8,lstI (td ts a m),lstI (td ts b (td ts a m)),xc,n,nm,u,y,z,at_⟩ ((td ts b (td ts a m)).getD m.length nd0) ((td ts b (td ts a m)).getD (m.length+1) nd0) else none)=K:=⟨_,rfl⟩
      refine rwalk8 B G sv ts i W mv1 m _ K a b xc n nm u y z at_ hx hi h hn (bH (ih a h1 (by omega))) (by omega) (by omega) (bH (ih b h4 (by omega))) (bH ia) (by omega) (by omega) (bH ib) (hnn rfl) (by omega) (bH hpre) (bH hK) (bH fun h0=> ?_) (bH fun v h0=> ?_)
      · rw[h0] at hK
        split
        · rename_i hl;rw[if_pos hl] at hK;rw[hK]
        · rfl
      · rw[h0] at hK
        split
        · rename_i hl;rw[if_pos hl] at hK;rw[hK]
        · rename_i hl;rw[if_neg hl] at hK;cases hK
    · obtain⟨a,rfl,h1,h2,h3⟩:=hkids (by decide)
      rcases h3 with ⟨_,h3⟩|⟨hf,_⟩
      · have la:=hln a (by omega) m
        have aa:=(hadd a (by omega) m).lenlt
        have e:trS (td ts) ⟨9,a,xb,xc,n,nm,u,y,z,at_⟩ m=td ts a m++[⟨9,lstI (td ts a m),xb,xc,n,nm,u,y,z,at_⟩]:=by simp[trS,setA]
        rw[e]
        exact rwalkG B G sv ts i W mv1 m 9 a xb xc n nm u y z at_ hx hi h hn _ _ rfl rfl (by omega) (bH fun W0 b0 mv0 h0 hX0 hB0=>rkids9 B G b0 sv ts W0 mv0 m a xb xc n nm u y z at_ h0 hX0 hB0 hn (bH (ih a h1 (by omega))) (by omega) (by omega))
      · exact absurd (by decide) hf
    · obtain⟨a,rfl,h1,h2,h3⟩:=hkids (by decide)
      rcases h3 with ⟨hf,_⟩|⟨_,b,rfl,h4,h5,h6,h7⟩
      · exact absurd hf (by decide)
      have la:=hln a (by omega) m
      have lb:=hln b (by omega) (td ts a m)
      have ia:=hint a (by omega) m hn.out
      have ib:=hint b (by omega) (td ts a m) ia
      have aa:=(hadd a (by omega) m).lenlt
      have ab:=(hadd b (by omega) (td ts a m)).lenlt
      obtain⟨_,c,rfl,h8,h9,h10,h11⟩:=h7.resolve_right (fun h=>h.1 (by decide))
      have lc:=hln c (by omega) (td ts b (td ts a m))
      have ac:=(hadd c (by omega) (td ts b (td ts a m))).lenlt
      have e:trS (td ts) ⟨10,a,b,c,n,nm,u,y,z,at_⟩ m=td ts c (td ts b (td ts a m))++[⟨10,lstI (td ts a m),lstI (td ts b (td ts a m)),lstI (td ts c (td ts b (td ts a m))),n,nm,u,y,z,at_⟩]:=by simp[trS,setABC]
      rw[e]
      exact rwalkG B G sv ts i W mv1 m 10 a b c n nm u y z at_ hx hi h hn _ _ rfl rfl (by omega) (bH fun W0 b0 mv0 h0 hX0 hB0=>rkids10 B G b0 sv ts W0 mv0 m a b c n nm u y z at_ h0 hX0 hB0 hn (bH (ih a h1 (by omega))) (by omega) (by omega) (bH (ih b h4 (by omega))) (bH ia) (by omega) (by omega) (bH (ih c h8 (by omega))) (bH ib) (by omega) (by omega))
open Go.RowKit
theorem rTidy_any (a a2:Option Addr) (n c n2 c2:Nat) (os:List Or) (ts:List Nd) (w:World) (h:Hid (OArg w a n os)) (hc:a=none→c=0) (hsz:Hid (∀t∈os,OrSz t)) (hl:n≤140737488351232) (h2:Hid (NArg w a2 n2 ts)) (hsz2:Hid (∀t∈ts,NdSz t)) (hl2:n2≤140737488351232) :
  Calls Tryz.prog 9 #[.agg #[.slice a n c, .slice a2 n2 c2]] w (TdPost os ts w):=by
 obtain⟨M,hM⟩ : ∃r,smayV os ts=r:=⟨_,rfl⟩
 have hMh:=bH hM
 have kM:=bH fun (W:World) (hW:Below w.heap.size w W)=>rScopeMay_any a a2 n c n2 c2 os ts W (bH (h.out.below hW)) hsz hl (bH (h2.out.below hW)) hsz2 hl2
 rw[hM] at kM
 clear hM
 have hV:=rvW_mk w a n c a2 n2 c2
 go_enter Tryz.func9,Tryz.ntmps9
 go_wp2_with fail
 obtain⟨w0,hw0⟩ : ∃W,(w.alloc (.cells #[.slice a n c, .slice a2 n2 c2] 25)).alloc (.cells #[.slice none 0 0, .slice none 0 0] 25)=W:=⟨_,rfl⟩
 rw[hw0] at hV ⊢
 clear hw0
 refine(kM.out _ hV.2.2.2.2.2.2).mono ?_
 rintro e w1 ⟨rfl,hb1⟩
 have hV1:=bH (hV.below hb1)
 clear hb1 hV kM
 cases M with
 | false=>
  obtain⟨v0,v1,v2,v3,v4,v5,v6⟩:=hV1.out
  obtain⟨s0,s1,s2⟩:=two_set v3 v4 (.slice none 0 0) (.slice none 0 0)
  have hv5:=v5 0
  have hv6:=v5 1
  have hfin:Hid (Below w.heap.size w ((w1.setCell ⟨w.heap.size+1,0,none⟩ (.slice none 0 0)).setCell ⟨w.heap.size+1,1,none⟩ (.slice none 0 0))):=bH ((v6.setCell (by show w.heap.size≤w.heap.size+1;omega) _).setCell (by show w.heap.size≤w.heap.size+1;omega) _)
  go_wp2_with fail
  exact bodyPost_ret (v:= .tuple #[.agg #[.slice none 0 0, .slice none 0 0], .int .i64 2500]) (by simp[results,Tryz.results9,go_sem,s0,s1]) rfl ⟨hfin.out, .inl ⟨hMh.out,rfl⟩⟩
 | true=>
  have hT:=tre_may hMh.out
  have h0:0<ts.length:=hT.len.1
  have h512:ts.length≤512:=hT.len.2
  obtain rfl:n2=ts.length:=h2.out.1
  obtain⟨W2,hW2⟩ : ∃W,w1.alloc (.cells #[.slice a2 ts.length c2, .slice none 0 0] 57)=W:=⟨_,rfl⟩
  have hO:=bH (tdw_new (c2:=c2) (h2.out.below hV1.out.2.2.2.2.2.2) h0 hW2)
  have kP:=bH (show Calls Tryz.prog 25 #[.pointer (some ⟨w1.heap.size,0,none⟩), .int .i64 ((ts.length:Int)-1)] W2 (TrM (w1.heap.size+1) w1.heap.size (.slice a2 ts.length c2) ts W2 (.slice none 0 0) (td ts (ts.length-1) [])) from by
   rw[show (ts.length:Int)-1=((ts.length-1:Nat):Int) by omega]
   exact tdwalk_any hT (ts.length-1) (by omega) W2 _ [] hO (bH (fun t ht=>by cases ht)) (by have:=hT.bgs (ts.length-1) (by omega);simp;omega))
  have hb2:Below w1.heap.size w1 W2:=by rw[← hW2];exact below_alc _ _
  have hV2:=bH (hV1.out.below hb2)
  obtain⟨v0,v1,v2,v3,v4,v5,v6⟩:=hV1.out
  have hl1:1≤(ts.length:Int):=by omega
  have hl5:(ts.length:Int)≤512:=by omega
  have hT:=bH hT
  have hws:w.heap.size<w1.heap.size:=by omega
  have hW3:=bH hW2
  clear v3 v4 hb2 hW2
  go_wp2_with fail
  rw[hW3.out]
  clear hW3 h0 h512
  refine kP.out.mono ?_
  rintro e w3 ⟨rfl,mv,k1,k2⟩
  have hwl:w.heap.size+1<w1.heap.size:=v0
  have hV3:=bH (hV2.out.bar k2.1 (fun e=>by rcases e with e|e;omega;cases e) (fun e=>by rcases e with e|e;omega;cases e) (fun k e=>by rcases e with e|e;omega;cases e))
  have hlt:=bH (td_le hT.out (ts.length-1) (by omega) [])
  obtain⟨m,hm⟩ : ∃r,td ts (ts.length-1) []=r:=⟨_,rfl⟩
  have hmh:=bH hm
  rw[hm] at k1
  clear hm kP v0 v1 v2 v5 v6 hV2 hV1 k2 hO
  obtain⟨ma,mc,rfl⟩:=own_sl k1.own
  have hk1:=bH k1
  have hp1:=hV3.out.2.1
  have hcm:=k1.cm
  have hgl:w1.heap.size<w3.heap.size:=k1.bl
  clear k1
  go_upto_region 5 with fail
  refine wp_region_held_drew (S:=fun W=>W.cell? ⟨w.heap.size,0,none⟩=some (.slice a n c)∧W.cell? ⟨w1.heap.size,1,none⟩=some (.slice ma m.length mc)) (by kernel_rfl) (by have hd:Bar (fun _=>False) w3 w3.drew:=Bar.of_below ((Below.refl _ _).drew);exact⟨hd.cell hp1 id,hd.cell hcm id⟩) (fun hHeld=> ?_)
  have hV6:=bH (hV3.out.below ((Below.refl _ _).drew))
  have hk6:=bH (hk1.out.below ((Below.refl _ _).drew))
  generalize w3.drew=we at hV6 hk6 hHeld ⊢
  clear hp1 hcm hgl hV3 hk1
  refine rg_take 1 (some 20) (v:= ?v1) rfl rfl (by kernel_rfl) (by kernel_rfl) (by kernel_rfl) (fun _ _ _ h=>h) (by rfl) ?hy1 (by assumption) ?_
  case hy1=>intro W hSW;(try dsimp only at hSW);go_simp;(try with_reducible rfl)
  try simp only[Act.put,List.setIfInBounds_toArray,List.set_cons_zero,List.set_cons_succ]
  refine rg_take 2 (some 21) (v:= ?v2) rfl rfl (by kernel_rfl) (by kernel_rfl) (by kernel_rfl) (fun _ _ _ h=>h) (by rfl) ?hy2 (by assumption) ?_
  case hy2=>intro W hSW;(try dsimp only at hSW);go_simp;(try with_reducible rfl)
  try simp only[Act.put,List.setIfInBounds_toArray,List.set_cons_zero,List.set_cons_succ]
  refine rg_take 4 (some 23) (v:= ?v3) rfl rfl (by kernel_rfl) (by kernel_rfl) (by kernel_rfl) (fun _ _ _ h=>h) (by rfl) ?hy3 (by assumption) ?_
  case hy3=>intro W hSW;(try dsimp only at hSW);go_simp;(try with_reducible rfl)
  try simp only[Act.put,List.setIfInBounds_toArray,List.set_cons_zero,List.set_cons_succ]
  refine rg_take 5 (some 24) (v:= ?v4) rfl rfl (by kernel_rfl) (by kernel_rfl) (by kernel_rfl) (fun _ _ _ h=>h) (by rfl) ?hy4 (by assumption) ?_
  case hy4=>intro W hSW;(try dsimp only at hSW);go_simp;(try with_reducible rfl)
  try simp only[Act.put,List.setIfInBounds_toArray,List.set_cons_zero,List.set_cons_succ]
  refine rg_take 6 (some 25) (v:= ?v5) rfl rfl (by kernel_rfl) (by kernel_rfl) (by kernel_rfl) (fun _ _ _ h=>h) (by rfl) ?hy5 (by assumption) ?_
  case hy5=>intro W hSW;(try dsimp only at hSW);go_simp;(try with_reducible rfl)
  try simp only[Act.put,List.setIfInBounds_toArray,List.set_cons_zero,List.set_cons_succ]
  refine rg_take 7 (some 26) (v:= ?v6) rfl rfl (by kernel_rfl) (by kernel_rfl) (by kernel_rfl) (fun _ _ _ h=>h) (by rfl) ?hy6 (by assumption) ?_
  case hy6=>intro W hSW;(try dsimp only at hSW);go_simp;(try with_reducible rfl)
  try simp only[Act.put,List.setIfInBounds_toArray,List.set_cons_zero,List.set_cons_succ]
  refine rg_one 0 rfl (by kernel_rfl) (by rfl) (fun K hK=> ?_)
  have hn4:os.length*32≤140737488351232:=by have e:=h.out.1;have:=hMh.out;rw[smay_r] at this;unfold opsV at this;simp only[Bool.and_eq_true,decide_eq_true_eq] at this;omega
  obtain rfl:n=os.length:=h.out.1
  have hmv : ∀k,(Value.slice ma m.length mc).ownBlock=some k→k<we.heap.size:=fun k hk=>(own_lt hk6.out.own k hk).2
  have hwl6:=hV6.out.1
  have hw16:w1.heap.size+1≤we.heap.size:=hk6.out.bl
  go_simp
  have hown:=OwnO.fresh we
  have hba:=below_alc we (.cells #[] 54)
  have hV7:=bH (hV6.out.below hba)
  have hk7:=bH (hk6.out.below hba)
  refine hK.out _ _ ⟨hV7.out.2.1,hk7.out.cm⟩ (fun hHeld1=> ?_)
  clear hK K hHeld
  have hdl:we.heap.size<(we.alloc (.cells #[] 54)).heap.size:=by simp
  generalize we.alloc (.cells #[] 54)=wa5 at hV7 hk7 hown hHeld1 hdl ⊢
  have hown:=bH hown
  try simp only[Act.put,List.setIfInBounds_toArray,List.set_cons_zero,List.set_cons_succ]
  refine rg_one 3 rfl (by kernel_rfl) (by rfl) (fun K hK=> ?_)
  refine wp_or (.tmp 19) (.tmp 21) wa5 we.heap.size (by omega) _ [] rfl rfl a os.length c os rfl (h.out.below hV7.out.2.2.2.2.2.2) hc hown.out (by simp;omega) ?_
  intro v' wb5 hv' hbar
  rw[List.nil_append] at hv'
  have hnd : ∀k,(Value.slice (some ⟨we.heap.size,0,none⟩) 0 0).ownBlock=some k→k=we.heap.size:=fun k e=>by have e:some we.heap.size=some k:=e;injection e with e;exact e.symm
  have hV9:=bH (hV7.out.bar hbar (fun e=>by have:=hnd _ e;omega) (fun e=>by have:=hnd _ e;omega) (fun k e=>by have:=hnd _ e;omega))
  have hk9:=bH (hk7.out.bar hbar (fun e=>by have:=hnd _ e;omega) (fun k hk _ e=>by have:=hnd _ e;omega) (fun k hk e=>by have:=hnd _ e;have:=hmv k hk;omega))
  have hH:wb5.cell? ⟨w.heap.size,0,none⟩=some (.slice a os.length c)∧wb5.cell? ⟨w1.heap.size,1,none⟩=some (.slice ma m.length mc):=⟨hV9.out.2.1,hk9.out.cm⟩
  refine hK.out _ _ hH (fun hHeld=> ?_)
  clear hK K hHeld1 hown hbar hH
  try simp only[Act.put,List.setIfInBounds_toArray,List.set_cons_zero,List.set_cons_succ]
  have hv0:=bH hv'
  have hv1:=bH (own_lo2 hv' (show w.heap.size≤we.heap.size by omega))
  obtain⟨ao,co,rfl⟩:=ownO_sl2 hv1.out
  clear hv' 
  refine rg_take 8 (some 27) (v:= ?v7) rfl rfl (by kernel_rfl) (by kernel_rfl) (by kernel_rfl) (fun _ _ _ h=>h) (by rfl) ?hy7 (by assumption) ?_
  case hy7=>intro W hSW;(try dsimp only at hSW);go_simp;(try with_reducible rfl)
  try simp only[Act.put,List.setIfInBounds_toArray,List.set_cons_zero,List.set_cons_succ]
  have hr2 : ¬ w.heap.size=w.heap.size+1:=by omega
  have hr1 : ¬ w1.heap.size=w.heap.size+1:=by omega
  refine rg_one 9 rfl (by kernel_rfl) (by rfl) (fun K hK=> ?_)
  obtain⟨v0,v1,v2,v3,v4,v5,v6⟩:=hV9.out
  have hv5:=v5 0
  have hv6:=v5 1
  obtain⟨s0,s1,s2⟩:=two_set v3 v4 (.slice ao os.length co) (.slice ma m.length mc)
  have hfin:Hid (Below w.heap.size w ((wb5.setCell ⟨w.heap.size+1,0,none⟩ (.slice ao os.length co)).setCell ⟨w.heap.size+1,1,none⟩ (.slice ma m.length mc))):=bH ((v6.setCell (by show w.heap.size≤w.heap.size+1;omega) _).setCell (by show w.heap.size≤w.heap.size+1;omega) _)
  go_simp
  refine hK.out _ _ ⟨s2.cell hHeld.1 hr2,s2.cell hHeld.2 hr1⟩ (fun hHeldS=> ?_)
  clear hK K hHeld v0 v1 v2 v3 v4 v5 v6 hv5 hv6
  try simp only[Act.put,List.setIfInBounds_toArray,List.set_cons_zero,List.set_cons_succ]
  refine rg_take 10 (some 3) (v:= ?v8) rfl rfl (by kernel_rfl) (by kernel_rfl) (by kernel_rfl) (fun _ _ _ h=>h) (by rfl) ?hy8 (by assumption) ?_
  case hy8=>intro W hSW;(try dsimp only at hSW);go_simp;(try with_reducible rfl)
  try simp only[Act.put,List.setIfInBounds_toArray,List.set_cons_zero,List.set_cons_succ]
  refine wpAnyH_done (by kernel_rfl) ?_ _
  have hON:=hv0.out
  have hfo:OwnO w.heap.size ((wb5.setCell ⟨w.heap.size+1,0,none⟩ (.slice ao os.length co)).setCell ⟨w.heap.size+1,1,none⟩ (.slice ma m.length mc)) (.slice ao os.length co) os:=by
   refine Bar.own s2 ⟨hON.1, ?_⟩ (fun k hk e=> ?_)
   ·rcases hON.2 with e|⟨g,cap,cur,e1,e2,e3⟩
    ·exact .inl e
    ·exact .inr ⟨g,cap,cur,e1,by omega,e3⟩
   ·have:=(own_lt hON k hk).1
    have:=hV6.out.1
    have e:k=w.heap.size+1:=e
    omega
  have hMN:=hk9.out.own
  have hfn:OwnN w.heap.size ((wb5.setCell ⟨w.heap.size+1,0,none⟩ (.slice ao os.length co)).setCell ⟨w.heap.size+1,1,none⟩ (.slice ma m.length mc)) (.slice ma m.length mc) m:=by
   refine Bar.own s2 ⟨hMN.1, ?_⟩ (fun k hk e=> ?_)
   ·rcases hMN.2 with e|⟨g,cap,cur,e1,e2,e3⟩
    ·exact .inl e
    ·exact .inr ⟨g,cap,cur,e1,by omega,e3⟩
   ·have:=(own_lt hMN k hk).1
    have e:k=w.heap.size+1:=e
    omega
  have hfo:=bH hfo
  have hfn:=bH hfn
  go_wp2_with fail
  exact bodyPost_ret (v:= .tuple #[.agg #[.slice ao os.length co, .slice ma m.length mc], .int .i64 0]) (by simp[results,Tryz.results9,go_sem,s0,s1]) rfl ⟨hfin.out, .inr ⟨hMh.out,_,_,rfl,hfo.out,by rw[hmh.out];exact hfn.out⟩⟩
end Go.Proofs.YthpcbgljbpmafaaGreatDoor
