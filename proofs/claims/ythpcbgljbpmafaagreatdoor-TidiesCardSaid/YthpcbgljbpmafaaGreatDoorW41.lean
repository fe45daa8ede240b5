/- The reference's Resolve, walked. -/
import Derived.Test.YthpcbgljbpmafaaGreatDoorW30
import Derived.Test.YthpcbgljbpmafaaGreatDoorW32
import Derived.Test.YthpcbgljbpmafaaGreatDoorW40
import Derived.Laws.OwnMore
set_option maxRecDepth 100000
set_option maxHeartbeats 8000000
namespace Go.Proofs.YthpcbgljbpmafaaGreatDoor
open Go.RowKit
set_option linter.unusedVariables false
set_option linter.unusedSimpArgs false
theorem run_appN {W:World} (B:Nat) (hB:B≤W.heap.size) (ty:TypeId) (v:Value) (l:List Nd) (hown:OwnN B W v l) (ad:Addr) (m c:Nat) (ys:List Nd) (hm:m=ys.length) (hnews : ∀j u,(ndL ys)[j]? = some u→W.cell? (ad.add j)=some u) (hlen:(l.length+ys.length)*112≤140737488355328) :
  ∃v' w',(Builtin.append_ #[23,23] ty #[v, .slice (some ad) m c]).run Tryz.prog W= .ok v' w'∧OwnN B w' v' (l++ys)∧Bar (fun k=>v.ownBlock=some k) W w':=by
 subst hm
 obtain⟨i0,hi,hz0,hz1,hz2⟩:=info_parts infoNd
 obtain⟨v',w',hr,h1,h2,h3⟩:=run_append_own (P:=Tryz.prog) (w:=W) B 23 ty 45 i0 (.agg #[.int .i64 0, .int .i64 0, .int .i64 0, .int .i64 0, .int .i64 0, .string ByteArray.empty, .string ByteArray.empty, .string ByteArray.empty, .string ByteArray.empty, .int .i64 0]) 10 112 Tryz.underlying23 hi hz0 hz1 hz2 rfl (by decide) v l.length (ndL l) hown ad ys.length c (ndL ys) (ndL_len ys) hnews (ndL_one ys) (by unfold maxLen;omega) (by omega) hB
 exact⟨v',w',hr,by unfold OwnN;rw[ndL_app,List.length_append];exact h1,⟨h2.os,h2.tape,h2.output,h2.size,fun k hk hn=>h2.block k hk (fun e=>hn e.symm)⟩⟩
theorem run_appO {W:World} (B:Nat) (hB:B≤W.heap.size) (ty:TypeId) (v:Value) (l:List Or) (hown:OwnO B W v l) (a:Option Addr) (m c:Nat) (ys:List Or) (hx:OArg W a m ys) (hlen:(l.length+ys.length)*32≤140737488355328) (hc:a=none→c=0) :
  ∃v' w',(Builtin.append_ #[22,22] ty #[v, .slice a m c]).run Tryz.prog W= .ok v' w'∧OwnO B w' v' (l++ys)∧Bar (fun k=>v.ownBlock=some k) W w':=by
 obtain⟨i0,hi,hz0,hz1,hz2⟩:=info_parts infoOr
 obtain⟨hm,hx⟩:=hx
 subst hm
 cases a with
 | none=>
  have hys:ys=[]:=by
   rcases hx with h|⟨b,off,h,_⟩
   ·exact h
   ·cases h
  subst hys
  obtain rfl:=hc rfl
  exact⟨v,W,run_append_owned_none (P:=Tryz.prog) (w:=W) B 22 ty 54 i0 3 Tryz.underlying22 hi v l.length (orL l) hown,by rw[List.append_nil];exact hown,Bar.refl _ _⟩
 | some ad=>
  have hnews : ∀j u,(orL ys)[j]? = some u→W.cell? (ad.add j)=some u:=by
   rcases hx with h|⟨b,off,h,hs,_⟩
   ·subst h;intro j u hj;simp[orL] at hj
   ·injection h with h;subst h
    intro j u hj
    have e:(⟨b,off,none⟩:Addr).add j=⟨b,off+j,none⟩:=by simp[Addr.add];try omega
    rw[e];exact orSl_get hs j u hj
  obtain⟨v',w',hr,h1,h2,h3⟩:=run_append_own (P:=Tryz.prog) (w:=W) B 22 ty 54 i0 (.agg #[.string ByteArray.empty, .int .i64 0, .int .i64 0]) 3 32 Tryz.underlying22 hi hz0 hz1 hz2 rfl (by decide) v l.length (orL l) hown ad ys.length c (orL ys) (orL_len ys) hnews (orL_one ys) (by unfold maxLen;omega) (by omega) hB
  exact⟨v',w',hr,by unfold OwnO;rw[orL_app,List.length_append];exact h1,⟨h2.os,h2.tape,h2.output,h2.size,fun k hk hn=>h2.block k hk (fun e=>hn e.symm)⟩⟩
theorem wp_nd {o:Oper} {a:Act} {K:Act→World→Prop} {Q:Exit→Act→World→Prop} (s x:Operand) (W:World) (B:Nat) (hB:B≤W.heap.size) (v:Value) (l:List Nd)
  (ho:o.op= .call { callee:= .builtin .append,args:= #[s,x],argTypes:= #[23,23] })
  (hs:a.eval s=v) (ad:Addr) (m c:Nat) (ys:List Nd) (hx:a.eval x= .slice (some ad) m c) (hm:m=ys.length) (hnews : ∀j u,(ndL ys)[j]? = some u→W.cell? (ad.add j)=some u) (hown:OwnN B W v l) (hlen:(l.length+ys.length)*112≤140737488355328)
  (h : ∀v' w',OwnN B w' v' (l++ys)→Bar (fun k=>v.ownBlock=some k) W w'→K (a.put o.dst v') w') :
  o.wp Tryz.prog a W K Q:=by
 obtain⟨v',w',hr,h1,h2⟩:=run_appN B hB o.type v l hown ad m c ys hm hnews hlen
 unfold Oper.wp execOp
 simp only[ho,resolve,invoke,builtin,Sem.run_bind,Sem.run_pure,Result.andThen_ok,List.map_toArray,List.map_cons,List.map_nil,hs,hx,hr]
 exact h v' w' h1 h2
theorem wp_or {o:Oper} {a:Act} {K:Act→World→Prop} {Q:Exit→Act→World→Prop} (s x:Operand) (W:World) (B:Nat) (hB:B≤W.heap.size) (v:Value) (l:List Or)
  (ho:o.op= .call { callee:= .builtin .append,args:= #[s,x],argTypes:= #[22,22] })
  (hs:a.eval s=v) (ad:Option Addr) (m c:Nat) (ys:List Or) (hx:a.eval x= .slice ad m c) (hxs:OArg W ad m ys) (hc:ad=none→c=0) (hown:OwnO B W v l) (hlen:(l.length+ys.length)*32≤140737488355328)
  (h : ∀v' w',OwnO B w' v' (l++ys)→Bar (fun k=>v.ownBlock=some k) W w'→K (a.put o.dst v') w') :
  o.wp Tryz.prog a W K Q:=by
 obtain⟨v',w',hr,h1,h2⟩:=run_appO B hB o.type v l hown ad m c ys hxs hlen hc
 unfold Oper.wp execOp
 simp only[ho,resolve,invoke,builtin,Sem.run_bind,Sem.run_pure,Result.andThen_ok,List.map_toArray,List.map_cons,List.map_nil,hs,hx,hr]
 exact h v' w' h1 h2
theorem own_lo2 {B B':Nat} {w:World} {e:TypeId} {size:Nat} {v:Value} {n:Nat} {xs:List Value} (h:w.ownsRow B' e size v n xs) (hB:B≤B'):w.ownsRow B e size v n xs:=by
 refine⟨h.1, ?_⟩
 rcases h.2 with h|⟨g',cap,cur,e1,e2,e3⟩
 ·exact .inl h
 ·exact .inr ⟨g',cap,cur,e1,by omega,e3⟩
theorem ownO_sl2 {B:Nat} {w:World} {v:Value} {l:List Or} (h:OwnO B w v l) : ∃a c,v= .slice a l.length c:=by
 rcases h.cases with ⟨h1,rfl⟩|⟨g,c,h1,_⟩
 ·exact⟨none,0,h1⟩
 ·exact⟨_,c,h1⟩
def Uniq (os:List Or) (i:Nat):Prop:= ∀x,x<i→ ∀y,y<x→eqS (os.getD x or0).nm (os.getD y or0).nm=false
theorem getD_nm (os:List Or) (i:Nat) (h:i<os.length):(opN os)[i]? = some (os.getD i or0).nm:=by
 unfold opN
 rw[List.getElem?_map,List.getD_eq_getElem?_getD,List.getElem?_eq_getElem h];rfl
theorem uniq_nodup {os:List Or} (h:Uniq os os.length):dupB (opN os)=false:=by
 rw[dupB_iff,List.nodup_iff_pairwise_ne,List.pairwise_iff_getElem]
 intro i j hi hj hij e
 have hl:(opN os).length=os.length:=by unfold opN;rw[List.length_map]
 have h1:=h j (by omega) i hij
 have e1:=getD_nm os i (by omega)
 have e2:=getD_nm os j (by omega)
 rw[List.getElem?_eq_getElem hi] at e1
 rw[List.getElem?_eq_getElem hj] at e2
 injection e1 with e1
 injection e2 with e2
 rw[← e1, ← e2,e] at h1
 have:=eqS_iff.2 (rfl:(opN os)[j]=(opN os)[j])
 rw[h1] at this;cases this
theorem dup_of {os:List Or} {i j:Nat} (hi:i<os.length) (hj:j<i) (h:eqS (os.getD i or0).nm (os.getD j or0).nm=true):dupB (opN os)=true:=by
 cases hd:dupB (opN os) with
 | true=>rfl
 | false=>
  rw[dupB_iff,List.nodup_iff_pairwise_ne,List.pairwise_iff_getElem] at hd
  have hl:(opN os).length=os.length:=by unfold opN;rw[List.length_map]
  have e1:=getD_nm os i hi
  have e2:=getD_nm os j (by omega)
  rw[List.getElem?_eq_getElem (by omega)] at e1
  rw[List.getElem?_eq_getElem (by omega)] at e2
  injection e1 with e1
  injection e2 with e2
  have:=eqS_iff.1 h
  exact absurd (by rw[e1,e2,this]) (hd j i (by omega) (by omega) hj)
theorem rResolve_any (a a2:Option Addr) (n c n2 c2:Nat) (os:List Or) (ts:List Nd) (w:World) (h:Hid (OArg w a n os)) (hc:a=none→c=0) (hsz:Hid (∀t∈os,OrSz t)) (hl:n≤140737488351232) (h2:Hid (NArg w a2 n2 ts)) (hsz2:Hid (∀t∈ts,NdSz t)) (hl2:n2≤140737488351232) :
  Calls Tryz.prog 32 #[.agg #[.slice a n c, .slice a2 n2 c2]] w (ResPost os (resV os ts) w):=by
 have hV:=bH (rvW_mk w a n c a2 n2 c2)
 obtain⟨w0,hw0⟩ : ∃W,(w.alloc (.cells #[.slice a n c, .slice a2 n2 c2] 25)).alloc (.cells #[.slice none 0 0, .slice none 0 0] 25)=W:=⟨_,rfl⟩
 rw[hw0] at hV
 go_enter Tryz.func32,Tryz.ntmps32
 go_upto_region 1 with fail
 (try rw[hw0])
 clear hw0
 obtain⟨v0,v1,v2,v3,v4,v5,v6⟩:=hV.out
 go_wp2_with fail
 clear v0 v1 v2 v3 v4 v5
 refine(rMay_any a a2 n c n2 c2 os ts _ (bH (h.out.below v6)) hsz hl (bH (h2.out.below v6)) hsz2 hl2).mono ?_
 rintro e w1 ⟨rfl,hb⟩
 have hV:=bH (hV.out.below hb)
 clear hb v6
 cases hmay:mayV os ts
 ·have hr:Hid (resV os ts= .error (600,0)):=bH (by unfold resV;rw[hmay];rfl)
  obtain⟨v0,v1,v2,v3,v4,v5,v6⟩:=hV.out
  have hv5:=v5 0
  have hv6:=v5 1
  obtain⟨s0,s1,s2⟩:=two_set v3 v4 (.slice none 0 0) (.slice none 0 0)
  have hfin:Hid (Below w.heap.size w ((w1.setCell ⟨w.heap.size+1,0,none⟩ (.slice none 0 0)).setCell ⟨w.heap.size+1,1,none⟩ (.slice none 0 0))):=bH ((v6.setCell (by show w.heap.size≤w.heap.size+1;omega) _).setCell (by show w.heap.size≤w.heap.size+1;omega) _)
  clear v6
  go_wp2_with fail
  exact bodyPost_ret (v:= .tuple #[.agg #[.slice none 0 0, .slice none 0 0], .int .i64 0, .int .i64 600]) (by simp[results,Tryz.results32,go_sem, *]) rfl (res_err hr.out hfin.out)
 ·obtain⟨ht1,ht2,ho4,htb⟩:=mayV_tree hmay
  obtain rfl:n=os.length:=h.out.1
  obtain rfl:n2=ts.length:=h2.out.1
  have htb:=bH htb
  have hrd:Hid (dupB (opN os)=true→resV os ts= .error (602,0)):=bH fun e=>by unfold resV;rw[hmay,e];rfl
  have hrn:Hid (dupB (opN os)=false→resV os ts=resS (opN os) ts.length ts (ts.length-1) []):=bH fun e=>by unfold resV;rw[hmay,e];rfl
  clear hmay
  obtain⟨v0,v1,v2,v3,v4,v5,v6⟩:=hV.out
  go_wp2_with fail
  clear v0 v1 v2 v3 v4 v5 v6
  go_loopw [5] (fun iv wr=> ∃i:Nat,i≤os.length∧iv= .int .i64 i∧Hid (RvW w a os.length c a2 ts.length c2 wr)∧Hid (Uniq os i)) (fun iv _=>os.length-(intOf iv).toNat)
  case atStart=>exact⟨0,by omega,rfl,hV,bH fun x hx=>by omega⟩
  case round=>
   rename World=>wi
   obtain⟨i,hi,rfl,hV,hU⟩:=hrel
   by_cases hlt:i<os.length
   ·have hii:(i:Int)<(os.length:Int):=by omega
    have hi0:(0:Int)≤(i:Int):=by omega
    obtain⟨v0,v1,v2,v3,v4,v5,v6⟩:=hV.out
    go_wp2_with fail
    clear v0 v1 v2 v3 v4 v5 v6
    go_loopw [6] (fun jv wr=> ∃j:Nat,j≤i∧jv= .int .i64 j∧Hid (RvW w a os.length c a2 ts.length c2 wr)∧Hid (∀y,y<j→eqS (os.getD i or0).nm (os.getD y or0).nm=false)) (fun jv _=>i-(intOf jv).toNat)
    case atStart=>exact⟨0,by omega,rfl,hV,bH fun x hx=>by omega⟩
    case round=>
     obtain⟨j,hj,rfl,hV,hJ⟩:=hrel
     by_cases hjt:j<i
     ·obtain⟨v0,v1,v2,v3,v4,v5,v6⟩:=hV.out
      rcases h.out.2 with h0|⟨b,off,rfl,hs,hbl⟩
      ·rw[h0] at hlt;simp at hlt
      have hO1:=(hs i hlt).below v6 hbl
      have hO2:=(hs j (by omega)).below v6 hbl
      have hdu:=bH fun e=>hrd.out (dup_of hlt hjt e)
      obtain⟨q,hq⟩ : ∃q,eqS (os.getD i or0).nm (os.getD j or0).nm=q:=⟨_,rfl⟩
      have hJ2:Hid (q=false→ ∀y,y<j+1→eqS (os.getD i or0).nm (os.getD y or0).nm=false):=bH fun e y hy=>by
       by_cases hyj:y=j
       ·subst hyj;rw[hq,e]
       ·exact hJ.out y (by omega)
      rw[hq] at hdu
      unfold eqS at hq
      obtain⟨e0,_,_⟩:=hO1
      obtain⟨d0,_,_⟩:=hO2
      generalize hui:(os.getD i or0).nm=ui at e0 hq
      generalize huj:(os.getD j or0).nm=uj at d0 hq
      have hui:=bH hui
      have huj:=bH huj
      have hji:(j:Int)<(i:Int):=by omega
      have hjo:(j:Int)<(os.length:Int):=by omega
      have hj0:(0:Int)≤(j:Int):=by omega
      clear hs
      cases q
      ·go_wp2_with fail
       go_quiet (fail)
       go_wp2_with fail
       go_roundw
       case rel=>exact⟨j+1,by omega,by go_num,bH (hV.out.below (below_drewN (Below.refl _ _) _)),bH (by rw[← hui.out];exact hJ2.out (by first|rfl|trivial))⟩
       case measure=>simp[intOf];omega
      ·have hr:=bH (hdu.out (by first|rfl|trivial))
       clear hdu hJ2
       go_wp2_with fail
       go_quiet (fail)
       generalize hwq:wr.drewN _=wq
       have hV:=bH (hV.out.below (show Below wr.heap.size wr wq by rw[← hwq];exact below_drewN (Below.refl _ _) _))
       clear hwq v0 v1 v2 v3 v4 v5 v6 e0 d0
       obtain⟨v0,v1,v2,v3,v4,v5,v6⟩:=hV.out
       have hv5:=v5 0
       have hv6:=v5 1
       obtain⟨s0,s1,s2⟩:=two_set v3 v4 (.slice none 0 0) (.slice none 0 0)
       have hfin:Hid (Below w.heap.size w ((wq.setCell ⟨w.heap.size+1,0,none⟩ (.slice none 0 0)).setCell ⟨w.heap.size+1,1,none⟩ (.slice none 0 0))):=bH ((v6.setCell (by show w.heap.size≤w.heap.size+1;omega) _).setCell (by show w.heap.size≤w.heap.size+1;omega) _)
       clear v6
       go_wp2_with fail
       exact bodyPost_ret (v:= .tuple #[.agg #[.slice none 0 0, .slice none 0 0], .int .i64 0, .int .i64 602]) (by simp[results,Tryz.results32,go_sem, *]) rfl (res_err hr.out hfin.out)
     ·obtain rfl:j=i:=by omega
      obtain⟨v0,v1,v2,v3,v4,v5,v6⟩:=hV.out
      go_wp2_with fail
      go_roundw
      case rel=>exact⟨j+1,by omega,by go_num,hV,bH fun x hx y hy=>by
       by_cases hxj:x=j
       ·subst hxj;exact hJ.out y hy
       ·exact hU.out x (by omega) y hy⟩
      case measure=>simp[intOf];omega
   ·obtain rfl:i=os.length:=by omega
    have hdp:=uniq_nodup hU.out
    have hr:=bH (hrn.out hdp)
    clear hrd hrn hU
    have hii : ¬ ((os.length:Nat):Int)<(os.length:Int):=by omega
    obtain⟨v0,v1,v2,v3,v4,v5,v6⟩:=hV.out
    go_upto_region 11 with fail
    clear v0 v1 v2 v3 v4 v5 v6
    refine wp_region_held_drew (S:=fun W=>W.cell? ⟨w.heap.size,0,none⟩=some (.slice a os.length c)∧W.cell? ⟨w.heap.size,1,none⟩=some (.slice a2 ts.length c2)) (by kernel_rfl) (by have hd:=hV.out.below ((Below.refl _ _).drew);exact⟨hd.2.1,hd.2.2.1⟩) (fun hHeld=> ?_)
    have hV:=bH (hV.out.below ((Below.refl _ _).drew))
    generalize wi.drew=wd at hV hHeld ⊢
    have hwd0:=hV.out.1
    refine rg_take 0 (some 38) (v:= ?v1) rfl rfl (by kernel_rfl) (by kernel_rfl) (by kernel_rfl) (fun _ _ _ h=>h) (by rfl) ?hy1 (by assumption) ?_
    case hy1=>intro W hSW;(try dsimp only at hSW);go_simp;(try with_reducible rfl)
    try simp only[Act.put,List.setIfInBounds_toArray,List.set_cons_zero,List.set_cons_succ]
    refine rg_take 1 (some 39) (v:= ?v2) rfl rfl (by kernel_rfl) (by kernel_rfl) (by kernel_rfl) (fun _ _ _ h=>h) (by rfl) ?hy2 (by assumption) ?_
    case hy2=>intro W hSW;(try dsimp only at hSW);go_simp;(try with_reducible rfl)
    try simp only[Act.put,List.setIfInBounds_toArray,List.set_cons_zero,List.set_cons_succ]
    refine rg_take 3 (some 41) (v:= ?v3) rfl rfl (by kernel_rfl) (by kernel_rfl) (by kernel_rfl) (fun _ _ _ h=>h) (by rfl) ?hy3 (by assumption) ?_
    case hy3=>intro W hSW;(try dsimp only at hSW);go_simp;(try with_reducible rfl)
    try simp only[Act.put,List.setIfInBounds_toArray,List.set_cons_zero,List.set_cons_succ]
    refine rg_take 4 (some 42) (v:= ?v4) rfl rfl (by kernel_rfl) (by kernel_rfl) (by kernel_rfl) (fun _ _ _ h=>h) (by rfl) ?hy4 (by assumption) ?_
    case hy4=>intro W hSW;(try dsimp only at hSW);go_simp;(try with_reducible rfl)
    try simp only[Act.put,List.setIfInBounds_toArray,List.set_cons_zero,List.set_cons_succ]
    refine rg_one 2 rfl (by kernel_rfl) (by rfl) (fun K hK=> ?_)
    go_simp
    have hown:=OwnN.fresh wd
    have hba:=below_alc wd (.cells #[] 45)
    have hV:=bH (hV.out.below hba)
    refine hK.out _ _ ⟨hV.out.2.1,hV.out.2.2.1⟩ (fun hHeld1=> ?_)
    clear hK K hHeld
    have hdl:wd.heap.size<(wd.alloc (.cells #[] 45)).heap.size:=by simp
    generalize wd.alloc (.cells #[] 45)=wa at hV hown hHeld1 hdl ⊢
    have hown:=bH hown
    try simp only[Act.put,List.setIfInBounds_toArray,List.set_cons_zero,List.set_cons_succ]
    have hwd:=hV.out.1
    rcases h2.out.2 with h0|⟨b2,off2,rfl,hs2,hbl2⟩
    ·rw[h0] at ht1;simp at ht1
    have hsA:=NdSl.bar hs2 (Bar.of_below (S:=fun _=>False) hV.out.2.2.2.2.2.2) id
    refine rg_one 5 rfl (by kernel_rfl) (by rfl) (fun K hK=> ?_)
    refine wp_nd (.tmp 40) (.tmp 42) wa wd.heap.size (by omega) _ [] rfl rfl ⟨b2,off2,none⟩ ts.length c2 ts rfl rfl (fun j u hj=>by
     have e:(⟨b2,off2,none⟩:Addr).add j=⟨b2,off2+j,none⟩:=by simp[Addr.add];try omega
     rw[e];exact ndSl_get hsA j u hj) hown.out (by simp;omega) ?_
    intro v' wb hv' hbar
    rw[List.nil_append] at hv'
    have hdw:w.heap.size+1<wd.heap.size∨True:= .inr trivial
    have hV:=bH (hV.out.bar hbar (fun e=>by have e:some wd.heap.size=some w.heap.size:=e;injection e with e;omega) (fun e=>by have e:some wd.heap.size=some (w.heap.size+1):=e;injection e with e;omega) (fun k e=>by have e:some wd.heap.size=some k:=e;injection e with e;omega))
    refine hK.out _ _ ⟨hV.out.2.1,hV.out.2.2.1⟩ (fun hHeld2=> ?_)
    clear hK K hHeld1 hown hbar hsA
    try simp only[Act.put,List.setIfInBounds_toArray,List.set_cons_zero,List.set_cons_succ]
    rcases hv'.cases with ⟨_,hz⟩|⟨N,cp,rfl,hNb,hNl,hcp,hNd,hNf⟩
    ·rw[hz] at ht1;simp at ht1
    clear hv'
    refine rg_take 6 (some 44) (v:= ?v5) rfl rfl (by kernel_rfl) (by kernel_rfl) (by kernel_rfl) (fun _ _ _ h=>h) (by rfl) ?hy5 (by assumption) ?_
    case hy5=>intro W hSW;(try dsimp only at hSW);go_simp;(try with_reducible rfl)
    try simp only[Act.put,List.setIfInBounds_toArray,List.set_cons_zero,List.set_cons_succ]
    refine rg_one 7 rfl (by kernel_rfl) (by rfl) (fun K hK=> ?_)
    go_simp
    obtain⟨wc,hwc⟩ : ∃W,wb.alloc (.cells #[.slice a os.length c, .slice (some ⟨N,0,none⟩) ts.length cp, .int .i64 0, .int .i64 0] 91)=W:=⟨_,rfl⟩
    (try rw[hwc])
    have hbc:Below wb.heap.size wb wc:=by rw[← hwc];exact below_alc _ _
    have hV:=bH (hV.out.below hbc)
    have hS:SkW N wb.heap.size a os.length c cp os wc (ts,0,0):=by
     have g : ∀o x,(#[.slice a os.length c, .slice (some ⟨N,0,none⟩) ts.length cp, .int .i64 0, .int .i64 0]:Array Value)[o]? = some x→wc.cell? ⟨wb.heap.size,o,none⟩=some x:=fun o x hx=>by rw[← hwc,World.cell?_alloc_at _ _ _ _ rfl];exact hx
     exact⟨g 0 _ rfl,g 1 _ rfl,g 2 _ rfl,g 3 _ rfl,by rw[← hwc];simp,fun o=>by rw[← hwc];simp[go_sem],hNd.below hbc hNl,by have:=hbc.size;omega,fun o=>by rw[hbc.frozen (p:=⟨N,o,none⟩) hNl];exact hNf o,h.out.below hV.out.2.2.2.2.2.2⟩
    refine hK.out _ _ ⟨hV.out.2.1,hV.out.2.2.1⟩ (fun hHeld3=> ?_)
    clear hK K hHeld2 hwc hbc hNd hNf
    try simp only[Act.put,List.setIfInBounds_toArray,List.set_cons_zero,List.set_cons_succ]
    refine rg_take 8 (some 7) (v:= ?v6) rfl rfl (by kernel_rfl) (by kernel_rfl) (by kernel_rfl) (fun _ _ _ h=>h) (by rfl) ?hy6 (by assumption) ?_
    case hy6=>intro W hSW;(try dsimp only at hSW);go_simp;(try with_reducible rfl)
    try simp only[Act.put,List.setIfInBounds_toArray,List.set_cons_zero,List.set_cons_succ]
    refine wpAnyH_done (by kernel_rfl) ?_ _
    have hS:=bH hS
    have hGl:=hS.out.gl
    have hNG:N≠wb.heap.size:=by omega
    have hNw:w.heap.size+1<N:=by omega
    have hGw:w.heap.size+1<wb.heap.size:=by omega
    have hA:Hid (Apart N wb.heap.size a os):=bH ⟨hNG,fun h0 b off e=>by have:=h.out.lt h0 b off e;omega⟩
    have e1:IntKind.i64.wrap ((ts.length:Int)-1)=((ts.length-1:Nat):Int):=by rw[IntWalk.i64_in _ (by omega)];omega
    have kR:=bH (rwalk_any N wb.heap.size a os.length c cp os hA (by omega) ts.length (ts.length-1) [] none 0 0 (ts,0,0) wc (by omega) (by show _<ts.length;omega) (by show ts.length≤_;omega) (downs_of ht1 htb.out) (by simp;omega) hS (bH ⟨rfl, .inl rfl⟩) (fun _=>rfl) (bH fun h=>absurd rfl h))
    have r0:=hS.out.r
    dsimp only at r0
    clear hHeld3
    go_wp2_with fail
    clear r0 e1
    refine kR.out.mono ?_
    rintro e w5 ⟨rfl,hS5,hB5⟩
    have hV:=bH (hV.out.bar hB5 (fun e=>by rcases e with e|e<;>omega) (fun e=>by rcases e with e|e<;>omega) (fun k e=>by rcases e with e|e<;>omega))
    have hag:=walkR_agree (opN os) ts.length (ts,0,0) (ts.length-1) [] rfl
    have hl5:=(walkR_same (opN os) ts.length (ts,0,0) (ts.length-1) []).len
    generalize walkR (opN os) ts.length (ts,0,0) (ts.length-1) []=s5 at hS5 hag hl5
    clear kR hS hB5
    cases hq:resS (opN os) ts.length ts (ts.length-1) [] with
    | error er=>
     obtain⟨ec,ep⟩:=er
     have hq2:=hr.out.trans hq
     obtain⟨hbad,_⟩:=shape_bad hq2
     have hbad:ec=600∨ec=601∨ec=602:=hbad
     rw[hq] at hag
     have h52:=hag (show ec≠0 by omega)
     have hc5:=hS5.c
     have hp5:=hS5.p
     have hgl5:=hS5.gl
     rw[h52] at hc5 hp5
     dsimp only at hc5 hp5
     have hec:(ec==0)=false:=beq_eq_false_iff_ne.2 (by omega)
     have hq2:=bH hq2
     clear hq hag h52 hS5 hbad hl5 hr
     go_upto_region 14 with fail
     refine wp_region_held_drew (S:=fun W=>W.cell? ⟨wb.heap.size,2,none⟩=some (.int .i64 ec)∧W.cell? ⟨wb.heap.size,3,none⟩=some (.int .i64 ep)) (by kernel_rfl) (by have hd:Bar (fun _=>False) w5 w5.drew:=Bar.of_below ((Below.refl _ _).drew);exact⟨hd.cell hc5 id,hd.cell hp5 id⟩) (fun hHeld=> ?_)
     have hV:=bH (hV.out.below ((Below.refl _ _).drew))
     generalize w5.drew=wd5 at hV hHeld ⊢
     clear hc5 hp5
     refine rg_take 0 (some 59) (v:= ?v7) rfl rfl (by kernel_rfl) (by kernel_rfl) (by kernel_rfl) (fun _ _ _ h=>h) (by rfl) ?hy7 (by assumption) ?_
     case hy7=>intro W hSW;(try dsimp only at hSW);go_simp;(try with_reducible rfl)
     try simp only[Act.put,List.setIfInBounds_toArray,List.set_cons_zero,List.set_cons_succ]
     refine rg_take 1 (some 60) (v:= ?v8) rfl rfl (by kernel_rfl) (by kernel_rfl) (by kernel_rfl) (fun _ _ _ h=>h) (by rfl) ?hy8 (by assumption) ?_
     case hy8=>intro W hSW;(try dsimp only at hSW);go_simp;(try with_reducible rfl)
     try simp only[Act.put,List.setIfInBounds_toArray,List.set_cons_zero,List.set_cons_succ]
     refine rg_take 2 (some 61) (v:= ?v9) rfl rfl (by kernel_rfl) (by kernel_rfl) (by kernel_rfl) (fun _ _ _ h=>h) (by rfl) ?hy9 (by assumption) ?_
     case hy9=>intro W hSW;(try dsimp only at hSW);go_simp;(try with_reducible rfl)
     try simp only[Act.put,List.setIfInBounds_toArray,List.set_cons_zero,List.set_cons_succ]
     refine rg_take 3 (some 62) (v:= ?v10) rfl rfl (by kernel_rfl) (by kernel_rfl) (by kernel_rfl) (fun _ _ _ h=>h) (by rfl) ?hy10 (by assumption) ?_
     case hy10=>intro W hSW;(try dsimp only at hSW);go_simp;(try with_reducible rfl)
     try simp only[Act.put,List.setIfInBounds_toArray,List.set_cons_zero,List.set_cons_succ]
     refine rg_take 4 (some 63) (v:= ?v11) rfl rfl (by kernel_rfl) (by kernel_rfl) (by kernel_rfl) (fun _ _ _ h=>h) (by rfl) ?hy11 (by assumption) ?_
     case hy11=>intro W hSW;(try dsimp only at hSW);go_simp;(try with_reducible rfl)
     try simp only[Act.put,List.setIfInBounds_toArray,List.set_cons_zero,List.set_cons_succ]
     refine rg_take 5 (some 64) (v:= ?v12) rfl rfl (by kernel_rfl) (by kernel_rfl) (by kernel_rfl) (fun _ _ _ h=>h) (by rfl) ?hy12 (by assumption) ?_
     case hy12=>intro W hSW;(try dsimp only at hSW);go_simp;(try with_reducible rfl)
     try simp only[Act.put,List.setIfInBounds_toArray,List.set_cons_zero,List.set_cons_succ]
     refine rg_take 6 (some 65) (v:= ?v13) rfl rfl (by kernel_rfl) (by kernel_rfl) (by kernel_rfl) (fun _ _ _ h=>h) (by rfl) ?hy13 (by assumption) ?_
     case hy13=>intro W hSW;(try dsimp only at hSW);go_simp;(try with_reducible rfl)
     try simp only[Act.put,List.setIfInBounds_toArray,List.set_cons_zero,List.set_cons_succ]
     refine rg_take 7 (some 66) (v:= ?v14) rfl rfl (by kernel_rfl) (by kernel_rfl) (by kernel_rfl) (fun _ _ _ h=>h) (by rfl) ?hy14 (by assumption) ?_
     case hy14=>intro W hSW;(try dsimp only at hSW);go_simp;(try with_reducible rfl)
     try simp only[Act.put,List.setIfInBounds_toArray,List.set_cons_zero,List.set_cons_succ]
     refine rg_take 8 (some 67) (v:= ?v15) rfl rfl (by kernel_rfl) (by kernel_rfl) (by kernel_rfl) (fun _ _ _ h=>h) (by rfl) ?hy15 (by assumption) ?_
     case hy15=>intro W hSW;(try dsimp only at hSW);go_simp;(try with_reducible rfl)
     try simp only[Act.put,List.setIfInBounds_toArray,List.set_cons_zero,List.set_cons_succ]
     refine rg_one 9 rfl (by kernel_rfl) (by rfl) (fun K hK=> ?_)
     obtain⟨v0,v1,v2,v3,v4,v5,v6⟩:=hV.out
     have hv5:=v5 0
     have hv6:=v5 1
     obtain⟨s0,s1,s2⟩:=two_set v3 v4 (.slice none 0 0) (.slice none 0 0)
     have hfin:Hid (Below w.heap.size w ((wd5.setCell ⟨w.heap.size+1,0,none⟩ (.slice none 0 0)).setCell ⟨w.heap.size+1,1,none⟩ (.slice none 0 0))):=bH ((v6.setCell (by show w.heap.size≤w.heap.size+1;omega) _).setCell (by show w.heap.size≤w.heap.size+1;omega) _)
     have hgr : ¬ wb.heap.size=w.heap.size+1:=by omega
     go_simp
     refine hK.out _ _ ⟨s2.cell hHeld.1 hgr,s2.cell hHeld.2 hgr⟩ (fun hHeldS=> ?_)
     clear hK K hHeld v0 v1 v2 v3 v4 v5 v6 hv5 hv6
     try simp only[Act.put,List.setIfInBounds_toArray,List.set_cons_zero,List.set_cons_succ]
     refine rg_take 10 (some 3) (v:= ?v16) rfl rfl (by kernel_rfl) (by kernel_rfl) (by kernel_rfl) (fun _ _ _ h=>h) (by rfl) ?hy16 (by assumption) ?_
     case hy16=>intro W hSW;(try dsimp only at hSW);go_simp;(try with_reducible rfl)
     try simp only[Act.put,List.setIfInBounds_toArray,List.set_cons_zero,List.set_cons_succ]
     refine rg_take 11 (some 4) (v:= ?v17) rfl rfl (by kernel_rfl) (by kernel_rfl) (by kernel_rfl) (fun _ _ _ h=>h) (by rfl) ?hy17 (by assumption) ?_
     case hy17=>intro W hSW;(try dsimp only at hSW);go_simp;(try with_reducible rfl)
     try simp only[Act.put,List.setIfInBounds_toArray,List.set_cons_zero,List.set_cons_succ]
     refine wpAnyH_done (by kernel_rfl) ?_ _
     go_wp2_with fail
     exact bodyPost_ret (v:= .tuple #[.agg #[.slice none 0 0, .slice none 0 0], .int .i64 ep, .int .i64 ec]) (by simp[results,Tryz.results32,go_sem,s0,s1]) rfl (by first|exact res_err (c:=ec) (p:=ep) hq2.out hfin.out|exact res_err (c:=ec) (p:=ep) rfl hfin.out)
    | ok ss=>
     rw[hq] at hag
     have hag:s5=(ss,0,0):=hag
     subst hag
     have hq2:=bH (hr.out.trans hq)
     have hc5:=hS5.c
     dsimp only at hc5
     have hgl5:=hS5.gl
     have hS5:=bH hS5
     clear hq hr hl5
     go_upto_region 15 with fail
     clear hc5
     refine wp_region_held_drew (S:=fun W=>W.cell? ⟨w.heap.size,0,none⟩=some (.slice a os.length c)∧W.cell? ⟨w.heap.size,1,none⟩=some (.slice (some ⟨b2,off2,none⟩) ts.length c2)∧W.cell? ⟨wb.heap.size,1,none⟩=some (.slice (some ⟨N,0,none⟩) ss.length cp)) (by kernel_rfl) (by have hd:=hV.out.below ((Below.refl _ _).drew);exact⟨hd.2.1,hd.2.2.1,(hS5.out.below ((Below.refl _ _).drew)).r⟩) (fun hHeld=> ?_)
     have hV:=bH (hV.out.below ((Below.refl _ _).drew))
     have hS5:=bH (hS5.out.below ((Below.refl _ _).drew))
     generalize w5.drew=wd5 at hV hS5 hHeld ⊢
     refine rg_take 1 (some 69) (v:= ?v18) rfl rfl (by kernel_rfl) (by kernel_rfl) (by kernel_rfl) (fun _ _ _ h=>h) (by rfl) ?hy18 (by assumption) ?_
     case hy18=>intro W hSW;(try dsimp only at hSW);go_simp;(try with_reducible rfl)
     try simp only[Act.put,List.setIfInBounds_toArray,List.set_cons_zero,List.set_cons_succ]
     refine rg_take 2 (some 70) (v:= ?v19) rfl rfl (by kernel_rfl) (by kernel_rfl) (by kernel_rfl) (fun _ _ _ h=>h) (by rfl) ?hy19 (by assumption) ?_
     case hy19=>intro W hSW;(try dsimp only at hSW);go_simp;(try with_reducible rfl)
     try simp only[Act.put,List.setIfInBounds_toArray,List.set_cons_zero,List.set_cons_succ]
     refine rg_take 4 (some 72) (v:= ?v20) rfl rfl (by kernel_rfl) (by kernel_rfl) (by kernel_rfl) (fun _ _ _ h=>h) (by rfl) ?hy20 (by assumption) ?_
     case hy20=>intro W hSW;(try dsimp only at hSW);go_simp;(try with_reducible rfl)
     try simp only[Act.put,List.setIfInBounds_toArray,List.set_cons_zero,List.set_cons_succ]
     refine rg_take 5 (some 73) (v:= ?v21) rfl rfl (by kernel_rfl) (by kernel_rfl) (by kernel_rfl) (fun _ _ _ h=>h) (by rfl) ?hy21 (by assumption) ?_
     case hy21=>intro W hSW;(try dsimp only at hSW);go_simp;(try with_reducible rfl)
     try simp only[Act.put,List.setIfInBounds_toArray,List.set_cons_zero,List.set_cons_succ]
     refine rg_take 6 (some 74) (v:= ?v22) rfl rfl (by kernel_rfl) (by kernel_rfl) (by kernel_rfl) (fun _ _ _ h=>h) (by rfl) ?hy22 (by assumption) ?_
     case hy22=>intro W hSW;(try dsimp only at hSW);go_simp;(try with_reducible rfl)
     try simp only[Act.put,List.setIfInBounds_toArray,List.set_cons_zero,List.set_cons_succ]
     refine rg_take 7 (some 75) (v:= ?v23) rfl rfl (by kernel_rfl) (by kernel_rfl) (by kernel_rfl) (fun _ _ _ h=>h) (by rfl) ?hy23 (by assumption) ?_
     case hy23=>intro W hSW;(try dsimp only at hSW);go_simp;(try with_reducible rfl)
     try simp only[Act.put,List.setIfInBounds_toArray,List.set_cons_zero,List.set_cons_succ]
     refine rg_one 0 rfl (by kernel_rfl) (by rfl) (fun K hK=> ?_)
     go_simp
     have hown:=OwnO.fresh wd5
     have hba:=below_alc wd5 (.cells #[] 54)
     have hV5:=hV.out.1
     have hgd:=hS5.out.gl
     have hNd:=hS5.out.nl
     have hV:=bH (hV.out.below hba)
     have hS5:=bH (hS5.out.below hba)
     refine hK.out _ _ ⟨hV.out.2.1,hV.out.2.2.1,hS5.out.r⟩ (fun hHeld1=> ?_)
     clear hK K hHeld
     have hdl:wd5.heap.size<(wd5.alloc (.cells #[] 54)).heap.size:=by simp
     generalize wd5.alloc (.cells #[] 54)=wa5 at hV hS5 hown hHeld1 hdl ⊢
     have hown:=bH hown
     try simp only[Act.put,List.setIfInBounds_toArray,List.set_cons_zero,List.set_cons_succ]
     refine rg_one 3 rfl (by kernel_rfl) (by rfl) (fun K hK=> ?_)
     refine wp_or (.tmp 68) (.tmp 70) wa5 wd5.heap.size (by omega) _ [] rfl rfl a os.length c os rfl (h.out.below hV.out.2.2.2.2.2.2) hc hown.out (by simp;omega) ?_
     intro v' wb5 hv' hbar
     rw[List.nil_append] at hv'
     have hnd : ∀k,(Value.slice (some ⟨wd5.heap.size,0,none⟩) 0 0).ownBlock=some k→k=wd5.heap.size:=fun k e=>by have e:some wd5.heap.size=some k:=e;injection e with e;exact e.symm
     have hV:=bH (hV.out.bar hbar (fun e=>by have:=hnd _ e;omega) (fun e=>by have:=hnd _ e;omega) (fun k e=>by have:=hnd _ e;omega))
     have hS5:=bH (hS5.out.bar hbar (fun e=>by have:=hnd _ e;omega) (fun e=>by have:=hnd _ e;omega) (fun h0 b off e1 e=>by have:=hnd _ e;have:=h.out.lt h0 b off e1;omega))
     refine hK.out _ _ ⟨hV.out.2.1,hV.out.2.2.1,hS5.out.r⟩ (fun hHeld2=> ?_)
     clear hK K hHeld1 hown hbar
     try simp only[Act.put,List.setIfInBounds_toArray,List.set_cons_zero,List.set_cons_succ]
     have hv0:=bH hv'
     have hv':=bH (own_lo2 hv' (show w.heap.size≤wd5.heap.size by omega))
     obtain⟨ao,co,rfl⟩:=ownO_sl2 hv'.out
     refine rg_take 8 (some 76) (v:= ?v24) rfl rfl (by kernel_rfl) (by kernel_rfl) (by kernel_rfl) (fun _ _ _ h=>h) (by rfl) ?hy24 (by assumption) ?_
     case hy24=>intro W hSW;(try dsimp only at hSW);go_simp;(try with_reducible rfl)
     try simp only[Act.put,List.setIfInBounds_toArray,List.set_cons_zero,List.set_cons_succ]
     refine rg_one 9 rfl (by kernel_rfl) (by rfl) (fun K hK=> ?_)
     obtain⟨v0,v1,v2,v3,v4,v5,v6⟩:=hV.out
     have hv5:=v5 0
     have hv6:=v5 1
     obtain⟨s0,s1,s2⟩:=two_set v3 v4 (.slice ao os.length co) (.slice (some ⟨N,0,none⟩) ss.length cp)
     have hgr : ¬ wb.heap.size=w.heap.size+1:=by omega
     have hgr2 : ¬ w.heap.size=w.heap.size+1:=by omega
     have hNr : ¬ N=w.heap.size+1:=by omega
     have hSF:=bH (hS5.out.bar s2 hNr hgr (fun h0 b off e1 e=>by have e:b=w.heap.size+1:=e;have:=h.out.lt h0 b off e1;omega))
     have hOF:=bH (Bar.own s2 hv'.out (fun k hk e=>by have e:k=w.heap.size+1:=e;have:=(own_lt hv0.out k hk).1;omega))
     have hfin:Hid (Below w.heap.size w ((wb5.setCell ⟨w.heap.size+1,0,none⟩ (.slice ao os.length co)).setCell ⟨w.heap.size+1,1,none⟩ (.slice (some ⟨N,0,none⟩) ss.length cp))):=bH ((v6.setCell (by show w.heap.size≤w.heap.size+1;omega) _).setCell (by show w.heap.size≤w.heap.size+1;omega) _)
     go_simp
     refine hK.out _ _ ⟨s2.cell hHeld2.1 hgr2,s2.cell hHeld2.2.1 hgr2,s2.cell hHeld2.2.2 hgr⟩ (fun hHeldS=> ?_)
     clear hK K hHeld2 v0 v1 v2 v3 v4 v5 v6 hv5 hv6
     try simp only[Act.put,List.setIfInBounds_toArray,List.set_cons_zero,List.set_cons_succ]
     refine rg_take 10 (some 3) (v:= ?v25) rfl rfl (by kernel_rfl) (by kernel_rfl) (by kernel_rfl) (fun _ _ _ h=>h) (by rfl) ?hy25 (by assumption) ?_
     case hy25=>intro W hSW;(try dsimp only at hSW);go_simp;(try with_reducible rfl)
     try simp only[Act.put,List.setIfInBounds_toArray,List.set_cons_zero,List.set_cons_succ]
     refine rg_take 11 (some 4) (v:= ?v26) rfl rfl (by kernel_rfl) (by kernel_rfl) (by kernel_rfl) (fun _ _ _ h=>h) (by rfl) ?hy26 (by assumption) ?_
     case hy26=>intro W hSW;(try dsimp only at hSW);go_simp;(try with_reducible rfl)
     try simp only[Act.put,List.setIfInBounds_toArray,List.set_cons_zero,List.set_cons_succ]
     refine wpAnyH_done (by kernel_rfl) ?_ _
     go_wp2_with fail
     refine bodyPost_ret (v:= .tuple #[.agg #[.slice ao os.length co, .slice (some ⟨N,0,none⟩) ss.length cp], .int .i64 0, .int .i64 0]) (by simp[results,Tryz.results32,go_sem,s0,s1]) rfl ?_
     rw[hq2.out]
     exact⟨_,_,_,_,_,_,_,_,rfl,hfin.out,rfl,rfl,hOF.out,N,rfl,rfl,by omega,hSF.out.nl,hSF.out.nd,hSF.out.fz⟩
end Go.Proofs.YthpcbgljbpmafaaGreatDoor
