/- The reference's tidier: folded, whole; walk over a prim. -/
import Derived.Test.YthpcbgljbpmafaaGreatDoorW18
import Derived.Test.YthpcbgljbpmafaaGreatDoorW21
import Derived.Test.YthpcbgljbpmafaaGreatDoorW30
import Derived.Test.YthpcbgljbpmafaaGreatDoorW31
import Derived.Test.YthpcbgljbpmafaaGreatDoorW33
import Derived.Test.YthpcbgljbpmafaaGreatDoorW34
import Derived.Test.YthpcbgljbpmafaaGreatDoorW35
import Derived.Test.YthpcbgljbpmafaaGreatDoorW36
import Derived.Test.YthpcbgljbpmafaaGreatDoorW37
import Derived.Test.YthpcbgljbpmafaaGreatDoorW38
import Derived.Test.YthpcbgljbpmafaaGreatDoorW39
set_option maxRecDepth 100000
set_option maxHeartbeats 8000000
namespace Go.Proofs.YthpcbgljbpmafaaGreatDoor
open Go.RowKit
set_option linter.unusedVariables false
set_option linter.unusedSimpArgs false
theorem rfolded_any (B G:Nat) (sv:Value) (ts:List Nd) (w:World) (mv:Value) (m:List Nd) (f:Nat) (k a b c n:Int) (nm u y z:ByteArray) (at_:Int) (h:Hid (TdW B G sv ts w mv m)) (hfl:f≤600) (hi:Hid (IntOk m)) (hn:0≤n∧n≤5) (K:Option Nd) (hK:Hid ((if m.length=f+2 then knownV ⟨k,a,b,c,n,nm,u,y,z,at_⟩ (m.getD f nd0) (m.getD (f+1) nd0) else none)=K)) :
  Calls Tryz.prog 45 #[.pointer (some ⟨G,0,none⟩), .int .i64 f, .agg #[.int .i64 k, .int .i64 a, .int .i64 b, .int .i64 c, .int .i64 n, .string nm, .string u, .string y, .string z, .int .i64 at_]] w (FoM B G sv ts w mv m f K):=by
 have hK':=hK.out
 by_cases hf:m.length=f+2
 ·rw[if_pos hf] at hK'
  by_cases hk1:(m.getD f nd0).k=1
  ·by_cases hk2:(m.getD (f+1) nd0).k=1
   ·exact rfold_c B G sv ts w mv m f k a b c n nm u y z at_ h hf hk1 hk2 hi hn K (bH hK')
   ·refine(rfold_b B G sv ts w mv m f k a b c n nm u y z at_ h hf hk1 hk2).mono fun e w' ⟨he,hb⟩=> .inl ⟨?_,he,mv,h.out.below hb,Stp.below hb⟩
    rw[← hK'];unfold knownV;rw[if_neg (fun h=>hk2 h.2)]
  ·refine(rfold_a B G sv ts w mv m f k a b c n nm u y z at_ h hf hk1).mono fun e w' ⟨he,hb⟩=> .inl ⟨?_,he,mv,h.out.below hb,Stp.below hb⟩
   rw[← hK'];unfold knownV;rw[if_neg (fun h=>hk1 h.1)]
 ·rw[if_neg hf] at hK'
  exact(rfold_len B G sv ts w mv m f k a b c n nm u y z at_ h hf hfl).mono fun e w' ⟨he,hb⟩=> .inl ⟨hK'.symm,he,mv,h.out.below hb,Stp.below hb⟩
theorem rwalk8 (B G:Nat) (sv:Value) (ts:List Nd) (i:Nat) (w:World) (mv:Value) (m:List Nd) (R:List Nd) (K:Option Nd) (a b:Nat) (c:Int) (n:Int) (nm u y z:ByteArray) (at_:Int) (hx:ts.getD i nd0=⟨8,a,b,c,n,nm,u,y,z,at_⟩) (hi:i<ts.length) (h:Hid (TdW B G sv ts w mv m)) (hn:Hid (IntOk m)) (ka:Hid (TrP B G sv ts a)) (hba:(m.length:Int)+(a+1-bg (ksN ts) a)≤512) (hpos1:0<(td ts a m).length) (kb:Hid (TrP B G sv ts b)) (hia:Hid (IntOk (td ts a m))) (hbb:((td ts a m).length:Int)+(b+1-bg (ksN ts) b)≤512) (hpos2:0<(td ts b (td ts a m)).length) (hib:Hid (IntOk (td ts b (td ts a m)))) (hnn:0≤n∧n≤5) (hbl:(td ts b (td ts a m)).length<600) (hpre:Hid ((td ts b (td ts a m)).take m.length=m)) (hK:Hid ((if (td ts b (td ts a m)).length=m.length+2 then knownV ⟨8,lstI (td ts a m),lstI (td ts b (td ts a m)),c,n,nm,u,y,z,at_⟩ ((td ts b (td ts a m)).getD m.length nd0) ((td ts b (td ts a m)).getD (m.length+1) nd0) else none)=K)) (hR1:Hid (K=none→R=td ts b (td ts a m)++[⟨8,lstI (td ts a m),lstI (td ts b (td ts a m)),c,n,nm,u,y,z,at_⟩])) (hR2:Hid (∀v,K=some v→R=m++[v])):
  Calls Tryz.prog 25 #[.pointer (some ⟨G,0,none⟩), .int .i64 i] w (TrM B G sv ts w mv R):=by
 obtain⟨T,off,cp,rfl,hTB,hTG,hTs,hS⟩:=h.out.ni
 obtain⟨e0,e1,e2,e3,e4,e5,e6,e7,e8,e9⟩:=hS i hi
 rw[hx] at e0 e1 e2 e3 e4 e5 e6 e7 e8 e9
 simp only at e0 e1 e2 e3 e4 e5 e6 e7 e8 e9
 obtain⟨ma,mc,rfl⟩:=own_sl h.out.own
 have hm600:m.length≤600:=h.out.ml
 have hsv:=h.out.cn
 have hcm:=h.out.cm
 have hGl:G<w.heap.size:=by have:=h.out.gB;have:=h.out.bl;omega
 have hi1:(i:Int)<(ts.length:Int):=by omega
 have hi0:(0:Int)≤(i:Int):=by omega
 clear hS hx hi
 go_enter Tryz.func25,Tryz.ntmps25
 go_wp2_with fail
 obtain⟨W0,hW0⟩ : ∃W,w.alloc (.cells #[.int .i64 8, .int .i64 a, .int .i64 b, .int .i64 c, .int .i64 n, .string nm, .string u, .string y, .string z, .int .i64 at_] 45)=W:=⟨_,rfl⟩
 obtain⟨hX,h2,hst,hBb⟩:=ndbox_lit (t:=⟨8,a,b,c,n,nm,u,y,z,at_⟩) h.out hW0
 rw[hW0]
 clear hW0 hsv hcm hGl e0 e1 e2 e3 e4 e5 e6 e7 e8 e9
 have hX:=bH hX
 have h2:=bH h2
 have hst:=bH hst
 refine(rkids8 B G w.heap.size _ ts W0 _ m a b c n nm u y z at_ h2 hX hBb hn ka hba hpos1 kb hia hbb hpos2).mono ?_
 rintro e w1 ⟨rfl,mv1,k1,k2,k3⟩
 obtain⟨xv,hxv⟩ : ∃r,(⟨8,lstI (td ts a m),lstI (td ts b (td ts a m)),c,n,nm,u,y,z,at_⟩:Nd)=r:=⟨_,rfl⟩
 have hkk:xv.k=8:=by rw[← hxv]
 have hxn:xv.n=n:=by rw[← hxv]
 have hxp:xv.p=at_:=by rw[← hxv]
 rw[hxv] at k2 hK hR1
 obtain⟨m1,hm1⟩ : ∃r,td ts b (td ts a m)=r:=⟨_,rfl⟩
 have hbl1:m1.length<600:=by rw[← hm1];exact hbl
 rw[hm1] at k1 hib hpre hK hR1
 obtain⟨a1,c1,rfl⟩:=own_sl k1.own
 clear hm1 hxv
 have h3:=bH k1
 have hX3:=bH k2
 have hst3:=bH (hst.out.kids k3 (Nat.le_refl _))
 have kF:=bH (rfolded_any B G _ ts w1 _ m1 m.length 8 xv.a xv.b xv.c xv.n xv.nm xv.x xv.y xv.z xv.p h3 hm600 hib (by rw[hxn];exact hnn) K (bH (by
  have hK':=hK.out
  rw[show knownV ⟨8,xv.a,xv.b,xv.c,xv.n,xv.nm,xv.x,xv.y,xv.z,xv.p⟩=knownV xv from by funext p q;unfold knownV;rfl]
  exact hK')))
 clear k1 k2 k3 hxn hxp
 have y0:=hX3.out.c0;have y1:=hX3.out.c1;have y2:=hX3.out.c2;have y3:=hX3.out.c3;have y4:=hX3.out.c4;have y5:=hX3.out.c5;have y6:=hX3.out.c6;have y7:=hX3.out.c7;have y8:=hX3.out.c8;have y9:=hX3.out.c9;have gl:=hX3.out.lt
 rw[hkk] at y0
 have hkh:=bH hkk
 clear hkk
 go_wp2_with fail
 refine kF.out.mono ?_
 intro e w2 hF
 clear y0 y1 y2 y3 y4 y5 y6 y7 y8 y9 gl kF
 rcases hF with ⟨hK0,rfl,mv2,k1,k2⟩|⟨v,hK0,rfl,mv2,k1,k2⟩
 ·have hRR:=bH (hR1.out hK0)
  obtain⟨a2,c2,rfl⟩:=own_sl k1.own
  have h4:=bH k1
  have hX4:=bH (hX3.out.step k2)
  have hst4:=bH (hst3.out.trans k2)
  clear k1 k2 hK0 hX3 h3 hst3 hK hR1 hR2
  have y0:=hX4.out.c0;have y1:=hX4.out.c1;have y2:=hX4.out.c2;have y3:=hX4.out.c3;have y4:=hX4.out.c4;have y5:=hX4.out.c5;have y6:=hX4.out.c6;have y7:=hX4.out.c7;have y8:=hX4.out.c8;have y9:=hX4.out.c9;have gl:=hX4.out.lt
  go_upto_region 18 with fail
  have hn:=h4.out.cm
  have hfr:=h4.out.fg
  have hgW:G<w2.heap.size:=by have:=h4.out.gB;have:=h4.out.bl;omega
  have hq:Hid ((m1.length+[xv].length)≤1000000):=bH (by simp;omega)
  have hBW:B≤w2.heap.size:=h4.out.bl
  have hnG : ¬ (Value.slice a2 m1.length c2).ownBlock=some G:=fun e=>by have:=(own_lt h4.out.own G e).1;have:=h4.out.gB;omega
  have hfin:Hid (∀a3 c3 w3,OwnN B w3 (.slice a3 (m1.length+1) c3) (m1++[xv])→Bar (fun k=>(Value.slice a2 m1.length c2).ownBlock=some k) w2.drew w3→(∀g,(Value.slice a3 (m1.length+1) c3).ownBlock=some g→(Value.slice a2 m1.length c2).ownBlock=some g∨w2.drew.heap.size≤g)→ ∃mv',TdW B G (.slice (some ⟨T,off,none⟩) ts.length cp) ts (w3.setCell ⟨G,1,none⟩ (.slice a3 (m1.length+1) c3)) mv' (m1++[xv])∧Stp G w (.slice ma m.length mc) (w3.setCell ⟨G,1,none⟩ (.slice a3 (m1.length+1) c3)) mv'):=bH fun a3 c3 w3 q1 q2 q3=>by
   have hd:Below w2.heap.size w2 w2.drew:=(Below.refl _ _).drew
   obtain⟨q4,q5⟩:=TdW.setM (h4.out.below hd) q2 q1 q3 (by simp;omega)
   exact⟨_,q4,(hst4.out.next hd).trans q5⟩
  have hnl:(m1.length:Int)≤600:=by omega
  have hnl0:(0:Int)≤(m1.length:Int):=by omega
  go_region_law ((refine step_ndr rfl (.tmp 117) (.tmp 119) w2.drew B (show B≤w2.drew.heap.size from hBW) (.slice a2 m1.length c2) m1 [xv] _ rfl rfl 1 rfl rfl rfl (show OwnN B w2.drew (.slice a2 m1.length c2) m1 from h4.out.own) hq.out ?_;intro v' w3 hown2 hb2 hop2;obtain⟨a3,c3,rfl⟩:=own_sl hown2;have hc2:w3.cell? ⟨G,1,none⟩=some (.slice a2 m1.length c2):=hb2.cell hn hnG;rw[List.length_append,List.length_singleton] at hown2 hop2;have hown2:=bH hown2;have hb2':=bH hb2;have hop2:=bH hop2;have hgw2:G<w3.heap.size:=Nat.lt_of_lt_of_le hgW hb2.size;have hf2:w3.frozen? ⟨G,1,none⟩=false:=(hb2.frozen (a:=⟨G,1,none⟩) hgW hnG).trans (hfr 1)))
  all_goals
   clear hb2 hn hfr hgW y0 y1 y2 y3 y4 y5 y6 y7 y8 y9
   go_wp2_with fail
   ((try simp only[Exit.inBlock,Exit.then]);first|(refine bodyPost_ret (results_none rfl _ _ _) rfl ?_)|(refine bodyPost_end (results_none rfl _ _ _) rfl ?_))
   obtain⟨mv',z1,z2⟩:=hfin.out _ _ _ hown2.out hb2'.out hop2.out
   exact⟨rfl,mv',(by rw[hRR.out];exact z1),z2⟩
 ·have hRR:=bH (hR2.out v hK0)
  have hst4:=bH (hst3.out.trans k2)
  rw[hpre.out] at k1
  have h4:=bH k1
  clear k1 k2 hK0 hX3 h3 hst3 hK hR1 hR2
  go_wp2_with fail
  ((try simp only[Exit.inBlock,Exit.then]);first|(refine bodyPost_ret (results_none rfl _ _ _) rfl ?_)|(refine bodyPost_end (results_none rfl _ _ _) rfl ?_))
  exact⟨rfl,mv2,(by rw[hRR.out];exact h4.out),hst4.out⟩
open Go.RowKit
def TdPost (os:List Or) (ts:List Nd) (w:World) (e:Ending) (w':World):Prop:=Below w.heap.size w w'∧((smayV os ts=false∧e= .returned (.tuple #[.agg #[.slice none 0 0, .slice none 0 0], .int .i64 2500]))∨(smayV os ts=true∧ ∃vo vn,e= .returned (.tuple #[.agg #[vo,vn], .int .i64 0])∧OwnO w.heap.size w' vo os∧OwnN w.heap.size w' vn (td ts (ts.length-1) [])))
theorem tre_may {os:List Or} {ts:List Nd} (h:smayV os ts=true):Tre ts:=by
 rw[smay_r] at h
 simp only[Bool.and_eq_true] at h
 exact tre_of h.2.1
theorem tdw_new {w W2:World} {a2:Option Addr} {n2 c2:Nat} {ts:List Nd} {T:TypeId} (h:NArg w a2 n2 ts) (h0:0<ts.length) (hW:w.alloc (.cells #[.slice a2 n2 c2, .slice none 0 0] T)=W2):TdW (w.heap.size+1) w.heap.size (.slice a2 n2 c2) ts W2 (.slice none 0 0) []:=by
 subst hW
 obtain⟨rfl,h|⟨b,off,rfl,hs,hb⟩⟩:=h
 ·rw[h] at h0;simp at h0
 refine⟨by rw[World.cell?_alloc_at _ _ _ _ rfl];rfl,by rw[World.cell?_alloc_at _ _ _ _ rfl];rfl,by omega,by simp,fun o=>by simp[go_sem],⟨b,off,c2,rfl,by omega,by omega,by simp;omega,hs.below (below_alc _ _) hb⟩,OwnN.nil _ _,by simp⟩
theorem tidy_any (a a2:Option Addr) (n c n2 c2:Nat) (os:List Or) (ts:List Nd) (w:World) (h:Hid (OArg w a n os)) (hsz:Hid (∀t∈os,OrSz t)) (hl:n≤140737488351232) (h2:Hid (NArg w a2 n2 ts)) (hsz2:Hid (∀t∈ts,NdSz t)) (hl2:n2≤140737488351232) (hg:Hid (errTy w)) :
  Calls Tryz.prog 8 #[.agg #[.slice a n c, .slice a2 n2 c2]] w (TdPost os ts w):=by
 obtain⟨M,hM⟩ : ∃r,smayV os ts=r:=⟨_,rfl⟩
 have hMh:=bH hM
 have kM:=bH fun (W:World) (hW:Below w.heap.size w W)=>sMay_any a a2 n c n2 c2 os ts W (bH (h.out.below hW)) hsz hl (bH (h2.out.below hW)) hsz2 hl2 (bH (hg.out.below hW))
 rw[hM] at kM
 clear hM
 have hV:=rvW_mk w a n c a2 n2 c2
 go_enter Tryz.func8,Tryz.ntmps8
 go_wp2_with fail
 obtain⟨w0,hw0⟩ : ∃W,(w.alloc (.cells #[.slice a n c, .slice a2 n2 c2] 25)).alloc (.cells #[.slice none 0 0, .slice none 0 0] 25)=W:=⟨_,rfl⟩
 rw[hw0] at hV ⊢
 clear hw0
 refine(kM.out _ hV.2.2.2.2.2.2).mono ?_
 rintro e w1 ⟨rfl,hb1⟩
 have hV1:=bH (hV.below hb1)
 clear hb1 hV kM
 cases M with
 | false=>
  obtain⟨v0,v1,v2,v3,v4,v5,v6⟩:=hV1.out
  obtain⟨s0,s1,s2⟩:=two_set v3 v4 (.slice none 0 0) (.slice none 0 0)
  have hv5:=v5 0
  have hv6:=v5 1
  have hfin:Hid (Below w.heap.size w ((w1.setCell ⟨w.heap.size+1,0,none⟩ (.slice none 0 0)).setCell ⟨w.heap.size+1,1,none⟩ (.slice none 0 0))):=bH ((v6.setCell (by show w.heap.size≤w.heap.size+1;omega) _).setCell (by show w.heap.size≤w.heap.size+1;omega) _)
  go_wp2_with fail
  exact bodyPost_ret (v:= .tuple #[.agg #[.slice none 0 0, .slice none 0 0], .int .i64 2500]) (by simp[results,Tryz.results8,go_sem,s0,s1]) rfl ⟨hfin.out, .inl ⟨hMh.out,rfl⟩⟩
 | true=>
  have hT:=tre_may hMh.out
  have h0:0<ts.length:=hT.len.1
  have h512:ts.length≤512:=hT.len.2
  obtain rfl:n2=ts.length:=h2.out.1
  obtain⟨W2,hW2⟩ : ∃W,w1.alloc (.cells #[.slice a2 ts.length c2, .slice none 0 0] 51)=W:=⟨_,rfl⟩
  have hO:=bH (tdw_new (c2:=c2) (h2.out.below hV1.out.2.2.2.2.2.2) h0 hW2)
  have kP:=bH (show Calls Tryz.prog 22 #[.pointer (some ⟨w1.heap.size,0,none⟩), .int .i64 ((ts.length:Int)-1)] W2 (TdN (w1.heap.size+1) w1.heap.size (.slice a2 ts.length c2) ts W2 (.slice none 0 0) (td ts (ts.length-1) [])) from by
   rw[show (ts.length:Int)-1=((ts.length-1:Nat):Int) by omega]
   exact tput_any hT (ts.length-1) (by omega) W2 _ [] hO (bH (fun t ht=>by cases ht)) (by have:=hT.bgs (ts.length-1) (by omega);simp;omega))
  have hb2:Below w1.heap.size w1 W2:=by rw[← hW2];exact below_alc _ _
  have hV2:=bH (hV1.out.below hb2)
  obtain⟨v0,v1,v2,v3,v4,v5,v6⟩:=hV1.out
  have hl1:1≤(ts.length:Int):=by omega
  have hl5:(ts.length:Int)≤512:=by omega
  have hT:=bH hT
  have hws:w.heap.size<w1.heap.size:=by omega
  have hW3:=bH hW2
  clear v3 v4 hb2 hW2
  go_wp2_with fail
  rw[hW3.out]
  clear hW3 h0 h512
  refine kP.out.mono ?_
  rintro e w3 ⟨rfl,mv,k1,k2⟩
  have hwl:w.heap.size+1<w1.heap.size:=v0
  have hV3:=bH (hV2.out.bar k2.1 (fun e=>by rcases e with e|e;omega;cases e) (fun e=>by rcases e with e|e;omega;cases e) (fun k e=>by rcases e with e|e;omega;cases e))
  have hlt:=bH (td_le hT.out (ts.length-1) (by omega) [])
  obtain⟨m,hm⟩ : ∃r,td ts (ts.length-1) []=r:=⟨_,rfl⟩
  have hmh:=bH hm
  rw[hm] at k1
  clear hm kP v0 v1 v2 v5 v6 hV2 hV1 k2 hO
  obtain⟨ma,mc,rfl⟩:=own_sl k1.own
  have hk1:=bH k1
  have hp1:=hV3.out.2.1
  have hcm:=k1.cm
  have hgl:w1.heap.size<w3.heap.size:=k1.bl
  clear k1
  go_upto_region 5 with fail
  refine wp_region_held_drew (S:=fun W=>W.cell? ⟨w.heap.size,0,none⟩=some (.slice a n c)∧W.cell? ⟨w1.heap.size,1,none⟩=some (.slice ma m.length mc)) (by kernel_rfl) (by have hd:Bar (fun _=>False) w3 w3.drew:=Bar.of_below ((Below.refl _ _).drew);exact⟨hd.cell hp1 id,hd.cell hcm id⟩) (fun hHeld=> ?_)
  have hV6:=bH (hV3.out.below ((Below.refl _ _).drew))
  have hk6:=bH (hk1.out.below ((Below.refl _ _).drew))
  generalize w3.drew=we at hV6 hk6 hHeld ⊢
  clear hp1 hcm hgl hV3 hk1
  refine rg_take 0 (some 17) (v:= ?v1) rfl rfl (by kernel_rfl) (by kernel_rfl) (by kernel_rfl) (fun _ _ _ h=>h) (by rfl) ?hy1 (by assumption) ?_
  case hy1=>intro W hSW;(try dsimp only at hSW);go_simp;(try with_reducible rfl)
  try simp only[Act.put,List.setIfInBounds_toArray,List.set_cons_zero,List.set_cons_succ]
  refine rg_take 1 (some 18) (v:= ?v2) rfl rfl (by kernel_rfl) (by kernel_rfl) (by kernel_rfl) (fun _ _ _ h=>h) (by rfl) ?hy2 (by assumption) ?_
  case hy2=>intro W hSW;(try dsimp only at hSW);go_simp;(try with_reducible rfl)
  try simp only[Act.put,List.setIfInBounds_toArray,List.set_cons_zero,List.set_cons_succ]
  refine rg_take 3 (some 20) (v:= ?v3) rfl rfl (by kernel_rfl) (by kernel_rfl) (by kernel_rfl) (fun _ _ _ h=>h) (by rfl) ?hy3 (by assumption) ?_
  case hy3=>intro W hSW;(try dsimp only at hSW);go_simp;(try with_reducible rfl)
  try simp only[Act.put,List.setIfInBounds_toArray,List.set_cons_zero,List.set_cons_succ]
  refine rg_take 4 (some 21) (v:= ?v4) rfl rfl (by kernel_rfl) (by kernel_rfl) (by kernel_rfl) (fun _ _ _ h=>h) (by rfl) ?hy4 (by assumption) ?_
  case hy4=>intro W hSW;(try dsimp only at hSW);go_simp;(try with_reducible rfl)
  try simp only[Act.put,List.setIfInBounds_toArray,List.set_cons_zero,List.set_cons_succ]
  refine rg_one 2 rfl (by kernel_rfl) (by rfl) (fun K hK=> ?_)
  have hna:n≤140737488351232:=hl
  have hn4:n*32≤140737488351232:=by have e:=h.out.1;have:=hMh.out;rw[smay_r] at this;unfold opsV at this;simp only[Bool.and_eq_true,decide_eq_true_eq] at this;omega
  have kO:=bH (cloneO_any a n c os we (bH (h.out.below hV6.out.2.2.2.2.2.2)) hn4)
  have hwe:=hV6.out.2.2.2.2.2.2.size
  go_simp
  (go_at_call 23;refine kO.out.mono ?_;rintro e wd ⟨vO,rfl,hvO,hb⟩)
  have hV9:=bH (hV6.out.below hb)
  have hk9:=bH (hk6.out.below hb)
  have hH:wd.cell? ⟨w.heap.size,0,none⟩=some (.slice a n c)∧wd.cell? ⟨w1.heap.size,1,none⟩=some (.slice ma m.length mc):=⟨hV9.out.2.1,hk9.out.cm⟩
  obtain⟨ao,no,co,hvs⟩ : ∃a n c,vO= .slice a n c:=by rcases hvO.cases with ⟨e,_⟩|⟨g,c,e,_⟩<;>exact⟨_,_,_,e⟩
  subst hvs
  refine hK.out _ _ hH (fun hHeld=> ?_)
  clear hK K kO hb hH
  try simp only[Act.put,List.setIfInBounds_toArray,List.set_cons_zero,List.set_cons_succ]
  refine rg_take 5 (some 22) (v:= ?v5) rfl rfl (by kernel_rfl) (by kernel_rfl) (by kernel_rfl) (fun _ _ _ h=>h) (by rfl) ?hy5 (by assumption) ?_
  case hy5=>intro W hSW;(try dsimp only at hSW);go_simp;(try with_reducible rfl)
  try simp only[Act.put,List.setIfInBounds_toArray,List.set_cons_zero,List.set_cons_succ]
  have hO9:=bH hvO
  have hr2 : ¬ w.heap.size=w.heap.size+1:=by omega
  have hr1 : ¬ w1.heap.size=w.heap.size+1:=by omega
  refine rg_one 6 rfl (by kernel_rfl) (by rfl) (fun K hK=> ?_)
  obtain⟨v0,v1,v2,v3,v4,v5,v6⟩:=hV9.out
  have hv5:=v5 0
  have hv6:=v5 1
  obtain⟨s0,s1,s2⟩:=two_set v3 v4 (.slice ao no co) (.slice ma m.length mc)
  have hfin:Hid (Below w.heap.size w ((wd.setCell ⟨w.heap.size+1,0,none⟩ (.slice ao no co)).setCell ⟨w.heap.size+1,1,none⟩ (.slice ma m.length mc))):=bH ((v6.setCell (by show w.heap.size≤w.heap.size+1;omega) _).setCell (by show w.heap.size≤w.heap.size+1;omega) _)
  go_simp
  refine hK.out _ _ ⟨s2.cell hHeld.1 hr2,s2.cell hHeld.2 hr1⟩ (fun hHeldS=> ?_)
  clear hK K hHeld v0 v1 v2 v3 v4 v5 v6 hv5 hv6
  try simp only[Act.put,List.setIfInBounds_toArray,List.set_cons_zero,List.set_cons_succ]
  refine rg_take 7 (some 3) (v:= ?v6) rfl rfl (by kernel_rfl) (by kernel_rfl) (by kernel_rfl) (fun _ _ _ h=>h) (by rfl) ?hy6 (by assumption) ?_
  case hy6=>intro W hSW;(try dsimp only at hSW);go_simp;(try with_reducible rfl)
  try simp only[Act.put,List.setIfInBounds_toArray,List.set_cons_zero,List.set_cons_succ]
  refine wpAnyH_done (by kernel_rfl) ?_ _
  have hON:=hO9.out
  have hfo:OwnO w.heap.size ((wd.setCell ⟨w.heap.size+1,0,none⟩ (.slice ao no co)).setCell ⟨w.heap.size+1,1,none⟩ (.slice ma m.length mc)) (.slice ao no co) os:=by
   refine Bar.own s2 ⟨hON.1, ?_⟩ (fun k hk e=> ?_)
   ·rcases hON.2 with e|⟨g,cap,cur,e1,e2,e3⟩
    ·exact .inl e
    ·exact .inr ⟨g,cap,cur,e1,by omega,e3⟩
   ·have:=(own_lt hON k hk).1
    have:=hV6.out.1
    have e:k=w.heap.size+1:=e
    omega
  have hMN:=hk9.out.own
  have hfn:OwnN w.heap.size ((wd.setCell ⟨w.heap.size+1,0,none⟩ (.slice ao no co)).setCell ⟨w.heap.size+1,1,none⟩ (.slice ma m.length mc)) (.slice ma m.length mc) m:=by
   refine Bar.own s2 ⟨hMN.1, ?_⟩ (fun k hk e=> ?_)
   ·rcases hMN.2 with e|⟨g,cap,cur,e1,e2,e3⟩
    ·exact .inl e
    ·exact .inr ⟨g,cap,cur,e1,by omega,e3⟩
   ·have:=(own_lt hMN k hk).1
    have e:k=w.heap.size+1:=e
    omega
  have hfo:=bH hfo
  have hfn:=bH hfn
  go_wp2_with fail
  exact bodyPost_ret (v:= .tuple #[.agg #[.slice ao no co, .slice ma m.length mc], .int .i64 0]) (by simp[results,Tryz.results8,go_sem,s0,s1]) rfl ⟨hfin.out, .inr ⟨hMh.out,_,_,rfl,hfo.out,by rw[hmh.out];exact hfn.out⟩⟩
open Go.RowKit
theorem rwalk_any (N G:Nat) (ao:Option Addr) (no co cp:Nat) (os:List Or) (hA:Hid (Apart N G ao os)) (hl:no≤1000000) : ∀f,WkSpec N G ao no co cp os f:=by
 intro f
 induction f with
 | zero=>intro at_ bd a n c s w h;omega
 | succ f ih=>
  intro at_ bd a n c s w hf hat hsl hD hlen hW hE hnn hEa
  have hc:(s.1.getD at_ nd0).k=0∨(s.1.getD at_ nd0).k=3∨(s.1.getD at_ nd0).k=5∨(s.1.getD at_ nd0).k=6∨(s.1.getD at_ nd0).k=9∨(s.1.getD at_ nd0).k=10∨(s.1.getD at_ nd0).k=4∨(s.1.getD at_ nd0).k=8∨(s.1.getD at_ nd0).k=7∨((s.1.getD at_ nd0).k≠0∧(s.1.getD at_ nd0).k≠3∧(s.1.getD at_ nd0).k≠5∧(s.1.getD at_ nd0).k≠6∧(s.1.getD at_ nd0).k≠9∧(s.1.getD at_ nd0).k≠10∧(s.1.getD at_ nd0).k≠4∧(s.1.getD at_ nd0).k≠8∧(s.1.getD at_ nd0).k≠7):=by omega
  rcases hc with h|h|h|h|h|h|h|h|h|h
  ·exact rk_0 N G ao no co cp os hA hl f ih at_ bd a n c s w hf hat hsl hD hlen hW hE hnn hEa h
  ·exact rk_3 N G ao no co cp os hA hl f ih at_ bd a n c s w hf hat hsl hD hlen hW hE hnn hEa h
  ·exact rk_5 N G ao no co cp os hA hl f ih at_ bd a n c s w hf hat hsl hD hlen hW hE hnn hEa h
  ·exact rk_6 N G ao no co cp os hA hl f ih at_ bd a n c s w hf hat hsl hD hlen hW hE hnn hEa h
  ·exact rk_9 N G ao no co cp os hA hl f ih at_ bd a n c s w hf hat hsl hD hlen hW hE hnn hEa h
  ·exact rk_10 N G ao no co cp os hA hl f ih at_ bd a n c s w hf hat hsl hD hlen hW hE hnn hEa h
  ·exact rk_4 N G ao no co cp os hA hl f ih at_ bd a n c s w hf hat hsl hD hlen hW hE hnn hEa h
  ·exact rk_8 N G ao no co cp os hA hl f ih at_ bd a n c s w hf hat hsl hD hlen hW hE hnn hEa h
  ·exact rk_7 N G ao no co cp os hA hl f ih at_ bd a n c s w hf hat hsl hD hlen hW hE hnn hEa h
  ·exact rk_d N G ao no co cp os hA hl f ih at_ bd a n c s w hf hat hsl hD hlen hW hE hnn hEa h
open Go.RowKit
theorem sameProg_any (ao an bo bn:Option Addr) (no co nn cn mo do_ mn dn:Nat) (os:List Or) (ts:List Nd) (w:World) (h1:Hid (OArg w ao no os)) (h2:Hid (NArg w an nn ts)) (h3:Hid (OArg w bo mo os)) (h4:Hid (NArg w bn mn ts)) (hl1:no≤140737488351232) (hl2:nn≤140737488351232) :
  Calls Tryz.prog 10 #[.agg #[.slice ao no co, .slice an nn cn], .agg #[.slice bo mo do_, .slice bn mn dn]] w fun e w'=>e= .returned (.bool true)∧Below w.heap.size w w':=by
 go_enter Tryz.func10,Tryz.ntmps10
 go_upto_region 1 with fail
 obtain⟨w0,hw0⟩ : ∃W,((w.alloc (.cells #[.slice ao no co, .slice an nn cn] 25)).alloc (.cells #[.slice bo mo do_, .slice bn mn dn] 25))=W:=⟨_,rfl⟩
 have hP:Hid (Pg w0 w.heap.size ao no co an nn cn):=bH (by rw[← hw0];exact(pg_lit w 25 _ rfl _ _ _ _ _ _).below (below_alc _ _))
 have hQ:Hid (Pg w0 (w.heap.size+1) bo mo do_ bn mn dn):=bH (by rw[← hw0];exact pg_lit _ _ _ (by simp) _ _ _ _ _ _)
 have hB:Hid (Below w.heap.size w w0):=bH (by rw[← hw0];exact belA _ (below_alc _ _))
 rw[hw0]
 clear hw0
 have kO:=bH (sameOps_any ao bo no mo co do_ os os w0 (bH (h1.out.below hB.out)) (bH (h3.out.below hB.out)) hl1)
 rw[sameVO_self] at kO
 obtain⟨q0,q1,q2⟩:=hP.out
 obtain⟨r0,r1,r2⟩:=hQ.out
 go_wp2_with fail
 clear q0 q1 q2 r0 r1 r2
 refine kO.out.mono ?_
 rintro e w1 ⟨rfl,hb⟩
 have hP:=bH (hP.out.below hb)
 have hQ:=bH (hQ.out.below hb)
 have hB:=bH (belT hB.out hb)
 clear hb kO
 have kN:=bH (sameNodes_any an bn nn mn cn dn ts ts w1 (bH (h2.out.below hB.out)) (bH (h4.out.below hB.out)) hl2)
 rw[sameV_self ndE_self] at kN
 obtain⟨q0,q1,q2⟩:=hP.out
 obtain⟨r0,r1,r2⟩:=hQ.out
 go_wp2_with fail
 clear q0 q1 q2 r0 r1 r2
 refine kN.out.mono ?_
 rintro e w2 ⟨rfl,hb⟩
 have hB:=bH (belT hB.out hb)
 clear hb kN
 go_wp2_with fail
 go_ret
 exact⟨rfl,hB.out⟩
open Go.RowKit
theorem spoilO_zero (a:Option Addr) (c:Nat) (w:World):Calls Tryz.prog 27 #[.slice a 0 c] w fun e w'=>e= .returned (.tuple #[])∧w=w':=by
 go_enter Tryz.func27,Tryz.ntmps27
 go_wp2_with fail
 go_loop [2] (fun i=>i= .int .i64 0) (fun _=>0)
 case atStart=>rfl
 case round=>
  obtain rfl:=hrel
  go_wp2_with fail
  go_end0
  exact⟨rfl,rfl⟩
theorem spoilN_zero (a:Option Addr) (c:Nat) (w:World):Calls Tryz.prog 28 #[.slice a 0 c] w fun e w'=>e= .returned (.tuple #[])∧w=w':=by
 go_enter Tryz.func28,Tryz.ntmps28
 go_wp2_with fail
 go_loop [2] (fun i=>i= .int .i64 0) (fun _=>0)
 case atStart=>rfl
 case round=>
  obtain rfl:=hrel
  go_wp2_with fail
  go_end0
  exact⟨rfl,rfl⟩
theorem spoilO_sl (g cp:Nat) (l:List Or) (w:World) (h:Hid (OrSl w g 0 l)) (hf:Hid (∀o,w.frozen? ⟨g,o,none⟩=false)) (hl:l.length≤1099511627776) :
  Calls Tryz.prog 27 #[.slice (some ⟨g,0,none⟩) l.length cp] w fun e w'=>e= .returned (.tuple #[])∧Below g w w'∧Only g w w':=by
 go_enter Tryz.func27,Tryz.ntmps27
 go_wp2_with fail
 go_loopw [2] (fun i wr=> ∃j:Nat,j≤l.length∧i= .int .i64 j∧Hid (Below g w wr∧Only g w wr∧ ∀k,j≤k→k<l.length→wr.cell? ⟨g,k*3+2,none⟩=some (.int .i64 (l.getD k or0).t))) (fun i _=>l.length-(intOf i).toNat)
 case atStart=>exact⟨0,by omega,rfl,bH ⟨Below.refl _ _,Only.refl _ _,fun k _ hk=>by have:=(h.out k hk).2.2;simpa using this⟩⟩
 case round=>
  obtain⟨j,hj,rfl,hI⟩:=hrel
  by_cases hlt:j<l.length
  ·have hc:=hI.out.2.2 j (Nat.le_refl _) hlt
   have hz:wr.frozen? ⟨g,j*3+2,none⟩=false:=by rw[hI.out.2.1.2.2];exact hf.out _
   generalize (l.getD j or0).t=t at hc
   have hlt':(j:Int)<(l.length:Int):=by omega
   have hj0:(0:Int)≤(j:Int):=by omega
   go_wp2_with fail
   go_roundw
   case rel=>
    refine⟨j+1,by omega,by go_num,bH ⟨hI.out.1.setCell (Nat.le_refl _) _,hI.out.2.1.set _,fun k hk hk2=> ?_⟩⟩
    rw[World.cell?_setCell_other _ _ _ _ (by intro e;injection e with _ e2;simp at e2;omega)]
    exact hI.out.2.2 k (by omega) hk2
   case measure=>simp[intOf];omega
  ·go_wp2_with fail
   go_end0
   exact⟨rfl,hI.out.1,hI.out.2.1⟩
def NSp (B:Nat) (w:World) (a:Option Addr) (ts:List Nd):Prop:=ts=[] ∨ ∃N,a=some ⟨N,0,none⟩∧B≤N∧N<w.heap.size∧NdSl w N 0 ts∧ ∀o,w.frozen? ⟨N,o,none⟩=false
theorem NSp.below {B:Nat} {w w':World} {a:Option Addr} {ts:List Nd} (h:NSp B w a ts) (hb:Below w.heap.size w w'):NSp B w' a ts:=by
 rcases h with h|⟨N,h1,h2,h3,h4,h5⟩
 ·exact .inl h
 ·exact .inr ⟨N,h1,h2,by have:=hb.size;omega,h4.below hb h3,fun o=>by rw[hb.frozen (p:=⟨N,o,none⟩) h3];exact h5 o⟩
theorem NSp.arg {B:Nat} {w:World} {a:Option Addr} {ts:List Nd} (h:NSp B w a ts):NArg w a ts.length ts:=by
 rcases h with rfl|⟨N,h1,h2,h3,h4,h5⟩
 ·exact⟨rfl, .inl rfl⟩
 ·exact⟨rfl, .inr ⟨N,0,h1,h4,h3⟩⟩
theorem spoilProg_any (B:Nat) (ao:Option Addr) (co:Nat) (an:Option Addr) (cn:Nat) (os:List Or) (ts:List Nd) (w:World) (hB:B≤w.heap.size) (hO:Hid (OwnO B w (.slice ao os.length co) os)) (hN:Hid (NSp B w an ts)) (hl:os.length≤1000000) (hl2:ts.length≤1000000) :
  Calls Tryz.prog 12 #[.agg #[.slice ao os.length co, .slice an ts.length cn]] w fun e w'=>e= .returned (.tuple #[])∧Below B w w':=by
 obtain⟨w0,hw0⟩ : ∃W,w.alloc (.cells #[.slice ao os.length co, .slice an ts.length cn] 25)=W:=⟨_,rfl⟩
 have hP:Hid (Pg w0 w.heap.size ao os.length co an ts.length cn):=bH (by rw[← hw0];exact pg_lit _ _ _ rfl _ _ _ _ _ _)
 have hb0:Below w.heap.size w w0:=by rw[← hw0];exact below_alc _ _
 have hO0:=bH (hO.out.below hb0)
 have hN0:=bH (hN.out.below hb0)
 have hB0:Hid (Below B w w0):=bH (hb0.mono hB)
 have hlt:=bH (own_lt hO.out)
 have key:Calls Tryz.prog 27 #[.slice ao os.length co] w0 fun e w'=>e= .returned (.tuple #[])∧Below B w w'∧Pg w' w.heap.size ao os.length co an ts.length cn∧NSp B w' an ts:=by
  by_cases h0:os=[]
  ·subst h0
   refine(spoilO_zero ao co w0).mono ?_
   rintro e w' ⟨rfl,rfl⟩
   exact⟨rfl,hB0.out,hP.out,hN0.out⟩
  ·rcases hO0.out.cases with ⟨_,h1⟩|⟨g,c,h1,hg1,hg2,_,hgs,hgf⟩
   ·exact absurd h1 h0
   ·injection h1 with h1 _ h2
    subst h1;subst h2
    refine(spoilO_sl g co os w0 (bH hgs) (bH hgf) (by omega)).mono ?_
    rintro e w' ⟨rfl,hb,ho⟩
    have hgw:=(hlt.out g rfl).2
    refine⟨rfl,hB0.out.trans (hb.mono hg1),⟨by have:=hP.out.1;have:=ho.1;omega,by rw[ho.2.1 _ (by show w.heap.size≠g;omega)];exact hP.out.2.1,by rw[ho.2.1 _ (by show w.heap.size≠g;omega)];exact hP.out.2.2⟩, ?_⟩
    rcases hN0.out with h3|⟨N,h3,h4,h5,h6,h7⟩
    ·exact .inl h3
    ·by_cases ht:ts=[]
     ·exact .inl ht
     ·have hne:N≠g:=by
       intro e
       subst e
       have hlo:0<os.length:=List.length_pos_iff.2 h0
       have hlt:0<ts.length:=List.length_pos_iff.2 ht
       have e1:=(hgs 0 hlo).1
       have e2:=(h6 0 hlt).1
       simp only[Nat.zero_mul,Nat.add_zero] at e1 e2
       rw[e1] at e2;cases e2
      refine .inr ⟨N,h3,h4,by have:=ho.1;omega,fun i hi=> ?_,fun o=>by rw[ho.2.2];exact h7 o⟩
      obtain⟨e0,e1,e2,e3,e4,e5,e6,e7,e8,e9⟩:=h6 i hi
      exact⟨(ho.2.1 _ hne).trans e0,(ho.2.1 _ hne).trans e1,(ho.2.1 _ hne).trans e2,(ho.2.1 _ hne).trans e3,(ho.2.1 _ hne).trans e4,(ho.2.1 _ hne).trans e5,(ho.2.1 _ hne).trans e6,(ho.2.1 _ hne).trans e7,(ho.2.1 _ hne).trans e8,(ho.2.1 _ hne).trans e9⟩
 have key:=bH key
 go_enter Tryz.func12,Tryz.ntmps12
 go_upto_region 1 with fail
 (try rw[hw0])
 clear hw0 hO0 hN0
 obtain⟨p0,p1,p2⟩:=hP.out
 go_wp2_with fail
 clear p0 p1 p2
 refine key.out.mono ?_
 rintro e w1 ⟨rfl,hb,hP1,hN1⟩
 have hB1:=bH hb
 have hN1:=bH hN1
 have key2:Hid (Calls Tryz.prog 28 #[.slice an ts.length cn] w1 fun e w'=>e= .returned (.tuple #[])∧Below B w w'):=bH (by
  by_cases h0:ts=[]
  ·subst h0
   refine(spoilN_zero an cn w1).mono ?_
   rintro e w' ⟨rfl,rfl⟩
   exact⟨rfl,hB1.out⟩
  ·rcases hN1.out with h3|⟨N,rfl,h4,h5,h6,h7⟩
   ·exact absurd h3 h0
   ·refine(spoilN_sl N cn ts w1 (bH h6) (bH h7) (by omega)).mono ?_
    rintro e w' ⟨rfl,hb,_⟩
    exact⟨rfl,hB1.out.trans (hb.mono h4)⟩)
 clear key hP hb hB0
 obtain⟨p0,p1,p2⟩:=hP1
 go_wp2_with fail
 clear p0 p1 p2
 refine key2.out.mono ?_
 rintro e w2 ⟨rfl,hb⟩
 go_wp2_with fail
 go_end0
 exact⟨rfl,hb⟩
end Go.Proofs.YthpcbgljbpmafaaGreatDoor
