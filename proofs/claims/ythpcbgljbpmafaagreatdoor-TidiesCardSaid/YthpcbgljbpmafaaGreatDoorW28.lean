/- The reference's tidier: walk, no choice. -/
import Derived.Test.YthpcbgljbpmafaaGreatDoorW27
set_option maxRecDepth 100000
set_option maxHeartbeats 8000000
namespace Go.Proofs.YthpcbgljbpmafaaGreatDoor
open Go.RowKit
set_option linter.unusedVariables false
set_option linter.unusedSimpArgs false
theorem rwalk7n (B G:Nat) (sv:Value) (ts:List Nd) (i:Nat) (w:World) (mv:Value) (m:List Nd) (a b c:Nat) (n:Int) (nm u y z:ByteArray) (at_:Int) (hx:ts.getD i nd0=⟨7,a,b,c,n,nm,u,y,z,at_⟩) (hi:i<ts.length) (h:Hid (TdW B G sv ts w mv m)) (hn:Hid (IntOk m)) (ka:Hid (TrP B G sv ts a)) (hba:(m.length:Int)+(a+1-bg (ksN ts) a)≤512) (hpos1:0<(td ts a m).length) (hk2 : ¬ ((td ts a m).getD (lstI (td ts a m)) nd0).k=2) (kb:Hid (TrP B G sv ts b)) (hia:Hid (IntOk (td ts a m))) (hbb:((td ts a m).length:Int)+(b+1-bg (ksN ts) b)≤512) (hpos2:0<(td ts b (td ts a m)).length) (kc:Hid (TrP B G sv ts c)) (hib:Hid (IntOk (td ts b (td ts a m)))) (hbc:((td ts b (td ts a m)).length:Int)+(c+1-bg (ksN ts) c)≤512) (hpos3:0<(td ts c (td ts b (td ts a m))).length) (hbl:(td ts c (td ts b (td ts a m))).length<600) :
  Calls Tryz.prog 25 #[.pointer (some ⟨G,0,none⟩), .int .i64 i] w (TrM B G sv ts w mv (td ts c (td ts b (td ts a m))++[⟨7,lstI (td ts a m),lstI (td ts b (td ts a m)),lstI (td ts c (td ts b (td ts a m))),n,nm,u,y,z,at_⟩])):=by
 obtain⟨T,off,cp,rfl,hTB,hTG,hTs,hS⟩:=h.out.ni
 obtain⟨e0,e1,e2,e3,e4,e5,e6,e7,e8,e9⟩:=hS i hi
 rw[hx] at e0 e1 e2 e3 e4 e5 e6 e7 e8 e9
 simp only at e0 e1 e2 e3 e4 e5 e6 e7 e8 e9
 obtain⟨ma,mc,rfl⟩:=own_sl h.out.own
 have hsv:=h.out.cn
 have hcm:=h.out.cm
 have hGl:G<w.heap.size:=by have:=h.out.gB;have:=h.out.bl;omega
 have hi1:(i:Int)<(ts.length:Int):=by omega
 have hi0:(0:Int)≤(i:Int):=by omega
 clear hS hx hi
 go_enter Tryz.func25,Tryz.ntmps25
 go_wp2_with fail
 obtain⟨W0,hW0⟩ : ∃W,w.alloc (.cells #[.int .i64 7, .int .i64 a, .int .i64 b, .int .i64 c, .int .i64 n, .string nm, .string u, .string y, .string z, .int .i64 at_] 45)=W:=⟨_,rfl⟩
 obtain⟨hX,h2,hst,hBb⟩:=ndbox_lit (t:=⟨7,a,b,c,n,nm,u,y,z,at_⟩) h.out hW0
 rw[hW0]
 clear hW0 hsv hcm hGl e0 e1 e2 e3 e4 e5 e6 e7 e8 e9
 have hX:=bH hX
 have h2:=bH h2
 have hst:=bH hst
 have hx0:=hX.out.c0;have hx1:=hX.out.c1
 simp only at hx0 hx1
 refine(ka.out _ _ _ h2 hn hba).mono ?_
 rintro e w1 ⟨rfl,mv1,k1,k2⟩
 clear hx0 hx1
 have hX1:=bH (hX.out.step k2)
 have hst1:=bH (hst.out.trans k2)
 obtain⟨m1,hm1⟩ : ∃r,td ts a m=r:=⟨_,rfl⟩
 rw[hm1] at k1 hpos1 hk2 hia hbb hpos2 hib hbc hpos3 hbl
 have hm1h:=bH hm1
 obtain⟨aa,cc,rfl⟩:=own_sl k1.own
 have hq:m1.length=lstI m1+1:=by unfold lstI;omega
 obtain⟨g,rfl,hBg,hgs,_,hnc,hS1⟩:=own_at k1.own (p:=lstI m1) (by omega)
 obtain⟨t0,t1,t2,t3,t4,t5,t6,t7,t8,t9⟩:=hS1 (lstI m1) (by omega)
 simp only[Nat.zero_add] at t0 t1 t2 t3 t4 t5 t6 t7 t8 t9
 obtain⟨kk,hkk⟩ : ∃r,(m1.getD (lstI m1) nd0).k=r:=⟨_,rfl⟩
 rw[hkk] at t0 hk2
 clear hkk
 generalize m1.getD (lstI m1) nd0=lt at t1 t2 t3 t4 t5 t6 t7 t8 t9
 have hcm:=k1.cm
 rw[hq] at hcm
 have hml1:m1.length≤600:=k1.ml
 have hGw:G<w1.heap.size:=by have:=k1.gB;have:=k1.bl;omega
 have hh1:=bH k1
 obtain⟨p,hp⟩ : ∃p,lstI m1=p:=⟨_,rfl⟩
 rw[hp] at t0 t1 t2 t3 t4 t5 t6 t7 t8 t9 hcm hq
 have hqh:=bH hq
 have hph:=bH hp
 have hpb:(p:Int)≤600:=by omega
 have hp0:(0:Int)≤(p:Int):=by omega
 have hg0:=hX1.out.c0;have hg2:=hX1.out.c2;have hg3:=hX1.out.c3;have hgl:=hX1.out.lt
 simp only at hg0 hg2 hg3
 clear hS1 k1 k2 hq hp hm1 hpos1 hnc
 go_upto_region 4 with fail
 go_region
 obtain⟨W2,hW2⟩ : ∃W,(w1.alloc (.cells #[.int .i64 kk, .int .i64 lt.a, .int .i64 lt.b, .int .i64 lt.c, .int .i64 lt.n, .string lt.nm, .string lt.x, .string lt.y, .string lt.z, .int .i64 lt.p] 45)).drew=W:=⟨_,rfl⟩
 have hb2:Below w1.heap.size w1 W2:=by rw[← hW2];exact(below_alc _ _).drew
 have hC:Nd10 W2 w1.heap.size ⟨kk,lt.a,lt.b,lt.c,lt.n,lt.nm,lt.x,lt.y,lt.z,lt.p⟩:=by rw[← hW2];exact(nd10_lit w1 _ _ _ _ rfl rfl).below ((Below.refl _ _).drew)
 rw[hW2]
 clear hW2 t0 t1 t2 t3 t4 t5 t6 t7 t8 t9 hcm hg0 hg2 hg3 hgl
 have hh2:=bH (hh1.out.below hb2)
 have hX2:=bH (hX1.out.step (Stp.below (nv:=Value.slice (some ⟨g,0,none⟩) m1.length cc) hb2))
 have hst2:=bH (hst1.out.next hb2)
 obtain⟨cl,c0,_,_,_,c4,_,_,_,_,_,cf⟩:=hC
 simp only at c0 c4
 have hcm:=hh2.out.cm
 rw[hqh.out] at hcm
 have g0:=hX2.out.c0;have g1:=hX2.out.c1;have g2:=hX2.out.c2;have g3:=hX2.out.c3;have gf:=hX2.out.fz 1;have gl:=hX2.out.lt
 simp only at g0 g1 g2 g3
 have hGw2:G<W2.heap.size:=by omega
 go_wp2_with fail
 obtain⟨W3,hW3⟩ : ∃W,W2.setCell ⟨w.heap.size,1,none⟩ (.int .i64 (p:Int))=W:=⟨_,rfl⟩
 have hX1s:=bH (hX2.out.set1 (p:Int))
 have h1s:=bH (hh2.out.box hX2.out hBb 1 (.int .i64 (p:Int)))
 have hst1s:=bH (hst2.out.box (Nat.le_refl _) 1 (.int .i64 (p:Int)))
 rw[hW3] at hX1s h1s hst1s ⊢
 clear hW3 g0 g1 g2 g3 gf gl c0 c4 cf cl hcm hGw2 hGw
 refine(kb.out _ _ _ h1s hia hbb).mono ?_
 rintro e w2 ⟨rfl,mv2,k1,k2⟩
 have hX2:=bH (hX1s.out.step k2)
 have hh2:=bH k1
 have hst2:=bH (hst1s.out.trans k2)
 clear k1 k2
 have hpp2:0<(td ts b m1).length:=by have:=hpos2;omega
 obtain⟨m2,hm2⟩ : ∃r,td ts b m1=r:=⟨_,rfl⟩
 rw[hm2] at hh2 hpp2 hpos2 hib hbc hpos3 hbl
 (try rw[hm2])
 have hm2h:=bH hm2
 clear hm2
 have hlq2:=bH (show (m2.length:Int)-1=(lstI m2:Int) by unfold lstI;omega)
 obtain⟨aa2,cc2,rfl⟩:=own_sl hh2.out.own
 have g0:=hX2.out.c0;have g1:=hX2.out.c1;have g2:=hX2.out.c2;have g3:=hX2.out.c3;have gf:=hX2.out.fz 2;have gl:=hX2.out.lt
 have hcm:=hh2.out.cm
 have hGl:G<w2.heap.size:=by have:=hh2.out.gB;have:=hh2.out.bl;omega
 have hml2:(m2.length:Int)≤600:=by have:=hh2.out.ml;omega
 have hmz2:(1:Int)≤(m2.length:Int):=by omega
 simp only at g0 g1 g2 g3
 go_wp2_with fail
 obtain⟨W2z,hW2⟩ : ∃W,w2.setCell ⟨w.heap.size,2,none⟩ (.int .i64 ((m2.length:Int)-1))=W:=⟨_,rfl⟩
 have hX2s:=bH (hX2.out.set2 ((m2.length:Int)-1))
 have h2s:=bH (hh2.out.box hX2.out hBb 2 (.int .i64 ((m2.length:Int)-1)))
 have hst2s:=bH (hst2.out.box (Nat.le_refl _) 2 (.int .i64 ((m2.length:Int)-1)))
 rw[hW2] at hX2s h2s hst2s ⊢
 rw[hlq2.out] at hX2s
 clear hW2 g0 g1 g2 g3 gf gl hcm hGl
 refine(kc.out _ _ _ h2s hib hbc).mono ?_
 rintro e w3 ⟨rfl,mv3,k1,k2⟩
 have hX3:=bH (hX2s.out.step k2)
 have hh3:=bH k1
 have hst3:=bH (hst2s.out.trans k2)
 clear k1 k2
 have hpp3:0<(td ts c m2).length:=by have:=hpos3;omega
 obtain⟨m3,hm3⟩ : ∃r,td ts c m2=r:=⟨_,rfl⟩
 rw[hm3] at hh3 hpp3 hpos3 hbl
 (try rw[hm3])
 have hm3h:=bH hm3
 clear hm3
 have hlq3:=bH (show (m3.length:Int)-1=(lstI m3:Int) by unfold lstI;omega)
 obtain⟨aa3,cc3,rfl⟩:=own_sl hh3.out.own
 have g0:=hX3.out.c0;have g1:=hX3.out.c1;have g2:=hX3.out.c2;have g3:=hX3.out.c3;have gf:=hX3.out.fz 3;have gl:=hX3.out.lt
 have hcm:=hh3.out.cm
 have hGl:G<w3.heap.size:=by have:=hh3.out.gB;have:=hh3.out.bl;omega
 have hml3:(m3.length:Int)≤600:=by have:=hh3.out.ml;omega
 have hmz3:(1:Int)≤(m3.length:Int):=by omega
 simp only at g0 g1 g2 g3
 go_upto_region 15 with fail
 obtain⟨W3z,hW3⟩ : ∃W,w3.setCell ⟨w.heap.size,3,none⟩ (.int .i64 ((m3.length:Int)-1))=W:=⟨_,rfl⟩
 have hX3s:=bH (hX3.out.set3 ((m3.length:Int)-1))
 have h3s:=bH (hh3.out.box hX3.out hBb 3 (.int .i64 ((m3.length:Int)-1)))
 have hst3s:=bH (hst3.out.box (Nat.le_refl _) 3 (.int .i64 ((m3.length:Int)-1)))
 rw[hW3] at hX3s h3s hst3s ⊢
 rw[hlq3.out] at hX3s
 clear hW3 g0 g1 g2 g3 gf gl hcm hGl
 obtain⟨xv,hxv⟩ : ∃r,(⟨7,(p:Int),lstI m2,lstI m3,n,nm,u,y,z,at_⟩:Nd)=r:=⟨_,rfl⟩
 have hX3s:=bH (show NdBox G W3z (Value.slice aa3 m3.length cc3) w.heap.size xv from by rw[← hxv];exact hX3s.out)
 have hxv2:=bH hxv
 clear hxv
 have y0:=hX3s.out.c0;have y1:=hX3s.out.c1;have y2:=hX3s.out.c2;have y3:=hX3s.out.c3;have y4:=hX3s.out.c4;have y5:=hX3s.out.c5;have y6:=hX3s.out.c6;have y7:=hX3s.out.c7;have y8:=hX3s.out.c8;have y9:=hX3s.out.c9;have gl:=hX3s.out.lt
 have hn:=h3s.out.cm
 have hfr:=h3s.out.fg
 have hgW:G<W3z.heap.size:=by have:=h3s.out.gB;have:=h3s.out.bl;omega
 have hq:Hid ((m3.length+[xv].length)≤1000000):=bH (by simp;omega)
 have hBW:B≤W3z.heap.size:=h3s.out.bl
 have hnG : ¬ (Value.slice aa3 m3.length cc3).ownBlock=some G:=fun e=>by have:=(own_lt h3s.out.own G e).1;have:=h3s.out.gB;omega
 have hfin:Hid (∀a2 c2 w2,OwnN B w2 (.slice a2 (m3.length+1) c2) (m3++[xv])→Bar (fun k=>(Value.slice aa3 m3.length cc3).ownBlock=some k) W3z.drew w2→(∀g,(Value.slice a2 (m3.length+1) c2).ownBlock=some g→(Value.slice aa3 m3.length cc3).ownBlock=some g∨W3z.drew.heap.size≤g)→ ∃mv',TdW B G (.slice (some ⟨T,off,none⟩) ts.length cp) ts (w2.setCell ⟨G,1,none⟩ (.slice a2 (m3.length+1) c2)) mv' (m3++[xv])∧Stp G w (.slice ma m.length mc) (w2.setCell ⟨G,1,none⟩ (.slice a2 (m3.length+1) c2)) mv'):=bH fun a2 c2 w2 q1 q2 q3=>by
  have hd:Below W3z.heap.size W3z W3z.drew:=(Below.refl _ _).drew
  obtain⟨q4,q5⟩:=TdW.setM (h3s.out.below hd) q2 q1 q3 (by simp;omega)
  exact⟨_,q4,(hst3s.out.next hd).trans q5⟩
 have hnl:(m3.length:Int)≤600:=by omega
 have hnl0:(0:Int)≤(m3.length:Int):=by omega
 have hy0:W3z.cell? ⟨w.heap.size,0,none⟩=some (.int .i64 xv.k):=hX3s.out.c0
 clear y0
 go_region_law ((refine step_ndr rfl (.tmp 96) (.tmp 98) W3z.drew B (show B≤W3z.drew.heap.size from hBW) (.slice aa3 m3.length cc3) m3 [xv] _ rfl rfl 1 rfl rfl rfl (show OwnN B W3z.drew (.slice aa3 m3.length cc3) m3 from h3s.out.own) hq.out ?_;intro v' w2 hown2 hb2 hop2;obtain⟨a2,c2,rfl⟩:=own_sl hown2;have hc2:w2.cell? ⟨G,1,none⟩=some (.slice aa3 m3.length cc3):=hb2.cell hn hnG;rw[List.length_append,List.length_singleton] at hown2 hop2;have hown2:=bH hown2;have hb2':=bH hb2;have hop2:=bH hop2;have hgw2:G<w2.heap.size:=Nat.lt_of_lt_of_le hgW hb2.size;have hf2:w2.frozen? ⟨G,1,none⟩=false:=(hb2.frozen (a:=⟨G,1,none⟩) hgW hnG).trans (hfr 1)))
 all_goals
  clear hb2 hn hfr hgW hy0 y1 y2 y3 y4 y5 y6 y7 y8 y9
  go_wp2_with fail
  ((try simp only[Exit.inBlock,Exit.then]);first|(refine bodyPost_ret (results_none rfl _ _ _) rfl ?_)|(refine bodyPost_end (results_none rfl _ _ _) rfl ?_))
  obtain⟨mv',z1,z2⟩:=hfin.out _ _ _ hown2.out hb2'.out hop2.out
  exact⟨rfl,mv',(by rw[hm1h.out,hm2h.out,hm3h.out,hph.out,hxv2.out];exact z1),z2⟩
end Go.Proofs.YthpcbgljbpmafaaGreatDoor
