/- The reference's tidier: walk. -/
import Derived.Test.YthpcbgljbpmafaaGreatDoorW25
set_option maxRecDepth 100000
set_option maxHeartbeats 8000000
namespace Go.Proofs.YthpcbgljbpmafaaGreatDoor
open Go.RowKit
set_option linter.unusedVariables false
set_option linter.unusedSimpArgs false
theorem rwalkG (B G:Nat) (sv:Value) (ts:List Nd) (i:Nat) (w:World) (mv:Value) (m:List Nd) (k a b c:Int) (n:Int) (nm u y z:ByteArray) (at_:Int) (hx:ts.getD i nd0=⟨k,a,b,c,n,nm,u,y,z,at_⟩) (hi:i<ts.length) (h:Hid (TdW B G sv ts w mv m)) (hn:Hid (IntOk m)) (mm:List Nd) (xx:Nd) (hk7:(k==7)=false) (hk8:(xx.k==8)=false) (hbl:mm.length<600) (kK:Hid (∀W0 b0 mv0,Hid (TdW B G sv ts W0 mv0 m)→Hid (NdBox G W0 mv0 b0 ⟨k,a,b,c,n,nm,u,y,z,at_⟩)→B≤b0→Calls Tryz.prog 44 #[.pointer (some ⟨G,0,none⟩), .pointer (some ⟨b0,0,none⟩)] W0 (TrK B G b0 sv ts W0 mv0 mm xx))):
  Calls Tryz.prog 25 #[.pointer (some ⟨G,0,none⟩), .int .i64 i] w (TrM B G sv ts w mv (mm++[xx])):=by
 obtain⟨T,off,cp,rfl,hTB,hTG,hTs,hS⟩:=h.out.ni
 obtain⟨e0,e1,e2,e3,e4,e5,e6,e7,e8,e9⟩:=hS i hi
 rw[hx] at e0 e1 e2 e3 e4 e5 e6 e7 e8 e9
 simp only at e0 e1 e2 e3 e4 e5 e6 e7 e8 e9
 obtain⟨ma,mc,rfl⟩:=own_sl h.out.own
 have hsv:=h.out.cn
 have hcm:=h.out.cm
 have hGl:G<w.heap.size:=by have:=h.out.gB;have:=h.out.bl;omega
 have hi1:(i:Int)<(ts.length:Int):=by omega
 have hi0:(0:Int)≤(i:Int):=by omega
 clear hS hx hi
 go_enter Tryz.func25,Tryz.ntmps25
 go_wp2_with fail
 obtain⟨W0,hW0⟩ : ∃W,w.alloc (.cells #[.int .i64 k, .int .i64 a, .int .i64 b, .int .i64 c, .int .i64 n, .string nm, .string u, .string y, .string z, .int .i64 at_] 45)=W:=⟨_,rfl⟩
 obtain⟨hX,h2,hst,hBb⟩:=ndbox_lit (t:=⟨k,a,b,c,n,nm,u,y,z,at_⟩) h.out hW0
 rw[hW0]
 clear hW0 hsv hcm hGl e0 e1 e2 e3 e4 e5 e6 e7 e8 e9
 have hX:=bH hX
 have h2:=bH h2
 have hst:=bH hst
 refine(kK.out _ _ _ h2 hX hBb).mono ?_
 rintro e w1 ⟨rfl,mv1,k1,k2,k3⟩
 obtain⟨m1,hm1⟩ : ∃r,mm=r:=⟨_,rfl⟩
 have hbl1:m1.length<600:=by rw[← hm1];exact hbl
 obtain⟨xv,hxv⟩ : ∃r,xx=r:=⟨_,rfl⟩
 have hkk:(xv.k==8)=false:=by rw[← hxv];exact hk8
 rw[hm1] at k1
 rw[hxv] at k2
 obtain⟨a1,c1,rfl⟩:=own_sl k1.own
 have hm2:=bH hm1
 have hxv2:=bH hxv
 clear hm1 hxv
 have h3:=bH k1
 have hX3:=bH k2
 have hst3:=bH (hst.out.kids k3 (Nat.le_refl _))
 clear k1 k2 k3
 have y0:=hX3.out.c0;have y1:=hX3.out.c1;have y2:=hX3.out.c2;have y3:=hX3.out.c3;have y4:=hX3.out.c4;have y5:=hX3.out.c5;have y6:=hX3.out.c6;have y7:=hX3.out.c7;have y8:=hX3.out.c8;have y9:=hX3.out.c9;have gl:=hX3.out.lt
 go_upto_region 18 with fail
 have hn:=h3.out.cm
 have hfr:=h3.out.fg
 have hgW:G<w1.heap.size:=by have:=h3.out.gB;have:=h3.out.bl;omega
 have hq:Hid ((m1.length+[xv].length)≤1000000):=bH (by simp;omega)
 have hBW:B≤w1.heap.size:=h3.out.bl
 have hnG : ¬ (Value.slice a1 m1.length c1).ownBlock=some G:=fun e=>by have:=(own_lt h3.out.own G e).1;have:=h3.out.gB;omega
 have hfin:Hid (∀a2 c2 w2,OwnN B w2 (.slice a2 (m1.length+1) c2) (m1++[xv])→Bar (fun k=>(Value.slice a1 m1.length c1).ownBlock=some k) w1.drew w2→(∀g,(Value.slice a2 (m1.length+1) c2).ownBlock=some g→(Value.slice a1 m1.length c1).ownBlock=some g∨w1.drew.heap.size≤g)→ ∃mv',TdW B G (.slice (some ⟨T,off,none⟩) ts.length cp) ts (w2.setCell ⟨G,1,none⟩ (.slice a2 (m1.length+1) c2)) mv' (m1++[xv])∧Stp G w (.slice ma m.length mc) (w2.setCell ⟨G,1,none⟩ (.slice a2 (m1.length+1) c2)) mv'):=bH fun a2 c2 w2 q1 q2 q3=>by
  have hd:Below w1.heap.size w1 w1.drew:=(Below.refl _ _).drew
  obtain⟨q4,q5⟩:=TdW.setM (h3.out.below hd) q2 q1 q3 (by simp;omega)
  exact⟨_,q4,(hst3.out.next hd).trans q5⟩
 have hnl:(m1.length:Int)≤600:=by omega
 have hnl0:(0:Int)≤(m1.length:Int):=by omega
 go_region_law ((refine step_ndr rfl (.tmp 117) (.tmp 119) w1.drew B (show B≤w1.drew.heap.size from hBW) (.slice a1 m1.length c1) m1 [xv] _ rfl rfl 1 rfl rfl rfl (show OwnN B w1.drew (.slice a1 m1.length c1) m1 from h3.out.own) hq.out ?_;intro v' w2 hown2 hb2 hop2;obtain⟨a2,c2,rfl⟩:=own_sl hown2;have hc2:w2.cell? ⟨G,1,none⟩=some (.slice a1 m1.length c1):=hb2.cell hn hnG;rw[List.length_append,List.length_singleton] at hown2 hop2;have hown2:=bH hown2;have hb2':=bH hb2;have hop2:=bH hop2;have hgw2:G<w2.heap.size:=Nat.lt_of_lt_of_le hgW hb2.size;have hf2:w2.frozen? ⟨G,1,none⟩=false:=(hb2.frozen (a:=⟨G,1,none⟩) hgW hnG).trans (hfr 1)))
 all_goals
  clear hb2 hn hfr hgW y0 y1 y2 y3 y4 y5 y6 y7 y8 y9
  go_wp2_with fail
  ((try simp only[Exit.inBlock,Exit.then]);first|(refine bodyPost_ret (results_none rfl _ _ _) rfl ?_)|(refine bodyPost_end (results_none rfl _ _ _) rfl ?_))
  obtain⟨mv',z1,z2⟩:=hfin.out _ _ _ hown2.out hb2'.out hop2.out
  exact⟨rfl,mv',(by rw[hxv2.out,hm2.out];exact z1),z2⟩
end Go.Proofs.YthpcbgljbpmafaaGreatDoor
