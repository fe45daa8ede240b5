/- The program's tidier: put. -/
import Derived.Test.YthpcbgljbpmafaaGreatDoorW22
import Derived.Test.YthpcbgljbpmafaaGreatDoorW23
set_option maxRecDepth 100000
set_option maxHeartbeats 8000000
namespace Go.Proofs.YthpcbgljbpmafaaGreatDoor
open Go.RowKit
set_option linter.unusedVariables false
set_option linter.unusedSimpArgs false
theorem TdW.box {B G:Nat} {sv:Value} {ts:List Nd} {w:World} {mv:Value} {m:List Nd} {b:Nat} {t:Nd} (h:TdW B G sv ts w mv m) (hx:NdBox G w mv b t) (hB:B≤b) (o:Nat) (v:Value):TdW B G sv ts (w.setCell ⟨b,o,none⟩ v) mv m:=
 h.bar (Bar.set (S:=fun k=>k=b) ⟨b,o,none⟩ v rfl) (fun e=>hx.gb e.symm) (fun k hk _ e=>by omega) (fun k hk e=>hx.ob (e▸hk))
theorem Stp.box {G b:Nat} {w w1:World} {mv mv1:Value} (h:Stp G w mv w1 mv1) (hb:w.heap.size≤b) (o:Nat) (v:Value):Stp G w mv (w1.setCell ⟨b,o,none⟩ v) mv1:=
 ⟨h.1.trans (Bar.set (S:=fun k=>k=b) ⟨b,o,none⟩ v rfl) fun k hk e=>by omega,h.2⟩
theorem ndbox_lit {B G:Nat} {sv:Value} {ts:List Nd} {w W:World} {mv:Value} {m:List Nd} {t:Nd} (h:TdW B G sv ts w mv m) (hW:w.alloc (.cells #[.int .i64 t.k, .int .i64 t.a, .int .i64 t.b, .int .i64 t.c, .int .i64 t.n, .string t.nm, .string t.x, .string t.y, .string t.z, .int .i64 t.p] 45)=W) :
  NdBox G W mv w.heap.size t∧TdW B G sv ts W mv m∧Stp G w mv W mv∧B≤w.heap.size:=by
 obtain⟨⟨y0,y1,y2,y3,y4,y5,y6,y7,y8,y9⟩,hb0,hs0⟩:=nd_box w W t hW
 refine⟨⟨y0,y1,y2,y3,y4,y5,y6,y7,y8,y9,fun o=> ?_, ?_,fun e=> ?_,hs0, ?_⟩,h.below hb0,Stp.below hb0,h.bl⟩
 ·rw[← hW];simp[go_sem]
 ·have:=h.gB;have:=h.bl;omega
 ·have:=(own_lt h.own _ e).2;omega
 ·rw[← hW];exact TyAt.new _ _ _
def TdP (B G:Nat) (sv:Value) (ts:List Nd) (j:Nat):Prop:= ∀W mv1 m1,Hid (TdW B G sv ts W mv1 m1)→Hid (IntOk m1)→(m1.length:Int)+(j+1-bg (ksN ts) j)≤512→Calls Tryz.prog 22 #[.pointer (some ⟨G,0,none⟩), .int .i64 j] W (TdN B G sv ts W mv1 (td ts j m1))
theorem tput0 (B G:Nat) (sv:Value) (ts:List Nd) (i:Nat) (w:World) (mv:Value) (m:List Nd) (a b c:Int) (n:Int) (nm u y z:ByteArray) (at_:Int) (hx:ts.getD i nd0=⟨0,a,b,c,n,nm,u,y,z,at_⟩) (hi:i<ts.length) (h:Hid (TdW B G sv ts w mv m)) (hn:Hid (IntOk m)) (hlen:Hid (Tre ts)) (hbd:m.length<512)  :
  Calls Tryz.prog 22 #[.pointer (some ⟨G,0,none⟩), .int .i64 i] w (TdN B G sv ts w mv (m++[⟨0,a,b,c,n,nm,u,y,z,at_⟩])):=by
 obtain⟨T,off,cp,rfl,hTB,hTG,hTs,hS⟩:=h.out.ni
 obtain⟨e0,e1,e2,e3,e4,e5,e6,e7,e8,e9⟩:=hS i hi
 rw[hx] at e0 e1 e2 e3 e4 e5 e6 e7 e8 e9
 simp only at e0 e1 e2 e3 e4 e5 e6 e7 e8 e9
 have hsv:=h.out.cn
 have hGl:G<w.heap.size:=by have:=h.out.gB;have:=h.out.bl;omega
 have hi1:(i:Int)<(ts.length:Int):=by omega
 have hi0:(0:Int)≤(i:Int):=by omega
 clear hS hx hi
 go_enter Tryz.func22,Tryz.ntmps22
 go_wp2_with fail
 obtain⟨W0,hW0⟩ : ∃W,w.alloc (.cells #[.int .i64 0, .int .i64 a, .int .i64 b, .int .i64 c, .int .i64 n, .string nm, .string u, .string y, .string z, .int .i64 at_] 45)=W:=⟨_,rfl⟩
 obtain⟨hX,h2,hst,hBb⟩:=ndbox_lit (t:=⟨0,a,b,c,n,nm,u,y,z,at_⟩) h.out hW0
 rw[hW0]
 clear hW0 hsv hGl e0 e1 e2 e3 e4 e5 e6 e7 e8 e9
 have hX:=bH hX
 have h2:=bH h2
 have hst:=bH hst
 refine(tadd_any B G _ ts _ mv m ⟨0,a,b,c,n,nm,u,y,z,at_⟩ h2 (by omega)).mono ?_
 rintro e w2 ⟨rfl,mv',k1,k2⟩
 have k1:=bH k1
 have k3:=bH (hst.out.trans k2)
 go_wp2_with fail
 go_ret
 exact⟨rfl,mv',k1.out,k3.out⟩
theorem tput1 (B G:Nat) (sv:Value) (ts:List Nd) (i:Nat) (w:World) (mv:Value) (m:List Nd) (a b c:Int) (n:Int) (nm u y z:ByteArray) (at_:Int) (hx:ts.getD i nd0=⟨1,a,b,c,n,nm,u,y,z,at_⟩) (hi:i<ts.length) (h:Hid (TdW B G sv ts w mv m)) (hn:Hid (IntOk m)) (hlen:Hid (Tre ts)) (hbd:m.length<512)  :
  Calls Tryz.prog 22 #[.pointer (some ⟨G,0,none⟩), .int .i64 i] w (TdN B G sv ts w mv (m++[⟨1,a,b,c,n,nm,u,y,z,at_⟩])):=by
 obtain⟨T,off,cp,rfl,hTB,hTG,hTs,hS⟩:=h.out.ni
 obtain⟨e0,e1,e2,e3,e4,e5,e6,e7,e8,e9⟩:=hS i hi
 rw[hx] at e0 e1 e2 e3 e4 e5 e6 e7 e8 e9
 simp only at e0 e1 e2 e3 e4 e5 e6 e7 e8 e9
 have hsv:=h.out.cn
 have hGl:G<w.heap.size:=by have:=h.out.gB;have:=h.out.bl;omega
 have hi1:(i:Int)<(ts.length:Int):=by omega
 have hi0:(0:Int)≤(i:Int):=by omega
 clear hS hx hi
 go_enter Tryz.func22,Tryz.ntmps22
 go_wp2_with fail
 obtain⟨W0,hW0⟩ : ∃W,w.alloc (.cells #[.int .i64 1, .int .i64 a, .int .i64 b, .int .i64 c, .int .i64 n, .string nm, .string u, .string y, .string z, .int .i64 at_] 45)=W:=⟨_,rfl⟩
 obtain⟨hX,h2,hst,hBb⟩:=ndbox_lit (t:=⟨1,a,b,c,n,nm,u,y,z,at_⟩) h.out hW0
 rw[hW0]
 clear hW0 hsv hGl e0 e1 e2 e3 e4 e5 e6 e7 e8 e9
 have hX:=bH hX
 have h2:=bH h2
 have hst:=bH hst
 refine(tadd_any B G _ ts _ mv m ⟨1,a,b,c,n,nm,u,y,z,at_⟩ h2 (by omega)).mono ?_
 rintro e w2 ⟨rfl,mv',k1,k2⟩
 have k1:=bH k1
 have k3:=bH (hst.out.trans k2)
 go_wp2_with fail
 go_ret
 exact⟨rfl,mv',k1.out,k3.out⟩
theorem tput2 (B G:Nat) (sv:Value) (ts:List Nd) (i:Nat) (w:World) (mv:Value) (m:List Nd) (a b c:Int) (n:Int) (nm u y z:ByteArray) (at_:Int) (hx:ts.getD i nd0=⟨2,a,b,c,n,nm,u,y,z,at_⟩) (hi:i<ts.length) (h:Hid (TdW B G sv ts w mv m)) (hn:Hid (IntOk m)) (hlen:Hid (Tre ts)) (hbd:m.length<512)  :
  Calls Tryz.prog 22 #[.pointer (some ⟨G,0,none⟩), .int .i64 i] w (TdN B G sv ts w mv (m++[⟨2,a,b,c,n,nm,u,y,z,at_⟩])):=by
 obtain⟨T,off,cp,rfl,hTB,hTG,hTs,hS⟩:=h.out.ni
 obtain⟨e0,e1,e2,e3,e4,e5,e6,e7,e8,e9⟩:=hS i hi
 rw[hx] at e0 e1 e2 e3 e4 e5 e6 e7 e8 e9
 simp only at e0 e1 e2 e3 e4 e5 e6 e7 e8 e9
 have hsv:=h.out.cn
 have hGl:G<w.heap.size:=by have:=h.out.gB;have:=h.out.bl;omega
 have hi1:(i:Int)<(ts.length:Int):=by omega
 have hi0:(0:Int)≤(i:Int):=by omega
 clear hS hx hi
 go_enter Tryz.func22,Tryz.ntmps22
 go_wp2_with fail
 obtain⟨W0,hW0⟩ : ∃W,w.alloc (.cells #[.int .i64 2, .int .i64 a, .int .i64 b, .int .i64 c, .int .i64 n, .string nm, .string u, .string y, .string z, .int .i64 at_] 45)=W:=⟨_,rfl⟩
 obtain⟨hX,h2,hst,hBb⟩:=ndbox_lit (t:=⟨2,a,b,c,n,nm,u,y,z,at_⟩) h.out hW0
 rw[hW0]
 clear hW0 hsv hGl e0 e1 e2 e3 e4 e5 e6 e7 e8 e9
 have hX:=bH hX
 have h2:=bH h2
 have hst:=bH hst
 refine(tadd_any B G _ ts _ mv m ⟨2,a,b,c,n,nm,u,y,z,at_⟩ h2 (by omega)).mono ?_
 rintro e w2 ⟨rfl,mv',k1,k2⟩
 have k1:=bH k1
 have k3:=bH (hst.out.trans k2)
 go_wp2_with fail
 go_ret
 exact⟨rfl,mv',k1.out,k3.out⟩
open Go.RowKit
theorem tput8 (B G:Nat) (sv:Value) (ts:List Nd) (i:Nat) (w:World) (mv:Value) (m:List Nd) (R:List Nd) (a b:Nat) (c:Int) (n:Int) (nm u y z:ByteArray) (at_:Int) (hx:ts.getD i nd0=⟨8,a,b,c,n,nm,u,y,z,at_⟩) (hi:i<ts.length) (h:Hid (TdW B G sv ts w mv m)) (hn:Hid (IntOk m)) (hlen:Hid (Tre ts)) (ka:Hid (TdP B G sv ts a)) (hba:(m.length:Int)+(a+1-bg (ksN ts) a)≤512) (kb:Hid (TdP B G sv ts b)) (hia:Hid (IntOk (td ts a m))) (hbb:((td ts a m).length:Int)+(b+1-bg (ksN ts) b)≤512) (hpa:lstI (td ts a m)<(td ts b (td ts a m)).length) (hpb:lstI (td ts b (td ts a m))<(td ts b (td ts a m)).length) (hib:Hid (IntOk (td ts b (td ts a m)))) (hnn:0≤n∧n≤5) (hbl:(td ts b (td ts a m)).length<600) (hRn:Hid (knownV ⟨8,lstI (td ts a m),lstI (td ts b (td ts a m)),c,n,nm,u,y,z,at_⟩ ((td ts b (td ts a m)).getD (lstI (td ts a m)) nd0) ((td ts b (td ts a m)).getD (lstI (td ts b (td ts a m))) nd0)=none→R=td ts b (td ts a m)++[⟨8,lstI (td ts a m),lstI (td ts b (td ts a m)),c,n,nm,u,y,z,at_⟩])) (hRs:Hid (∀v,knownV ⟨8,lstI (td ts a m),lstI (td ts b (td ts a m)),c,n,nm,u,y,z,at_⟩ ((td ts b (td ts a m)).getD (lstI (td ts a m)) nd0) ((td ts b (td ts a m)).getD (lstI (td ts b (td ts a m))) nd0)=some v→R=(td ts b (td ts a m)).take (lstI (td ts a m))++[v]))  :
  Calls Tryz.prog 22 #[.pointer (some ⟨G,0,none⟩), .int .i64 i] w (TdN B G sv ts w mv R):=by
 obtain⟨T,off,cp,rfl,hTB,hTG,hTs,hS⟩:=h.out.ni
 obtain⟨e0,e1,e2,e3,e4,e5,e6,e7,e8,e9⟩:=hS i hi
 rw[hx] at e0 e1 e2 e3 e4 e5 e6 e7 e8 e9
 simp only at e0 e1 e2 e3 e4 e5 e6 e7 e8 e9
 have hsv:=h.out.cn
 have hGl:G<w.heap.size:=by have:=h.out.gB;have:=h.out.bl;omega
 have hi1:(i:Int)<(ts.length:Int):=by omega
 have hi0:(0:Int)≤(i:Int):=by omega
 clear hS hx hi
 go_enter Tryz.func22,Tryz.ntmps22
 go_wp2_with fail
 obtain⟨W0,hW0⟩ : ∃W,w.alloc (.cells #[.int .i64 8, .int .i64 a, .int .i64 b, .int .i64 c, .int .i64 n, .string nm, .string u, .string y, .string z, .int .i64 at_] 45)=W:=⟨_,rfl⟩
 obtain⟨hX,h2,hst,hBb⟩:=ndbox_lit (t:=⟨8,a,b,c,n,nm,u,y,z,at_⟩) h.out hW0
 rw[hW0]
 clear hW0 hsv hGl e0 e1 e2 e3 e4 e5 e6 e7 e8 e9
 have hX:=bH hX
 have h2:=bH h2
 have hst:=bH hst
 refine(ka.out _ _ _ h2 hn hba).mono ?_
 rintro e w1 ⟨rfl,mv1,k1,k2⟩
 have hX1:=bH (hX.out.step k2)
 have hh1:=bH k1
 have hst1:=bH (hst.out.trans k2)
 clear k1 k2
 obtain⟨m1,hm1⟩ : ∃r,td ts a m=r:=⟨_,rfl⟩
 rw[hm1] at hh1 hia hbb hpa hpb hib hbl hRn hRs ⊢
 have g0:=hX1.out.c0;have g1:=hX1.out.c1;have g2:=hX1.out.c2;have g3:=hX1.out.c3;have g4:=hX1.out.c4;have g5:=hX1.out.c5;have g6:=hX1.out.c6;have g7:=hX1.out.c7;have g8:=hX1.out.c8;have g9:=hX1.out.c9;have gf:=hX1.out.fz;have gl:=hX1.out.lt
 simp only at g0 g1 g2 g3 g4 g5 g6 g7 g8 g9
 go_wp2_with fail
 obtain⟨W1,hW1⟩ : ∃W,w1.setCell ⟨w.heap.size,1,none⟩ (.int .i64 (lstI m1))=W:=⟨_,rfl⟩
 have hX1s:=bH (hX1.out.set1 (lstI m1))
 have h21s:=bH (hh1.out.box hX1.out hBb 1 (.int .i64 (lstI m1)))
 have hst1s:=bH (hst1.out.box (Nat.le_refl _) 1 (.int .i64 (lstI m1)))
 rw[hW1] at hX1s h21s hst1s ⊢
 clear hW1 g0 g1 g2 g3 g4 g5 g6 g7 g8 g9 gf gl hX1 hh1 hst1
 refine(kb.out _ _ _ h21s hia hbb).mono ?_
 rintro e w2 ⟨rfl,mv2,k1,k2⟩
 have hX2:=bH (hX1s.out.step k2)
 have hh2:=bH k1
 have hst2:=bH (hst1s.out.trans k2)
 clear k1 k2
 obtain⟨m2,hm2⟩ : ∃r,td ts b m1=r:=⟨_,rfl⟩
 rw[hm2] at hh2 hpa hpb hib hbl hRn hRs ⊢
 have g0:=hX2.out.c0;have g1:=hX2.out.c1;have g2:=hX2.out.c2;have g3:=hX2.out.c3;have g4:=hX2.out.c4;have g5:=hX2.out.c5;have g6:=hX2.out.c6;have g7:=hX2.out.c7;have g8:=hX2.out.c8;have g9:=hX2.out.c9;have gf:=hX2.out.fz;have gl:=hX2.out.lt
 simp only at g0 g1 g2 g3 g4 g5 g6 g7 g8 g9
 go_wp2_with fail
 obtain⟨W2,hW2⟩ : ∃W,w2.setCell ⟨w.heap.size,2,none⟩ (.int .i64 (lstI m2))=W:=⟨_,rfl⟩
 have hX2s:=bH (hX2.out.set2 (lstI m2))
 have h22s:=bH (hh2.out.box hX2.out hBb 2 (.int .i64 (lstI m2)))
 have hst2s:=bH (hst2.out.box (Nat.le_refl _) 2 (.int .i64 (lstI m2)))
 rw[hW2] at hX2s h22s hst2s ⊢
 clear hW2 g0 g1 g2 g3 g4 g5 g6 g7 g8 g9 gf gl hX2 hh2 hst2
 obtain⟨aa,cc,rfl⟩:=own_sl h22s.out.own
 refine(tknown_any B G _ ts _ _ m2 8 c n nm u y z at_ (lstI m1) (lstI m2) h22s hpa hpb hib hnn).mono ?_
 rintro e w3 ⟨⟨⟨xk,xa,xb,xc,xn,xnm,xu,xy,xz,xp⟩,he,hK⟩,hb3⟩
 obtain⟨K,hKe⟩ : ∃r,knownV ⟨8,lstI m1,lstI m2,c,n,nm,u,y,z,at_⟩ (m2.getD (lstI m1) nd0) (m2.getD (lstI m2) nd0)=r:=⟨_,rfl⟩
 rw[hKe] at he hK hRn hRs
 have h3:=bH (h22s.out.below hb3)
 have hX3:=bH (hX2s.out.step (Stp.below (nv:=Value.slice aa m2.length cc) hb3))
 have hst3:=bH (hst2s.out.next hb3)
 clear hb3 hKe h22s hX2s hst2s
 have g0:=hX3.out.c0;have g1:=hX3.out.c1;have g2:=hX3.out.c2;have g3:=hX3.out.c3;have g4:=hX3.out.c4;have g5:=hX3.out.c5;have g6:=hX3.out.c6;have g7:=hX3.out.c7;have g8:=hX3.out.c8;have g9:=hX3.out.c9;have gl:=hX3.out.lt
 simp only at g0 g1 g2 g3 g4 g5 g6 g7 g8 g9
 cases K with
 | none=>
  have he:e= .returned (.tuple #[.agg #[.int .i64 xk, .int .i64 xa, .int .i64 xb, .int .i64 xc, .int .i64 xn, .string xnm, .string xu, .string xy, .string xz, .int .i64 xp], .bool false]):=he
  subst he
  clear hK
  go_wp2_with fail
  refine(tadd_any B G _ ts _ _ m2 ⟨8,lstI m1,lstI m2,c,n,nm,u,y,z,at_⟩ (bH (h3.out.below (below_alc _ _))) (by omega)).mono ?_
  rintro e wz ⟨rfl,mv',k1,k2⟩
  have k1:=bH k1
  have k3:=bH ((hst3.out.next (below_alc _ _)).trans k2)
  clear g0 g1 g2 g3 g4 g5 g6 g7 g8 g9 gl
  go_wp2_with fail
  go_ret
  subst hm2 hm1
  rw[hRn.out (by first|rfl|trivial)]
  exact⟨rfl,mv',k1.out,k3.out⟩
 | some v=>
  have he:e= .returned (.tuple #[.agg #[.int .i64 xk, .int .i64 xa, .int .i64 xb, .int .i64 xc, .int .i64 xn, .string xnm, .string xu, .string xy, .string xz, .int .i64 xp], .bool true]):=he
  subst he
  have hv:v=⟨xk,xa,xb,xc,xn,xnm,xu,xy,xz,xp⟩:=by
   rcases hK with hK|hK
   ·cases hK
   ·injection hK
  subst hv
  have hRq:=bH (hRs.out _ rfl)
  clear hK
  go_upto_region 22 with fail
  obtain⟨W3,hW3⟩ : ∃W,w3.alloc (.cells #[.int .i64 xk, .int .i64 xa, .int .i64 xb, .int .i64 xc, .int .i64 xn, .string xnm, .string xu, .string xy, .string xz, .int .i64 xp] 45)=W:=⟨_,rfl⟩
  obtain⟨⟨y0,y1,y2,y3,y4,y5,y6,y7,y8,y9⟩,hb4,hs4⟩:=nd_box w3 W3 ⟨xk,xa,xb,xc,xn,xnm,xu,xy,xz,xp⟩ hW3
  simp only at y0 y1 y2 y3 y4 y5 y6 y7 y8 y9
  rw[hW3]
  clear hW3
  have c1:W3.cell? _=_:=carry hb4 gl g1
  have h4:=bH (h3.out.below hb4)
  have hst4:=bH (hst3.out.next hb4)
  clear g0 g1 g2 g3 g4 g5 g6 g7 g8 g9
  obtain⟨g,rfl,hBg,hgs,_,hnc,_⟩:=own_at h4.out.own hpa
  have hcm:=h4.out.cm
  have hfr:=h4.out.fg 1
  have hGW:G<W3.heap.size:=by have:=h4.out.gB;have:=h4.out.bl;omega
  have glW:w.heap.size<W3.heap.size:=by have:=hb4.size;omega
  have hml2:m2.length≤600:=h4.out.ml
  have hp1:(lstI m1:Int)<(m2.length:Int):=by omega
  have hp0:(0:Int)≤(lstI m1:Int):=by omega
  have hpc:lstI m1≤cc:=by omega
  have hne:w3.heap.size≠G:=by have:=h3.out.gB;have:=h3.out.bl;omega
  have hM:Hid (∀Wd,Below (W3.setCell ⟨G,1,none⟩ (.slice (some ⟨g,0,none⟩) (lstI m1) cc)).heap.size (W3.setCell ⟨G,1,none⟩ (.slice (some ⟨g,0,none⟩) (lstI m1) cc)) Wd→TdW B G (.slice (some ⟨T,off,none⟩) ts.length cp) ts Wd (.slice (some ⟨g,0,none⟩) (lstI m1) cc) (m2.take (lstI m1))∧Stp G w mv Wd (.slice (some ⟨g,0,none⟩) (lstI m1) cc)):=bH fun Wd hd=>by
   have k1:=TdW.setM h4.out (Bar.refl _ _) (h4.out.own.take (lstI m1) (by omega)) (fun g hg=> .inl hg) (by rw[List.length_take];omega)
   exact⟨k1.1.below hd,(hst4.out.trans k1.2).next hd⟩
  go_region
  go_wp2_with fail
  refine(tadd_any B G _ ts _ _ (m2.take (lstI m1)) ⟨xk,xa,xb,xc,xn,xnm,xu,xy,xz,xp⟩ (bH (hM.out _ ((Below.refl _ _).drew)).1) (by rw[List.length_take];omega)).mono ?_
  rintro e wz ⟨rfl,mv',k1,k2⟩
  have k1:=bH k1
  have k3:=bH (((hM.out _ ((Below.refl _ _).drew)).2).trans k2)
  clear y0 y1 y2 y3 y4 y5 y6 y7 y8 y9 c1 hcm hfr
  go_wp2_with fail
  go_ret
  subst hm2 hm1
  rw[hRq.out]
  exact⟨rfl,mv',k1.out,k3.out⟩
end Go.Proofs.YthpcbgljbpmafaaGreatDoor
