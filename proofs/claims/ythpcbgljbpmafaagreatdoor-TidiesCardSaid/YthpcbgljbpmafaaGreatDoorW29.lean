/- The program's tidier: put, a choice. -/
import Derived.Test.YthpcbgljbpmafaaGreatDoorW24
set_option maxRecDepth 100000
set_option maxHeartbeats 8000000
namespace Go.Proofs.YthpcbgljbpmafaaGreatDoor
open Go.RowKit
set_option linter.unusedVariables false
set_option linter.unusedSimpArgs false
theorem tput7y (B G:Nat) (sv:Value) (ts:List Nd) (i:Nat) (w:World) (mv:Value) (m:List Nd) (R:List Nd) (a b c:Nat) (n:Int) (nm u y z:ByteArray) (at_:Int) (hx:ts.getD i nd0=⟨7,a,b,c,n,nm,u,y,z,at_⟩) (hi:i<ts.length) (h:Hid (TdW B G sv ts w mv m)) (hn:Hid (IntOk m)) (hlen:Hid (Tre ts)) (ka:Hid (TdP B G sv ts a)) (hba:(m.length:Int)+(a+1-bg (ksN ts) a)≤512) (hpos:lstI (td ts a m)<(td ts a m).length) (hk:((td ts a m).getD (lstI (td ts a m)) nd0).k=2) (ih1:Hid (((td ts a m).getD (lstI (td ts a m)) nd0).n=1→ ∀W mv1,Hid (TdW B G sv ts W mv1 ((td ts a m).take (lstI (td ts a m))))→Calls Tryz.prog 22 #[.pointer (some ⟨G,0,none⟩), .int .i64 b] W (TdN B G sv ts W mv1 R))) (ih2:Hid (¬ ((td ts a m).getD (lstI (td ts a m)) nd0).n=1→ ∀W mv1,Hid (TdW B G sv ts W mv1 ((td ts a m).take (lstI (td ts a m))))→Calls Tryz.prog 22 #[.pointer (some ⟨G,0,none⟩), .int .i64 c] W (TdN B G sv ts W mv1 R)))  :
  Calls Tryz.prog 22 #[.pointer (some ⟨G,0,none⟩), .int .i64 i] w (TdN B G sv ts w mv R):=by
 obtain⟨T,off,cp,rfl,hTB,hTG,hTs,hS⟩:=h.out.ni
 obtain⟨e0,e1,e2,e3,e4,e5,e6,e7,e8,e9⟩:=hS i hi
 rw[hx] at e0 e1 e2 e3 e4 e5 e6 e7 e8 e9
 simp only at e0 e1 e2 e3 e4 e5 e6 e7 e8 e9
 have hsv:=h.out.cn
 have hGl:G<w.heap.size:=by have:=h.out.gB;have:=h.out.bl;omega
 have hi1:(i:Int)<(ts.length:Int):=by omega
 have hi0:(0:Int)≤(i:Int):=by omega
 clear hS hx hi
 go_enter Tryz.func22,Tryz.ntmps22
 go_wp2_with fail
 obtain⟨W0,hW0⟩ : ∃W,w.alloc (.cells #[.int .i64 7, .int .i64 a, .int .i64 b, .int .i64 c, .int .i64 n, .string nm, .string u, .string y, .string z, .int .i64 at_] 45)=W:=⟨_,rfl⟩
 obtain⟨hX,h2,hst,hBb⟩:=ndbox_lit (t:=⟨7,a,b,c,n,nm,u,y,z,at_⟩) h.out hW0
 rw[hW0]
 clear hW0 hsv hGl e0 e1 e2 e3 e4 e5 e6 e7 e8 e9
 have hX:=bH hX
 have h2:=bH h2
 have hst:=bH hst
 refine(ka.out _ _ _ h2 hn hba).mono ?_
 rintro e w1 ⟨rfl,mv1,k1,k2⟩
 have hX1:=bH (hX.out.step k2)
 have hh1:=bH k1
 have hst1:=bH (hst.out.trans k2)
 clear k1 k2
 obtain⟨m1,hm1⟩ : ∃r,td ts a m=r:=⟨_,rfl⟩
 rw[hm1] at hh1 hpos hk ih1 ih2 ⊢
 have g0:=hX1.out.c0;have g1:=hX1.out.c1;have g2:=hX1.out.c2;have g3:=hX1.out.c3;have g4:=hX1.out.c4;have g5:=hX1.out.c5;have g6:=hX1.out.c6;have g7:=hX1.out.c7;have g8:=hX1.out.c8;have g9:=hX1.out.c9;have gf:=hX1.out.fz;have gl:=hX1.out.lt
 simp only at g0 g1 g2 g3 g4 g5 g6 g7 g8 g9
 go_upto_region 15 with fail
 obtain⟨W1,hW1⟩ : ∃W,w1.setCell ⟨w.heap.size,1,none⟩ (.int .i64 (lstI m1))=W:=⟨_,rfl⟩
 have hX1s:=bH (hX1.out.set1 (lstI m1))
 have h21s:=bH (hh1.out.box hX1.out hBb 1 (.int .i64 (lstI m1)))
 have hst1s:=bH (hst1.out.box (Nat.le_refl _) 1 (.int .i64 (lstI m1)))
 rw[hW1] at hX1s h21s hst1s ⊢
 clear hW1 g0 g1 g2 g3 g4 g5 g6 g7 g8 g9 gf gl hX1 hh1 hst1
 obtain⟨aa,cc,rfl⟩:=own_sl h21s.out.own
 obtain⟨g,rfl,hBg,hgs,_,hnc,hS1⟩:=own_at h21s.out.own hpos
 obtain⟨q0,_⟩:=hS1 (lstI m1) hpos
 simp only[Nat.zero_add] at q0
 obtain⟨kk,hkk⟩ : ∃r,(m1.getD (lstI m1) nd0).k=r:=⟨_,rfl⟩
 rw[hkk] at q0 hk
 have hcm:=h21s.out.cm
 have g0:=hX1s.out.c0;have g1:=hX1s.out.c1;have g2:=hX1s.out.c2;have g3:=hX1s.out.c3;have g4:=hX1s.out.c4;have g5:=hX1s.out.c5;have g6:=hX1s.out.c6;have g7:=hX1s.out.c7;have g8:=hX1s.out.c8;have g9:=hX1s.out.c9;have gl:=hX1s.out.lt
 simp only at g0 g1 g2 g3 g4 g5 g6 g7 g8 g9
 have hgl:G<W1.heap.size:=by have:=h21s.out.gB;have:=h21s.out.bl;omega
 have hml1:m1.length≤600:=h21s.out.ml
 have hp1:(lstI m1:Int)<(m1.length:Int):=by omega
 have hp0:(0:Int)≤(lstI m1:Int):=by omega
 clear hS1 hkk
 subst hk
 go_region
 go_wp2_with fail
 refine(tchoose_any B G _ ts _ _ m1 R 7 b c n nm u y z at_ (lstI m1) (bH (h21s.out.below ((Below.refl _ _).drew))) hpos ih1 ih2).mono ?_
 rintro e wz ⟨rfl,mv',k1,k2⟩
 have k1:=bH k1
 have k3:=bH ((hst1s.out.next ((Below.refl _ _).drew)).trans k2)
 clear g0 g1 g2 g3 g4 g5 g6 g7 g8 g9 gl q0 hcm hgl
 go_wp2_with fail
 go_ret
 exact⟨rfl,mv',k1.out,k3.out⟩
theorem tput7n (B G:Nat) (sv:Value) (ts:List Nd) (i:Nat) (w:World) (mv:Value) (m:List Nd) (a b c:Nat) (n:Int) (nm u y z:ByteArray) (at_:Int) (hx:ts.getD i nd0=⟨7,a,b,c,n,nm,u,y,z,at_⟩) (hi:i<ts.length) (h:Hid (TdW B G sv ts w mv m)) (hn:Hid (IntOk m)) (hlen:Hid (Tre ts)) (ka:Hid (TdP B G sv ts a)) (hba:(m.length:Int)+(a+1-bg (ksN ts) a)≤512) (hpos:lstI (td ts a m)<(td ts a m).length) (hk : ¬ ((td ts a m).getD (lstI (td ts a m)) nd0).k=2) (kb:Hid (TdP B G sv ts b)) (hia:Hid (IntOk (td ts a m))) (hbb:((td ts a m).length:Int)+(b+1-bg (ksN ts) b)≤512) (kc:Hid (TdP B G sv ts c)) (hib:Hid (IntOk (td ts b (td ts a m)))) (hbc:((td ts b (td ts a m)).length:Int)+(c+1-bg (ksN ts) c)≤512) (hbl:(td ts c (td ts b (td ts a m))).length<600)  :
  Calls Tryz.prog 22 #[.pointer (some ⟨G,0,none⟩), .int .i64 i] w (TdN B G sv ts w mv (td ts c (td ts b (td ts a m))++[⟨7,lstI (td ts a m),lstI (td ts b (td ts a m)),lstI (td ts c (td ts b (td ts a m))),n,nm,u,y,z,at_⟩])):=by
 obtain⟨T,off,cp,rfl,hTB,hTG,hTs,hS⟩:=h.out.ni
 obtain⟨e0,e1,e2,e3,e4,e5,e6,e7,e8,e9⟩:=hS i hi
 rw[hx] at e0 e1 e2 e3 e4 e5 e6 e7 e8 e9
 simp only at e0 e1 e2 e3 e4 e5 e6 e7 e8 e9
 have hsv:=h.out.cn
 have hGl:G<w.heap.size:=by have:=h.out.gB;have:=h.out.bl;omega
 have hi1:(i:Int)<(ts.length:Int):=by omega
 have hi0:(0:Int)≤(i:Int):=by omega
 clear hS hx hi
 go_enter Tryz.func22,Tryz.ntmps22
 go_wp2_with fail
 obtain⟨W0,hW0⟩ : ∃W,w.alloc (.cells #[.int .i64 7, .int .i64 a, .int .i64 b, .int .i64 c, .int .i64 n, .string nm, .string u, .string y, .string z, .int .i64 at_] 45)=W:=⟨_,rfl⟩
 obtain⟨hX,h2,hst,hBb⟩:=ndbox_lit (t:=⟨7,a,b,c,n,nm,u,y,z,at_⟩) h.out hW0
 rw[hW0]
 clear hW0 hsv hGl e0 e1 e2 e3 e4 e5 e6 e7 e8 e9
 have hX:=bH hX
 have h2:=bH h2
 have hst:=bH hst
 refine(ka.out _ _ _ h2 hn hba).mono ?_
 rintro e w1 ⟨rfl,mv1,k1,k2⟩
 have hX1:=bH (hX.out.step k2)
 have hh1:=bH k1
 have hst1:=bH (hst.out.trans k2)
 clear k1 k2
 obtain⟨m1,hm1⟩ : ∃r,td ts a m=r:=⟨_,rfl⟩
 rw[hm1] at hh1 hpos hk hia hbb hib hbc hbl ⊢
 have g0:=hX1.out.c0;have g1:=hX1.out.c1;have g2:=hX1.out.c2;have g3:=hX1.out.c3;have g4:=hX1.out.c4;have g5:=hX1.out.c5;have g6:=hX1.out.c6;have g7:=hX1.out.c7;have g8:=hX1.out.c8;have g9:=hX1.out.c9;have gf:=hX1.out.fz;have gl:=hX1.out.lt
 simp only at g0 g1 g2 g3 g4 g5 g6 g7 g8 g9
 go_upto_region 15 with fail
 obtain⟨W1,hW1⟩ : ∃W,w1.setCell ⟨w.heap.size,1,none⟩ (.int .i64 (lstI m1))=W:=⟨_,rfl⟩
 have hX1s:=bH (hX1.out.set1 (lstI m1))
 have h21s:=bH (hh1.out.box hX1.out hBb 1 (.int .i64 (lstI m1)))
 have hst1s:=bH (hst1.out.box (Nat.le_refl _) 1 (.int .i64 (lstI m1)))
 rw[hW1] at hX1s h21s hst1s ⊢
 clear hW1 g0 g1 g2 g3 g4 g5 g6 g7 g8 g9 gf gl hX1 hh1 hst1
 obtain⟨aa,cc,rfl⟩:=own_sl h21s.out.own
 obtain⟨g,rfl,hBg,hgs,_,hnc,hS1⟩:=own_at h21s.out.own hpos
 obtain⟨q0,_⟩:=hS1 (lstI m1) hpos
 simp only[Nat.zero_add] at q0
 obtain⟨kk,hkk⟩ : ∃r,(m1.getD (lstI m1) nd0).k=r:=⟨_,rfl⟩
 rw[hkk] at q0 hk
 have hcm:=h21s.out.cm
 have g0:=hX1s.out.c0;have g1:=hX1s.out.c1;have g2:=hX1s.out.c2;have g3:=hX1s.out.c3;have g4:=hX1s.out.c4;have g5:=hX1s.out.c5;have g6:=hX1s.out.c6;have g7:=hX1s.out.c7;have g8:=hX1s.out.c8;have g9:=hX1s.out.c9;have gl:=hX1s.out.lt
 simp only at g0 g1 g2 g3 g4 g5 g6 g7 g8 g9
 have hgl:G<W1.heap.size:=by have:=h21s.out.gB;have:=h21s.out.bl;omega
 have hml1:m1.length≤600:=h21s.out.ml
 have hp1:(lstI m1:Int)<(m1.length:Int):=by omega
 have hp0:(0:Int)≤(lstI m1:Int):=by omega
 clear hS1 hkk
 go_region
 go_wp2_with fail
 have h21s:=bH (h21s.out.below ((Below.refl _ _).drew))
 have hX1s:=bH (hX1s.out.step (Stp.below (nv:=Value.slice (some ⟨g,0,none⟩) m1.length cc) ((Below.refl _ _).drew)))
 have hst1s:=bH (hst1s.out.next ((Below.refl _ _).drew))
 clear g0 g1 g2 g3 g4 g5 g6 g7 g8 g9 gl q0 hcm hgl
 refine(kb.out _ _ _ h21s hia hbb).mono ?_
 rintro e w2 ⟨rfl,mv2,k1,k2⟩
 have hX2:=bH (hX1s.out.step k2)
 have hh2:=bH k1
 have hst2:=bH (hst1s.out.trans k2)
 clear k1 k2
 obtain⟨m2,hm2⟩ : ∃r,td ts b m1=r:=⟨_,rfl⟩
 rw[hm2] at hh2 hib hbc hbl ⊢
 have g0:=hX2.out.c0;have g1:=hX2.out.c1;have g2:=hX2.out.c2;have g3:=hX2.out.c3;have g4:=hX2.out.c4;have g5:=hX2.out.c5;have g6:=hX2.out.c6;have g7:=hX2.out.c7;have g8:=hX2.out.c8;have g9:=hX2.out.c9;have gf:=hX2.out.fz;have gl:=hX2.out.lt
 simp only at g0 g1 g2 g3 g4 g5 g6 g7 g8 g9
 go_wp2_with fail
 obtain⟨W2,hW2⟩ : ∃W,w2.setCell ⟨w.heap.size,2,none⟩ (.int .i64 (lstI m2))=W:=⟨_,rfl⟩
 have hX2s:=bH (hX2.out.set2 (lstI m2))
 have h22s:=bH (hh2.out.box hX2.out hBb 2 (.int .i64 (lstI m2)))
 have hst2s:=bH (hst2.out.box (Nat.le_refl _) 2 (.int .i64 (lstI m2)))
 rw[hW2] at hX2s h22s hst2s ⊢
 clear hW2 g0 g1 g2 g3 g4 g5 g6 g7 g8 g9 gf gl hX2 hh2 hst2
 refine(kc.out _ _ _ h22s hib hbc).mono ?_
 rintro e w3 ⟨rfl,mv3,k1,k2⟩
 have hX3:=bH (hX2s.out.step k2)
 have hh3:=bH k1
 have hst3:=bH (hst2s.out.trans k2)
 clear k1 k2
 obtain⟨m3,hm3⟩ : ∃r,td ts c m2=r:=⟨_,rfl⟩
 rw[hm3] at hh3 hbl ⊢
 have g0:=hX3.out.c0;have g1:=hX3.out.c1;have g2:=hX3.out.c2;have g3:=hX3.out.c3;have g4:=hX3.out.c4;have g5:=hX3.out.c5;have g6:=hX3.out.c6;have g7:=hX3.out.c7;have g8:=hX3.out.c8;have g9:=hX3.out.c9;have gf:=hX3.out.fz;have gl:=hX3.out.lt
 simp only at g0 g1 g2 g3 g4 g5 g6 g7 g8 g9
 go_wp2_with fail
 obtain⟨W3,hW3⟩ : ∃W,w3.setCell ⟨w.heap.size,3,none⟩ (.int .i64 (lstI m3))=W:=⟨_,rfl⟩
 have hX3s:=bH (hX3.out.set3 (lstI m3))
 have h23s:=bH (hh3.out.box hX3.out hBb 3 (.int .i64 (lstI m3)))
 have hst3s:=bH (hst3.out.box (Nat.le_refl _) 3 (.int .i64 (lstI m3)))
 rw[hW3] at hX3s h23s hst3s ⊢
 clear hW3 g0 g1 g2 g3 g4 g5 g6 g7 g8 g9 gf gl hX3 hh3 hst3
 refine(tadd_any B G _ ts _ mv3 m3 ⟨7,lstI m1,lstI m2,lstI m3,n,nm,u,y,z,at_⟩ h23s (by omega)).mono ?_
 rintro e wz ⟨rfl,mv',k1,k2⟩
 have k1:=bH k1
 have k3:=bH (hst3s.out.trans k2)
 go_wp2_with fail
 go_ret
 subst hm3 hm2 hm1
 exact⟨rfl,mv',k1.out,k3.out⟩
end Go.Proofs.YthpcbgljbpmafaaGreatDoor
