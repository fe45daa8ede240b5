/- The program's tidier: put, the kinds with children. -/
import Derived.Test.YthpcbgljbpmafaaGreatDoorW9
import Derived.Test.YthpcbgljbpmafaaGreatDoorW24
import Derived.Test.YthpcbgljbpmafaaGreatDoorW31
set_option maxRecDepth 100000
set_option maxHeartbeats 8000000
namespace Go.Proofs.YthpcbgljbpmafaaGreatDoor
open Go.RowKit
set_option linter.unusedVariables false
set_option linter.unusedSimpArgs false
theorem tput3 (B G:Nat) (sv:Value) (ts:List Nd) (i:Nat) (w:World) (mv:Value) (m:List Nd) (a:Nat) (b c:Int) (n:Int) (nm u y z:ByteArray) (at_:Int) (hx:ts.getD i nd0=⟨3,a,b,c,n,nm,u,y,z,at_⟩) (hi:i<ts.length) (h:Hid (TdW B G sv ts w mv m)) (hn:Hid (IntOk m)) (hlen:Hid (Tre ts)) (ka:Hid (TdP B G sv ts a)) (hba:(m.length:Int)+(a+1-bg (ksN ts) a)≤512) (hbl:(td ts a m).length<600)  :
  Calls Tryz.prog 22 #[.pointer (some ⟨G,0,none⟩), .int .i64 i] w (TdN B G sv ts w mv (td ts a m++[⟨3,lstI (td ts a m),b,c,n,nm,u,y,z,at_⟩])):=by
 obtain⟨T,off,cp,rfl,hTB,hTG,hTs,hS⟩:=h.out.ni
 obtain⟨e0,e1,e2,e3,e4,e5,e6,e7,e8,e9⟩:=hS i hi
 rw[hx] at e0 e1 e2 e3 e4 e5 e6 e7 e8 e9
 simp only at e0 e1 e2 e3 e4 e5 e6 e7 e8 e9
 have hsv:=h.out.cn
 have hGl:G<w.heap.size:=by have:=h.out.gB;have:=h.out.bl;omega
 have hi1:(i:Int)<(ts.length:Int):=by omega
 have hi0:(0:Int)≤(i:Int):=by omega
 clear hS hx hi
 go_enter Tryz.func22,Tryz.ntmps22
 go_wp2_with fail
 obtain⟨W0,hW0⟩ : ∃W,w.alloc (.cells #[.int .i64 3, .int .i64 a, .int .i64 b, .int .i64 c, .int .i64 n, .string nm, .string u, .string y, .string z, .int .i64 at_] 45)=W:=⟨_,rfl⟩
 obtain⟨hX,h2,hst,hBb⟩:=ndbox_lit (t:=⟨3,a,b,c,n,nm,u,y,z,at_⟩) h.out hW0
 rw[hW0]
 clear hW0 hsv hGl e0 e1 e2 e3 e4 e5 e6 e7 e8 e9
 have hX:=bH hX
 have h2:=bH h2
 have hst:=bH hst
 refine(ka.out _ _ _ h2 hn hba).mono ?_
 rintro e w1 ⟨rfl,mv1,k1,k2⟩
 have hX1:=bH (hX.out.step k2)
 have hh1:=bH k1
 have hst1:=bH (hst.out.trans k2)
 clear k1 k2
 obtain⟨m1,hm1⟩ : ∃r,td ts a m=r:=⟨_,rfl⟩
 rw[hm1] at hh1 hbl ⊢
 have g0:=hX1.out.c0;have g1:=hX1.out.c1;have g2:=hX1.out.c2;have g3:=hX1.out.c3;have g4:=hX1.out.c4;have g5:=hX1.out.c5;have g6:=hX1.out.c6;have g7:=hX1.out.c7;have g8:=hX1.out.c8;have g9:=hX1.out.c9;have gf:=hX1.out.fz;have gl:=hX1.out.lt
 simp only at g0 g1 g2 g3 g4 g5 g6 g7 g8 g9
 go_wp2_with fail
 obtain⟨W1,hW1⟩ : ∃W,w1.setCell ⟨w.heap.size,1,none⟩ (.int .i64 (lstI m1))=W:=⟨_,rfl⟩
 have hX1s:=bH (hX1.out.set1 (lstI m1))
 have h21s:=bH (hh1.out.box hX1.out hBb 1 (.int .i64 (lstI m1)))
 have hst1s:=bH (hst1.out.box (Nat.le_refl _) 1 (.int .i64 (lstI m1)))
 rw[hW1] at hX1s h21s hst1s ⊢
 clear hW1 g0 g1 g2 g3 g4 g5 g6 g7 g8 g9 gf gl hX1 hh1 hst1
 refine(tadd_any B G _ ts _ mv1 m1 ⟨3,lstI m1,b,c,n,nm,u,y,z,at_⟩ h21s (by omega)).mono ?_
 rintro e wz ⟨rfl,mv',k1,k2⟩
 have k1:=bH k1
 have k3:=bH (hst1s.out.trans k2)
 go_wp2_with fail
 go_ret
 subst hm1
 exact⟨rfl,mv',k1.out,k3.out⟩
theorem tput9 (B G:Nat) (sv:Value) (ts:List Nd) (i:Nat) (w:World) (mv:Value) (m:List Nd) (a:Nat) (b c:Int) (n:Int) (nm u y z:ByteArray) (at_:Int) (hx:ts.getD i nd0=⟨9,a,b,c,n,nm,u,y,z,at_⟩) (hi:i<ts.length) (h:Hid (TdW B G sv ts w mv m)) (hn:Hid (IntOk m)) (hlen:Hid (Tre ts)) (ka:Hid (TdP B G sv ts a)) (hba:(m.length:Int)+(a+1-bg (ksN ts) a)≤512) (hbl:(td ts a m).length<600)  :
  Calls Tryz.prog 22 #[.pointer (some ⟨G,0,none⟩), .int .i64 i] w (TdN B G sv ts w mv (td ts a m++[⟨9,lstI (td ts a m),b,c,n,nm,u,y,z,at_⟩])):=by
 obtain⟨T,off,cp,rfl,hTB,hTG,hTs,hS⟩:=h.out.ni
 obtain⟨e0,e1,e2,e3,e4,e5,e6,e7,e8,e9⟩:=hS i hi
 rw[hx] at e0 e1 e2 e3 e4 e5 e6 e7 e8 e9
 simp only at e0 e1 e2 e3 e4 e5 e6 e7 e8 e9
 have hsv:=h.out.cn
 have hGl:G<w.heap.size:=by have:=h.out.gB;have:=h.out.bl;omega
 have hi1:(i:Int)<(ts.length:Int):=by omega
 have hi0:(0:Int)≤(i:Int):=by omega
 clear hS hx hi
 go_enter Tryz.func22,Tryz.ntmps22
 go_wp2_with fail
 obtain⟨W0,hW0⟩ : ∃W,w.alloc (.cells #[.int .i64 9, .int .i64 a, .int .i64 b, .int .i64 c, .int .i64 n, .string nm, .string u, .string y, .string z, .int .i64 at_] 45)=W:=⟨_,rfl⟩
 obtain⟨hX,h2,hst,hBb⟩:=ndbox_lit (t:=⟨9,a,b,c,n,nm,u,y,z,at_⟩) h.out hW0
 rw[hW0]
 clear hW0 hsv hGl e0 e1 e2 e3 e4 e5 e6 e7 e8 e9
 have hX:=bH hX
 have h2:=bH h2
 have hst:=bH hst
 refine(ka.out _ _ _ h2 hn hba).mono ?_
 rintro e w1 ⟨rfl,mv1,k1,k2⟩
 have hX1:=bH (hX.out.step k2)
 have hh1:=bH k1
 have hst1:=bH (hst.out.trans k2)
 clear k1 k2
 obtain⟨m1,hm1⟩ : ∃r,td ts a m=r:=⟨_,rfl⟩
 rw[hm1] at hh1 hbl ⊢
 have g0:=hX1.out.c0;have g1:=hX1.out.c1;have g2:=hX1.out.c2;have g3:=hX1.out.c3;have g4:=hX1.out.c4;have g5:=hX1.out.c5;have g6:=hX1.out.c6;have g7:=hX1.out.c7;have g8:=hX1.out.c8;have g9:=hX1.out.c9;have gf:=hX1.out.fz;have gl:=hX1.out.lt
 simp only at g0 g1 g2 g3 g4 g5 g6 g7 g8 g9
 go_wp2_with fail
 obtain⟨W1,hW1⟩ : ∃W,w1.setCell ⟨w.heap.size,1,none⟩ (.int .i64 (lstI m1))=W:=⟨_,rfl⟩
 have hX1s:=bH (hX1.out.set1 (lstI m1))
 have h21s:=bH (hh1.out.box hX1.out hBb 1 (.int .i64 (lstI m1)))
 have hst1s:=bH (hst1.out.box (Nat.le_refl _) 1 (.int .i64 (lstI m1)))
 rw[hW1] at hX1s h21s hst1s ⊢
 clear hW1 g0 g1 g2 g3 g4 g5 g6 g7 g8 g9 gf gl hX1 hh1 hst1
 refine(tadd_any B G _ ts _ mv1 m1 ⟨9,lstI m1,b,c,n,nm,u,y,z,at_⟩ h21s (by omega)).mono ?_
 rintro e wz ⟨rfl,mv',k1,k2⟩
 have k1:=bH k1
 have k3:=bH (hst1s.out.trans k2)
 go_wp2_with fail
 go_ret
 subst hm1
 exact⟨rfl,mv',k1.out,k3.out⟩
theorem tput4 (B G:Nat) (sv:Value) (ts:List Nd) (i:Nat) (w:World) (mv:Value) (m:List Nd) (a b:Nat) (c:Int) (n:Int) (nm u y z:ByteArray) (at_:Int) (hx:ts.getD i nd0=⟨4,a,b,c,n,nm,u,y,z,at_⟩) (hi:i<ts.length) (h:Hid (TdW B G sv ts w mv m)) (hn:Hid (IntOk m)) (hlen:Hid (Tre ts)) (ka:Hid (TdP B G sv ts a)) (hba:(m.length:Int)+(a+1-bg (ksN ts) a)≤512) (kb:Hid (TdP B G sv ts b)) (hia:Hid (IntOk (td ts a m))) (hbb:((td ts a m).length:Int)+(b+1-bg (ksN ts) b)≤512) (hbl:(td ts b (td ts a m)).length<600)  :
  Calls Tryz.prog 22 #[.pointer (some ⟨G,0,none⟩), .int .i64 i] w (TdN B G sv ts w mv (td ts b (td ts a m)++[⟨4,lstI (td ts a m),lstI (td ts b (td ts a m)),c,n,nm,u,y,z,at_⟩])):=by
 obtain⟨T,off,cp,rfl,hTB,hTG,hTs,hS⟩:=h.out.ni
 obtain⟨e0,e1,e2,e3,e4,e5,e6,e7,e8,e9⟩:=hS i hi
 rw[hx] at e0 e1 e2 e3 e4 e5 e6 e7 e8 e9
 simp only at e0 e1 e2 e3 e4 e5 e6 e7 e8 e9
 have hsv:=h.out.cn
 have hGl:G<w.heap.size:=by have:=h.out.gB;have:=h.out.bl;omega
 have hi1:(i:Int)<(ts.length:Int):=by omega
 have hi0:(0:Int)≤(i:Int):=by omega
 clear hS hx hi
 go_enter Tryz.func22,Tryz.ntmps22
 go_wp2_with fail
 obtain⟨W0,hW0⟩ : ∃W,w.alloc (.cells #[.int .i64 4, .int .i64 a, .int .i64 b, .int .i64 c, .int .i64 n, .string nm, .string u, .string y, .string z, .int .i64 at_] 45)=W:=⟨_,rfl⟩
 obtain⟨hX,h2,hst,hBb⟩:=ndbox_lit (t:=⟨4,a,b,c,n,nm,u,y,z,at_⟩) h.out hW0
 rw[hW0]
 clear hW0 hsv hGl e0 e1 e2 e3 e4 e5 e6 e7 e8 e9
 have hX:=bH hX
 have h2:=bH h2
 have hst:=bH hst
 refine(ka.out _ _ _ h2 hn hba).mono ?_
 rintro e w1 ⟨rfl,mv1,k1,k2⟩
 have hX1:=bH (hX.out.step k2)
 have hh1:=bH k1
 have hst1:=bH (hst.out.trans k2)
 clear k1 k2
 obtain⟨m1,hm1⟩ : ∃r,td ts a m=r:=⟨_,rfl⟩
 rw[hm1] at hh1 hia hbb hbl ⊢
 have g0:=hX1.out.c0;have g1:=hX1.out.c1;have g2:=hX1.out.c2;have g3:=hX1.out.c3;have g4:=hX1.out.c4;have g5:=hX1.out.c5;have g6:=hX1.out.c6;have g7:=hX1.out.c7;have g8:=hX1.out.c8;have g9:=hX1.out.c9;have gf:=hX1.out.fz;have gl:=hX1.out.lt
 simp only at g0 g1 g2 g3 g4 g5 g6 g7 g8 g9
 go_wp2_with fail
 obtain⟨W1,hW1⟩ : ∃W,w1.setCell ⟨w.heap.size,1,none⟩ (.int .i64 (lstI m1))=W:=⟨_,rfl⟩
 have hX1s:=bH (hX1.out.set1 (lstI m1))
 have h21s:=bH (hh1.out.box hX1.out hBb 1 (.int .i64 (lstI m1)))
 have hst1s:=bH (hst1.out.box (Nat.le_refl _) 1 (.int .i64 (lstI m1)))
 rw[hW1] at hX1s h21s hst1s ⊢
 clear hW1 g0 g1 g2 g3 g4 g5 g6 g7 g8 g9 gf gl hX1 hh1 hst1
 refine(kb.out _ _ _ h21s hia hbb).mono ?_
 rintro e w2 ⟨rfl,mv2,k1,k2⟩
 have hX2:=bH (hX1s.out.step k2)
 have hh2:=bH k1
 have hst2:=bH (hst1s.out.trans k2)
 clear k1 k2
 obtain⟨m2,hm2⟩ : ∃r,td ts b m1=r:=⟨_,rfl⟩
 rw[hm2] at hh2 hbl ⊢
 have g0:=hX2.out.c0;have g1:=hX2.out.c1;have g2:=hX2.out.c2;have g3:=hX2.out.c3;have g4:=hX2.out.c4;have g5:=hX2.out.c5;have g6:=hX2.out.c6;have g7:=hX2.out.c7;have g8:=hX2.out.c8;have g9:=hX2.out.c9;have gf:=hX2.out.fz;have gl:=hX2.out.lt
 simp only at g0 g1 g2 g3 g4 g5 g6 g7 g8 g9
 go_wp2_with fail
 obtain⟨W2,hW2⟩ : ∃W,w2.setCell ⟨w.heap.size,2,none⟩ (.int .i64 (lstI m2))=W:=⟨_,rfl⟩
 have hX2s:=bH (hX2.out.set2 (lstI m2))
 have h22s:=bH (hh2.out.box hX2.out hBb 2 (.int .i64 (lstI m2)))
 have hst2s:=bH (hst2.out.box (Nat.le_refl _) 2 (.int .i64 (lstI m2)))
 rw[hW2] at hX2s h22s hst2s ⊢
 clear hW2 g0 g1 g2 g3 g4 g5 g6 g7 g8 g9 gf gl hX2 hh2 hst2
 refine(tadd_any B G _ ts _ mv2 m2 ⟨4,lstI m1,lstI m2,c,n,nm,u,y,z,at_⟩ h22s (by omega)).mono ?_
 rintro e wz ⟨rfl,mv',k1,k2⟩
 have k1:=bH k1
 have k3:=bH (hst2s.out.trans k2)
 go_wp2_with fail
 go_ret
 subst hm2 hm1
 exact⟨rfl,mv',k1.out,k3.out⟩
theorem tput5 (B G:Nat) (sv:Value) (ts:List Nd) (i:Nat) (w:World) (mv:Value) (m:List Nd) (a b:Nat) (c:Int) (n:Int) (nm u y z:ByteArray) (at_:Int) (hx:ts.getD i nd0=⟨5,a,b,c,n,nm,u,y,z,at_⟩) (hi:i<ts.length) (h:Hid (TdW B G sv ts w mv m)) (hn:Hid (IntOk m)) (hlen:Hid (Tre ts)) (ka:Hid (TdP B G sv ts a)) (hba:(m.length:Int)+(a+1-bg (ksN ts) a)≤512) (kb:Hid (TdP B G sv ts b)) (hia:Hid (IntOk (td ts a m))) (hbb:((td ts a m).length:Int)+(b+1-bg (ksN ts) b)≤512) (hbl:(td ts b (td ts a m)).length<600)  :
  Calls Tryz.prog 22 #[.pointer (some ⟨G,0,none⟩), .int .i64 i] w (TdN B G sv ts w mv (td ts b (td ts a m)++[⟨5,lstI (td ts a m),lstI (td ts b (td ts a m)),c,n,nm,u,y,z,at_⟩])):=by
 obtain⟨T,off,cp,rfl,hTB,hTG,hTs,hS⟩:=h.out.ni
 obtain⟨e0,e1,e2,e3,e4,e5,e6,e7,e8,e9⟩:=hS i hi
 rw[hx] at e0 e1 e2 e3 e4 e5 e6 e7 e8 e9
 simp only at e0 e1 e2 e3 e4 e5 e6 e7 e8 e9
 have hsv:=h.out.cn
 have hGl:G<w.heap.size:=by have:=h.out.gB;have:=h.out.bl;omega
 have hi1:(i:Int)<(ts.length:Int):=by omega
 have hi0:(0:Int)≤(i:Int):=by omega
 clear hS hx hi
 go_enter Tryz.func22,Tryz.ntmps22
 go_wp2_with fail
 obtain⟨W0,hW0⟩ : ∃W,w.alloc (.cells #[.int .i64 5, .int .i64 a, .int .i64 b, .int .i64 c, .int .i64 n, .string nm, .string u, .string y, .string z, .int .i64 at_] 45)=W:=⟨_,rfl⟩
 obtain⟨hX,h2,hst,hBb⟩:=ndbox_lit (t:=⟨5,a,b,c,n,nm,u,y,z,at_⟩) h.out hW0
 rw[hW0]
 clear hW0 hsv hGl e0 e1 e2 e3 e4 e5 e6 e7 e8 e9
 have hX:=bH hX
 have h2:=bH h2
 have hst:=bH hst
 refine(ka.out _ _ _ h2 hn hba).mono ?_
 rintro e w1 ⟨rfl,mv1,k1,k2⟩
 have hX1:=bH (hX.out.step k2)
 have hh1:=bH k1
 have hst1:=bH (hst.out.trans k2)
 clear k1 k2
 obtain⟨m1,hm1⟩ : ∃r,td ts a m=r:=⟨_,rfl⟩
 rw[hm1] at hh1 hia hbb hbl ⊢
 have g0:=hX1.out.c0;have g1:=hX1.out.c1;have g2:=hX1.out.c2;have g3:=hX1.out.c3;have g4:=hX1.out.c4;have g5:=hX1.out.c5;have g6:=hX1.out.c6;have g7:=hX1.out.c7;have g8:=hX1.out.c8;have g9:=hX1.out.c9;have gf:=hX1.out.fz;have gl:=hX1.out.lt
 simp only at g0 g1 g2 g3 g4 g5 g6 g7 g8 g9
 go_wp2_with fail
 obtain⟨W1,hW1⟩ : ∃W,w1.setCell ⟨w.heap.size,1,none⟩ (.int .i64 (lstI m1))=W:=⟨_,rfl⟩
 have hX1s:=bH (hX1.out.set1 (lstI m1))
 have h21s:=bH (hh1.out.box hX1.out hBb 1 (.int .i64 (lstI m1)))
 have hst1s:=bH (hst1.out.box (Nat.le_refl _) 1 (.int .i64 (lstI m1)))
 rw[hW1] at hX1s h21s hst1s ⊢
 clear hW1 g0 g1 g2 g3 g4 g5 g6 g7 g8 g9 gf gl hX1 hh1 hst1
 refine(kb.out _ _ _ h21s hia hbb).mono ?_
 rintro e w2 ⟨rfl,mv2,k1,k2⟩
 have hX2:=bH (hX1s.out.step k2)
 have hh2:=bH k1
 have hst2:=bH (hst1s.out.trans k2)
 clear k1 k2
 obtain⟨m2,hm2⟩ : ∃r,td ts b m1=r:=⟨_,rfl⟩
 rw[hm2] at hh2 hbl ⊢
 have g0:=hX2.out.c0;have g1:=hX2.out.c1;have g2:=hX2.out.c2;have g3:=hX2.out.c3;have g4:=hX2.out.c4;have g5:=hX2.out.c5;have g6:=hX2.out.c6;have g7:=hX2.out.c7;have g8:=hX2.out.c8;have g9:=hX2.out.c9;have gf:=hX2.out.fz;have gl:=hX2.out.lt
 simp only at g0 g1 g2 g3 g4 g5 g6 g7 g8 g9
 go_wp2_with fail
 obtain⟨W2,hW2⟩ : ∃W,w2.setCell ⟨w.heap.size,2,none⟩ (.int .i64 (lstI m2))=W:=⟨_,rfl⟩
 have hX2s:=bH (hX2.out.set2 (lstI m2))
 have h22s:=bH (hh2.out.box hX2.out hBb 2 (.int .i64 (lstI m2)))
 have hst2s:=bH (hst2.out.box (Nat.le_refl _) 2 (.int .i64 (lstI m2)))
 rw[hW2] at hX2s h22s hst2s ⊢
 clear hW2 g0 g1 g2 g3 g4 g5 g6 g7 g8 g9 gf gl hX2 hh2 hst2
 refine(tadd_any B G _ ts _ mv2 m2 ⟨5,lstI m1,lstI m2,c,n,nm,u,y,z,at_⟩ h22s (by omega)).mono ?_
 rintro e wz ⟨rfl,mv',k1,k2⟩
 have k1:=bH k1
 have k3:=bH (hst2s.out.trans k2)
 go_wp2_with fail
 go_ret
 subst hm2 hm1
 exact⟨rfl,mv',k1.out,k3.out⟩
theorem tput6 (B G:Nat) (sv:Value) (ts:List Nd) (i:Nat) (w:World) (mv:Value) (m:List Nd) (a b:Nat) (c:Int) (n:Int) (nm u y z:ByteArray) (at_:Int) (hx:ts.getD i nd0=⟨6,a,b,c,n,nm,u,y,z,at_⟩) (hi:i<ts.length) (h:Hid (TdW B G sv ts w mv m)) (hn:Hid (IntOk m)) (hlen:Hid (Tre ts)) (ka:Hid (TdP B G sv ts a)) (hba:(m.length:Int)+(a+1-bg (ksN ts) a)≤512) (kb:Hid (TdP B G sv ts b)) (hia:Hid (IntOk (td ts a m))) (hbb:((td ts a m).length:Int)+(b+1-bg (ksN ts) b)≤512) (hbl:(td ts b (td ts a m)).length<600)  :
  Calls Tryz.prog 22 #[.pointer (some ⟨G,0,none⟩), .int .i64 i] w (TdN B G sv ts w mv (td ts b (td ts a m)++[⟨6,lstI (td ts a m),lstI (td ts b (td ts a m)),c,n,nm,u,y,z,at_⟩])):=by
 obtain⟨T,off,cp,rfl,hTB,hTG,hTs,hS⟩:=h.out.ni
 obtain⟨e0,e1,e2,e3,e4,e5,e6,e7,e8,e9⟩:=hS i hi
 rw[hx] at e0 e1 e2 e3 e4 e5 e6 e7 e8 e9
 simp only at e0 e1 e2 e3 e4 e5 e6 e7 e8 e9
 have hsv:=h.out.cn
 have hGl:G<w.heap.size:=by have:=h.out.gB;have:=h.out.bl;omega
 have hi1:(i:Int)<(ts.length:Int):=by omega
 have hi0:(0:Int)≤(i:Int):=by omega
 clear hS hx hi
 go_enter Tryz.func22,Tryz.ntmps22
 go_wp2_with fail
 obtain⟨W0,hW0⟩ : ∃W,w.alloc (.cells #[.int .i64 6, .int .i64 a, .int .i64 b, .int .i64 c, .int .i64 n, .string nm, .string u, .string y, .string z, .int .i64 at_] 45)=W:=⟨_,rfl⟩
 obtain⟨hX,h2,hst,hBb⟩:=ndbox_lit (t:=⟨6,a,b,c,n,nm,u,y,z,at_⟩) h.out hW0
 rw[hW0]
 clear hW0 hsv hGl e0 e1 e2 e3 e4 e5 e6 e7 e8 e9
 have hX:=bH hX
 have h2:=bH h2
 have hst:=bH hst
 refine(ka.out _ _ _ h2 hn hba).mono ?_
 rintro e w1 ⟨rfl,mv1,k1,k2⟩
 have hX1:=bH (hX.out.step k2)
 have hh1:=bH k1
 have hst1:=bH (hst.out.trans k2)
 clear k1 k2
 obtain⟨m1,hm1⟩ : ∃r,td ts a m=r:=⟨_,rfl⟩
 rw[hm1] at hh1 hia hbb hbl ⊢
 have g0:=hX1.out.c0;have g1:=hX1.out.c1;have g2:=hX1.out.c2;have g3:=hX1.out.c3;have g4:=hX1.out.c4;have g5:=hX1.out.c5;have g6:=hX1.out.c6;have g7:=hX1.out.c7;have g8:=hX1.out.c8;have g9:=hX1.out.c9;have gf:=hX1.out.fz;have gl:=hX1.out.lt
 simp only at g0 g1 g2 g3 g4 g5 g6 g7 g8 g9
 go_wp2_with fail
 obtain⟨W1,hW1⟩ : ∃W,w1.setCell ⟨w.heap.size,1,none⟩ (.int .i64 (lstI m1))=W:=⟨_,rfl⟩
 have hX1s:=bH (hX1.out.set1 (lstI m1))
 have h21s:=bH (hh1.out.box hX1.out hBb 1 (.int .i64 (lstI m1)))
 have hst1s:=bH (hst1.out.box (Nat.le_refl _) 1 (.int .i64 (lstI m1)))
 rw[hW1] at hX1s h21s hst1s ⊢
 clear hW1 g0 g1 g2 g3 g4 g5 g6 g7 g8 g9 gf gl hX1 hh1 hst1
 refine(kb.out _ _ _ h21s hia hbb).mono ?_
 rintro e w2 ⟨rfl,mv2,k1,k2⟩
 have hX2:=bH (hX1s.out.step k2)
 have hh2:=bH k1
 have hst2:=bH (hst1s.out.trans k2)
 clear k1 k2
 obtain⟨m2,hm2⟩ : ∃r,td ts b m1=r:=⟨_,rfl⟩
 rw[hm2] at hh2 hbl ⊢
 have g0:=hX2.out.c0;have g1:=hX2.out.c1;have g2:=hX2.out.c2;have g3:=hX2.out.c3;have g4:=hX2.out.c4;have g5:=hX2.out.c5;have g6:=hX2.out.c6;have g7:=hX2.out.c7;have g8:=hX2.out.c8;have g9:=hX2.out.c9;have gf:=hX2.out.fz;have gl:=hX2.out.lt
 simp only at g0 g1 g2 g3 g4 g5 g6 g7 g8 g9
 go_wp2_with fail
 obtain⟨W2,hW2⟩ : ∃W,w2.setCell ⟨w.heap.size,2,none⟩ (.int .i64 (lstI m2))=W:=⟨_,rfl⟩
 have hX2s:=bH (hX2.out.set2 (lstI m2))
 have h22s:=bH (hh2.out.box hX2.out hBb 2 (.int .i64 (lstI m2)))
 have hst2s:=bH (hst2.out.box (Nat.le_refl _) 2 (.int .i64 (lstI m2)))
 rw[hW2] at hX2s h22s hst2s ⊢
 clear hW2 g0 g1 g2 g3 g4 g5 g6 g7 g8 g9 gf gl hX2 hh2 hst2
 refine(tadd_any B G _ ts _ mv2 m2 ⟨6,lstI m1,lstI m2,c,n,nm,u,y,z,at_⟩ h22s (by omega)).mono ?_
 rintro e wz ⟨rfl,mv',k1,k2⟩
 have k1:=bH k1
 have k3:=bH (hst2s.out.trans k2)
 go_wp2_with fail
 go_ret
 subst hm2 hm1
 exact⟨rfl,mv',k1.out,k3.out⟩
theorem tput10 (B G:Nat) (sv:Value) (ts:List Nd) (i:Nat) (w:World) (mv:Value) (m:List Nd) (a b c:Nat) (n:Int) (nm u y z:ByteArray) (at_:Int) (hx:ts.getD i nd0=⟨10,a,b,c,n,nm,u,y,z,at_⟩) (hi:i<ts.length) (h:Hid (TdW B G sv ts w mv m)) (hn:Hid (IntOk m)) (hlen:Hid (Tre ts)) (ka:Hid (TdP B G sv ts a)) (hba:(m.length:Int)+(a+1-bg (ksN ts) a)≤512) (kb:Hid (TdP B G sv ts b)) (hia:Hid (IntOk (td ts a m))) (hbb:((td ts a m).length:Int)+(b+1-bg (ksN ts) b)≤512) (kc:Hid (TdP B G sv ts c)) (hib:Hid (IntOk (td ts b (td ts a m)))) (hbc:((td ts b (td ts a m)).length:Int)+(c+1-bg (ksN ts) c)≤512) (hbl:(td ts c (td ts b (td ts a m))).length<600)  :
  Calls Tryz.prog 22 #[.pointer (some ⟨G,0,none⟩), .int .i64 i] w (TdN B G sv ts w mv (td ts c (td ts b (td ts a m))++[⟨10,lstI (td ts a m),lstI (td ts b (td ts a m)),lstI (td ts c (td ts b (td ts a m))),n,nm,u,y,z,at_⟩])):=by
 obtain⟨T,off,cp,rfl,hTB,hTG,hTs,hS⟩:=h.out.ni
 obtain⟨e0,e1,e2,e3,e4,e5,e6,e7,e8,e9⟩:=hS i hi
 rw[hx] at e0 e1 e2 e3 e4 e5 e6 e7 e8 e9
 simp only at e0 e1 e2 e3 e4 e5 e6 e7 e8 e9
 have hsv:=h.out.cn
 have hGl:G<w.heap.size:=by have:=h.out.gB;have:=h.out.bl;omega
 have hi1:(i:Int)<(ts.length:Int):=by omega
 have hi0:(0:Int)≤(i:Int):=by omega
 clear hS hx hi
 go_enter Tryz.func22,Tryz.ntmps22
 go_wp2_with fail
 obtain⟨W0,hW0⟩ : ∃W,w.alloc (.cells #[.int .i64 10, .int .i64 a, .int .i64 b, .int .i64 c, .int .i64 n, .string nm, .string u, .string y, .string z, .int .i64 at_] 45)=W:=⟨_,rfl⟩
 obtain⟨hX,h2,hst,hBb⟩:=ndbox_lit (t:=⟨10,a,b,c,n,nm,u,y,z,at_⟩) h.out hW0
 rw[hW0]
 clear hW0 hsv hGl e0 e1 e2 e3 e4 e5 e6 e7 e8 e9
 have hX:=bH hX
 have h2:=bH h2
 have hst:=bH hst
 refine(ka.out _ _ _ h2 hn hba).mono ?_
 rintro e w1 ⟨rfl,mv1,k1,k2⟩
 have hX1:=bH (hX.out.step k2)
 have hh1:=bH k1
 have hst1:=bH (hst.out.trans k2)
 clear k1 k2
 obtain⟨m1,hm1⟩ : ∃r,td ts a m=r:=⟨_,rfl⟩
 rw[hm1] at hh1 hia hbb hib hbc hbl ⊢
 have g0:=hX1.out.c0;have g1:=hX1.out.c1;have g2:=hX1.out.c2;have g3:=hX1.out.c3;have g4:=hX1.out.c4;have g5:=hX1.out.c5;have g6:=hX1.out.c6;have g7:=hX1.out.c7;have g8:=hX1.out.c8;have g9:=hX1.out.c9;have gf:=hX1.out.fz;have gl:=hX1.out.lt
 simp only at g0 g1 g2 g3 g4 g5 g6 g7 g8 g9
 go_wp2_with fail
 obtain⟨W1,hW1⟩ : ∃W,w1.setCell ⟨w.heap.size,1,none⟩ (.int .i64 (lstI m1))=W:=⟨_,rfl⟩
 have hX1s:=bH (hX1.out.set1 (lstI m1))
 have h21s:=bH (hh1.out.box hX1.out hBb 1 (.int .i64 (lstI m1)))
 have hst1s:=bH (hst1.out.box (Nat.le_refl _) 1 (.int .i64 (lstI m1)))
 rw[hW1] at hX1s h21s hst1s ⊢
 clear hW1 g0 g1 g2 g3 g4 g5 g6 g7 g8 g9 gf gl hX1 hh1 hst1
 refine(kb.out _ _ _ h21s hia hbb).mono ?_
 rintro e w2 ⟨rfl,mv2,k1,k2⟩
 have hX2:=bH (hX1s.out.step k2)
 have hh2:=bH k1
 have hst2:=bH (hst1s.out.trans k2)
 clear k1 k2
 obtain⟨m2,hm2⟩ : ∃r,td ts b m1=r:=⟨_,rfl⟩
 rw[hm2] at hh2 hib hbc hbl ⊢
 have g0:=hX2.out.c0;have g1:=hX2.out.c1;have g2:=hX2.out.c2;have g3:=hX2.out.c3;have g4:=hX2.out.c4;have g5:=hX2.out.c5;have g6:=hX2.out.c6;have g7:=hX2.out.c7;have g8:=hX2.out.c8;have g9:=hX2.out.c9;have gf:=hX2.out.fz;have gl:=hX2.out.lt
 simp only at g0 g1 g2 g3 g4 g5 g6 g7 g8 g9
 go_wp2_with fail
 obtain⟨W2,hW2⟩ : ∃W,w2.setCell ⟨w.heap.size,2,none⟩ (.int .i64 (lstI m2))=W:=⟨_,rfl⟩
 have hX2s:=bH (hX2.out.set2 (lstI m2))
 have h22s:=bH (hh2.out.box hX2.out hBb 2 (.int .i64 (lstI m2)))
 have hst2s:=bH (hst2.out.box (Nat.le_refl _) 2 (.int .i64 (lstI m2)))
 rw[hW2] at hX2s h22s hst2s ⊢
 clear hW2 g0 g1 g2 g3 g4 g5 g6 g7 g8 g9 gf gl hX2 hh2 hst2
 refine(kc.out _ _ _ h22s hib hbc).mono ?_
 rintro e w3 ⟨rfl,mv3,k1,k2⟩
 have hX3:=bH (hX2s.out.step k2)
 have hh3:=bH k1
 have hst3:=bH (hst2s.out.trans k2)
 clear k1 k2
 obtain⟨m3,hm3⟩ : ∃r,td ts c m2=r:=⟨_,rfl⟩
 rw[hm3] at hh3 hbl ⊢
 have g0:=hX3.out.c0;have g1:=hX3.out.c1;have g2:=hX3.out.c2;have g3:=hX3.out.c3;have g4:=hX3.out.c4;have g5:=hX3.out.c5;have g6:=hX3.out.c6;have g7:=hX3.out.c7;have g8:=hX3.out.c8;have g9:=hX3.out.c9;have gf:=hX3.out.fz;have gl:=hX3.out.lt
 simp only at g0 g1 g2 g3 g4 g5 g6 g7 g8 g9
 go_wp2_with fail
 obtain⟨W3,hW3⟩ : ∃W,w3.setCell ⟨w.heap.size,3,none⟩ (.int .i64 (lstI m3))=W:=⟨_,rfl⟩
 have hX3s:=bH (hX3.out.set3 (lstI m3))
 have h23s:=bH (hh3.out.box hX3.out hBb 3 (.int .i64 (lstI m3)))
 have hst3s:=bH (hst3.out.box (Nat.le_refl _) 3 (.int .i64 (lstI m3)))
 rw[hW3] at hX3s h23s hst3s ⊢
 clear hW3 g0 g1 g2 g3 g4 g5 g6 g7 g8 g9 gf gl hX3 hh3 hst3
 refine(tadd_any B G _ ts _ mv3 m3 ⟨10,lstI m1,lstI m2,lstI m3,n,nm,u,y,z,at_⟩ h23s (by omega)).mono ?_
 rintro e wz ⟨rfl,mv',k1,k2⟩
 have k1:=bH k1
 have k3:=bH (hst3s.out.trans k2)
 go_wp2_with fail
 go_ret
 subst hm3 hm2 hm1
 exact⟨rfl,mv',k1.out,k3.out⟩
open Go.RowKit
def MOk (t:Nd) (m:Int):Prop:=0≤m∧(¬ (t.k=0∨t.k=9∨t.k=10)→m=t.n)
def Put (st st':List Nd) (lo hi:Int):Prop:=
 st'.length=st.length∧(∀i:Nat,(i:Int)<lo∨hi≤i→st'.getD i nd0=st.getD i nd0)∧(∀i:Nat,lo≤i→(i:Int)<hi→ ∃m,MOk (st.getD i nd0) m∧st'.getD i nd0=bare (st.getD i nd0) m)
theorem Put.refl (st:List Nd) (b:Int):Put st st b b:=⟨rfl,fun _ _=>rfl,fun i h1 h2=>by omega⟩
theorem Put.trans {a b c:List Nd} {x y z:Int} (h:Put a b x y) (h':Put b c y z) (hxy:x≤y) (hyz:y≤z):Put a c x z:=by
 refine⟨h'.1.trans h.1,fun i hi=>(h'.2.1 i (by omega)).trans (h.2.1 i (by omega)),fun i h1 h2=> ?_⟩
 by_cases h3:(i:Int)<y
 ·obtain⟨m,h4,h5⟩:=h.2.2 i h1 h3
  exact⟨m,h4,(h'.2.1 i (by omega)).trans h5⟩
 ·obtain⟨m,h4,h5⟩:=h'.2.2 i (by omega) h2
  rw[h.2.1 i (by omega)] at h4 h5
  exact⟨m,h4,h5⟩
theorem Put.ks {a b:List Nd} {x y:Int} (h:Put a b x y):ksN b=ksN a:=by
 funext i
 by_cases h1:(i:Int)<x∨y≤i
 ·unfold ksN;rw[h.2.1 i h1]
 ·obtain⟨m,_,h2⟩:=h.2.2 i (by omega) (by omega)
  unfold ksN;rw[h2];rfl
theorem Put.pos {a b:List Nd} {x y:Int} (h:Put a b x y) (hp : ∀i,0≤(a.getD i nd0).n) (i:Nat):0≤(b.getD i nd0).n:=by
 by_cases h1:(i:Int)<x∨y≤i
 ·rw[h.2.1 i h1];exact hp i
 ·obtain⟨m,h3,h2⟩:=h.2.2 i (by omega) (by omega)
  rw[h2];exact h3.1
theorem kids_ks (st:List Nd) (i:Nat):(kidsS (st.getD i nd0)).map (·.1)=ksN st i:=by rw[kidsS_kids];rfl
theorem numsV_congr (no:Nat) : ∀(f:Nat) (st s2:List Nd) (at_ bound:Nat),0≤bg (ksN st) at_→(∀i:Nat,bg (ksN st) at_≤i→i≤at_→s2.getD i nd0=st.getD i nd0)→numsV no f s2 at_ bound=numsV no f st at_ bound
 | 0,_,_,_,_,_,_=>rfl
 | f+1,st,s2,at_,bound,hb,h=>by
  unfold numsV
  have h0:=h at_ (bg_le _ _) (Nat.le_refl _)
  rw[h0]
  congr 1
  have hs:=seg_bg _ _ hb
  rw[Bool.eq_iff_iff,List.all_eq_true,List.all_eq_true]
  have key : ∀c∈kidsS (st.getD at_ nd0),numsV no f s2 c.1.toNat (bound+c.2.length)=numsV no f st c.1.toNat (bound+c.2.length):=by
   intro c hc
   have hm:c.1∈ksN st at_:=by rw[← kids_ks];exact List.mem_map.2 ⟨c,hc,rfl⟩
   obtain⟨h1,h2,h3⟩:=seg_mem (bg_le _) hs c.1 hm
   exact numsV_congr no f st s2 c.1.toNat _ (by omega) fun i h4 h5=>h i (by omega) (by omega)
  exact⟨fun hh c hc=>by rw[← key c hc];exact hh c hc,fun hh c hc=>by rw[key c hc];exact hh c hc⟩
theorem kids_run {no:Nat} {f:Nat} {g:Nat→Int} {rec:List Nd→Nat→List ByteArray→Except (Int × Int) (List Nd)} (hg : ∀j,g j≤j) (bd:List ByteArray)
  (hrec : ∀st c bs st',ksN st=ksN st→bg (ksN st)=g→(∀i,0≤(st.getD i nd0).n)→c<st.length→0≤g c→rec st c bs= .ok st'→Put st st' (g c) (c+1)∧numsV no f st' c bs.length=true) :
  ∀(l:List (Int × List ByteArray)) (b e:Int) (st st':List Nd),Seg g b (l.map (·.1)) e→0≤b→e≤st.length→bg (ksN st)=g→(∀i,0≤(st.getD i nd0).n)→kidsRun rec st l bd= .ok st'→
   Put st st' b e∧ ∀c∈l,numsV no f st' c.1.toNat (bd.length+c.2.length)=true
 | [],b,e,st,st',hs,_,_,_,_,h=>by
  have hs:b=e:=hs
  subst hs
  have h:Except.ok st=Except.ok st':=h
  injection h with h
  subst h
  exact⟨Put.refl _ _,fun c hc=>by cases hc⟩
 | (c,bs) :: l,b,e,st,st',hs,hb,he,hk,hp,h=>by
  obtain⟨h0,h1,h2⟩:=hs
  have h0:0≤c:=h0
  have h1:g c.toNat=b:=h1
  have h2:Seg g (c+1) (l.map (·.1)) e:=h2
  have hle:=seg_le hg h2
  have hgc:=hg c.toNat
  unfold kidsRun at h
  cases hr:rec st c.toNat (bd++bs) with
  | error x=>rw[hr] at h;cases h
  | ok s1=>
   rw[hr] at h
   have h:kidsRun rec s1 l bd= .ok st':=h
   obtain⟨p1,n1⟩:=hrec st c.toNat (bd++bs) s1 rfl hk hp (by omega) (by omega) hr
   rw[show ((c.toNat:Nat):Int)+1=c+1 by omega] at p1
   have hk1:bg (ksN s1)=g:=by rw[p1.ks];exact hk
   obtain⟨p2,n2⟩:=kids_run hg bd hrec l (c+1) e s1 st' h2 (by omega) (by rw[p1.1];exact he) hk1 (p1.pos hp) h
   refine⟨Put.trans (y:=c+1) (by rw[← h1];exact p1) p2 (by omega) hle,fun d hd=> ?_⟩
   rcases List.mem_cons.1 hd with rfl|hd
   ·rw[List.length_append] at n1
    rw[← n1]
    refine numsV_congr no f s1 st' c.toNat _ (by rw[hk1];omega) fun i h4 h5=> ?_
    exact p2.2.1 i (by left;omega)
   ·exact n2 d hd
theorem kidsS_bare2 (t:Nd) (m:Int):(kidsS (bare t m)).map (fun c=>(c.1,c.2.length))=(kidsS t).map (fun c=>(c.1,c.2.length)):=by
 unfold kidsS bare
 simp only
 (repeat' split)<;>simp_all
theorem find_lt {l:List ByteArray} {p:ByteArray→Bool} {i:Nat} (h:l.findIdx? p=some i):i<l.length:=by
 rw[List.findIdx?_eq_some_iff_getElem] at h
 exact h.1
theorem mean_ok {ops bd:List ByteArray} {t:Nd} {m:Int} (h:meanV ops bd t= .ok m) (hn:0≤t.n):MOk t m∧nmBd ops.length bd.length (bare t m)=true:=by
 unfold meanV at h
 unfold nmBd bare MOk
 simp only
 by_cases h0:t.k=0
 ·rw[if_pos h0] at h
  rw[if_neg (by omega),if_pos h0]
  cases hi:nearI bd t.nm with
  | none=>rw[hi] at h;cases h
  | some i=>
   rw[hi] at h
   injection h with h
   have:=find_lt hi
   rw[List.length_reverse] at this
   subst h
   exact⟨⟨by omega,fun h=>absurd (.inl h0) h⟩,decide_eq_true (by omega)⟩
 ·rw[if_neg h0] at h
  by_cases h9:t.k=9∨t.k=10
  ·rw[if_pos h9] at h ⊢
   cases hi:placeI ops t.nm with
   | none=>rw[hi] at h;cases h
   | some i=>
    rw[hi] at h
    injection h with h
    have:=find_lt hi
    subst h
    exact⟨⟨by omega,fun h=>absurd (.inr h9) h⟩,decide_eq_true (by omega)⟩
  ·rw[if_neg h9] at h ⊢
   rw[if_neg h0]
   injection h with h
   subst h
   exact⟨⟨hn,fun _=>rfl⟩,rfl⟩
theorem res_put (ops:List ByteArray) : ∀(f:Nat) (st:List Nd) (at_:Nat) (bd:List ByteArray) (st':List Nd),at_<st.length→0≤bg (ksN st) at_→(∀i,0≤(st.getD i nd0).n)→resS ops f st at_ bd= .ok st'→
  Put st st' (bg (ksN st) at_) (at_+1)∧numsV ops.length f st' at_ bd.length=true
 | 0,st,at_,bd,st',_,_,_,h=>by cases h
 | f+1,st,at_,bd,st',hat,hb,hp,h=>by
  unfold resS at h
  cases hm:meanV ops bd (st.getD at_ nd0) with
  | error x=>rw[hm] at h;cases h
  | ok m=>
   rw[hm] at h
   cases hk:kidsRun (resS ops f) st (kidsS (st.getD at_ nd0)) bd with
   | error x=>simp only[hk] at h;cases h
   | ok s1=>
    simp only[hk] at h
    injection h with h
    obtain⟨hm0,hm1⟩:=mean_ok hm (hp at_)
    have hs:=seg_bg _ _ hb
    rw[← kids_ks] at hs
    obtain⟨p1,n1⟩:=kids_run (no:=ops.length) (f:=f) (g:=bg (ksN st)) (bg_le _) bd (fun s c bs s' _ hg hp' hc hb' hr=>by
     have:=res_put ops f s c bs s' hc (by rw[hg];exact hb') hp' hr
     rw[hg] at this
     exact this) (kidsS (st.getD at_ nd0)) _ _ st s1 hs hb (by omega) rfl hp hk
    have hl1:at_<s1.length:=by rw[p1.1];exact hat
    have hself:st'.getD at_ nd0=bare (st.getD at_ nd0) m:=by
     rw[← h,List.getD_eq_getElem?_getD,List.getElem?_set_self hl1,Option.getD_some]
    have hoth : ∀i,i≠at_→st'.getD i nd0=s1.getD i nd0:=fun i hi=>by
     rw[← h,List.getD_eq_getElem?_getD,List.getElem?_set_ne (Ne.symm hi), ← List.getD_eq_getElem?_getD]
    have hble:=bg_le (ksN st) at_
    have hput:Put st st' (bg (ksN st) at_) (at_+1):=by
     refine⟨by rw[← h,List.length_set,p1.1],fun i hi=> ?_,fun i h1 h2=> ?_⟩
     ·rw[hoth i (by omega)];exact p1.2.1 i (by omega)
     ·by_cases hi:i=at_
      ·subst hi;exact⟨m,hm0,hself⟩
      ·rw[hoth i hi];exact p1.2.2 i h1 (by omega)
    refine⟨hput, ?_⟩
    unfold numsV
    rw[hself,hm1,Bool.true_and,List.all_eq_true]
    intro c hc
    have hmem:(c.1,c.2.length)∈(kidsS (bare (st.getD at_ nd0) m)).map (fun c=>(c.1,c.2.length)):=List.mem_map.2 ⟨c,hc,rfl⟩
    rw[kidsS_bare2] at hmem
    obtain⟨d,hd,e⟩:=List.mem_map.1 hmem
    injection e with e1 e2
    have:=n1 d hd
    rw[e1,e2] at this
    rw[← this]
    have hdm:d.1∈(kidsS (st.getD at_ nd0)).map (·.1):=List.mem_map.2 ⟨d,hd,rfl⟩
    obtain⟨g1,g2,g3⟩:=seg_mem (bg_le _) hs d.1 hdm
    rw[e1] at g1 g2 g3
    refine numsV_congr ops.length f s1 st' c.1.toNat _ (by rw[p1.ks];omega) fun i _ h5=>hoth i (by omega)
theorem kids_bad {at_:Nat} {g:Nat→Int} {rec:List Nd→Nat→List ByteArray→Except (Int × Int) (List Nd)} (hg : ∀j,g j≤j) (bd:List ByteArray)
  (hrec : ∀st c bs st',bg (ksN st)=g→(∀i,0≤(st.getD i nd0).n)→c<st.length→0≤g c→rec st c bs= .ok st'→Put st st' (g c) (c+1))
  (hbad : ∀st c bs e,c<at_→bg (ksN st)=g→(∀i,0≤(st.getD i nd0).n)→(∀i,0≤(st.getD i nd0).p)→c<st.length→0≤g c→rec st c bs= .error e→(e.1=601∨e.1=602)∧0≤e.2) :
  ∀(l:List (Int × List ByteArray)) (b:Int) (st:List Nd) (e:Int × Int),Seg g b (l.map (·.1)) at_→0≤b→at_<st.length→bg (ksN st)=g→(∀i,0≤(st.getD i nd0).n)→(∀i,0≤(st.getD i nd0).p)→kidsRun rec st l bd= .error e→(e.1=601∨e.1=602)∧0≤e.2
 | [],b,st,e,_,_,_,_,_,_,h=>by cases h
 | (c,bs) :: l,b,st,e,hs,hb,he,hk,hp,hq,h=>by
  obtain⟨h0,h1,h2⟩:=hs
  have h0:0≤c:=h0
  have h1:g c.toNat=b:=h1
  have h2:Seg g (c+1) (l.map (·.1)) at_:=h2
  have hle:=seg_le hg h2
  have hgc:=hg c.toNat
  unfold kidsRun at h
  cases hr:rec st c.toNat (bd++bs) with
  | error x=>
   rw[hr] at h
   injection h with h
   subst h
   exact hbad st c.toNat _ x (by omega) hk hp hq (by omega) (by omega) hr
  | ok s1=>
   rw[hr] at h
   have h:kidsRun rec s1 l bd= .error e:=h
   have p1:=hrec st c.toNat (bd++bs) s1 hk hp (by omega) (by omega) hr
   refine kids_bad hg bd hrec hbad l (c+1) s1 e h2 (by omega) (by rw[p1.1];exact he) (by rw[p1.ks];exact hk) (p1.pos hp) (fun i=> ?_) h
   by_cases h3:(i:Int)<g c.toNat∨((c.toNat:Nat):Int)+1≤i
   ·rw[p1.2.1 i h3];exact hq i
   ·obtain⟨m,_,h5⟩:=p1.2.2 i (by omega) (by omega)
    rw[h5];exact hq i
theorem res_bad (ops:List ByteArray) : ∀(f:Nat) (st:List Nd) (at_:Nat) (bd:List ByteArray) (e:Int × Int),at_<f→at_<st.length→0≤bg (ksN st) at_→(∀i,0≤(st.getD i nd0).n)→(∀i,0≤(st.getD i nd0).p)→resS ops f st at_ bd= .error e→(e.1=601∨e.1=602)∧0≤e.2
 | 0,st,at_,bd,e,hf,_,_,_,_,_=>by omega
 | f+1,st,at_,bd,e,hf,hat,hb,hp,hq,h=>by
  unfold resS at h
  cases hm:meanV ops bd (st.getD at_ nd0) with
  | error x=>
   rw[hm] at h
   injection h with h
   subst h
   refine⟨?_,hq at_⟩
   unfold meanV at hm
   by_cases h0:(st.getD at_ nd0).k=0
   ·rw[if_pos h0] at hm
    cases hi:nearI bd (st.getD at_ nd0).nm with
    | some i=>rw[hi] at hm;cases hm
    | none=>rw[hi] at hm;injection hm with hm;exact .inl hm.symm
   ·rw[if_neg h0] at hm
    by_cases h9:(st.getD at_ nd0).k=9∨(st.getD at_ nd0).k=10
    ·rw[if_pos h9] at hm
     cases hi:placeI ops (st.getD at_ nd0).nm with
     | some i=>rw[hi] at hm;cases hm
     | none=>rw[hi] at hm;injection hm with hm;exact .inr hm.symm
    ·rw[if_neg h9] at hm;cases hm
  | ok m=>
   rw[hm] at h
   cases hk:kidsRun (resS ops f) st (kidsS (st.getD at_ nd0)) bd with
   | ok s1=>simp only[hk] at h;cases h
   | error x=>
    simp only[hk] at h
    injection h with h
    subst h
    have hs:=seg_bg _ _ hb
    rw[← kids_ks] at hs
    exact kids_bad (at_:=at_) (g:=bg (ksN st)) (bg_le _) bd (fun s c bs s' hg hp' hc hb' hr=>by
     have:=(res_put ops f s c bs s' hc (by rw[hg];exact hb') hp' hr).1
     rw[hg] at this
     exact this) (fun s c bs e' hca hg hp' hq' hc hb' hr=>res_bad ops f s c bs e' (by omega) hc (by rw[hg];exact hb') hp' hq' hr) (kidsS (st.getD at_ nd0)) _ st x hs hb hat rfl hp hq hk
theorem ok_pos {t:Nd} (h:okNd (okNm true) t=true):0≤t.n∧0≤t.p:=by
 unfold okNd plainB numB okNm namedB at h
 simp only[Bool.and_eq_true,decide_eq_true_eq,if_pos] at h
 obtain⟨⟨⟨⟨h1,h2⟩,h3⟩,h4⟩,h5,h6⟩:=h
 refine⟨?_,h2⟩
 by_cases k0:t.k=0∨t.k=9∨t.k=10
 ·rw[if_pos k0] at h5;have:=of_decide_eq_true h5;omega
 ·by_cases k1:t.k=1
  ·rw[if_pos k1] at h4;have:=of_decide_eq_true h4;omega
  ·rw[if_neg k1] at h4
   by_cases k2:t.k=2
   ·rw[if_pos k2] at h4;have:=of_decide_eq_true h4;omega
   ·rw[if_neg k2] at h4
    by_cases k8:t.k=8
    ·rw[if_pos k8] at h4;have:=of_decide_eq_true h4;omega
    ·rw[if_neg (by omega),if_neg (by omega)] at h1
     by_cases k3:t.k=3
     ·rw[if_pos k3] at h1;have:=of_decide_eq_true h1;omega
     ·rw[if_neg k3] at h1
      by_cases k4:t.k=4
      ·rw[if_pos k4] at h1;have:=of_decide_eq_true h1;omega
      ·rw[if_neg k4] at h1
       by_cases k5:t.k=5
       ·rw[if_pos k5] at h1;have:=of_decide_eq_true h1;omega
       ·rw[if_neg k5] at h1
        by_cases k6:t.k=6
        ·rw[if_pos k6] at h1;have:=of_decide_eq_true h1;omega
        ·rw[if_neg k6] at h1
         by_cases k7:t.k=7
         ·rw[if_pos k7] at h1;have:=of_decide_eq_true h1;omega
         ·rw[if_neg k7,if_neg k8,if_neg (by omega)] at h1;have:=of_decide_eq_true h1;omega
theorem toList0:(⟨#[]⟩:ByteArray).toList=[]:=by rw[ByteArray.toList_eq]
theorem ok_bare {t:Nd} {m:Int} (h:okNd (okNm true) t=true) (hm:MOk t m):okNd (okNm false) (bare t m)=true:=by
 have hres:okNm false (bare t m)=true:=by
  unfold okNm resB namesL bare
  simp only[Bool.false_eq_true,if_false]
  (repeat' split)<;>simp[toList0]
 have hp:=h
 unfold okNd at h
 simp only[Bool.and_eq_true] at h
 obtain⟨⟨⟨⟨h1,h2⟩,h3⟩,h4⟩,h5⟩:=h
 obtain⟨hm0,hm1⟩:=hm
 have hpl:plainB (bare t m).k (bare t m).a (bare t m).b (bare t m).c (bare t m).n (bare t m).nm (bare t m).x (bare t m).y (bare t m).z=true:=by
  unfold plainB at h1 ⊢
  unfold bare
  simp only[toList0]
  by_cases k0:t.k=0∨t.k=9∨t.k=10
  ·rcases k0 with k|k|k
   ·simp only[k] at h1 ⊢;simp at h1 ⊢;omega
   ·simp only[k] at h1 ⊢;simp at h1 ⊢;omega
   ·simp only[k] at h1 ⊢;simp
  ·have:=hm1 k0
   subst this
   (repeat' split at h1)<;>simp_all
 have hnb:numB (bare t m).k (bare t m).n=true:=by
  by_cases k0:t.k=0∨t.k=9∨t.k=10
  ·unfold numB bare
   simp only
   rw[if_neg (by omega),if_neg (by omega),if_neg (by omega)]
  ·have:=hm1 k0
   subst this
   exact h4
 unfold okNd
 rw[hpl,hnb,hres]
 show (true && decide (0≤t.p) && decide (t.p≤4096) && true && true)=true
 rw[h2,h3];rfl
theorem shape_ok {os:List Or} {ts ss:List Nd} (h:resV os ts= .ok ss):ss.length=ts.length∧smayV os ss=true∧ ∀i,i<ts.length→ ∃m,0≤m∧ss.getD i nd0=bare (ts.getD i nd0) m:=by
 unfold resV at h
 by_cases hmay:mayV os ts=true
 ·rw[if_pos hmay] at h
  by_cases hd:dupB (opN os)=true
  ·rw[if_pos hd] at h;cases h
  ·rw[if_neg hd] at h
   obtain⟨t1,t2,t3,t4⟩:=mayV_tree hmay
   unfold mayV treeV at hmay
   simp only[Bool.and_eq_true,List.all_eq_true,decide_eq_true_eq] at hmay
   obtain⟨m1,⟨m2,m3⟩,m4⟩:=hmay
   have hok : ∀i,i<ts.length→okNd (okNm true) (ts.getD i nd0)=true:=fun i hi=>m3 _ (by rw[List.getD_eq_getElem?_getD,List.getElem?_eq_getElem hi];exact List.getElem_mem hi)
   have hpos : ∀i,0≤(ts.getD i nd0).n:=fun i=>by
    by_cases hi:i<ts.length
    ·exact(ok_pos (hok i hi)).1
    ·rw[List.getD_eq_getElem?_getD,List.getElem?_eq_none (by omega)];exact Int.le_refl 0
   obtain⟨p1,n1⟩:=res_put (opN os) _ _ _ _ _ (by omega) (by omega) hpos h
   have hl:=p1.1
   have hall : ∀i,i<ts.length→ ∃m,MOk (ts.getD i nd0) m∧ss.getD i nd0=bare (ts.getD i nd0) m:=fun i hi=>p1.2.2 i (by rw[t4];omega) (by omega)
   refine⟨hl, ?_,fun i hi=>by obtain⟨m,h1,h2⟩:=hall i hi;exact⟨m,h1.1,h2⟩⟩
   have hget : ∀u∈ss, ∃i,i<ts.length∧ss.getD i nd0=u:=fun u hu=>by
    obtain⟨i,hi,e⟩:=List.mem_iff_getElem.1 hu
    exact⟨i,by omega,by rw[List.getD_eq_getElem?_getD,List.getElem?_eq_getElem hi,Option.getD_some,e]⟩
   have htree:treeV (okNm false) ss=true:=by
    unfold treeV
    simp only[Bool.and_eq_true,List.all_eq_true,decide_eq_true_eq]
    refine⟨⟨by omega,fun u hu=> ?_⟩,by rw[p1.ks,hl];exact t4⟩
    obtain⟨i,hi,rfl⟩:=hget u hu
    obtain⟨m,h1,h2⟩:=hall i hi
    rw[h2];exact ok_bare (hok i hi) h1
   unfold smayV hasV anyV
   have hd':dupB (opN os)=false:=by cases hh:dupB (opN os);rfl;exact absurd hh hd
   have hbare:ss.all bareB=true:=by
    rw[List.all_eq_true]
    intro u hu
    obtain⟨i,hi,rfl⟩:=hget u hu
    obtain⟨m,h1,h2⟩:=hall i hi
    rw[h2]
    unfold bareB bare
    simp[toList0]
   have hol:(opN os).length=os.length:=by unfold opN;rw[List.length_map]
   rw[hol] at n1
   rw[m1,hd',htree,hbare,hl]
   have n1:numsV os.length ts.length ss (ts.length-1) 0=true:=n1
   rw[n1,Bool.or_true]
   simp
   omega
 ·rw[if_neg hmay] at h;cases h
theorem shape_bad {os:List Or} {ts:List Nd} {e:Int × Int} (h:resV os ts= .error e):(e.1=600∨e.1=601∨e.1=602)∧0≤e.2:=by
 unfold resV at h
 by_cases hmay:mayV os ts=true
 ·rw[if_pos hmay] at h
  by_cases hd:dupB (opN os)=true
  ·rw[if_pos hd] at h;injection h with h;subst h;exact⟨.inr (.inr rfl),Int.le_refl 0⟩
  ·rw[if_neg hd] at h
   obtain⟨t1,t2,t3,t4⟩:=mayV_tree hmay
   unfold mayV treeV at hmay
   simp only[Bool.and_eq_true,List.all_eq_true,decide_eq_true_eq] at hmay
   obtain⟨m1,⟨m2,m3⟩,m4⟩:=hmay
   have hpos : ∀i,0≤(ts.getD i nd0).n∧0≤(ts.getD i nd0).p:=fun i=>by
    by_cases hi:i<ts.length
    ·exact ok_pos (m3 _ (by rw[List.getD_eq_getElem?_getD,List.getElem?_eq_getElem hi];exact List.getElem_mem hi))
    ·rw[List.getD_eq_getElem?_getD,List.getElem?_eq_none (by omega)];exact⟨Int.le_refl 0,Int.le_refl 0⟩
   have:=res_bad (opN os) _ _ _ _ _ (by omega) (by omega) (by omega) (fun i=>(hpos i).1) (fun i=>(hpos i).2) h
   exact⟨.inr this.1,this.2⟩
 ·rw[if_neg hmay] at h;injection h with h;subst h;exact⟨.inl rfl,Int.le_refl 0⟩
end Go.Proofs.YthpcbgljbpmafaaGreatDoor
