/- The reference's tidier: kids. -/
import Derived.Test.YthpcbgljbpmafaaGreatDoorW22
import Derived.Test.YthpcbgljbpmafaaGreatDoorW24
set_option maxRecDepth 100000
set_option maxHeartbeats 8000000
namespace Go.Proofs.YthpcbgljbpmafaaGreatDoor
open Go.RowKit
set_option linter.unusedVariables false
set_option linter.unusedSimpArgs false
def TrM (B G:Nat) (sv:Value) (ts:List Nd) (w:World) (mv:Value) (m:List Nd) (e:Ending) (w':World):Prop:=e= .returned (.tuple #[])∧ ∃mv',TdW B G sv ts w' mv' m∧Stp G w mv w' mv'
def TrP (B G:Nat) (sv:Value) (ts:List Nd) (j:Nat):Prop:= ∀W mv1 m1,Hid (TdW B G sv ts W mv1 m1)→Hid (IntOk m1)→(m1.length:Int)+(j+1-bg (ksN ts) j)≤512→Calls Tryz.prog 25 #[.pointer (some ⟨G,0,none⟩), .int .i64 j] W (TrM B G sv ts W mv1 (td ts j m1))
def StB (G b:Nat) (w:World) (mv:Value) (w':World) (mv':Value):Prop:=Bar (fun k=>PFr G mv k∨k=b) w w'∧PHop mv mv' w
theorem StB.refl (G b:Nat) (w:World) (mv:Value):StB G b w mv w mv:=⟨Bar.refl _ _,fun _ h=> .inl h⟩
theorem StB.trans {G b:Nat} {w w1 w2:World} {mv mv1 mv2:Value} (h:StB G b w mv w1 mv1) (h':StB G b w1 mv1 w2 mv2):StB G b w mv w2 mv2:=
 ⟨h.1.trans h'.1 fun k hk hs=>by
  rcases hs with (hs|hs)|hs
  ·exact .inl (.inl hs)
  ·rcases h.2 k hs with hg|hg
   ·exact .inl (.inr hg)
   ·omega
  ·exact .inr hs,fun g hg=>by
  rcases h'.2 g hg with hg|hg
  ·exact h.2 g hg
  ·exact .inr (by have:=h.1.size;omega)⟩
theorem StB.of {G b:Nat} {w w':World} {mv mv':Value} (h:Stp G w mv w' mv'):StB G b w mv w' mv':=⟨(Bar.refl (fun k=>PFr G mv k∨k=b) w).trans h.1 fun _ _ hs=> .inl hs,h.2⟩
theorem StB.box {G b:Nat} {w w1:World} {mv mv1:Value} (h:StB G b w mv w1 mv1) (o:Nat) (v:Value):StB G b w mv (w1.setCell ⟨b,o,none⟩ v) mv1:=
 h.trans ⟨Bar.set (S:=fun k=>PFr G mv1 k∨k=b) ⟨b,o,none⟩ v (.inr rfl),fun _ h=> .inl h⟩
theorem Stp.kids {G b:Nat} {w w1 w2:World} {mv mv1 mv2:Value} (h:Stp G w mv w1 mv1) (h':StB G b w1 mv1 w2 mv2) (hb:w.heap.size≤b):Stp G w mv w2 mv2:=
 ⟨h.1.trans h'.1 fun k hk hs=>by
  rcases hs with (hs|hs)|hs
  ·exact .inl hs
  ·rcases h.2 k hs with hg|hg
   ·exact .inr hg
   ·omega
  ·omega,fun g hg=>by
  rcases h'.2 g hg with hg|hg
  ·exact h.2 g hg
  ·exact .inr (by have:=h.1.size;omega)⟩
def TrK (B G b:Nat) (sv:Value) (ts:List Nd) (w:World) (mv:Value) (m:List Nd) (x:Nd) (e:Ending) (w':World):Prop:=e= .returned (.tuple #[])∧ ∃mv',TdW B G sv ts w' mv' m∧NdBox G w' mv' b x∧StB G b w mv w' mv'
theorem rkids0 (B G b0:Nat) (sv:Value) (ts:List Nd) (w:World) (mv:Value) (m:List Nd) (a b c:Int) (n:Int) (nm u y z:ByteArray) (at_:Int) (h:Hid (TdW B G sv ts w mv m)) (hX:Hid (NdBox G w mv b0 ⟨0,a,b,c,n,nm,u,y,z,at_⟩)) (hBb:B≤b0) (hn:Hid (IntOk m)) :
  Calls Tryz.prog 44 #[.pointer (some ⟨G,0,none⟩), .pointer (some ⟨b0,0,none⟩)] w (TrK B G b0 sv ts w mv m ⟨0,a,b,c,n,nm,u,y,z,at_⟩):=by
 have g0:=hX.out.c0;have g1:=hX.out.c1;have g2:=hX.out.c2;have g3:=hX.out.c3;have gl:=hX.out.lt
 simp only at g0 g1 g2 g3
 go_enter Tryz.func44,Tryz.ntmps44
 go_wp2_with fail
 ((try simp only[Exit.inBlock,Exit.then]);first|(refine bodyPost_ret (results_none rfl _ _ _) rfl ?_)|(refine bodyPost_end (results_none rfl _ _ _) rfl ?_))
 exact⟨rfl,mv,h.out,hX.out,StB.refl _ _ _ _⟩
theorem rkids1 (B G b0:Nat) (sv:Value) (ts:List Nd) (w:World) (mv:Value) (m:List Nd) (a b c:Int) (n:Int) (nm u y z:ByteArray) (at_:Int) (h:Hid (TdW B G sv ts w mv m)) (hX:Hid (NdBox G w mv b0 ⟨1,a,b,c,n,nm,u,y,z,at_⟩)) (hBb:B≤b0) (hn:Hid (IntOk m)) :
  Calls Tryz.prog 44 #[.pointer (some ⟨G,0,none⟩), .pointer (some ⟨b0,0,none⟩)] w (TrK B G b0 sv ts w mv m ⟨1,a,b,c,n,nm,u,y,z,at_⟩):=by
 have g0:=hX.out.c0;have g1:=hX.out.c1;have g2:=hX.out.c2;have g3:=hX.out.c3;have gl:=hX.out.lt
 simp only at g0 g1 g2 g3
 go_enter Tryz.func44,Tryz.ntmps44
 go_wp2_with fail
 ((try simp only[Exit.inBlock,Exit.then]);first|(refine bodyPost_ret (results_none rfl _ _ _) rfl ?_)|(refine bodyPost_end (results_none rfl _ _ _) rfl ?_))
 exact⟨rfl,mv,h.out,hX.out,StB.refl _ _ _ _⟩
theorem rkids2 (B G b0:Nat) (sv:Value) (ts:List Nd) (w:World) (mv:Value) (m:List Nd) (a b c:Int) (n:Int) (nm u y z:ByteArray) (at_:Int) (h:Hid (TdW B G sv ts w mv m)) (hX:Hid (NdBox G w mv b0 ⟨2,a,b,c,n,nm,u,y,z,at_⟩)) (hBb:B≤b0) (hn:Hid (IntOk m)) :
  Calls Tryz.prog 44 #[.pointer (some ⟨G,0,none⟩), .pointer (some ⟨b0,0,none⟩)] w (TrK B G b0 sv ts w mv m ⟨2,a,b,c,n,nm,u,y,z,at_⟩):=by
 have g0:=hX.out.c0;have g1:=hX.out.c1;have g2:=hX.out.c2;have g3:=hX.out.c3;have gl:=hX.out.lt
 simp only at g0 g1 g2 g3
 go_enter Tryz.func44,Tryz.ntmps44
 go_wp2_with fail
 ((try simp only[Exit.inBlock,Exit.then]);first|(refine bodyPost_ret (results_none rfl _ _ _) rfl ?_)|(refine bodyPost_end (results_none rfl _ _ _) rfl ?_))
 exact⟨rfl,mv,h.out,hX.out,StB.refl _ _ _ _⟩
theorem rkids3 (B G b0:Nat) (sv:Value) (ts:List Nd) (w:World) (mv:Value) (m:List Nd) (a:Nat) (b c:Int) (n:Int) (nm u y z:ByteArray) (at_:Int) (h:Hid (TdW B G sv ts w mv m)) (hX:Hid (NdBox G w mv b0 ⟨3,a,b,c,n,nm,u,y,z,at_⟩)) (hBb:B≤b0) (hn:Hid (IntOk m)) (ka:Hid (TrP B G sv ts a)) (hba:(m.length:Int)+(a+1-bg (ksN ts) a)≤512) (hpos1:0<(td ts a m).length) :
  Calls Tryz.prog 44 #[.pointer (some ⟨G,0,none⟩), .pointer (some ⟨b0,0,none⟩)] w (TrK B G b0 sv ts w mv (td ts a m) ⟨3,lstI (td ts a m),b,c,n,nm,u,y,z,at_⟩):=by
 have g0:=hX.out.c0;have g1:=hX.out.c1;have g2:=hX.out.c2;have g3:=hX.out.c3;have gl:=hX.out.lt
 simp only at g0 g1 g2 g3
 go_enter Tryz.func44,Tryz.ntmps44
 go_wp2_with fail
 refine(ka.out _ _ _ h hn hba).mono ?_
 rintro e w1 ⟨rfl,mv1,k1,k2⟩
 clear g0 g1 g2 g3 gl
 have hX1:=bH (hX.out.step k2)
 have hh1:=bH k1
 have hst1:=bH ((StB.refl G b0 w mv).trans (StB.of k2))
 clear k1 k2
 have hpp1:0<(td ts a m).length:=by have:=hpos1;omega
 obtain⟨m1,hm1⟩ : ∃r,td ts a m=r:=⟨_,rfl⟩
 rw[hm1] at hh1 hpp1 hpos1 ⊢
 have hlq1:=bH (show (m1.length:Int)-1=(lstI m1:Int) by unfold lstI;omega)
 obtain⟨aa1,cc1,rfl⟩:=own_sl hh1.out.own
 have g0:=hX1.out.c0;have g1:=hX1.out.c1;have g2:=hX1.out.c2;have g3:=hX1.out.c3;have gf:=hX1.out.fz;have gl:=hX1.out.lt
 have hcm:=hh1.out.cm
 have hGl:G<w1.heap.size:=by have:=hh1.out.gB;have:=hh1.out.bl;omega
 have hml1:(m1.length:Int)≤600:=by have:=hh1.out.ml;omega
 have hmz1:(1:Int)≤(m1.length:Int):=by omega
 simp only at g0 g1 g2 g3
 go_wp2_with fail
 obtain⟨W1,hW1⟩ : ∃W,w1.setCell ⟨b0,1,none⟩ (.int .i64 ((m1.length:Int)-1))=W:=⟨_,rfl⟩
 have hX1s:=bH (hX1.out.set1 ((m1.length:Int)-1))
 have h1s:=bH (hh1.out.box hX1.out hBb 1 (.int .i64 ((m1.length:Int)-1)))
 have hst1s:=bH (hst1.out.box 1 (.int .i64 ((m1.length:Int)-1)))
 rw[hW1] at hX1s h1s hst1s ⊢
 rw[hlq1.out] at hX1s
 ((try simp only[Exit.inBlock,Exit.then]);first|(refine bodyPost_ret (results_none rfl _ _ _) rfl ?_)|(refine bodyPost_end (results_none rfl _ _ _) rfl ?_))
 subst hm1
 exact⟨rfl,_,h1s.out,hX1s.out,hst1s.out⟩
theorem rkids9 (B G b0:Nat) (sv:Value) (ts:List Nd) (w:World) (mv:Value) (m:List Nd) (a:Nat) (b c:Int) (n:Int) (nm u y z:ByteArray) (at_:Int) (h:Hid (TdW B G sv ts w mv m)) (hX:Hid (NdBox G w mv b0 ⟨9,a,b,c,n,nm,u,y,z,at_⟩)) (hBb:B≤b0) (hn:Hid (IntOk m)) (ka:Hid (TrP B G sv ts a)) (hba:(m.length:Int)+(a+1-bg (ksN ts) a)≤512) (hpos1:0<(td ts a m).length) :
  Calls Tryz.prog 44 #[.pointer (some ⟨G,0,none⟩), .pointer (some ⟨b0,0,none⟩)] w (TrK B G b0 sv ts w mv (td ts a m) ⟨9,lstI (td ts a m),b,c,n,nm,u,y,z,at_⟩):=by
 have g0:=hX.out.c0;have g1:=hX.out.c1;have g2:=hX.out.c2;have g3:=hX.out.c3;have gl:=hX.out.lt
 simp only at g0 g1 g2 g3
 go_enter Tryz.func44,Tryz.ntmps44
 go_wp2_with fail
 refine(ka.out _ _ _ h hn hba).mono ?_
 rintro e w1 ⟨rfl,mv1,k1,k2⟩
 clear g0 g1 g2 g3 gl
 have hX1:=bH (hX.out.step k2)
 have hh1:=bH k1
 have hst1:=bH ((StB.refl G b0 w mv).trans (StB.of k2))
 clear k1 k2
 have hpp1:0<(td ts a m).length:=by have:=hpos1;omega
 obtain⟨m1,hm1⟩ : ∃r,td ts a m=r:=⟨_,rfl⟩
 rw[hm1] at hh1 hpp1 hpos1 ⊢
 have hlq1:=bH (show (m1.length:Int)-1=(lstI m1:Int) by unfold lstI;omega)
 obtain⟨aa1,cc1,rfl⟩:=own_sl hh1.out.own
 have g0:=hX1.out.c0;have g1:=hX1.out.c1;have g2:=hX1.out.c2;have g3:=hX1.out.c3;have gf:=hX1.out.fz;have gl:=hX1.out.lt
 have hcm:=hh1.out.cm
 have hGl:G<w1.heap.size:=by have:=hh1.out.gB;have:=hh1.out.bl;omega
 have hml1:(m1.length:Int)≤600:=by have:=hh1.out.ml;omega
 have hmz1:(1:Int)≤(m1.length:Int):=by omega
 simp only at g0 g1 g2 g3
 go_wp2_with fail
 obtain⟨W1,hW1⟩ : ∃W,w1.setCell ⟨b0,1,none⟩ (.int .i64 ((m1.length:Int)-1))=W:=⟨_,rfl⟩
 have hX1s:=bH (hX1.out.set1 ((m1.length:Int)-1))
 have h1s:=bH (hh1.out.box hX1.out hBb 1 (.int .i64 ((m1.length:Int)-1)))
 have hst1s:=bH (hst1.out.box 1 (.int .i64 ((m1.length:Int)-1)))
 rw[hW1] at hX1s h1s hst1s ⊢
 rw[hlq1.out] at hX1s
 ((try simp only[Exit.inBlock,Exit.then]);first|(refine bodyPost_ret (results_none rfl _ _ _) rfl ?_)|(refine bodyPost_end (results_none rfl _ _ _) rfl ?_))
 subst hm1
 exact⟨rfl,_,h1s.out,hX1s.out,hst1s.out⟩
theorem rkids4 (B G b0:Nat) (sv:Value) (ts:List Nd) (w:World) (mv:Value) (m:List Nd) (a b:Nat) (c:Int) (n:Int) (nm u y z:ByteArray) (at_:Int) (h:Hid (TdW B G sv ts w mv m)) (hX:Hid (NdBox G w mv b0 ⟨4,a,b,c,n,nm,u,y,z,at_⟩)) (hBb:B≤b0) (hn:Hid (IntOk m)) (ka:Hid (TrP B G sv ts a)) (hba:(m.length:Int)+(a+1-bg (ksN ts) a)≤512) (hpos1:0<(td ts a m).length) (kb:Hid (TrP B G sv ts b)) (hia:Hid (IntOk (td ts a m))) (hbb:((td ts a m).length:Int)+(b+1-bg (ksN ts) b)≤512) (hpos2:0<(td ts b (td ts a m)).length) :
  Calls Tryz.prog 44 #[.pointer (some ⟨G,0,none⟩), .pointer (some ⟨b0,0,none⟩)] w (TrK B G b0 sv ts w mv (td ts b (td ts a m)) ⟨4,lstI (td ts a m),lstI (td ts b (td ts a m)),c,n,nm,u,y,z,at_⟩):=by
 have g0:=hX.out.c0;have g1:=hX.out.c1;have g2:=hX.out.c2;have g3:=hX.out.c3;have gl:=hX.out.lt
 simp only at g0 g1 g2 g3
 go_enter Tryz.func44,Tryz.ntmps44
 go_wp2_with fail
 refine(ka.out _ _ _ h hn hba).mono ?_
 rintro e w1 ⟨rfl,mv1,k1,k2⟩
 clear g0 g1 g2 g3 gl
 have hX1:=bH (hX.out.step k2)
 have hh1:=bH k1
 have hst1:=bH ((StB.refl G b0 w mv).trans (StB.of k2))
 clear k1 k2
 have hpp1:0<(td ts a m).length:=by have:=hpos1;omega
 obtain⟨m1,hm1⟩ : ∃r,td ts a m=r:=⟨_,rfl⟩
 rw[hm1] at hh1 hpp1 hpos1 hia hbb hpos2 ⊢
 have hlq1:=bH (show (m1.length:Int)-1=(lstI m1:Int) by unfold lstI;omega)
 obtain⟨aa1,cc1,rfl⟩:=own_sl hh1.out.own
 have g0:=hX1.out.c0;have g1:=hX1.out.c1;have g2:=hX1.out.c2;have g3:=hX1.out.c3;have gf:=hX1.out.fz;have gl:=hX1.out.lt
 have hcm:=hh1.out.cm
 have hGl:G<w1.heap.size:=by have:=hh1.out.gB;have:=hh1.out.bl;omega
 have hml1:(m1.length:Int)≤600:=by have:=hh1.out.ml;omega
 have hmz1:(1:Int)≤(m1.length:Int):=by omega
 simp only at g0 g1 g2 g3
 go_wp2_with fail
 obtain⟨W1,hW1⟩ : ∃W,w1.setCell ⟨b0,1,none⟩ (.int .i64 ((m1.length:Int)-1))=W:=⟨_,rfl⟩
 have hX1s:=bH (hX1.out.set1 ((m1.length:Int)-1))
 have h1s:=bH (hh1.out.box hX1.out hBb 1 (.int .i64 ((m1.length:Int)-1)))
 have hst1s:=bH (hst1.out.box 1 (.int .i64 ((m1.length:Int)-1)))
 rw[hW1] at hX1s h1s hst1s ⊢
 rw[hlq1.out] at hX1s
 refine(kb.out _ _ _ h1s hia hbb).mono ?_
 rintro e w2 ⟨rfl,mv2,k1,k2⟩
 clear g0 g1 g2 g3 gl
 have hX2:=bH (hX1s.out.step k2)
 have hh2:=bH k1
 have hst2:=bH (hst1s.out.trans (StB.of k2))
 clear k1 k2
 have hpp2:0<(td ts b m1).length:=by have:=hpos2;omega
 obtain⟨m2,hm2⟩ : ∃r,td ts b m1=r:=⟨_,rfl⟩
 rw[hm2] at hh2 hpp2 hpos2 ⊢
 have hlq2:=bH (show (m2.length:Int)-1=(lstI m2:Int) by unfold lstI;omega)
 obtain⟨aa2,cc2,rfl⟩:=own_sl hh2.out.own
 have g0:=hX2.out.c0;have g1:=hX2.out.c1;have g2:=hX2.out.c2;have g3:=hX2.out.c3;have gf:=hX2.out.fz;have gl:=hX2.out.lt
 have hcm:=hh2.out.cm
 have hGl:G<w2.heap.size:=by have:=hh2.out.gB;have:=hh2.out.bl;omega
 have hml2:(m2.length:Int)≤600:=by have:=hh2.out.ml;omega
 have hmz2:(1:Int)≤(m2.length:Int):=by omega
 simp only at g0 g1 g2 g3
 go_wp2_with fail
 obtain⟨W2,hW2⟩ : ∃W,w2.setCell ⟨b0,2,none⟩ (.int .i64 ((m2.length:Int)-1))=W:=⟨_,rfl⟩
 have hX2s:=bH (hX2.out.set2 ((m2.length:Int)-1))
 have h2s:=bH (hh2.out.box hX2.out hBb 2 (.int .i64 ((m2.length:Int)-1)))
 have hst2s:=bH (hst2.out.box 2 (.int .i64 ((m2.length:Int)-1)))
 rw[hW2] at hX2s h2s hst2s ⊢
 rw[hlq2.out] at hX2s
 ((try simp only[Exit.inBlock,Exit.then]);first|(refine bodyPost_ret (results_none rfl _ _ _) rfl ?_)|(refine bodyPost_end (results_none rfl _ _ _) rfl ?_))
 subst hm2 hm1
 exact⟨rfl,_,h2s.out,hX2s.out,hst2s.out⟩
theorem rkids5 (B G b0:Nat) (sv:Value) (ts:List Nd) (w:World) (mv:Value) (m:List Nd) (a b:Nat) (c:Int) (n:Int) (nm u y z:ByteArray) (at_:Int) (h:Hid (TdW B G sv ts w mv m)) (hX:Hid (NdBox G w mv b0 ⟨5,a,b,c,n,nm,u,y,z,at_⟩)) (hBb:B≤b0) (hn:Hid (IntOk m)) (ka:Hid (TrP B G sv ts a)) (hba:(m.length:Int)+(a+1-bg (ksN ts) a)≤512) (hpos1:0<(td ts a m).length) (kb:Hid (TrP B G sv ts b)) (hia:Hid (IntOk (td ts a m))) (hbb:((td ts a m).length:Int)+(b+1-bg (ksN ts) b)≤512) (hpos2:0<(td ts b (td ts a m)).length) :
  Calls Tryz.prog 44 #[.pointer (some ⟨G,0,none⟩), .pointer (some ⟨b0,0,none⟩)] w (TrK B G b0 sv ts w mv (td ts b (td ts a m)) ⟨5,lstI (td ts a m),lstI (td ts b (td ts a m)),c,n,nm,u,y,z,at_⟩):=by
 have g0:=hX.out.c0;have g1:=hX.out.c1;have g2:=hX.out.c2;have g3:=hX.out.c3;have gl:=hX.out.lt
 simp only at g0 g1 g2 g3
 go_enter Tryz.func44,Tryz.ntmps44
 go_wp2_with fail
 refine(ka.out _ _ _ h hn hba).mono ?_
 rintro e w1 ⟨rfl,mv1,k1,k2⟩
 clear g0 g1 g2 g3 gl
 have hX1:=bH (hX.out.step k2)
 have hh1:=bH k1
 have hst1:=bH ((StB.refl G b0 w mv).trans (StB.of k2))
 clear k1 k2
 have hpp1:0<(td ts a m).length:=by have:=hpos1;omega
 obtain⟨m1,hm1⟩ : ∃r,td ts a m=r:=⟨_,rfl⟩
 rw[hm1] at hh1 hpp1 hpos1 hia hbb hpos2 ⊢
 have hlq1:=bH (show (m1.length:Int)-1=(lstI m1:Int) by unfold lstI;omega)
 obtain⟨aa1,cc1,rfl⟩:=own_sl hh1.out.own
 have g0:=hX1.out.c0;have g1:=hX1.out.c1;have g2:=hX1.out.c2;have g3:=hX1.out.c3;have gf:=hX1.out.fz;have gl:=hX1.out.lt
 have hcm:=hh1.out.cm
 have hGl:G<w1.heap.size:=by have:=hh1.out.gB;have:=hh1.out.bl;omega
 have hml1:(m1.length:Int)≤600:=by have:=hh1.out.ml;omega
 have hmz1:(1:Int)≤(m1.length:Int):=by omega
 simp only at g0 g1 g2 g3
 go_wp2_with fail
 obtain⟨W1,hW1⟩ : ∃W,w1.setCell ⟨b0,1,none⟩ (.int .i64 ((m1.length:Int)-1))=W:=⟨_,rfl⟩
 have hX1s:=bH (hX1.out.set1 ((m1.length:Int)-1))
 have h1s:=bH (hh1.out.box hX1.out hBb 1 (.int .i64 ((m1.length:Int)-1)))
 have hst1s:=bH (hst1.out.box 1 (.int .i64 ((m1.length:Int)-1)))
 rw[hW1] at hX1s h1s hst1s ⊢
 rw[hlq1.out] at hX1s
 refine(kb.out _ _ _ h1s hia hbb).mono ?_
 rintro e w2 ⟨rfl,mv2,k1,k2⟩
 clear g0 g1 g2 g3 gl
 have hX2:=bH (hX1s.out.step k2)
 have hh2:=bH k1
 have hst2:=bH (hst1s.out.trans (StB.of k2))
 clear k1 k2
 have hpp2:0<(td ts b m1).length:=by have:=hpos2;omega
 obtain⟨m2,hm2⟩ : ∃r,td ts b m1=r:=⟨_,rfl⟩
 rw[hm2] at hh2 hpp2 hpos2 ⊢
 have hlq2:=bH (show (m2.length:Int)-1=(lstI m2:Int) by unfold lstI;omega)
 obtain⟨aa2,cc2,rfl⟩:=own_sl hh2.out.own
 have g0:=hX2.out.c0;have g1:=hX2.out.c1;have g2:=hX2.out.c2;have g3:=hX2.out.c3;have gf:=hX2.out.fz;have gl:=hX2.out.lt
 have hcm:=hh2.out.cm
 have hGl:G<w2.heap.size:=by have:=hh2.out.gB;have:=hh2.out.bl;omega
 have hml2:(m2.length:Int)≤600:=by have:=hh2.out.ml;omega
 have hmz2:(1:Int)≤(m2.length:Int):=by omega
 simp only at g0 g1 g2 g3
 go_wp2_with fail
 obtain⟨W2,hW2⟩ : ∃W,w2.setCell ⟨b0,2,none⟩ (.int .i64 ((m2.length:Int)-1))=W:=⟨_,rfl⟩
 have hX2s:=bH (hX2.out.set2 ((m2.length:Int)-1))
 have h2s:=bH (hh2.out.box hX2.out hBb 2 (.int .i64 ((m2.length:Int)-1)))
 have hst2s:=bH (hst2.out.box 2 (.int .i64 ((m2.length:Int)-1)))
 rw[hW2] at hX2s h2s hst2s ⊢
 rw[hlq2.out] at hX2s
 ((try simp only[Exit.inBlock,Exit.then]);first|(refine bodyPost_ret (results_none rfl _ _ _) rfl ?_)|(refine bodyPost_end (results_none rfl _ _ _) rfl ?_))
 subst hm2 hm1
 exact⟨rfl,_,h2s.out,hX2s.out,hst2s.out⟩
theorem rkids6 (B G b0:Nat) (sv:Value) (ts:List Nd) (w:World) (mv:Value) (m:List Nd) (a b:Nat) (c:Int) (n:Int) (nm u y z:ByteArray) (at_:Int) (h:Hid (TdW B G sv ts w mv m)) (hX:Hid (NdBox G w mv b0 ⟨6,a,b,c,n,nm,u,y,z,at_⟩)) (hBb:B≤b0) (hn:Hid (IntOk m)) (ka:Hid (TrP B G sv ts a)) (hba:(m.length:Int)+(a+1-bg (ksN ts) a)≤512) (hpos1:0<(td ts a m).length) (kb:Hid (TrP B G sv ts b)) (hia:Hid (IntOk (td ts a m))) (hbb:((td ts a m).length:Int)+(b+1-bg (ksN ts) b)≤512) (hpos2:0<(td ts b (td ts a m)).length) :
  Calls Tryz.prog 44 #[.pointer (some ⟨G,0,none⟩), .pointer (some ⟨b0,0,none⟩)] w (TrK B G b0 sv ts w mv (td ts b (td ts a m)) ⟨6,lstI (td ts a m),lstI (td ts b (td ts a m)),c,n,nm,u,y,z,at_⟩):=by
 have g0:=hX.out.c0;have g1:=hX.out.c1;have g2:=hX.out.c2;have g3:=hX.out.c3;have gl:=hX.out.lt
 simp only at g0 g1 g2 g3
 go_enter Tryz.func44,Tryz.ntmps44
 go_wp2_with fail
 refine(ka.out _ _ _ h hn hba).mono ?_
 rintro e w1 ⟨rfl,mv1,k1,k2⟩
 clear g0 g1 g2 g3 gl
 have hX1:=bH (hX.out.step k2)
 have hh1:=bH k1
 have hst1:=bH ((StB.refl G b0 w mv).trans (StB.of k2))
 clear k1 k2
 have hpp1:0<(td ts a m).length:=by have:=hpos1;omega
 obtain⟨m1,hm1⟩ : ∃r,td ts a m=r:=⟨_,rfl⟩
 rw[hm1] at hh1 hpp1 hpos1 hia hbb hpos2 ⊢
 have hlq1:=bH (show (m1.length:Int)-1=(lstI m1:Int) by unfold lstI;omega)
 obtain⟨aa1,cc1,rfl⟩:=own_sl hh1.out.own
 have g0:=hX1.out.c0;have g1:=hX1.out.c1;have g2:=hX1.out.c2;have g3:=hX1.out.c3;have gf:=hX1.out.fz;have gl:=hX1.out.lt
 have hcm:=hh1.out.cm
 have hGl:G<w1.heap.size:=by have:=hh1.out.gB;have:=hh1.out.bl;omega
 have hml1:(m1.length:Int)≤600:=by have:=hh1.out.ml;omega
 have hmz1:(1:Int)≤(m1.length:Int):=by omega
 simp only at g0 g1 g2 g3
 go_wp2_with fail
 obtain⟨W1,hW1⟩ : ∃W,w1.setCell ⟨b0,1,none⟩ (.int .i64 ((m1.length:Int)-1))=W:=⟨_,rfl⟩
 have hX1s:=bH (hX1.out.set1 ((m1.length:Int)-1))
 have h1s:=bH (hh1.out.box hX1.out hBb 1 (.int .i64 ((m1.length:Int)-1)))
 have hst1s:=bH (hst1.out.box 1 (.int .i64 ((m1.length:Int)-1)))
 rw[hW1] at hX1s h1s hst1s ⊢
 rw[hlq1.out] at hX1s
 refine(kb.out _ _ _ h1s hia hbb).mono ?_
 rintro e w2 ⟨rfl,mv2,k1,k2⟩
 clear g0 g1 g2 g3 gl
 have hX2:=bH (hX1s.out.step k2)
 have hh2:=bH k1
 have hst2:=bH (hst1s.out.trans (StB.of k2))
 clear k1 k2
 have hpp2:0<(td ts b m1).length:=by have:=hpos2;omega
 obtain⟨m2,hm2⟩ : ∃r,td ts b m1=r:=⟨_,rfl⟩
 rw[hm2] at hh2 hpp2 hpos2 ⊢
 have hlq2:=bH (show (m2.length:Int)-1=(lstI m2:Int) by unfold lstI;omega)
 obtain⟨aa2,cc2,rfl⟩:=own_sl hh2.out.own
 have g0:=hX2.out.c0;have g1:=hX2.out.c1;have g2:=hX2.out.c2;have g3:=hX2.out.c3;have gf:=hX2.out.fz;have gl:=hX2.out.lt
 have hcm:=hh2.out.cm
 have hGl:G<w2.heap.size:=by have:=hh2.out.gB;have:=hh2.out.bl;omega
 have hml2:(m2.length:Int)≤600:=by have:=hh2.out.ml;omega
 have hmz2:(1:Int)≤(m2.length:Int):=by omega
 simp only at g0 g1 g2 g3
 go_wp2_with fail
 obtain⟨W2,hW2⟩ : ∃W,w2.setCell ⟨b0,2,none⟩ (.int .i64 ((m2.length:Int)-1))=W:=⟨_,rfl⟩
 have hX2s:=bH (hX2.out.set2 ((m2.length:Int)-1))
 have h2s:=bH (hh2.out.box hX2.out hBb 2 (.int .i64 ((m2.length:Int)-1)))
 have hst2s:=bH (hst2.out.box 2 (.int .i64 ((m2.length:Int)-1)))
 rw[hW2] at hX2s h2s hst2s ⊢
 rw[hlq2.out] at hX2s
 ((try simp only[Exit.inBlock,Exit.then]);first|(refine bodyPost_ret (results_none rfl _ _ _) rfl ?_)|(refine bodyPost_end (results_none rfl _ _ _) rfl ?_))
 subst hm2 hm1
 exact⟨rfl,_,h2s.out,hX2s.out,hst2s.out⟩
theorem rkids8 (B G b0:Nat) (sv:Value) (ts:List Nd) (w:World) (mv:Value) (m:List Nd) (a b:Nat) (c:Int) (n:Int) (nm u y z:ByteArray) (at_:Int) (h:Hid (TdW B G sv ts w mv m)) (hX:Hid (NdBox G w mv b0 ⟨8,a,b,c,n,nm,u,y,z,at_⟩)) (hBb:B≤b0) (hn:Hid (IntOk m)) (ka:Hid (TrP B G sv ts a)) (hba:(m.length:Int)+(a+1-bg (ksN ts) a)≤512) (hpos1:0<(td ts a m).length) (kb:Hid (TrP B G sv ts b)) (hia:Hid (IntOk (td ts a m))) (hbb:((td ts a m).length:Int)+(b+1-bg (ksN ts) b)≤512) (hpos2:0<(td ts b (td ts a m)).length) :
  Calls Tryz.prog 44 #[.pointer (some ⟨G,0,none⟩), .pointer (some ⟨b0,0,none⟩)] w (TrK B G b0 sv ts w mv (td ts b (td ts a m)) ⟨8,lstI (td ts a m),lstI (td ts b (td ts a m)),c,n,nm,u,y,z,at_⟩):=by
 have g0:=hX.out.c0;have g1:=hX.out.c1;have g2:=hX.out.c2;have g3:=hX.out.c3;have gl:=hX.out.lt
 simp only at g0 g1 g2 g3
 go_enter Tryz.func44,Tryz.ntmps44
 go_wp2_with fail
 refine(ka.out _ _ _ h hn hba).mono ?_
 rintro e w1 ⟨rfl,mv1,k1,k2⟩
 clear g0 g1 g2 g3 gl
 have hX1:=bH (hX.out.step k2)
 have hh1:=bH k1
 have hst1:=bH ((StB.refl G b0 w mv).trans (StB.of k2))
 clear k1 k2
 have hpp1:0<(td ts a m).length:=by have:=hpos1;omega
 obtain⟨m1,hm1⟩ : ∃r,td ts a m=r:=⟨_,rfl⟩
 rw[hm1] at hh1 hpp1 hpos1 hia hbb hpos2 ⊢
 have hlq1:=bH (show (m1.length:Int)-1=(lstI m1:Int) by unfold lstI;omega)
 obtain⟨aa1,cc1,rfl⟩:=own_sl hh1.out.own
 have g0:=hX1.out.c0;have g1:=hX1.out.c1;have g2:=hX1.out.c2;have g3:=hX1.out.c3;have gf:=hX1.out.fz;have gl:=hX1.out.lt
 have hcm:=hh1.out.cm
 have hGl:G<w1.heap.size:=by have:=hh1.out.gB;have:=hh1.out.bl;omega
 have hml1:(m1.length:Int)≤600:=by have:=hh1.out.ml;omega
 have hmz1:(1:Int)≤(m1.length:Int):=by omega
 simp only at g0 g1 g2 g3
 go_wp2_with fail
 obtain⟨W1,hW1⟩ : ∃W,w1.setCell ⟨b0,1,none⟩ (.int .i64 ((m1.length:Int)-1))=W:=⟨_,rfl⟩
 have hX1s:=bH (hX1.out.set1 ((m1.length:Int)-1))
 have h1s:=bH (hh1.out.box hX1.out hBb 1 (.int .i64 ((m1.length:Int)-1)))
 have hst1s:=bH (hst1.out.box 1 (.int .i64 ((m1.length:Int)-1)))
 rw[hW1] at hX1s h1s hst1s ⊢
 rw[hlq1.out] at hX1s
 refine(kb.out _ _ _ h1s hia hbb).mono ?_
 rintro e w2 ⟨rfl,mv2,k1,k2⟩
 clear g0 g1 g2 g3 gl
 have hX2:=bH (hX1s.out.step k2)
 have hh2:=bH k1
 have hst2:=bH (hst1s.out.trans (StB.of k2))
 clear k1 k2
 have hpp2:0<(td ts b m1).length:=by have:=hpos2;omega
 obtain⟨m2,hm2⟩ : ∃r,td ts b m1=r:=⟨_,rfl⟩
 rw[hm2] at hh2 hpp2 hpos2 ⊢
 have hlq2:=bH (show (m2.length:Int)-1=(lstI m2:Int) by unfold lstI;omega)
 obtain⟨aa2,cc2,rfl⟩:=own_sl hh2.out.own
 have g0:=hX2.out.c0;have g1:=hX2.out.c1;have g2:=hX2.out.c2;have g3:=hX2.out.c3;have gf:=hX2.out.fz;have gl:=hX2.out.lt
 have hcm:=hh2.out.cm
 have hGl:G<w2.heap.size:=by have:=hh2.out.gB;have:=hh2.out.bl;omega
 have hml2:(m2.length:Int)≤600:=by have:=hh2.out.ml;omega
 have hmz2:(1:Int)≤(m2.length:Int):=by omega
 simp only at g0 g1 g2 g3
 go_wp2_with fail
 obtain⟨W2,hW2⟩ : ∃W,w2.setCell ⟨b0,2,none⟩ (.int .i64 ((m2.length:Int)-1))=W:=⟨_,rfl⟩
 have hX2s:=bH (hX2.out.set2 ((m2.length:Int)-1))
 have h2s:=bH (hh2.out.box hX2.out hBb 2 (.int .i64 ((m2.length:Int)-1)))
 have hst2s:=bH (hst2.out.box 2 (.int .i64 ((m2.length:Int)-1)))
 rw[hW2] at hX2s h2s hst2s ⊢
 rw[hlq2.out] at hX2s
 ((try simp only[Exit.inBlock,Exit.then]);first|(refine bodyPost_ret (results_none rfl _ _ _) rfl ?_)|(refine bodyPost_end (results_none rfl _ _ _) rfl ?_))
 subst hm2 hm1
 exact⟨rfl,_,h2s.out,hX2s.out,hst2s.out⟩
theorem rkids10 (B G b0:Nat) (sv:Value) (ts:List Nd) (w:World) (mv:Value) (m:List Nd) (a b c:Nat) (n:Int) (nm u y z:ByteArray) (at_:Int) (h:Hid (TdW B G sv ts w mv m)) (hX:Hid (NdBox G w mv b0 ⟨10,a,b,c,n,nm,u,y,z,at_⟩)) (hBb:B≤b0) (hn:Hid (IntOk m)) (ka:Hid (TrP B G sv ts a)) (hba:(m.length:Int)+(a+1-bg (ksN ts) a)≤512) (hpos1:0<(td ts a m).length) (kb:Hid (TrP B G sv ts b)) (hia:Hid (IntOk (td ts a m))) (hbb:((td ts a m).length:Int)+(b+1-bg (ksN ts) b)≤512) (hpos2:0<(td ts b (td ts a m)).length) (kc:Hid (TrP B G sv ts c)) (hib:Hid (IntOk (td ts b (td ts a m)))) (hbc:((td ts b (td ts a m)).length:Int)+(c+1-bg (ksN ts) c)≤512) (hpos3:0<(td ts c (td ts b (td ts a m))).length) :
  Calls Tryz.prog 44 #[.pointer (some ⟨G,0,none⟩), .pointer (some ⟨b0,0,none⟩)] w (TrK B G b0 sv ts w mv (td ts c (td ts b (td ts a m))) ⟨10,lstI (td ts a m),lstI (td ts b (td ts a m)),lstI (td ts c (td ts b (td ts a m))),n,nm,u,y,z,at_⟩):=by
 have g0:=hX.out.c0;have g1:=hX.out.c1;have g2:=hX.out.c2;have g3:=hX.out.c3;have gl:=hX.out.lt
 simp only at g0 g1 g2 g3
 go_enter Tryz.func44,Tryz.ntmps44
 go_wp2_with fail
 refine(ka.out _ _ _ h hn hba).mono ?_
 rintro e w1 ⟨rfl,mv1,k1,k2⟩
 clear g0 g1 g2 g3 gl
 have hX1:=bH (hX.out.step k2)
 have hh1:=bH k1
 have hst1:=bH ((StB.refl G b0 w mv).trans (StB.of k2))
 clear k1 k2
 have hpp1:0<(td ts a m).length:=by have:=hpos1;omega
 obtain⟨m1,hm1⟩ : ∃r,td ts a m=r:=⟨_,rfl⟩
 rw[hm1] at hh1 hpp1 hpos1 hia hbb hpos2 hib hbc hpos3 ⊢
 have hlq1:=bH (show (m1.length:Int)-1=(lstI m1:Int) by unfold lstI;omega)
 obtain⟨aa1,cc1,rfl⟩:=own_sl hh1.out.own
 have g0:=hX1.out.c0;have g1:=hX1.out.c1;have g2:=hX1.out.c2;have g3:=hX1.out.c3;have gf:=hX1.out.fz;have gl:=hX1.out.lt
 have hcm:=hh1.out.cm
 have hGl:G<w1.heap.size:=by have:=hh1.out.gB;have:=hh1.out.bl;omega
 have hml1:(m1.length:Int)≤600:=by have:=hh1.out.ml;omega
 have hmz1:(1:Int)≤(m1.length:Int):=by omega
 simp only at g0 g1 g2 g3
 go_wp2_with fail
 obtain⟨W1,hW1⟩ : ∃W,w1.setCell ⟨b0,1,none⟩ (.int .i64 ((m1.length:Int)-1))=W:=⟨_,rfl⟩
 have hX1s:=bH (hX1.out.set1 ((m1.length:Int)-1))
 have h1s:=bH (hh1.out.box hX1.out hBb 1 (.int .i64 ((m1.length:Int)-1)))
 have hst1s:=bH (hst1.out.box 1 (.int .i64 ((m1.length:Int)-1)))
 rw[hW1] at hX1s h1s hst1s ⊢
 rw[hlq1.out] at hX1s
 refine(kb.out _ _ _ h1s hia hbb).mono ?_
 rintro e w2 ⟨rfl,mv2,k1,k2⟩
 clear g0 g1 g2 g3 gl
 have hX2:=bH (hX1s.out.step k2)
 have hh2:=bH k1
 have hst2:=bH (hst1s.out.trans (StB.of k2))
 clear k1 k2
 have hpp2:0<(td ts b m1).length:=by have:=hpos2;omega
 obtain⟨m2,hm2⟩ : ∃r,td ts b m1=r:=⟨_,rfl⟩
 rw[hm2] at hh2 hpp2 hpos2 hib hbc hpos3 ⊢
 have hlq2:=bH (show (m2.length:Int)-1=(lstI m2:Int) by unfold lstI;omega)
 obtain⟨aa2,cc2,rfl⟩:=own_sl hh2.out.own
 have g0:=hX2.out.c0;have g1:=hX2.out.c1;have g2:=hX2.out.c2;have g3:=hX2.out.c3;have gf:=hX2.out.fz;have gl:=hX2.out.lt
 have hcm:=hh2.out.cm
 have hGl:G<w2.heap.size:=by have:=hh2.out.gB;have:=hh2.out.bl;omega
 have hml2:(m2.length:Int)≤600:=by have:=hh2.out.ml;omega
 have hmz2:(1:Int)≤(m2.length:Int):=by omega
 simp only at g0 g1 g2 g3
 go_wp2_with fail
 obtain⟨W2,hW2⟩ : ∃W,w2.setCell ⟨b0,2,none⟩ (.int .i64 ((m2.length:Int)-1))=W:=⟨_,rfl⟩
 have hX2s:=bH (hX2.out.set2 ((m2.length:Int)-1))
 have h2s:=bH (hh2.out.box hX2.out hBb 2 (.int .i64 ((m2.length:Int)-1)))
 have hst2s:=bH (hst2.out.box 2 (.int .i64 ((m2.length:Int)-1)))
 rw[hW2] at hX2s h2s hst2s ⊢
 rw[hlq2.out] at hX2s
 refine(kc.out _ _ _ h2s hib hbc).mono ?_
 rintro e w3 ⟨rfl,mv3,k1,k2⟩
 clear g0 g1 g2 g3 gl
 have hX3:=bH (hX2s.out.step k2)
 have hh3:=bH k1
 have hst3:=bH (hst2s.out.trans (StB.of k2))
 clear k1 k2
 have hpp3:0<(td ts c m2).length:=by have:=hpos3;omega
 obtain⟨m3,hm3⟩ : ∃r,td ts c m2=r:=⟨_,rfl⟩
 rw[hm3] at hh3 hpp3 hpos3 ⊢
 have hlq3:=bH (show (m3.length:Int)-1=(lstI m3:Int) by unfold lstI;omega)
 obtain⟨aa3,cc3,rfl⟩:=own_sl hh3.out.own
 have g0:=hX3.out.c0;have g1:=hX3.out.c1;have g2:=hX3.out.c2;have g3:=hX3.out.c3;have gf:=hX3.out.fz;have gl:=hX3.out.lt
 have hcm:=hh3.out.cm
 have hGl:G<w3.heap.size:=by have:=hh3.out.gB;have:=hh3.out.bl;omega
 have hml3:(m3.length:Int)≤600:=by have:=hh3.out.ml;omega
 have hmz3:(1:Int)≤(m3.length:Int):=by omega
 simp only at g0 g1 g2 g3
 go_wp2_with fail
 obtain⟨W3,hW3⟩ : ∃W,w3.setCell ⟨b0,3,none⟩ (.int .i64 ((m3.length:Int)-1))=W:=⟨_,rfl⟩
 have hX3s:=bH (hX3.out.set3 ((m3.length:Int)-1))
 have h3s:=bH (hh3.out.box hX3.out hBb 3 (.int .i64 ((m3.length:Int)-1)))
 have hst3s:=bH (hst3.out.box 3 (.int .i64 ((m3.length:Int)-1)))
 rw[hW3] at hX3s h3s hst3s ⊢
 rw[hlq3.out] at hX3s
 ((try simp only[Exit.inBlock,Exit.then]);first|(refine bodyPost_ret (results_none rfl _ _ _) rfl ?_)|(refine bodyPost_end (results_none rfl _ _ _) rfl ?_))
 subst hm3 hm2 hm1
 exact⟨rfl,_,h3s.out,hX3s.out,hst3s.out⟩
end Go.Proofs.YthpcbgljbpmafaaGreatDoor
