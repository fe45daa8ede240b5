/- The program's tidier: known. -/
import Derived.Test.YthpcbgljbpmafaaGreatDoorW22
set_option maxRecDepth 100000
set_option maxHeartbeats 8000000
namespace Go.Proofs.YthpcbgljbpmafaaGreatDoor
open Go.RowKit
set_option linter.unusedVariables false
set_option linter.unusedSimpArgs false
theorem tknown_any (B G:Nat) (sv:Value) (ts:List Nd) (w:World) (mv:Value) (m:List Nd) (k c n:Int) (nm u y z:ByteArray) (at_:Int) (p q:Nat) (h:Hid (TdW B G sv ts w mv m)) (hp:p<m.length) (hq:q<m.length) (hi:Hid (IntOk m)) (hn:0≤n∧n≤5) :
  Calls Tryz.prog 40 #[.pointer (some ⟨G,0,none⟩), .agg #[.int .i64 k, .int .i64 p, .int .i64 q, .int .i64 c, .int .i64 n, .string nm, .string u, .string y, .string z, .int .i64 at_]] w fun e w'=>(∃x,e= .returned (.tuple #[.agg #[.int .i64 x.k, .int .i64 x.a, .int .i64 x.b, .int .i64 x.c, .int .i64 x.n, .string x.nm, .string x.x, .string x.y, .string x.z, .int .i64 x.p], .bool (knownV ⟨k,p,q,c,n,nm,u,y,z,at_⟩ (m.getD p nd0) (m.getD q nd0)).isSome])∧(knownV ⟨k,p,q,c,n,nm,u,y,z,at_⟩ (m.getD p nd0) (m.getD q nd0)=none∨knownV ⟨k,p,q,c,n,nm,u,y,z,at_⟩ (m.getD p nd0) (m.getD q nd0)=some x))∧Below w.heap.size w w':=by
 obtain⟨a,cp,rfl⟩:=own_sl h.out.own
 obtain⟨g,rfl,hBg,hgs,_,hnc,hT⟩:=own_at h.out.own hp
 have hGl:G<w.heap.size:=by have:=h.out.gB;have:=h.out.bl;omega
 have hml:m.length≤600:=h.out.ml
 have hTp:=hT p hp
 have hTq:=hT q hq
 have hP:=hi.out _ (Tre.mem hp)
 have hQ:=hi.out _ (Tre.mem hq)
 generalize m.getD p nd0=tp at hTp hP ⊢
 generalize m.getD q nd0=tq at hTq hQ ⊢
 obtain⟨ka,a1,a2,a3,na,a5,a6,a7,a8,a9⟩:=tp
 obtain⟨kb,b1,b2,b3,nb,b5,b6,b7,b8,b9⟩:=tq
 obtain⟨p0,p1,p2,p3,p4,p5,p6,p7,p8,p9⟩:=hTp
 obtain⟨q0,q1,q2,q3,q4,q5,q6,q7,q8,q9⟩:=hTq
 simp only[Nat.zero_add] at p0 p1 p2 p3 p4 p5 p6 p7 p8 p9 q0 q1 q2 q3 q4 q5 q6 q7 q8 q9
 simp only at hP hQ
 obtain⟨K,hK⟩ : ∃r,knownV ⟨k,p,q,c,n,nm,u,y,z,at_⟩ ⟨ka,a1,a2,a3,na,a5,a6,a7,a8,a9⟩ ⟨kb,b1,b2,b3,nb,b5,b6,b7,b8,b9⟩=r:=⟨_,rfl⟩
 rw[hK]
 have hK:=bH hK
 have hP:=bH hP
 have hQ:=bH hQ
 have hcm:=h.out.cm
 have hp1:(p:Int)<(m.length:Int):=by omega
 have hp0:(0:Int)≤(p:Int):=by omega
 have hq1:(q:Int)<(m.length:Int):=by omega
 have hq0:(0:Int)≤(q:Int):=by omega
 clear hT
 go_enter Tryz.func40,Tryz.ntmps40
 go_upto_region 1 with fail
 obtain⟨W0,hW0⟩ : ∃W,(w.alloc (.cells #[.int .i64 k, .int .i64 p, .int .i64 q, .int .i64 c, .int .i64 n, .string nm, .string u, .string y, .string z, .int .i64 at_] 45)).alloc (.cells #[.int .i64 0, .int .i64 0, .int .i64 0, .int .i64 0, .int .i64 0, .string ⟨#[]⟩, .string ⟨#[]⟩, .string ⟨#[]⟩, .string ⟨#[]⟩, .int .i64 0] 45)=W:=⟨_,rfl⟩
 have hX:Nd10 W0 w.heap.size ⟨k,p,q,c,n,nm,u,y,z,at_⟩:=by rw[← hW0];exact(nd10_lit w _ _ _ _ rfl rfl).below (below_alc _ _)
 have hR:Nd10 W0 (w.heap.size+1) ⟨0,0,0,0,0,⟨#[]⟩,⟨#[]⟩,⟨#[]⟩,⟨#[]⟩,0⟩:=by rw[← hW0];exact nd10_lit _ _ _ _ _ (by simp) rfl
 have hb0:Below w.heap.size w W0:=by rw[← hW0];exact belA _ (below_alc _ _)
 rw[hW0]
 clear hW0
 have hcm:W0.cell? _=_:=carry hb0 hGl hcm
 have p0:W0.cell? _=_:=carry hb0 hgs p0
 have p1:W0.cell? _=_:=carry hb0 hgs p1
 have p2:W0.cell? _=_:=carry hb0 hgs p2
 have p3:W0.cell? _=_:=carry hb0 hgs p3
 have p4:W0.cell? _=_:=carry hb0 hgs p4
 have p5:W0.cell? _=_:=carry hb0 hgs p5
 have p6:W0.cell? _=_:=carry hb0 hgs p6
 have p7:W0.cell? _=_:=carry hb0 hgs p7
 have p8:W0.cell? _=_:=carry hb0 hgs p8
 have p9:W0.cell? _=_:=carry hb0 hgs p9
 have q0:W0.cell? _=_:=carry hb0 hgs q0
 have q1:W0.cell? _=_:=carry hb0 hgs q1
 have q2:W0.cell? _=_:=carry hb0 hgs q2
 have q3:W0.cell? _=_:=carry hb0 hgs q3
 have q4:W0.cell? _=_:=carry hb0 hgs q4
 have q5:W0.cell? _=_:=carry hb0 hgs q5
 have q6:W0.cell? _=_:=carry hb0 hgs q6
 have q7:W0.cell? _=_:=carry hb0 hgs q7
 have q8:W0.cell? _=_:=carry hb0 hgs q8
 have q9:W0.cell? _=_:=carry hb0 hgs q9
 have hXh:=bH hX
 have hRh:=bH hR
 have hb0h:=bH hb0
 obtain⟨xl,x0,x1,x2,x3,x4,x5,x6,x7,x8,x9,xf⟩:=hX
 obtain⟨rl,r0,r1,r2,r3,r4,r5,r6,r7,r8,r9,rf⟩:=hR
 simp only at x0 x1 x2 x3 x4 x5 x6 x7 x8 x9 r0 r1 r2 r3 r4 r5 r6 r7 r8 r9
 have hgW:g<W0.heap.size:=by have:=hb0.size;omega
 have hGW:G<W0.heap.size:=by have:=hb0.size;omega
 go_cut [6,7] (fun s6 s7 W=> ∃A C:Nat,s6= .pointer (some ⟨A,0,none⟩)∧s7= .pointer (some ⟨C,0,none⟩)∧Nd10 W A ⟨ka,a1,a2,a3,na,a5,a6,a7,a8,a9⟩∧Nd10 W C ⟨kb,b1,b2,b3,nb,b5,b6,b7,b8,b9⟩∧Below W0.heap.size W0 W)
 case first=>
  clear x0 x3 x4 x5 x6 x7 x8 x9 xf r0 r1 r2 r3 r4 r5 r6 r7 r8 r9 rf
  go_region
  all_goals (go_wp2_with fail;go_meet)
  ·exact⟨W0.heap.size,W0.heap.size+1,rfl,rfl,(nd10_lit W0 _ _ _ _ rfl rfl).below ((below_alc _ _).drew),(nd10_lit _ _ _ _ _ (by simp) rfl).below ((Below.refl _ _).drew),(belA _ (below_alc _ _)).drew⟩
  ·exact⟨W0.heap.size+1,W0.heap.size,rfl,rfl,(nd10_lit _ _ _ _ _ (by simp) rfl).below ((Below.refl _ _).drew),(nd10_lit W0 _ _ _ _ rfl rfl).below ((below_alc _ _).drew),(belA _ (below_alc _ _)).drew⟩
 case rest=>
  rename World=>W2
  obtain⟨A,C,rfl,rfl,hA,hB,hb2⟩:=hcut
  clear p0 p1 p2 p3 p4 p5 p6 p7 p8 p9 q0 q1 q2 q3 q4 q5 q6 q7 q8 q9 xl x0 x1 x2 x3 x4 x5 x6 x7 x8 x9 xf rl r0 r1 r2 r3 r4 r5 r6 r7 r8 r9 rf hcm
  have hX2:=hXh.out.below hb2
  have hR2:=hRh.out.below hb2
  have hb3:Below w.heap.size w W2:=belT hb0h.out hb2
  have hXk:=bH hX2
  have hRk:=bH hR2
  clear hb0 hb2
  obtain⟨xl,x0,x1,x2,x3,x4,x5,x6,x7,x8,x9,xf⟩:=hX2
  obtain⟨rl,r0,r1,r2,r3,r4,r5,r6,r7,r8,r9,rf⟩:=hR2
  obtain⟨al,ac0,_,_,_,ac4,_,_,_,_,_,_⟩:=hA
  obtain⟨bl,bc0,_,_,_,bc4,_,_,_,_,_,_⟩:=hB
  simp only at x0 x1 x2 x3 x4 x5 x6 x7 x8 x9 r0 r1 r2 r3 r4 r5 r6 r7 r8 r9 ac0 ac4 bc0 bc4
  by_cases h1:ka=1
  ·subst h1
   by_cases h2:kb=1
   ·subst h2
    have kA:=bH (apply_any n na nb W2 hn (hP.out rfl) (hQ.out rfl))
    go_wp2_with fail
    refine kA.out.mono ?_
    rintro e w3 ⟨he,hb4⟩
    obtain⟨⟨o1,o2⟩,ho⟩ : ∃o,prmV n na nb=o:=⟨_,rfl⟩
    rw[ho] at he
    have e9:ocV (o1,o2)= .agg #[.int .i64 o1, .int .i64 o2]:=rfl
    rw[e9] at he
    subst he
    have hX3:=hXk.out.below hb4
    have hR3:=hRk.out.below hb4
    have hb5:Below w.heap.size w w3:=belT hb3 hb4
    have ho:=bH ho
    clear xl x0 x1 x2 x3 x4 x5 x6 x7 x8 x9 xf rl r0 r1 r2 r3 r4 r5 r6 r7 r8 r9 rf ac0 ac4 bc0 bc4 al bl hb3 hb4 kA e9
    obtain⟨xl,x0,x1,x2,x3,x4,x5,x6,x7,x8,x9,xf⟩:=hX3
    obtain⟨rl,r0,r1,r2,r3,r4,r5,r6,r7,r8,r9,rf⟩:=hR3
    simp only at x0 x1 x2 x3 x4 x5 x6 x7 x8 x9 r0 r1 r2 r3 r4 r5 r6 r7 r8 r9
    by_cases h3:o1=1
    ·subst h3
     have hN:Hid (K=some (lfN 2 o2 at_)):=bH (by rw[← hK.out];simp[knownV,ho.out])
     go_wp2_with fail
     refine bodyPost_ret (v:= .tuple #[.agg #[.int .i64 2, .int .i64 0, .int .i64 0, .int .i64 0, .int .i64 o2, .string ⟨#[]⟩, .string ⟨#[]⟩, .string ⟨#[]⟩, .string ⟨#[]⟩, .int .i64 at_], .bool true]) (by simp[results,Tryz.results40,go_sem,r0,r1,r2,r3,r4,r5,r6,r7,r8,r9,rf,rl,x9,xl,xf]) rfl ⟨⟨lfN 2 o2 at_,by rw[hN.out];rfl, .inr hN.out⟩,bZ⟩
    ·by_cases h4:o1=0
     ·subst h4
      by_cases h5:0≤o2
      ·have hN:Hid (K=some (lfN 1 o2 at_)):=bH (by rw[← hK.out];simp[knownV,ho.out,h5])
       go_wp2_with fail
       refine bodyPost_ret (v:= .tuple #[.agg #[.int .i64 1, .int .i64 0, .int .i64 0, .int .i64 0, .int .i64 o2, .string ⟨#[]⟩, .string ⟨#[]⟩, .string ⟨#[]⟩, .string ⟨#[]⟩, .int .i64 at_], .bool true]) (by simp[results,Tryz.results40,go_sem,r0,r1,r2,r3,r4,r5,r6,r7,r8,r9,rf,rl,x9,xl,xf]) rfl ⟨⟨lfN 1 o2 at_,by rw[hN.out];rfl, .inr hN.out⟩,bZ⟩
      ·have hN:Hid (K=none):=bH (by rw[← hK.out];simp[knownV,ho.out,h5])
       go_wp2_with fail
       refine bodyPost_ret (v:= .tuple #[.agg #[.int .i64 0, .int .i64 0, .int .i64 0, .int .i64 0, .int .i64 0, .string ⟨#[]⟩, .string ⟨#[]⟩, .string ⟨#[]⟩, .string ⟨#[]⟩, .int .i64 0], .bool false]) (by simp[results,Tryz.results40,go_sem,r0,r1,r2,r3,r4,r5,r6,r7,r8,r9,rf,rl]) rfl ⟨⟨⟨0,0,0,0,0,⟨#[]⟩,⟨#[]⟩,⟨#[]⟩,⟨#[]⟩,0⟩,by rw[hN.out];rfl, .inl hN.out⟩,bZ⟩
     ·have hN:Hid (K=none):=bH (by rw[← hK.out];simp[knownV,ho.out,h3,h4])
      go_wp2_with fail
      refine bodyPost_ret (v:= .tuple #[.agg #[.int .i64 0, .int .i64 0, .int .i64 0, .int .i64 0, .int .i64 0, .string ⟨#[]⟩, .string ⟨#[]⟩, .string ⟨#[]⟩, .string ⟨#[]⟩, .int .i64 0], .bool false]) (by simp[results,Tryz.results40,go_sem,r0,r1,r2,r3,r4,r5,r6,r7,r8,r9,rf,rl]) rfl ⟨⟨⟨0,0,0,0,0,⟨#[]⟩,⟨#[]⟩,⟨#[]⟩,⟨#[]⟩,0⟩,by rw[hN.out];rfl, .inl hN.out⟩,bZ⟩
   ·have hN:Hid (K=none):=bH (by rw[← hK.out];simp[knownV,h2])
    go_wp2_with fail
    refine bodyPost_ret (v:= .tuple #[.agg #[.int .i64 0, .int .i64 0, .int .i64 0, .int .i64 0, .int .i64 0, .string ⟨#[]⟩, .string ⟨#[]⟩, .string ⟨#[]⟩, .string ⟨#[]⟩, .int .i64 0], .bool false]) (by simp[results,Tryz.results40,go_sem,r0,r1,r2,r3,r4,r5,r6,r7,r8,r9,rf,rl]) rfl ⟨⟨⟨0,0,0,0,0,⟨#[]⟩,⟨#[]⟩,⟨#[]⟩,⟨#[]⟩,0⟩,by rw[hN.out];rfl, .inl hN.out⟩,bZ⟩
  ·have hN:Hid (K=none):=bH (by rw[← hK.out];simp[knownV,h1])
   go_wp2_with fail
   refine bodyPost_ret (v:= .tuple #[.agg #[.int .i64 0, .int .i64 0, .int .i64 0, .int .i64 0, .int .i64 0, .string ⟨#[]⟩, .string ⟨#[]⟩, .string ⟨#[]⟩, .string ⟨#[]⟩, .int .i64 0], .bool false]) (by simp[results,Tryz.results40,go_sem,r0,r1,r2,r3,r4,r5,r6,r7,r8,r9,rf,rl]) rfl ⟨⟨⟨0,0,0,0,0,⟨#[]⟩,⟨#[]⟩,⟨#[]⟩,⟨#[]⟩,0⟩,by rw[hN.out];rfl, .inl hN.out⟩,bZ⟩
end Go.Proofs.YthpcbgljbpmafaaGreatDoor
