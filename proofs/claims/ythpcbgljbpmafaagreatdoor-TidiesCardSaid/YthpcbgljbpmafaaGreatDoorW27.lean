/- The reference's tidier: walk, a choice. -/
import Derived.Test.YthpcbgljbpmafaaGreatDoorW26
set_option maxRecDepth 100000
set_option maxHeartbeats 8000000
namespace Go.Proofs.YthpcbgljbpmafaaGreatDoor
open Go.RowKit
set_option linter.unusedVariables false
set_option linter.unusedSimpArgs false
theorem nd_to2 (a:Option Addr) (m c n:Nat) (h:n≤c) (W:World):(Instr.slice 23 (.slice a m c) none (some (.int .i64 n)) none).run Tryz.prog W= .ok (.slice a n c) W:=by
 have hs : ∀W:World,(sizeOf 45).run Tryz.prog W= .ok 10 W:=fun _=>by kernel_rfl
 have he:Tryz.prog.elem 23=45:=by kernel_rfl
 rw[run_slice_h W 23 a m c (by rw[he];exact Tryz.underlying23) .i64 (n:Int) (by omega) (by omega),he,hs]
 cases a<;>simp[Result.andThen,sliced,Addr.add]
theorem rwalk7y (B G:Nat) (sv:Value) (ts:List Nd) (i:Nat) (w:World) (mv:Value) (m:List Nd) (R:List Nd) (a b c:Nat) (n:Int) (nm u y z:ByteArray) (at_:Int) (hx:ts.getD i nd0=⟨7,a,b,c,n,nm,u,y,z,at_⟩) (hi:i<ts.length) (h:Hid (TdW B G sv ts w mv m)) (hn:Hid (IntOk m)) (ka:Hid (TrP B G sv ts a)) (hba:(m.length:Int)+(a+1-bg (ksN ts) a)≤512) (hpos1:0<(td ts a m).length) (hpre:Hid ((td ts a m).take m.length=m)) (hk2:((td ts a m).getD (lstI (td ts a m)) nd0).k=2) (ih1:Hid (((td ts a m).getD (lstI (td ts a m)) nd0).n=1→ ∀W mv1,Hid (TdW B G sv ts W mv1 m)→Calls Tryz.prog 25 #[.pointer (some ⟨G,0,none⟩), .int .i64 b] W (TrM B G sv ts W mv1 R))) (ih2:Hid (¬ ((td ts a m).getD (lstI (td ts a m)) nd0).n=1→ ∀W mv1,Hid (TdW B G sv ts W mv1 m)→Calls Tryz.prog 25 #[.pointer (some ⟨G,0,none⟩), .int .i64 c] W (TrM B G sv ts W mv1 R))) :
  Calls Tryz.prog 25 #[.pointer (some ⟨G,0,none⟩), .int .i64 i] w (TrM B G sv ts w mv R):=by
 obtain⟨T,off,cp,rfl,hTB,hTG,hTs,hS⟩:=h.out.ni
 obtain⟨e0,e1,e2,e3,e4,e5,e6,e7,e8,e9⟩:=hS i hi
 rw[hx] at e0 e1 e2 e3 e4 e5 e6 e7 e8 e9
 simp only at e0 e1 e2 e3 e4 e5 e6 e7 e8 e9
 obtain⟨ma,mc,rfl⟩:=own_sl h.out.own
 have hsv:=h.out.cn
 have hcm:=h.out.cm
 have hGl:G<w.heap.size:=by have:=h.out.gB;have:=h.out.bl;omega
 have hi1:(i:Int)<(ts.length:Int):=by omega
 have hi0:(0:Int)≤(i:Int):=by omega
 clear hS hx hi
 go_enter Tryz.func25,Tryz.ntmps25
 go_wp2_with fail
 obtain⟨W0,hW0⟩ : ∃W,w.alloc (.cells #[.int .i64 7, .int .i64 a, .int .i64 b, .int .i64 c, .int .i64 n, .string nm, .string u, .string y, .string z, .int .i64 at_] 45)=W:=⟨_,rfl⟩
 obtain⟨hX,h2,hst,hBb⟩:=ndbox_lit (t:=⟨7,a,b,c,n,nm,u,y,z,at_⟩) h.out hW0
 rw[hW0]
 clear hW0 hsv hcm hGl e0 e1 e2 e3 e4 e5 e6 e7 e8 e9
 have hX:=bH hX
 have h2:=bH h2
 have hst:=bH hst
 have hmle:m.length≤(td ts a m).length:=by have:=congrArg List.length hpre.out;rw[List.length_take] at this;omega
 have hx0:=hX.out.c0;have hx1:=hX.out.c1
 simp only at hx0 hx1
 refine(ka.out _ _ _ h2 hn hba).mono ?_
 rintro e w1 ⟨rfl,mv1,k1,k2⟩
 clear hx0 hx1
 have hX1:=bH (hX.out.step k2)
 have hst1:=bH (hst.out.trans k2)
 obtain⟨m1,hm1⟩ : ∃r,td ts a m=r:=⟨_,rfl⟩
 rw[hm1] at k1 hpos1 hpre hk2 ih1 ih2 hmle
 obtain⟨aa,cc,rfl⟩:=own_sl k1.own
 have hq:m1.length=lstI m1+1:=by unfold lstI;omega
 obtain⟨g,rfl,hBg,hgs,_,hnc,hS1⟩:=own_at k1.own (p:=lstI m1) (by omega)
 obtain⟨t0,t1,t2,t3,t4,t5,t6,t7,t8,t9⟩:=hS1 (lstI m1) (by omega)
 simp only[Nat.zero_add] at t0 t1 t2 t3 t4 t5 t6 t7 t8 t9
 rw[hk2] at t0
 generalize m1.getD (lstI m1) nd0=lt at t1 t2 t3 t4 t5 t6 t7 t8 t9 ih1 ih2
 have hcm:=k1.cm
 rw[hq] at hcm
 have hml1:m1.length≤600:=k1.ml
 have hGw:G<w1.heap.size:=by have:=k1.gB;have:=k1.bl;omega
 have hh1:=bH k1
 obtain⟨p,hp⟩ : ∃p,lstI m1=p:=⟨_,rfl⟩
 rw[hp] at t0 t1 t2 t3 t4 t5 t6 t7 t8 t9 hcm hq
 have hqh:=bH hq
 have hpb:(p:Int)≤600:=by omega
 have hp0:(0:Int)≤(p:Int):=by omega
 have hmle2:m.length≤p+1:=by omega
 have hg0:=hX1.out.c0;have hg2:=hX1.out.c2;have hg3:=hX1.out.c3;have hgl:=hX1.out.lt
 simp only at hg0 hg2 hg3
 clear hS1 k1 k2 hq hp hm1 hpos1 hk2 hmle hnc
 go_upto_region 4 with fail
 go_region
 obtain⟨W2,hW2⟩ : ∃W,(w1.alloc (.cells #[.int .i64 2, .int .i64 lt.a, .int .i64 lt.b, .int .i64 lt.c, .int .i64 lt.n, .string lt.nm, .string lt.x, .string lt.y, .string lt.z, .int .i64 lt.p] 45)).drew=W:=⟨_,rfl⟩
 have hb2:Below w1.heap.size w1 W2:=by rw[← hW2];exact(below_alc _ _).drew
 have hC:Nd10 W2 w1.heap.size ⟨2,lt.a,lt.b,lt.c,lt.n,lt.nm,lt.x,lt.y,lt.z,lt.p⟩:=by rw[← hW2];exact(nd10_lit w1 _ _ _ _ rfl rfl).below ((Below.refl _ _).drew)
 rw[hW2]
 clear hW2 t0 t1 t2 t3 t4 t5 t6 t7 t8 t9 hcm hg0 hg2 hg3 hgl
 have hh2:=bH (hh1.out.below hb2)
 have hX2:=bH (hX1.out.step (Stp.below (nv:=Value.slice (some ⟨g,0,none⟩) m1.length cc) hb2))
 have hst2:=bH (hst1.out.next hb2)
 obtain⟨cl,c0,_,_,_,c4,_,_,_,_,_,cf⟩:=hC
 simp only at c0 c4
 have hcm:=hh2.out.cm
 rw[hqh.out] at hcm
 have hfr:=hh2.out.fg 1
 have hg0:=hX2.out.c0;have hg2:=hX2.out.c2;have hg3:=hX2.out.c3;have hgl:=hX2.out.lt
 simp only at hg0 hg2 hg3
 have hGw2:G<W2.heap.size:=by omega
 obtain⟨gS,hgS,_,hgs2,_,hncc,hS2⟩:=own_at hh2.out.own (p:=p) (by rw[hqh.out];omega)
 obtain rfl:g=gS:=by injection hgS with e;injection e
 have hnews:Hid (∀j v,(ndL m)[j]? = some v→(W2.alloc (.cells #[] 45)).cell? ((⟨g,0,none⟩:Addr).add j)=some v):=bH (by
  intro j v hj
  have e:(⟨g,0,none⟩:Addr).add j=⟨g,0+j,none⟩:=by simp[Addr.add];try omega
  rw[e,World.cell?_alloc_past _ _ _ hgs2]
  rw[← hpre.out,ndL_take,List.getElem?_take] at hj
  split at hj
  ·exact ndSl_get hS2 j v hj
  ·cases hj)
 have hown0:=bH (OwnN.fresh W2)
 have hmc:m.length≤cc:=by have:=hqh.out;omega
 have hnG : ¬ (Value.slice (some ⟨g,0,none⟩) m1.length cc).ownBlock=some G:=fun e=>by have:=(own_lt hh2.out.own G e).1;have:=hh2.out.gB;omega
 have hm512:m.length*112≤140737488351232:=by omega
 obtain⟨i0,hi,hz0,hz1,hz2⟩:=info_parts infoNd
 have hsl:=nd_to2 (some ⟨g,0,none⟩) (p+1) cc m.length hmc
 clear hS2 hgS hmle2
 go_wp2_with (at_builtin;refine wpList_append_own _ rfl (.tmp 42) (.tmp 48) 23 rfl W2.heap.size 45 i0 (.agg #[.int .i64 0, .int .i64 0, .int .i64 0, .int .i64 0, .int .i64 0, .string ByteArray.empty, .string ByteArray.empty, .string ByteArray.empty, .string ByteArray.empty, .int .i64 0]) 10 112 Tryz.underlying23 hi hz0 hz1 hz2 rfl (by decide) _ 0 [] rfl hown0.out ⟨g,0,none⟩ m.length cc (ndL m) rfl (ndL_len m) hnews.out (ndL_one m) (by unfold maxLen;omega) (by omega) (by simp) ?_)
 intro v' w3 hown1 hgr _
 have hbel:Below W2.heap.size W2 w3:=((Below.refl _ _).alloc (Nat.le_refl _) _).grown hgr (by simp) (by intro k hk;simp[Value.ownBlock] at hk;omega)
 (try rw[Nat.zero_add,List.nil_append] at hown1)
 have hon:OwnN W2.heap.size w3 v' m:=hown1
 clear hown1 hgr
 have hon2:OwnN B w3 v' m:=by
  refine⟨hon.1, ?_⟩
  have:=hh2.out.bl
  rcases hon.2 with e|⟨g,cap,cur,e1,e2,e3⟩
  ·exact .inl e
  ·exact .inr ⟨g,cap,cur,e1,by omega,e3⟩
 have hml2:m.length≤600:=h.out.ml
 have hM:=bH (TdW.setM hh2.out (Bar.of_below hbel) hon2 (fun k hk=> .inr (own_lt hon k hk).1) hml2)
 have hX3:=bH (hX2.out.step (Stp.below (nv:=Value.slice (some ⟨g,0,none⟩) m1.length cc) hbel))
 have d0:w3.cell? _=_:=carry hbel hgl hg0
 have d2:w3.cell? _=_:=carry hbel hgl hg2
 have d3:w3.cell? _=_:=carry hbel hgl hg3
 have d4:w3.cell? _=_:=carry hbel cl c4
 have dcm:w3.cell? _=_:=carry hbel hGw2 hcm
 have dfr:w3.frozen? ⟨G,1,none⟩=false:=((Bar.of_below (S:=fun _=>False) hbel).frozen (a:=⟨G,1,none⟩) hGw2 id).trans hfr
 have hsz3:=hbel.size
 have hn1:w1.heap.size≠G:=by omega
 have hn2:w.heap.size≠G:=hX2.out.gb
 obtain⟨va,vn,vc,rfl⟩ : ∃a n c,v'= .slice a n c:=by obtain⟨a,c,e⟩:=own_sl hon;exact⟨_,_,_,e⟩
 clear hon hon2 hbel c0 c4 cf hcm hfr hg0 hg2 hg3 hsl hi hz0 hz1 hz2
 obtain⟨q,hq⟩ : ∃q,lt.n=q:=⟨_,rfl⟩
 rw[hq] at d4 ih1 ih2
 clear hq
 by_cases hq1:q=1
 ·subst hq1
  go_wp2_with fail
  refine(ih1.out (by first|rfl|trivial) _ _ (bH hM.out.1)).mono ?_
  rintro e wz ⟨rfl,mvz,z1,z2⟩
  have z1:=bH z1
  have z3:=bH ((hst2.out.trans hM.out.2).trans z2)
  clear d0 d2 d3 d4 dcm dfr
  go_wp2_with fail
  ((try simp only[Exit.inBlock,Exit.then]);first|(refine bodyPost_ret (results_none rfl _ _ _) rfl ?_)|(refine bodyPost_end (results_none rfl _ _ _) rfl ?_))
  exact⟨rfl,mvz,z1.out,z3.out⟩
 ·go_wp2_with fail
  refine(ih2.out hq1 _ _ (bH hM.out.1)).mono ?_
  rintro e wz ⟨rfl,mvz,z1,z2⟩
  have z1:=bH z1
  have z3:=bH ((hst2.out.trans hM.out.2).trans z2)
  clear d0 d2 d3 d4 dcm dfr
  go_wp2_with fail
  ((try simp only[Exit.inBlock,Exit.then]);first|(refine bodyPost_ret (results_none rfl _ _ _) rfl ?_)|(refine bodyPost_end (results_none rfl _ _ _) rfl ?_))
  exact⟨rfl,mvz,z1.out,z3.out⟩
end Go.Proofs.YthpcbgljbpmafaaGreatDoor
