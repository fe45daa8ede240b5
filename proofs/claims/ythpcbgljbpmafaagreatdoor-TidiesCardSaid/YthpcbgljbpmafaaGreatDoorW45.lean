/- The reference's parser: an expression, and what stands behind 'handle'. Written by gen_rk4.py. -/
import Derived.Test.YthpcbgljbpmafaaGreatDoorW44
set_option maxRecDepth 100000
set_option maxHeartbeats 8000000
namespace Go.Proofs.YthpcbgljbpmafaaGreatDoor
open Go.RowKit
set_option linter.unusedVariables false
set_option linter.unusedSimpArgs false
def ExK (B G:Nat) (tv:Value) (ts:List Tk) (en:Int) (F:Nat) (d:Int) (f:PS→Except PE (Nat × PS)):Prop:= ∀w nv R,PkX B G tv ts en w nv R→Calls Tryz.prog F #[.pointer (some ⟨G,0,none⟩), .int .i64 d] w (RkN B G tv ts en w nv (R >>= f))
theorem PkX.box {B G:Nat} {tv:Value} {ts:List Tk} {en:Int} {w:World} {nv:Value} {R:Except PE PS} {b:Nat} {t:Nd} (h:PkX B G tv ts en w nv R) (hx:NdBox G w nv b t) (hB:B≤b) (o:Nat) (v:Value):PkX B G tv ts en (w.setCell ⟨b,o,none⟩ v) nv R:=by
 have hb:Bar (fun k=>k=b) w (w.setCell ⟨b,o,none⟩ v):=Bar.set (S:=fun k=>k=b) ⟨b,o,none⟩ v rfl
 have k1 : ∀st er,PkW B G tv ts en w nv st er→PkW B G tv ts en (w.setCell ⟨b,o,none⟩ v) nv st er:=fun st er hw=>hw.bar hb (fun e=>hx.gb e.symm) (fun k hk _ e=>by omega) (fun k hk e=>hx.ob (e▸hk))
 cases R with
 | ok st=>obtain⟨p,h⟩:=h;exact⟨p,k1 st _ h⟩
 | error e=>obtain⟨h0,st,h⟩:=h;exact⟨h0,st,k1 st e h⟩
theorem NdBox.newK {B G:Nat} {tv:Value} {ts:List Tk} {en:Int} {w:World} {nv:Value} {R:Except PE PS} (h:PkX B G tv ts en w nv R) (t:Nd):NdBox G (w.alloc (.cells #[.int .i64 t.k, .int .i64 t.a, .int .i64 t.b, .int .i64 t.c, .int .i64 t.n, .string t.nm, .string t.x, .string t.y, .string t.z, .int .i64 t.p] 45)) nv w.heap.size t:=by
 obtain⟨h1,h2,h3⟩:=h.lt
 obtain⟨⟨y0,y1,y2,y3,y4,y5,y6,y7,y8,y9⟩,_,hs⟩:=nd_box w _ t rfl
 exact⟨y0,y1,y2,y3,y4,y5,y6,y7,y8,y9,fun o=>by simp[go_sem],by omega,fun e=>by have:=(h3 _ e).1;omega,hs,TyAt.new _ _ _⟩
theorem isX_not {ts:List Tk} {R:Except PE PS} {u v:List UInt8} (h:isX ts R u=true) (hv:u≠v):isX ts R v=false:=by
 obtain⟨st,rfl,hi,_⟩:=isX_ok h
 have h:isP ts st.i u=true:=h
 show isP ts st.i v=false
 unfold isP at h ⊢
 rw[List.getElem?_eq_getElem hi] at h ⊢
 simp only[Bool.and_eq_true,beq_iff_eq] at h
 dsimp only
 rw[h.2]
 simp[hv]
theorem here_at {ts:List Tk} {en:Int} {R:Except PE PS} {u:List UInt8} {z:Int} (h:isX ts R u=true) (hz : ∀st,R= .ok st→z=hereP ts en st.i):(peekX ts en R).at_=z:=by
 obtain⟨st,rfl,_,_⟩:=isX_ok h
 rw[peek_here,hz st rfl]
theorem rexpr_fun (B G:Nat) (tv:Value) (ts:List Tk) (en:Int) (dd:Int) (hd0:0≤dd) (hd:dd≤40) (htl:ts.length≤1000000) (e:PS→Except PE (Nat × PS)) (kE:Hid (ExK B G tv ts en 53 (dd+1) e)) (w:World) (nv:Value) (R:Except PE PS) (h:Hid (PkX B G tv ts en w nv R)) (hq:Hid (isX ts R kwFun=true)) :
  Calls Tryz.prog 53 #[.pointer (some ⟨G,0,none⟩), .int .i64 dd] w (RkN B G tv ts en w nv (R >>= openP ts en e)):=by
 obtain⟨st0,hst0,_,_⟩:=isX_ok hq.out
 have h1 : ∃p,PkW B G tv ts en w nv st0 (0,p):=by have:=h.out;rw[hst0] at this;exact this
 obtain⟨p0,h1⟩:=h1
 have hcc:=h1.c
 have hgl:G<w.heap.size:=by have:=h1.gB;have:=h1.bl;omega
 clear hst0 h1
 have hnd : ¬ (40:Int)<dd:=by omega
 have k0:=bH (rhere_any B G tv ts en w nv R h)
 go_enter Tryz.func53,Tryz.ntmps53
 go_wp2_with fail
 refine k0.out.mono ?_
 rintro e0 v0 ⟨z,rfl,hb0,hz⟩
 have hz:=bH hz
 have hx0:=bH (NdBox.newK (h.out.below hb0) ⟨0,0,0,0,0,⟨#[]⟩,⟨#[]⟩,⟨#[]⟩,⟨#[]⟩,z⟩)
 have hp0:=bH ((h.out.below hb0).below (below_alc v0 (.cells #[.int .i64 0, .int .i64 0, .int .i64 0, .int .i64 0, .int .i64 0, .string ⟨#[]⟩, .string ⟨#[]⟩, .string ⟨#[]⟩, .string ⟨#[]⟩, .int .i64 z] 45)))
 have hS0:=bH (show Stp G w nv (v0.alloc (.cells #[.int .i64 0, .int .i64 0, .int .i64 0, .int .i64 0, .int .i64 0, .string ⟨#[]⟩, .string ⟨#[]⟩, .string ⟨#[]⟩, .string ⟨#[]⟩, .int .i64 z] 45)) nv from (Stp.below hb0).next (below_alc v0 (.cells #[.int .i64 0, .int .i64 0, .int .i64 0, .int .i64 0, .int .i64 0, .string ⟨#[]⟩, .string ⟨#[]⟩, .string ⟨#[]⟩, .string ⟨#[]⟩, .int .i64 z] 45)))
 have hBb:=bH (show B≤v0.heap.size from (h.out.below hb0).lt.2.1)
 have hbb:=bH (show w.heap.size≤v0.heap.size from hb0.size)
 clear k0 hb0 hcc hgl
 have k1:=bH (rtake_any B G tv ts en _ nv R htl kwFun hp0)
 rw[hq.out] at k1
 go_wp2_with fail
 refine k1.out.mono ?_
 rintro e1 w1 ⟨rfl,hq1,hb1⟩
 have hs1:=bH (show Stp G _ nv w1 nv from Stp.of hb1)
 have hx1:=bH (hx0.out.step hs1.out)
 have hS1:=bH (hS0.out.trans hs1.out)
 have hp1:=bH hq1
 clear k1 hx0 hS0 hp0 hs1 hb1 hq1
 have heq:=bH (op_fun (en:=en) (e:=e) hq.out)
 rw[here_at hq.out hz.out] at heq
 generalize takeX ts R kwFun=R1 at hp1 heq
 have cs:=hx1.out.c0;have cf:=hx1.out.fz;have cl:=hx1.out.lt
 have hx1k0:=bH (hx1.out.set0 3)
 have hp1k0:=bH (hp1.out.box hx1.out hBb.out 0 (.int .i64 3))
 have hS1k0:=bH (hS1.out.store hbb.out 0 (.int .i64 3))
 clear hx1 hp1 hS1
 have hx1:=hx1k0;have hp1:=hp1k0;have hS1:=hS1k0
 clear hx1k0 hp1k0 hS1k0
 go_wp2_with fail
 clear cs cf cl
 refine(rname_any B G tv ts en _ nv _ htl hp1).mono ?_
 rintro e2 w2 ⟨x2,rfl,⟨hq2,hb2⟩,hv2⟩
 have hs2:=bH (show Stp G _ nv w2 nv from Stp.of hb2)
 clear hb2
 have hv2:=bH hv2
 have hy2:=bH (hx1.out.step hs2.out)
 have hx2:=bH (hy2.out.set6 x2)
 have hp2:=bH (hq2.box hy2.out hBb.out 6 (.string x2))
 have hS2:=bH ((hS1.out.trans hs2.out).store hbb.out 6 (.string x2))
 have cs:=hy2.out.c6;have cf:=hy2.out.fz;have cl:=hy2.out.lt
 clear hx1 hS1 hp1 hs2 hq2
 clear hy2
 go_wp2_with fail
 clear cs cf cl
 refine(rwant_any B G tv ts en _ nv _ htl sgArrow hp2).mono ?_
 rintro e3 w3 ⟨rfl,hq3,hb3⟩
 have hs3:=bH (show Stp G _ nv w3 nv from Stp.of hb3)
 have hx3:=bH (hx2.out.step hs3.out)
 have hS3:=bH (hS2.out.trans hs3.out)
 have hp3:=bH hq3
 clear hx2 hS2 hp2 hs3 hb3 hq3
 go_wp2_with fail
 refine(kE.out _ nv _ hp3.out).mono ?_
 rintro e4 w4 ⟨a4,nv4,rfl,hq4,hs4,hv4⟩
 have hs4:=bH hs4
 have hv4:=bH hv4
 have hy4:=bH (hx3.out.step hs4.out)
 have hx4:=bH (hy4.out.set1 a4)
 have hp4:=bH (hq4.box hy4.out hBb.out 1 (.int .i64 a4))
 have hS4:=bH ((hS3.out.trans hs4.out).store hbb.out 1 (.int .i64 a4))
 have cs:=hy4.out.c1;have cf:=hy4.out.fz;have cl:=hy4.out.lt
 clear hx3 hS3 hp3 hs4 hq4
 clear cs cf cl
 have c0:=hy4.out.c0
 have c1:=hy4.out.c1
 have c2:=hy4.out.c2
 have c3:=hy4.out.c3
 have c4:=hy4.out.c4
 have c5:=hy4.out.c5
 have c6:=hy4.out.c6
 have c7:=hy4.out.c7
 have c8:=hy4.out.c8
 have c9:=hy4.out.c9
 have cf:=hy4.out.fz;have cl:=hy4.out.lt
 try dsimp only at c0 c1 c2 c3 c4 c5 c6 c7 c8 c9
 have k4:=bH (rput_any B G tv ts en _ nv4 _ ⟨3,a4,0,0,0,⟨#[]⟩,x2,⟨#[]⟩,⟨#[]⟩,z⟩ hp4)
 have he:=bH ((fun_eq (ts:=ts) (en:=en) (e:=e) (beg:=z) (R:=R1) hv2.out hv4.out).trans heq.out)
 go_wp2_with fail
 refine k4.out.mono ?_
 rintro e4 w4 ⟨v,nv4,rfl,hp4,hs4,hv4⟩
 have hfin:Hid (RkN B G tv ts en w nv (R >>= openP ts en e) (.returned (.int .i64 v)) w4):=bH (by rw[← he.out];exact⟨v,nv4,rfl,hp4,hS4.out.trans hs4,hv4⟩)
 clear k4 hp4 hs4 hv4 he c0 c1 c2 c3 c4 c5 c6 c7 c8 c9 cf cl
 go_wp2_with fail
 go_ret
 exact hfin.out
theorem rexpr_let (B G:Nat) (tv:Value) (ts:List Tk) (en:Int) (dd:Int) (hd0:0≤dd) (hd:dd≤40) (htl:ts.length≤1000000) (e:PS→Except PE (Nat × PS)) (kE:Hid (ExK B G tv ts en 53 (dd+1) e)) (w:World) (nv:Value) (R:Except PE PS) (h:Hid (PkX B G tv ts en w nv R)) (hq0:Hid (isX ts R kwFun=false)) (hq:Hid (isX ts R kwLet=true)) (hq2:Hid (isX ts (takeX ts R kwLet) kwRec=false)) :
  Calls Tryz.prog 53 #[.pointer (some ⟨G,0,none⟩), .int .i64 dd] w (RkN B G tv ts en w nv (R >>= openP ts en e)):=by
 obtain⟨st0,hst0,_,_⟩:=isX_ok hq.out
 have h1 : ∃p,PkW B G tv ts en w nv st0 (0,p):=by have:=h.out;rw[hst0] at this;exact this
 obtain⟨p0,h1⟩:=h1
 have hcc:=h1.c
 have hgl:G<w.heap.size:=by have:=h1.gB;have:=h1.bl;omega
 clear hst0 h1
 have hnd : ¬ (40:Int)<dd:=by omega
 have k0:=bH (rhere_any B G tv ts en w nv R h)
 go_enter Tryz.func53,Tryz.ntmps53
 go_wp2_with fail
 refine k0.out.mono ?_
 rintro e0 v0 ⟨z,rfl,hb0,hz⟩
 have hz:=bH hz
 have hx0:=bH (NdBox.newK (h.out.below hb0) ⟨0,0,0,0,0,⟨#[]⟩,⟨#[]⟩,⟨#[]⟩,⟨#[]⟩,z⟩)
 have hp0:=bH ((h.out.below hb0).below (below_alc v0 (.cells #[.int .i64 0, .int .i64 0, .int .i64 0, .int .i64 0, .int .i64 0, .string ⟨#[]⟩, .string ⟨#[]⟩, .string ⟨#[]⟩, .string ⟨#[]⟩, .int .i64 z] 45)))
 have hS0:=bH (show Stp G w nv (v0.alloc (.cells #[.int .i64 0, .int .i64 0, .int .i64 0, .int .i64 0, .int .i64 0, .string ⟨#[]⟩, .string ⟨#[]⟩, .string ⟨#[]⟩, .string ⟨#[]⟩, .int .i64 z] 45)) nv from (Stp.below hb0).next (below_alc v0 (.cells #[.int .i64 0, .int .i64 0, .int .i64 0, .int .i64 0, .int .i64 0, .string ⟨#[]⟩, .string ⟨#[]⟩, .string ⟨#[]⟩, .string ⟨#[]⟩, .int .i64 z] 45)))
 have hBb:=bH (show B≤v0.heap.size from (h.out.below hb0).lt.2.1)
 have hbb:=bH (show w.heap.size≤v0.heap.size from hb0.size)
 clear k0 hb0 hcc hgl
 have k1:=bH (rtake_any B G tv ts en _ nv R htl kwFun hp0)
 rw[hq0.out] at k1
 go_wp2_with fail
 refine k1.out.mono ?_
 rintro e1 w1 ⟨rfl,hq1,hb1⟩
 have hs1:=bH (show Stp G _ nv w1 nv from Stp.of hb1)
 have hx1:=bH (hx0.out.step hs1.out)
 have hS1:=bH (hS0.out.trans hs1.out)
 rw[take_no hq0.out] at hq1
 have hp1:=bH hq1
 clear k1 hx0 hS0 hp0 hs1 hb1 hq1
 have k2:=bH (rtake_any B G tv ts en _ nv R htl kwLet hp1)
 rw[hq.out] at k2
 go_wp2_with fail
 refine k2.out.mono ?_
 rintro e2 w2 ⟨rfl,hq2,hb2⟩
 have hs2:=bH (show Stp G _ nv w2 nv from Stp.of hb2)
 have hx2:=bH (hx1.out.step hs2.out)
 have hS2:=bH (hS1.out.trans hs2.out)
 have hp2:=bH hq2
 clear k2 hx1 hS1 hp1 hs2 hb2 hq2
 have cs:=hx2.out.c0;have cf:=hx2.out.fz;have cl:=hx2.out.lt
 have hx2k0:=bH (hx2.out.set0 5)
 have hp2k0:=bH (hp2.out.box hx2.out hBb.out 0 (.int .i64 5))
 have hS2k0:=bH (hS2.out.store hbb.out 0 (.int .i64 5))
 clear hx2 hp2 hS2
 have hx2:=hx2k0;have hp2:=hp2k0;have hS2:=hS2k0
 clear hx2k0 hp2k0 hS2k0
 have k3:=bH (rtake_any B G tv ts en _ nv (takeX ts R kwLet) htl kwRec hp2)
 rw[hq2.out] at k3
 go_wp2_with fail
 clear cs cf cl
 refine k3.out.mono ?_
 rintro e3 w3 ⟨rfl,hq3,hb3⟩
 have hs3:=bH (show Stp G _ nv w3 nv from Stp.of hb3)
 have hx3:=bH (hx2.out.step hs3.out)
 have hS3:=bH (hS2.out.trans hs3.out)
 rw[take_no hq2.out] at hq3
 have hp3:=bH hq3
 clear k3 hx2 hS2 hp2 hs3 hb3 hq3
 have heq:=bH (op_let (en:=en) (e:=e) hq0.out hq.out hq2.out)
 rw[here_at hq.out hz.out] at heq
 generalize takeX ts R kwLet=R1 at hp3 heq
 go_wp2_with fail
 refine(rname_any B G tv ts en _ nv _ htl hp3).mono ?_
 rintro e4 w4 ⟨x4,rfl,⟨hq4,hb4⟩,hv4⟩
 have hs4:=bH (show Stp G _ nv w4 nv from Stp.of hb4)
 clear hb4
 have hv4:=bH hv4
 have hy4:=bH (hx3.out.step hs4.out)
 have hx4:=bH (hy4.out.set6 x4)
 have hp4:=bH (hq4.box hy4.out hBb.out 6 (.string x4))
 have hS4:=bH ((hS3.out.trans hs4.out).store hbb.out 6 (.string x4))
 have cs:=hy4.out.c6;have cf:=hy4.out.fz;have cl:=hy4.out.lt
 clear hx3 hS3 hp3 hs4 hq4
 clear hy4
 have g0:=hx4.out.c0
 try dsimp only at g0
 go_wp2_with fail
 clear cs cf cl
 clear g0
 refine(rwant_any B G tv ts en _ nv _ htl sgEq hp4).mono ?_
 rintro e5 w5 ⟨rfl,hq5,hb5⟩
 have hs5:=bH (show Stp G _ nv w5 nv from Stp.of hb5)
 have hx5:=bH (hx4.out.step hs5.out)
 have hS5:=bH (hS4.out.trans hs5.out)
 have hp5:=bH hq5
 clear hx4 hS4 hp4 hs5 hb5 hq5
 go_wp2_with fail
 refine(kE.out _ nv _ hp5.out).mono ?_
 rintro e6 w6 ⟨a6,nv6,rfl,hq6,hs6,hv6⟩
 have hs6:=bH hs6
 have hv6:=bH hv6
 have hy6:=bH (hx5.out.step hs6.out)
 have hx6:=bH (hy6.out.set1 a6)
 have hp6:=bH (hq6.box hy6.out hBb.out 1 (.int .i64 a6))
 have hS6:=bH ((hS5.out.trans hs6.out).store hbb.out 1 (.int .i64 a6))
 have cs:=hy6.out.c1;have cf:=hy6.out.fz;have cl:=hy6.out.lt
 clear hx5 hS5 hp5 hs6 hq6
 clear hy6
 go_wp2_with fail
 clear cs cf cl
 refine(rwant_any B G tv ts en _ nv6 _ htl kwIn hp6).mono ?_
 rintro e7 w7 ⟨rfl,hq7,hb7⟩
 have hs7:=bH (show Stp G _ nv6 w7 nv6 from Stp.of hb7)
 have hx7:=bH (hx6.out.step hs7.out)
 have hS7:=bH (hS6.out.trans hs7.out)
 have hp7:=bH hq7
 clear hx6 hS6 hp6 hs7 hb7 hq7
 go_wp2_with fail
 refine(kE.out _ nv6 _ hp7.out).mono ?_
 rintro e8 w8 ⟨a8,nv8,rfl,hq8,hs8,hv8⟩
 have hs8:=bH hs8
 have hv8:=bH hv8
 have hy8:=bH (hx7.out.step hs8.out)
 have hx8:=bH (hy8.out.set2 a8)
 have hp8:=bH (hq8.box hy8.out hBb.out 2 (.int .i64 a8))
 have hS8:=bH ((hS7.out.trans hs8.out).store hbb.out 2 (.int .i64 a8))
 have cs:=hy8.out.c2;have cf:=hy8.out.fz;have cl:=hy8.out.lt
 clear hx7 hS7 hp7 hs8 hq8
 clear cs cf cl
 have c0:=hy8.out.c0
 have c1:=hy8.out.c1
 have c2:=hy8.out.c2
 have c3:=hy8.out.c3
 have c4:=hy8.out.c4
 have c5:=hy8.out.c5
 have c6:=hy8.out.c6
 have c7:=hy8.out.c7
 have c8:=hy8.out.c8
 have c9:=hy8.out.c9
 have cf:=hy8.out.fz;have cl:=hy8.out.lt
 try dsimp only at c0 c1 c2 c3 c4 c5 c6 c7 c8 c9
 have k4:=bH (rput_any B G tv ts en _ nv8 _ ⟨5,a6,a8,0,0,⟨#[]⟩,x4,⟨#[]⟩,⟨#[]⟩,z⟩ hp8)
 have he:=bH ((plet_eq (ts:=ts) (en:=en) (e:=e) (beg:=z) (R:=R1) hv4.out hv6.out hv8.out).trans heq.out)
 go_wp2_with fail
 refine k4.out.mono ?_
 rintro e4 w4 ⟨v,nv4,rfl,hp4,hs4,hv4⟩
 have hfin:Hid (RkN B G tv ts en w nv (R >>= openP ts en e) (.returned (.int .i64 v)) w4):=bH (by rw[← he.out];exact⟨v,nv4,rfl,hp4,hS8.out.trans hs4,hv4⟩)
 clear k4 hp4 hs4 hv4 he c0 c1 c2 c3 c4 c5 c6 c7 c8 c9 cf cl
 go_wp2_with fail
 go_ret
 exact hfin.out
theorem rexpr_rec (B G:Nat) (tv:Value) (ts:List Tk) (en:Int) (dd:Int) (hd0:0≤dd) (hd:dd≤40) (htl:ts.length≤1000000) (e:PS→Except PE (Nat × PS)) (kE:Hid (ExK B G tv ts en 53 (dd+1) e)) (w:World) (nv:Value) (R:Except PE PS) (h:Hid (PkX B G tv ts en w nv R)) (hq0:Hid (isX ts R kwFun=false)) (hq:Hid (isX ts R kwLet=true)) (hq2:Hid (isX ts (takeX ts R kwLet) kwRec=true)) :
  Calls Tryz.prog 53 #[.pointer (some ⟨G,0,none⟩), .int .i64 dd] w (RkN B G tv ts en w nv (R >>= openP ts en e)):=by
 obtain⟨st0,hst0,_,_⟩:=isX_ok hq.out
 have h1 : ∃p,PkW B G tv ts en w nv st0 (0,p):=by have:=h.out;rw[hst0] at this;exact this
 obtain⟨p0,h1⟩:=h1
 have hcc:=h1.c
 have hgl:G<w.heap.size:=by have:=h1.gB;have:=h1.bl;omega
 clear hst0 h1
 have hnd : ¬ (40:Int)<dd:=by omega
 have k0:=bH (rhere_any B G tv ts en w nv R h)
 go_enter Tryz.func53,Tryz.ntmps53
 go_wp2_with fail
 refine k0.out.mono ?_
 rintro e0 v0 ⟨z,rfl,hb0,hz⟩
 have hz:=bH hz
 have hx0:=bH (NdBox.newK (h.out.below hb0) ⟨0,0,0,0,0,⟨#[]⟩,⟨#[]⟩,⟨#[]⟩,⟨#[]⟩,z⟩)
 have hp0:=bH ((h.out.below hb0).below (below_alc v0 (.cells #[.int .i64 0, .int .i64 0, .int .i64 0, .int .i64 0, .int .i64 0, .string ⟨#[]⟩, .string ⟨#[]⟩, .string ⟨#[]⟩, .string ⟨#[]⟩, .int .i64 z] 45)))
 have hS0:=bH (show Stp G w nv (v0.alloc (.cells #[.int .i64 0, .int .i64 0, .int .i64 0, .int .i64 0, .int .i64 0, .string ⟨#[]⟩, .string ⟨#[]⟩, .string ⟨#[]⟩, .string ⟨#[]⟩, .int .i64 z] 45)) nv from (Stp.below hb0).next (below_alc v0 (.cells #[.int .i64 0, .int .i64 0, .int .i64 0, .int .i64 0, .int .i64 0, .string ⟨#[]⟩, .string ⟨#[]⟩, .string ⟨#[]⟩, .string ⟨#[]⟩, .int .i64 z] 45)))
 have hBb:=bH (show B≤v0.heap.size from (h.out.below hb0).lt.2.1)
 have hbb:=bH (show w.heap.size≤v0.heap.size from hb0.size)
 clear k0 hb0 hcc hgl
 have k1:=bH (rtake_any B G tv ts en _ nv R htl kwFun hp0)
 rw[hq0.out] at k1
 go_wp2_with fail
 refine k1.out.mono ?_
 rintro e1 w1 ⟨rfl,hq1,hb1⟩
 have hs1:=bH (show Stp G _ nv w1 nv from Stp.of hb1)
 have hx1:=bH (hx0.out.step hs1.out)
 have hS1:=bH (hS0.out.trans hs1.out)
 rw[take_no hq0.out] at hq1
 have hp1:=bH hq1
 clear k1 hx0 hS0 hp0 hs1 hb1 hq1
 have k2:=bH (rtake_any B G tv ts en _ nv R htl kwLet hp1)
 rw[hq.out] at k2
 go_wp2_with fail
 refine k2.out.mono ?_
 rintro e2 w2 ⟨rfl,hq2,hb2⟩
 have hs2:=bH (show Stp G _ nv w2 nv from Stp.of hb2)
 have hx2:=bH (hx1.out.step hs2.out)
 have hS2:=bH (hS1.out.trans hs2.out)
 have hp2:=bH hq2
 clear k2 hx1 hS1 hp1 hs2 hb2 hq2
 have cs:=hx2.out.c0;have cf:=hx2.out.fz;have cl:=hx2.out.lt
 have hx2k0:=bH (hx2.out.set0 5)
 have hp2k0:=bH (hp2.out.box hx2.out hBb.out 0 (.int .i64 5))
 have hS2k0:=bH (hS2.out.store hbb.out 0 (.int .i64 5))
 clear hx2 hp2 hS2
 have hx2:=hx2k0;have hp2:=hp2k0;have hS2:=hS2k0
 clear hx2k0 hp2k0 hS2k0
 have k3:=bH (rtake_any B G tv ts en _ nv (takeX ts R kwLet) htl kwRec hp2)
 rw[hq2.out] at k3
 go_wp2_with fail
 clear cs cf cl
 refine k3.out.mono ?_
 rintro e3 w3 ⟨rfl,hq3,hb3⟩
 have hs3:=bH (show Stp G _ nv w3 nv from Stp.of hb3)
 have hx3:=bH (hx2.out.step hs3.out)
 have hS3:=bH (hS2.out.trans hs3.out)
 have hp3:=bH hq3
 clear k3 hx2 hS2 hp2 hs3 hb3 hq3
 have heq:=bH (op_rec (en:=en) (e:=e) hq0.out hq.out hq2.out)
 rw[here_at hq.out hz.out] at heq
 generalize takeX ts (takeX ts R kwLet) kwRec=R1 at hp3 heq
 have cs:=hx3.out.c0;have cf:=hx3.out.fz;have cl:=hx3.out.lt
 have hx3k0:=bH (hx3.out.set0 6)
 have hp3k0:=bH (hp3.out.box hx3.out hBb.out 0 (.int .i64 6))
 have hS3k0:=bH (hS3.out.store hbb.out 0 (.int .i64 6))
 clear hx3 hp3 hS3
 have hx3:=hx3k0;have hp3:=hp3k0;have hS3:=hS3k0
 clear hx3k0 hp3k0 hS3k0
 go_wp2_with fail
 clear cs cf cl
 refine(rname_any B G tv ts en _ nv _ htl hp3).mono ?_
 rintro e4 w4 ⟨x4,rfl,⟨hq4,hb4⟩,hv4⟩
 have hs4:=bH (show Stp G _ nv w4 nv from Stp.of hb4)
 clear hb4
 have hv4:=bH hv4
 have hy4:=bH (hx3.out.step hs4.out)
 have hx4:=bH (hy4.out.set6 x4)
 have hp4:=bH (hq4.box hy4.out hBb.out 6 (.string x4))
 have hS4:=bH ((hS3.out.trans hs4.out).store hbb.out 6 (.string x4))
 have cs:=hy4.out.c6;have cf:=hy4.out.fz;have cl:=hy4.out.lt
 clear hx3 hS3 hp3 hs4 hq4
 clear hy4
 have g0:=hx4.out.c0
 try dsimp only at g0
 go_wp2_with fail
 clear cs cf cl
 refine(rname_any B G tv ts en _ nv _ htl hp4).mono ?_
 rintro e5 w5 ⟨x5,rfl,⟨hq5,hb5⟩,hv5⟩
 have hs5:=bH (show Stp G _ nv w5 nv from Stp.of hb5)
 clear hb5 g0
 have hv5:=bH hv5
 have hy5:=bH (hx4.out.step hs5.out)
 have hx5:=bH (hy5.out.set7 x5)
 have hp5:=bH (hq5.box hy5.out hBb.out 7 (.string x5))
 have hS5:=bH ((hS4.out.trans hs5.out).store hbb.out 7 (.string x5))
 have cs:=hy5.out.c7;have cf:=hy5.out.fz;have cl:=hy5.out.lt
 clear hx4 hS4 hp4 hs5 hq5 hy5
 go_wp2_with fail
 clear cs cf cl
 refine(rwant_any B G tv ts en _ nv _ htl sgEq hp5).mono ?_
 rintro e6 w6 ⟨rfl,hq6,hb6⟩
 have hs6:=bH (show Stp G _ nv w6 nv from Stp.of hb6)
 have hx6:=bH (hx5.out.step hs6.out)
 have hS6:=bH (hS5.out.trans hs6.out)
 have hp6:=bH hq6
 clear hx5 hS5 hp5 hs6 hb6 hq6
 go_wp2_with fail
 refine(kE.out _ nv _ hp6.out).mono ?_
 rintro e7 w7 ⟨a7,nv7,rfl,hq7,hs7,hv7⟩
 have hs7:=bH hs7
 have hv7:=bH hv7
 have hy7:=bH (hx6.out.step hs7.out)
 have hx7:=bH (hy7.out.set1 a7)
 have hp7:=bH (hq7.box hy7.out hBb.out 1 (.int .i64 a7))
 have hS7:=bH ((hS6.out.trans hs7.out).store hbb.out 1 (.int .i64 a7))
 have cs:=hy7.out.c1;have cf:=hy7.out.fz;have cl:=hy7.out.lt
 clear hx6 hS6 hp6 hs7 hq7
 clear hy7
 go_wp2_with fail
 clear cs cf cl
 refine(rwant_any B G tv ts en _ nv7 _ htl kwIn hp7).mono ?_
 rintro e8 w8 ⟨rfl,hq8,hb8⟩
 have hs8:=bH (show Stp G _ nv7 w8 nv7 from Stp.of hb8)
 have hx8:=bH (hx7.out.step hs8.out)
 have hS8:=bH (hS7.out.trans hs8.out)
 have hp8:=bH hq8
 clear hx7 hS7 hp7 hs8 hb8 hq8
 go_wp2_with fail
 refine(kE.out _ nv7 _ hp8.out).mono ?_
 rintro e9 w9 ⟨a9,nv9,rfl,hq9,hs9,hv9⟩
 have hs9:=bH hs9
 have hv9:=bH hv9
 have hy9:=bH (hx8.out.step hs9.out)
 have hx9:=bH (hy9.out.set2 a9)
 have hp9:=bH (hq9.box hy9.out hBb.out 2 (.int .i64 a9))
 have hS9:=bH ((hS8.out.trans hs9.out).store hbb.out 2 (.int .i64 a9))
 have cs:=hy9.out.c2;have cf:=hy9.out.fz;have cl:=hy9.out.lt
 clear hx8 hS8 hp8 hs9 hq9
 clear cs cf cl
 have c0:=hy9.out.c0
 have c1:=hy9.out.c1
 have c2:=hy9.out.c2
 have c3:=hy9.out.c3
 have c4:=hy9.out.c4
 have c5:=hy9.out.c5
 have c6:=hy9.out.c6
 have c7:=hy9.out.c7
 have c8:=hy9.out.c8
 have c9:=hy9.out.c9
 have cf:=hy9.out.fz;have cl:=hy9.out.lt
 try dsimp only at c0 c1 c2 c3 c4 c5 c6 c7 c8 c9
 have k4:=bH (rput_any B G tv ts en _ nv9 _ ⟨6,a7,a9,0,0,⟨#[]⟩,x4,x5,⟨#[]⟩,z⟩ hp9)
 have he:=bH ((prec_eq (ts:=ts) (en:=en) (e:=e) (beg:=z) (R:=R1) hv4.out hv5.out hv7.out hv9.out).trans heq.out)
 go_wp2_with fail
 refine k4.out.mono ?_
 rintro e4 w4 ⟨v,nv4,rfl,hp4,hs4,hv4⟩
 have hfin:Hid (RkN B G tv ts en w nv (R >>= openP ts en e) (.returned (.int .i64 v)) w4):=bH (by rw[← he.out];exact⟨v,nv4,rfl,hp4,hS9.out.trans hs4,hv4⟩)
 clear k4 hp4 hs4 hv4 he c0 c1 c2 c3 c4 c5 c6 c7 c8 c9 cf cl
 go_wp2_with fail
 go_ret
 exact hfin.out
theorem rexpr_if (B G:Nat) (tv:Value) (ts:List Tk) (en:Int) (dd:Int) (hd0:0≤dd) (hd:dd≤40) (htl:ts.length≤1000000) (e:PS→Except PE (Nat × PS)) (kE:Hid (ExK B G tv ts en 53 (dd+1) e)) (w:World) (nv:Value) (R:Except PE PS) (h:Hid (PkX B G tv ts en w nv R)) (hq0:Hid (isX ts R kwFun=false)) (hq1:Hid (isX ts R kwLet=false)) (hq:Hid (isX ts R kwIf=true)) :
  Calls Tryz.prog 53 #[.pointer (some ⟨G,0,none⟩), .int .i64 dd] w (RkN B G tv ts en w nv (R >>= openP ts en e)):=by
 obtain⟨st0,hst0,_,_⟩:=isX_ok hq.out
 have h1 : ∃p,PkW B G tv ts en w nv st0 (0,p):=by have:=h.out;rw[hst0] at this;exact this
 obtain⟨p0,h1⟩:=h1
 have hcc:=h1.c
 have hgl:G<w.heap.size:=by have:=h1.gB;have:=h1.bl;omega
 clear hst0 h1
 have hnd : ¬ (40:Int)<dd:=by omega
 have k0:=bH (rhere_any B G tv ts en w nv R h)
 go_enter Tryz.func53,Tryz.ntmps53
 go_wp2_with fail
 refine k0.out.mono ?_
 rintro e0 v0 ⟨z,rfl,hb0,hz⟩
 have hz:=bH hz
 have hx0:=bH (NdBox.newK (h.out.below hb0) ⟨0,0,0,0,0,⟨#[]⟩,⟨#[]⟩,⟨#[]⟩,⟨#[]⟩,z⟩)
 have hp0:=bH ((h.out.below hb0).below (below_alc v0 (.cells #[.int .i64 0, .int .i64 0, .int .i64 0, .int .i64 0, .int .i64 0, .string ⟨#[]⟩, .string ⟨#[]⟩, .string ⟨#[]⟩, .string ⟨#[]⟩, .int .i64 z] 45)))
 have hS0:=bH (show Stp G w nv (v0.alloc (.cells #[.int .i64 0, .int .i64 0, .int .i64 0, .int .i64 0, .int .i64 0, .string ⟨#[]⟩, .string ⟨#[]⟩, .string ⟨#[]⟩, .string ⟨#[]⟩, .int .i64 z] 45)) nv from (Stp.below hb0).next (below_alc v0 (.cells #[.int .i64 0, .int .i64 0, .int .i64 0, .int .i64 0, .int .i64 0, .string ⟨#[]⟩, .string ⟨#[]⟩, .string ⟨#[]⟩, .string ⟨#[]⟩, .int .i64 z] 45)))
 have hBb:=bH (show B≤v0.heap.size from (h.out.below hb0).lt.2.1)
 have hbb:=bH (show w.heap.size≤v0.heap.size from hb0.size)
 clear k0 hb0 hcc hgl
 have k1:=bH (rtake_any B G tv ts en _ nv R htl kwFun hp0)
 rw[hq0.out] at k1
 go_wp2_with fail
 refine k1.out.mono ?_
 rintro e1 w1 ⟨rfl,hq1,hb1⟩
 have hs1:=bH (show Stp G _ nv w1 nv from Stp.of hb1)
 have hx1:=bH (hx0.out.step hs1.out)
 have hS1:=bH (hS0.out.trans hs1.out)
 rw[take_no hq0.out] at hq1
 have hp1:=bH hq1
 clear k1 hx0 hS0 hp0 hs1 hb1 hq1
 have k2:=bH (rtake_any B G tv ts en _ nv R htl kwLet hp1)
 rw[hq1.out] at k2
 go_wp2_with fail
 refine k2.out.mono ?_
 rintro e2 w2 ⟨rfl,hq2,hb2⟩
 have hs2:=bH (show Stp G _ nv w2 nv from Stp.of hb2)
 have hx2:=bH (hx1.out.step hs2.out)
 have hS2:=bH (hS1.out.trans hs2.out)
 rw[take_no hq1.out] at hq2
 have hp2:=bH hq2
 clear k2 hx1 hS1 hp1 hs2 hb2 hq2
 have k3:=bH (rtake_any B G tv ts en _ nv R htl kwIf hp2)
 rw[hq.out] at k3
 go_wp2_with fail
 refine k3.out.mono ?_
 rintro e3 w3 ⟨rfl,hq3,hb3⟩
 have hs3:=bH (show Stp G _ nv w3 nv from Stp.of hb3)
 have hx3:=bH (hx2.out.step hs3.out)
 have hS3:=bH (hS2.out.trans hs3.out)
 have hp3:=bH hq3
 clear k3 hx2 hS2 hp2 hs3 hb3 hq3
 have heq:=bH (op_if (en:=en) (e:=e) hq0.out hq1.out hq.out)
 rw[here_at hq.out hz.out] at heq
 generalize takeX ts R kwIf=R1 at hp3 heq
 have cs:=hx3.out.c0;have cf:=hx3.out.fz;have cl:=hx3.out.lt
 have hx3k0:=bH (hx3.out.set0 7)
 have hp3k0:=bH (hp3.out.box hx3.out hBb.out 0 (.int .i64 7))
 have hS3k0:=bH (hS3.out.store hbb.out 0 (.int .i64 7))
 clear hx3 hp3 hS3
 have hx3:=hx3k0;have hp3:=hp3k0;have hS3:=hS3k0
 clear hx3k0 hp3k0 hS3k0
 go_wp2_with fail
 clear cs cf cl
 refine(kE.out _ nv _ hp3.out).mono ?_
 rintro e4 w4 ⟨a4,nv4,rfl,hq4,hs4,hv4⟩
 have hs4:=bH hs4
 have hv4:=bH hv4
 have hy4:=bH (hx3.out.step hs4.out)
 have hx4:=bH (hy4.out.set1 a4)
 have hp4:=bH (hq4.box hy4.out hBb.out 1 (.int .i64 a4))
 have hS4:=bH ((hS3.out.trans hs4.out).store hbb.out 1 (.int .i64 a4))
 have cs:=hy4.out.c1;have cf:=hy4.out.fz;have cl:=hy4.out.lt
 clear hx3 hS3 hp3 hs4 hq4
 clear hy4
 go_wp2_with fail
 clear cs cf cl
 refine(rwant_any B G tv ts en _ nv4 _ htl kwThen hp4).mono ?_
 rintro e5 w5 ⟨rfl,hq5,hb5⟩
 have hs5:=bH (show Stp G _ nv4 w5 nv4 from Stp.of hb5)
 have hx5:=bH (hx4.out.step hs5.out)
 have hS5:=bH (hS4.out.trans hs5.out)
 have hp5:=bH hq5
 clear hx4 hS4 hp4 hs5 hb5 hq5
 go_wp2_with fail
 refine(kE.out _ nv4 _ hp5.out).mono ?_
 rintro e6 w6 ⟨a6,nv6,rfl,hq6,hs6,hv6⟩
 have hs6:=bH hs6
 have hv6:=bH hv6
 have hy6:=bH (hx5.out.step hs6.out)
 have hx6:=bH (hy6.out.set2 a6)
 have hp6:=bH (hq6.box hy6.out hBb.out 2 (.int .i64 a6))
 have hS6:=bH ((hS5.out.trans hs6.out).store hbb.out 2 (.int .i64 a6))
 have cs:=hy6.out.c2;have cf:=hy6.out.fz;have cl:=hy6.out.lt
 clear hx5 hS5 hp5 hs6 hq6
 clear hy6
 go_wp2_with fail
 clear cs cf cl
 refine(rwant_any B G tv ts en _ nv6 _ htl kwElse hp6).mono ?_
 rintro e7 w7 ⟨rfl,hq7,hb7⟩
 have hs7:=bH (show Stp G _ nv6 w7 nv6 from Stp.of hb7)
 have hx7:=bH (hx6.out.step hs7.out)
 have hS7:=bH (hS6.out.trans hs7.out)
 have hp7:=bH hq7
 clear hx6 hS6 hp6 hs7 hb7 hq7
 go_wp2_with fail
 refine(kE.out _ nv6 _ hp7.out).mono ?_
 rintro e8 w8 ⟨a8,nv8,rfl,hq8,hs8,hv8⟩
 have hs8:=bH hs8
 have hv8:=bH hv8
 have hy8:=bH (hx7.out.step hs8.out)
 have hx8:=bH (hy8.out.set3 a8)
 have hp8:=bH (hq8.box hy8.out hBb.out 3 (.int .i64 a8))
 have hS8:=bH ((hS7.out.trans hs8.out).store hbb.out 3 (.int .i64 a8))
 have cs:=hy8.out.c3;have cf:=hy8.out.fz;have cl:=hy8.out.lt
 clear hx7 hS7 hp7 hs8 hq8
 clear cs cf cl
 have c0:=hy8.out.c0
 have c1:=hy8.out.c1
 have c2:=hy8.out.c2
 have c3:=hy8.out.c3
 have c4:=hy8.out.c4
 have c5:=hy8.out.c5
 have c6:=hy8.out.c6
 have c7:=hy8.out.c7
 have c8:=hy8.out.c8
 have c9:=hy8.out.c9
 have cf:=hy8.out.fz;have cl:=hy8.out.lt
 try dsimp only at c0 c1 c2 c3 c4 c5 c6 c7 c8 c9
 have k4:=bH (rput_any B G tv ts en _ nv8 _ ⟨7,a4,a6,a8,0,⟨#[]⟩,⟨#[]⟩,⟨#[]⟩,⟨#[]⟩,z⟩ hp8)
 have he:=bH ((pif_eq (ts:=ts) (en:=en) (e:=e) (beg:=z) (R:=R1) hv4.out hv6.out hv8.out).trans heq.out)
 go_wp2_with fail
 refine k4.out.mono ?_
 rintro e4 w4 ⟨v,nv4,rfl,hp4,hs4,hv4⟩
 have hfin:Hid (RkN B G tv ts en w nv (R >>= openP ts en e) (.returned (.int .i64 v)) w4):=bH (by rw[← he.out];exact⟨v,nv4,rfl,hp4,hS8.out.trans hs4,hv4⟩)
 clear k4 hp4 hs4 hv4 he c0 c1 c2 c3 c4 c5 c6 c7 c8 c9 cf cl
 go_wp2_with fail
 go_ret
 exact hfin.out
theorem rexpr_cmp (B G:Nat) (tv:Value) (ts:List Tk) (en:Int) (dd:Int) (hd0:0≤dd) (hd:dd≤40) (htl:ts.length≤1000000) (e:PS→Except PE (Nat × PS)) (kE:Hid (ExK B G tv ts en 53 (dd+1) e)) (kC:Hid (ExK B G tv ts en 71 dd (compareP ts en e))) (w:World) (nv:Value) (R:Except PE PS) (h:Hid (PkX B G tv ts en w nv R)) (hok:Hid (∃st,R= .ok st)) (hq0:Hid (isX ts R kwFun=false)) (hq1:Hid (isX ts R kwLet=false)) (hq2:Hid (isX ts R kwIf=false)) :
  Calls Tryz.prog 53 #[.pointer (some ⟨G,0,none⟩), .int .i64 dd] w (RkN B G tv ts en w nv (R >>= openP ts en e)):=by
 obtain⟨st0,hst0⟩:=hok.out
 have h1 : ∃p,PkW B G tv ts en w nv st0 (0,p):=by have:=h.out;rw[hst0] at this;exact this
 obtain⟨p0,h1⟩:=h1
 have hcc:=h1.c
 have hgl:G<w.heap.size:=by have:=h1.gB;have:=h1.bl;omega
 clear hst0 h1
 have hnd : ¬ (40:Int)<dd:=by omega
 have k0:=bH (rhere_any B G tv ts en w nv R h)
 go_enter Tryz.func53,Tryz.ntmps53
 go_wp2_with fail
 refine k0.out.mono ?_
 rintro e0 v0 ⟨z,rfl,hb0,hz⟩
 have hz:=bH hz
 have hx0:=bH (NdBox.newK (h.out.below hb0) ⟨0,0,0,0,0,⟨#[]⟩,⟨#[]⟩,⟨#[]⟩,⟨#[]⟩,z⟩)
 have hp0:=bH ((h.out.below hb0).below (below_alc v0 (.cells #[.int .i64 0, .int .i64 0, .int .i64 0, .int .i64 0, .int .i64 0, .string ⟨#[]⟩, .string ⟨#[]⟩, .string ⟨#[]⟩, .string ⟨#[]⟩, .int .i64 z] 45)))
 have hS0:=bH (show Stp G w nv (v0.alloc (.cells #[.int .i64 0, .int .i64 0, .int .i64 0, .int .i64 0, .int .i64 0, .string ⟨#[]⟩, .string ⟨#[]⟩, .string ⟨#[]⟩, .string ⟨#[]⟩, .int .i64 z] 45)) nv from (Stp.below hb0).next (below_alc v0 (.cells #[.int .i64 0, .int .i64 0, .int .i64 0, .int .i64 0, .int .i64 0, .string ⟨#[]⟩, .string ⟨#[]⟩, .string ⟨#[]⟩, .string ⟨#[]⟩, .int .i64 z] 45)))
 have hBb:=bH (show B≤v0.heap.size from (h.out.below hb0).lt.2.1)
 have hbb:=bH (show w.heap.size≤v0.heap.size from hb0.size)
 clear k0 hb0 hcc hgl
 have k1:=bH (rtake_any B G tv ts en _ nv R htl kwFun hp0)
 rw[hq0.out] at k1
 go_wp2_with fail
 refine k1.out.mono ?_
 rintro e1 w1 ⟨rfl,hq1,hb1⟩
 have hs1:=bH (show Stp G _ nv w1 nv from Stp.of hb1)
 have hx1:=bH (hx0.out.step hs1.out)
 have hS1:=bH (hS0.out.trans hs1.out)
 rw[take_no hq0.out] at hq1
 have hp1:=bH hq1
 clear k1 hx0 hS0 hp0 hs1 hb1 hq1
 have k2:=bH (rtake_any B G tv ts en _ nv R htl kwLet hp1)
 rw[hq1.out] at k2
 go_wp2_with fail
 refine k2.out.mono ?_
 rintro e2 w2 ⟨rfl,hq2,hb2⟩
 have hs2:=bH (show Stp G _ nv w2 nv from Stp.of hb2)
 have hx2:=bH (hx1.out.step hs2.out)
 have hS2:=bH (hS1.out.trans hs2.out)
 rw[take_no hq1.out] at hq2
 have hp2:=bH hq2
 clear k2 hx1 hS1 hp1 hs2 hb2 hq2
 have k3:=bH (rtake_any B G tv ts en _ nv R htl kwIf hp2)
 rw[hq2.out] at k3
 go_wp2_with fail
 refine k3.out.mono ?_
 rintro e3 w3 ⟨rfl,hq3,hb3⟩
 have hs3:=bH (show Stp G _ nv w3 nv from Stp.of hb3)
 have hx3:=bH (hx2.out.step hs3.out)
 have hS3:=bH (hS2.out.trans hs3.out)
 rw[take_no hq2.out] at hq3
 have hp3:=bH hq3
 clear k3 hx2 hS2 hp2 hs3 hb3 hq3
 have heq:=bH (op_cmp (en:=en) (e:=e) hq0.out hq1.out hq2.out)
 go_wp2_with fail
 refine(kC.out _ nv _ hp3.out).mono ?_
 rintro e4 w4 ⟨v,nv4,rfl,hp4,hs4,hv4⟩
 rw[heq.out] at hp4 hv4
 have hfin:Hid (RkN B G tv ts en w nv (R >>= openP ts en e) (.returned (.int .i64 v)) w4):=bH ⟨v,nv4,rfl,hp4,hS3.out.trans hs4,hv4⟩
 clear hp4 hs4 hv4 heq hx3 hS3
 go_wp2_with fail
 go_ret
 exact hfin.out
theorem rexpr_err (B G:Nat) (tv:Value) (ts:List Tk) (en:Int) (dd:Int) (hd:dd≤40) (w:World) (nv:Value) (x:PE) (h:Hid (PkX B G tv ts en w nv (.error x))) :
  Calls Tryz.prog 53 #[.pointer (some ⟨G,0,none⟩), .int .i64 dd] w (RkN B G tv ts en w nv (.error x)):=by
 obtain⟨hx0,st,h1⟩:=h.out
 have hcc:=h1.c
 have hgl:G<w.heap.size:=by have:=h1.gB;have:=h1.bl;omega
 have e0:(x.1==0)=false:=beq_eq_false_iff_ne.2 hx0
 have hnd : ¬ (40:Int)<dd:=by omega
 clear h1 hx0
 go_enter Tryz.func53,Tryz.ntmps53
 go_wp2_with fail
 go_ret
 exact⟨_,nv,rfl,h.out,Stp.refl _ _ _,fun x st' hc=>by cases hc⟩
theorem rexpr_deep (B G:Nat) (tv:Value) (ts:List Tk) (en:Int):ExK B G tv ts en 53 41 (exprP ts en 0):=by
 intro w nv R h
 have h:=bH h
 have k:=bH (rfail_any B G tv ts en w nv R 401 (by decide) h)
 have hfx:Hid (∃e,failX ts en R 401= .error e∧(R >>= exprP ts en 0)= .error e):=bH (by
  cases R with
  | error e=>exact⟨e,rfl,rfl⟩
  | ok st=>exact⟨_,rfl,rfl⟩)
 obtain⟨e,he1,he2⟩:=hfx.out
 rw[he1] at k
 rw[he2]
 clear he1 he2 hfx
 go_enter Tryz.func53,Tryz.ntmps53
 go_wp2_with fail
 refine k.out.mono ?_
 rintro e1 w1 ⟨rfl,hp1,hb1⟩
 obtain⟨hx0,st,h1⟩:=id hp1
 have hcc:=h1.c
 have hgl:G<w1.heap.size:=by have:=h1.gB;have:=h1.bl;omega
 have e0:(e.1==0)=false:=beq_eq_false_iff_ne.2 hx0
 have hp1:=bH hp1
 have hb1:=bH hb1
 clear h1 k hx0
 go_wp2_with fail
 go_ret
 exact⟨_,nv,rfl,hp1.out,Stp.of hb1.out,fun x st' hc=>by cases hc⟩
theorem rexpr_ex (B G:Nat) (tv:Value) (ts:List Tk) (en:Int) (dd:Int) (hd0:0≤dd) (hd:dd≤40) (htl:ts.length≤1000000) (r:Nat) (kE:Hid (ExK B G tv ts en 53 (dd+1) (exprP ts en r))) (kC:Hid (ExK B G tv ts en 71 dd (compareP ts en (exprP ts en r)))):ExK B G tv ts en 53 dd (exprP ts en (r+1)):=by
 intro w nv R h
 have h:=bH h
 rcases R with x|st
 ·exact rexpr_err B G tv ts en dd hd w nv x h
 show Calls _ _ _ _ (RkN B G tv ts en w nv (Except.ok st >>= openP ts en (exprP ts en r)))
 cases h0:isX ts (.ok st) kwFun
 ·cases h1:isX ts (.ok st) kwLet
  ·cases h2:isX ts (.ok st) kwIf
   ·exact rexpr_cmp B G tv ts en dd hd0 hd htl _ kE kC w nv _ h (bH ⟨st,rfl⟩) (bH h0) (bH h1) (bH h2)
   ·exact rexpr_if B G tv ts en dd hd0 hd htl _ kE w nv _ h (bH h0) (bH h1) (bH h2)
  ·cases h2:isX ts (takeX ts (.ok st) kwLet) kwRec
   ·exact rexpr_let B G tv ts en dd hd0 hd htl _ kE w nv _ h (bH h0) (bH h1) (bH h2)
   ·exact rexpr_rec B G tv ts en dd hd0 hd htl _ kE w nv _ h (bH h0) (bH h1) (bH h2)
 ·exact rexpr_fun B G tv ts en dd hd0 hd htl _ kE w nv _ h (bH h0)
theorem rhandle_any (B G:Nat) (tv:Value) (ts:List Tk) (en:Int) (dd:Int) (hd0:0≤dd) (hd:dd≤40) (htl:ts.length≤1000000) (e:PS→Except PE (Nat × PS)) (kE:Hid (ExK B G tv ts en 53 (dd+1) e)) (z:Int) (w:World) (nv:Value) (R:Except PE PS) (h:Hid (PkX B G tv ts en w nv R)) :
  Calls Tryz.prog 118 #[.pointer (some ⟨G,0,none⟩), .agg #[.int .i64 0, .int .i64 0, .int .i64 0, .int .i64 0, .int .i64 0, .string ⟨#[]⟩, .string ⟨#[]⟩, .string ⟨#[]⟩, .string ⟨#[]⟩, .int .i64 z], .int .i64 dd] w (RkN B G tv ts en w nv (R >>= handleP ts en e z)):=by
 have hx0:=bH (NdBox.newK h.out ⟨10,0,0,0,0,⟨#[]⟩,⟨#[]⟩,⟨#[]⟩,⟨#[]⟩,z⟩)
 have hp0:=bH (h.out.below (below_alc w (.cells #[.int .i64 10, .int .i64 0, .int .i64 0, .int .i64 0, .int .i64 0, .string ⟨#[]⟩, .string ⟨#[]⟩, .string ⟨#[]⟩, .string ⟨#[]⟩, .int .i64 z] 45)))
 have hS0:=bH (show Stp G w nv (w.alloc (.cells #[.int .i64 10, .int .i64 0, .int .i64 0, .int .i64 0, .int .i64 0, .string ⟨#[]⟩, .string ⟨#[]⟩, .string ⟨#[]⟩, .string ⟨#[]⟩, .int .i64 z] 45)) nv from Stp.below (below_alc w (.cells #[.int .i64 10, .int .i64 0, .int .i64 0, .int .i64 0, .int .i64 0, .string ⟨#[]⟩, .string ⟨#[]⟩, .string ⟨#[]⟩, .string ⟨#[]⟩, .int .i64 z] 45)))
 have hBb:=bH (show B≤w.heap.size from h.out.lt.2.1)
 have hbb:=bH (Nat.le_refl w.heap.size)
 go_enter Tryz.func118,Tryz.ntmps118
 go_wp2_with fail
 refine(kE.out _ nv _ hp0.out).mono ?_
 rintro e1 w1 ⟨a1,nv1,rfl,hq1,hs1,hv1⟩
 have hs1:=bH hs1
 have hv1:=bH hv1
 have hy1:=bH (hx0.out.step hs1.out)
 have hx1:=bH (hy1.out.set1 a1)
 have hp1:=bH (hq1.box hy1.out hBb.out 1 (.int .i64 a1))
 have hS1:=bH ((hS0.out.trans hs1.out).store hbb.out 1 (.int .i64 a1))
 have cs:=hy1.out.c1;have cf:=hy1.out.fz;have cl:=hy1.out.lt
 clear hx0 hS0 hp0 hs1 hq1
 clear hy1
 go_wp2_with fail
 clear cs cf cl
 refine(rwant_any B G tv ts en _ nv1 _ htl kwWith hp1).mono ?_
 rintro e2 w2 ⟨rfl,hq2,hb2⟩
 have hs2:=bH (show Stp G _ nv1 w2 nv1 from Stp.of hb2)
 have hx2:=bH (hx1.out.step hs2.out)
 have hS2:=bH (hS1.out.trans hs2.out)
 have hp2:=bH hq2
 clear hx1 hS1 hp1 hs2 hb2 hq2
 go_wp2_with fail
 refine(rname_any B G tv ts en _ nv1 _ htl hp2).mono ?_
 rintro e3 w3 ⟨x3,rfl,⟨hq3,hb3⟩,hv3⟩
 have hs3:=bH (show Stp G _ nv1 w3 nv1 from Stp.of hb3)
 clear hb3
 have hv3:=bH hv3
 have hy3:=bH (hx2.out.step hs3.out)
 have hx3:=bH (hy3.out.set5 x3)
 have hp3:=bH (hq3.box hy3.out hBb.out 5 (.string x3))
 have hS3:=bH ((hS2.out.trans hs3.out).store hbb.out 5 (.string x3))
 have cs:=hy3.out.c5;have cf:=hy3.out.fz;have cl:=hy3.out.lt
 clear hx2 hS2 hp2 hs3 hq3
 clear hy3
 go_wp2_with fail
 clear cs cf cl
 refine(rname_any B G tv ts en _ nv1 _ htl hp3).mono ?_
 rintro e4 w4 ⟨x4,rfl,⟨hq4,hb4⟩,hv4⟩
 have hs4:=bH (show Stp G _ nv1 w4 nv1 from Stp.of hb4)
 clear hb4
 have hv4:=bH hv4
 have hy4:=bH (hx3.out.step hs4.out)
 have hx4:=bH (hy4.out.set6 x4)
 have hp4:=bH (hq4.box hy4.out hBb.out 6 (.string x4))
 have hS4:=bH ((hS3.out.trans hs4.out).store hbb.out 6 (.string x4))
 have cs:=hy4.out.c6;have cf:=hy4.out.fz;have cl:=hy4.out.lt
 clear hx3 hS3 hp3 hs4 hq4
 clear hy4
 go_wp2_with fail
 clear cs cf cl
 refine(rname_any B G tv ts en _ nv1 _ htl hp4).mono ?_
 rintro e5 w5 ⟨x5,rfl,⟨hq5,hb5⟩,hv5⟩
 have hs5:=bH (show Stp G _ nv1 w5 nv1 from Stp.of hb5)
 clear hb5
 have hv5:=bH hv5
 have hy5:=bH (hx4.out.step hs5.out)
 have hx5:=bH (hy5.out.set7 x5)
 have hp5:=bH (hq5.box hy5.out hBb.out 7 (.string x5))
 have hS5:=bH ((hS4.out.trans hs5.out).store hbb.out 7 (.string x5))
 have cs:=hy5.out.c7;have cf:=hy5.out.fz;have cl:=hy5.out.lt
 clear hx4 hS4 hp4 hs5 hq5
 clear hy5
 go_wp2_with fail
 clear cs cf cl
 refine(rwant_any B G tv ts en _ nv1 _ htl sgArrow hp5).mono ?_
 rintro e6 w6 ⟨rfl,hq6,hb6⟩
 have hs6:=bH (show Stp G _ nv1 w6 nv1 from Stp.of hb6)
 have hx6:=bH (hx5.out.step hs6.out)
 have hS6:=bH (hS5.out.trans hs6.out)
 have hp6:=bH hq6
 clear hx5 hS5 hp5 hs6 hb6 hq6
 go_wp2_with fail
 refine(kE.out _ nv1 _ hp6.out).mono ?_
 rintro e7 w7 ⟨a7,nv7,rfl,hq7,hs7,hv7⟩
 have hs7:=bH hs7
 have hv7:=bH hv7
 have hy7:=bH (hx6.out.step hs7.out)
 have hx7:=bH (hy7.out.set2 a7)
 have hp7:=bH (hq7.box hy7.out hBb.out 2 (.int .i64 a7))
 have hS7:=bH ((hS6.out.trans hs7.out).store hbb.out 2 (.int .i64 a7))
 have cs:=hy7.out.c2;have cf:=hy7.out.fz;have cl:=hy7.out.lt
 clear hx6 hS6 hp6 hs7 hq7
 clear hy7
 go_wp2_with fail
 clear cs cf cl
 refine(rwant_any B G tv ts en _ nv7 _ htl kwReturn hp7).mono ?_
 rintro e8 w8 ⟨rfl,hq8,hb8⟩
 have hs8:=bH (show Stp G _ nv7 w8 nv7 from Stp.of hb8)
 have hx8:=bH (hx7.out.step hs8.out)
 have hS8:=bH (hS7.out.trans hs8.out)
 have hp8:=bH hq8
 clear hx7 hS7 hp7 hs8 hb8 hq8
 go_wp2_with fail
 refine(rname_any B G tv ts en _ nv7 _ htl hp8).mono ?_
 rintro e9 w9 ⟨x9,rfl,⟨hq9,hb9⟩,hv9⟩
 have hs9:=bH (show Stp G _ nv7 w9 nv7 from Stp.of hb9)
 clear hb9
 have hv9:=bH hv9
 have hy9:=bH (hx8.out.step hs9.out)
 have hx9:=bH (hy9.out.set8 x9)
 have hp9:=bH (hq9.box hy9.out hBb.out 8 (.string x9))
 have hS9:=bH ((hS8.out.trans hs9.out).store hbb.out 8 (.string x9))
 have cs:=hy9.out.c8;have cf:=hy9.out.fz;have cl:=hy9.out.lt
 clear hx8 hS8 hp8 hs9 hq9
 clear hy9
 go_wp2_with fail
 clear cs cf cl
 refine(rwant_any B G tv ts en _ nv7 _ htl sgArrow hp9).mono ?_
 rintro e10 w10 ⟨rfl,hq10,hb10⟩
 have hs10:=bH (show Stp G _ nv7 w10 nv7 from Stp.of hb10)
 have hx10:=bH (hx9.out.step hs10.out)
 have hS10:=bH (hS9.out.trans hs10.out)
 have hp10:=bH hq10
 clear hx9 hS9 hp9 hs10 hb10 hq10
 go_wp2_with fail
 refine(kE.out _ nv7 _ hp10.out).mono ?_
 rintro e11 w11 ⟨a11,nv11,rfl,hq11,hs11,hv11⟩
 have hs11:=bH hs11
 have hv11:=bH hv11
 have hy11:=bH (hx10.out.step hs11.out)
 have hx11:=bH (hy11.out.set3 a11)
 have hp11:=bH (hq11.box hy11.out hBb.out 3 (.int .i64 a11))
 have hS11:=bH ((hS10.out.trans hs11.out).store hbb.out 3 (.int .i64 a11))
 have cs:=hy11.out.c3;have cf:=hy11.out.fz;have cl:=hy11.out.lt
 clear hx10 hS10 hp10 hs11 hq11
 clear hy11
 go_wp2_with fail
 clear cs cf cl
 refine(rwant_any B G tv ts en _ nv11 _ htl kwEnd hp11).mono ?_
 rintro e12 w12 ⟨rfl,hq12,hb12⟩
 have hs12:=bH (show Stp G _ nv11 w12 nv11 from Stp.of hb12)
 have hx12:=bH (hx11.out.step hs12.out)
 have hS12:=bH (hS11.out.trans hs12.out)
 have hp12:=bH hq12
 clear hx11 hS11 hp11 hs12 hb12 hq12
 have c0:=hx12.out.c0
 have c1:=hx12.out.c1
 have c2:=hx12.out.c2
 have c3:=hx12.out.c3
 have c4:=hx12.out.c4
 have c5:=hx12.out.c5
 have c6:=hx12.out.c6
 have c7:=hx12.out.c7
 have c8:=hx12.out.c8
 have c9:=hx12.out.c9
 have cf:=hx12.out.fz;have cl:=hx12.out.lt
 try dsimp only at c0 c1 c2 c3 c4 c5 c6 c7 c8 c9
 have k4:=bH (rput_any B G tv ts en _ nv11 _ ⟨10,a1,a7,a11,0,x3,x4,x5,x9,z⟩ hp12)
 have he:=bH (phandle_eq (ts:=ts) (en:=en) (e:=e) (beg:=z) (R:=R) hv1.out hv3.out hv4.out hv5.out hv7.out hv9.out hv11.out)
 go_wp2_with fail
 refine k4.out.mono ?_
 rintro e4 w4 ⟨v,nv4,rfl,hp4,hs4,hv4⟩
 have hfin:Hid (RkN B G tv ts en w nv (R >>= handleP ts en e z) (.returned (.int .i64 v)) w4):=bH (by rw[← he.out];exact⟨v,nv4,rfl,hp4,hS12.out.trans hs4,hv4⟩)
 clear k4 hp4 hs4 hv4 he c0 c1 c2 c3 c4 c5 c6 c7 c8 c9 cf cl
 go_wp2_with fail
 go_ret
 exact hfin.out
end Go.Proofs.YthpcbgljbpmafaaGreatDoor
