/- The reference's parser: may an atom begin here; an atom. -/
import Derived.Test.YthpcbgljbpmafaaGreatDoorW45
set_option maxRecDepth 100000
set_option maxHeartbeats 8000000
namespace Go.Proofs.YthpcbgljbpmafaaGreatDoor
open Go.RowKit
set_option linter.unusedVariables false
set_option linter.unusedSimpArgs false
theorem rstarts_any (B G:Nat) (tv:Value) (ts:List Tk) (en:Int) (w:World) (nv:Value) (R:Except PE PS) (h:Hid (PkX B G tv ts en w nv R)) :
  Calls Tryz.prog 110 #[.pointer (some ⟨G,0,none⟩)] w fun e w'=>e= .returned (.bool (startsX ts R))∧Below w.heap.size w w':=by
 have k1:=bH fun (W:World) (hb:Below w.heap.size w W)=>ris_any B G tv ts en W nv R kwTrue (bH (h.out.below hb))
 have k2:=bH fun (W:World) (hb:Below w.heap.size w W)=>ris_any B G tv ts en W nv R kwFalse (bH (h.out.below hb))
 have k3:=bH fun (W:World) (hb:Below w.heap.size w W)=>ris_any B G tv ts en W nv R sgOpen (bH (h.out.below hb))
 have k4:=bH fun (W:World) (hb:Below w.heap.size w W)=>ris_any B G tv ts en W nv R kwHandle (bH (h.out.below hb))
 have hse:=bH (start_eq ts en R)
 rcases R with x|st
 ·obtain⟨hx0,st,h1⟩:=h.out
  have h2:=h1.c
  have hgl:G<w.heap.size:=by have:=h1.gB;have:=h1.bl;omega
  have e0:(x.1==0)=false:=beq_eq_false_iff_ne.2 hx0
  have hx0:=bH hx0
  clear h1
  go_enter Tryz.func110,Tryz.ntmps110
  go_wp2_with fail
  have e1:(x.1 != 0)=true:=bne_iff_ne.2 hx0.out
  go_quiet (fail)
  go_wp2_with fail
  go_ret
  exact⟨rfl,bZ⟩
 obtain⟨p,h1⟩:=h.out
 have h2:=h1.c
 have h3:=h1.i
 have h4:=h1.t
 have hgl:G<w.heap.size:=by have:=h1.gB;have:=h1.bl;omega
 by_cases hlt:st.i<ts.length
 ·obtain⟨T,c,rfl,hT,⟨a0,a1,a2,a3⟩,hg⟩:=tk_get h1.tk hlt
  simp only[Nat.zero_add] at a0
  rw[peek_ok,hg] at hse
  dsimp only[Option.getD] at hse
  rw[hse.out]
  generalize isX ts (.ok st) kwTrue=q1 at k1 ⊢
  generalize isX ts (.ok st) kwFalse=q2 at k2 ⊢
  generalize isX ts (.ok st) sgOpen=q3 at k3 ⊢
  generalize isX ts (.ok st) kwHandle=q4 at k4 ⊢
  generalize (ts.getD st.i tk0).kind=tk at a0 ⊢
  have hj1:(st.i:Int)<(ts.length:Int):=by omega
  have hj0:(0:Int)≤(st.i:Int):=by omega
  clear hlt hg h1 hse a1 a2 a3
  go_enter Tryz.func110,Tryz.ntmps110
  go_wp2_with fail
  go_quiet (fail)
  obtain⟨W0,hW0⟩ : ∃W,w.drewN nq=W:=⟨_,rfl⟩
  have hb0:Below w.heap.size w W0:=by rw[← hW0];exact belDN nq
  rw[hW0]
  have h3:=carry hb0 hgl h3
  have h4:=carry hb0 hgl h4
  have a0:=carry hb0 hT a0
  have hgl:G<W0.heap.size:=Nat.lt_of_lt_of_le hgl hb0.size
  have hT:T<W0.heap.size:=Nat.lt_of_lt_of_le hT hb0.size
  have hb0:=bH hb0
  clear hW0
  go_wp2_with fail
  go_quiet (fail)
  obtain⟨W1,hW1⟩ : ∃W,W0.drewN nq=W:=⟨_,rfl⟩
  have hb:Hid (Below w.heap.size w W1):=bH (by rw[← hW1];exact belT hb0.out (belDN nq))
  rw[hW1]
  clear hW1 a0 h2 h3 h4
  by_cases h0:tk=0
  ·subst h0
   go_wp2_with fail
   go_ret
   exact⟨by simp,hb.out⟩
  by_cases h1:tk=1
  ·subst h1
   clear h0
   go_wp2_with fail
   go_ret
   exact⟨by simp,hb.out⟩
  have e0:(tk==0)=false:=beq_eq_false_iff_ne.2 h0
  have e1:(tk==1)=false:=beq_eq_false_iff_ne.2 h1
  clear h0 h1
  go_wp2_with fail
  refine(k1.out W1 hb.out).mono ?_
  rintro e w2 ⟨rfl,hb2⟩
  have hb2:=bH (belT hb.out hb2)
  cases q1
  ·go_wp2_with fail
   refine(k2.out w2 hb2.out).mono ?_
   rintro e w3 ⟨rfl,hb3⟩
   have hb3:=bH (belT hb2.out hb3)
   cases q2
   ·go_wp2_with fail
    refine(k3.out w3 hb3.out).mono ?_
    rintro e w4 ⟨rfl,hb4⟩
    have hb4:=bH (belT hb3.out hb4)
    cases q3
    ·go_wp2_with fail
     refine(k4.out w4 hb4.out).mono ?_
     rintro e w5 ⟨rfl,hb5⟩
     have hb5:=bH (belT hb4.out hb5)
     go_wp2_with fail
     go_ret
     exact⟨by rw[e0,e1];rfl,hb5.out⟩
    ·go_wp2_with fail
     go_ret
     exact⟨by rw[e0,e1];rfl,hb4.out⟩
   ·go_wp2_with fail
    go_ret
    exact⟨by rw[e0,e1];rfl,hb3.out⟩
  ·go_wp2_with fail
   go_ret
   exact⟨by rw[e0,e1];rfl,hb2.out⟩
 ·obtain⟨a,c,rfl⟩:=tk_len h1.tk
  have hii:st.i=ts.length:=by have:=h1.il;omega
  have hh:startsX ts (.ok st)=false:=by show startsP ts st.i=false;unfold startsP;rw[List.getElem?_eq_none (by omega)]
  rw[hh]
  rw[hii] at h3
  clear hlt hh h1 hii hse
  go_enter Tryz.func110,Tryz.ntmps110
  go_wp2_with fail
  go_quiet (fail)
  go_wp2_with fail
  go_ret
  exact⟨rfl,bZ⟩
open Go.RowKit
theorem rat_no {ts:List Tk} {en:Int} {e:PS→Except PE (Nat × PS)} {R:Except PE PS} (h:startsX ts R=false):stX (R >>= atomP ts en e)=failX ts en R 403∧ ∀x st',(R >>= atomP ts en e) ≠ .ok (x,st'):=by
 have h':=start_eq ts en R
 rw[h] at h'
 have h':=h'.symm
 simp only[Bool.or_eq_false_iff,beq_eq_false_iff_ne] at h'
 obtain⟨⟨⟨⟨⟨h0,h1⟩,h2⟩,h3⟩,h4⟩,h5⟩:=h'
 exact at6 (t:=peekX ts en R) rfl h0 h1 h2 h3 h4 h5
theorem starts_ok {ts:List Tk} {R:Except PE PS} (h:startsX ts R=true) : ∃st,R= .ok st∧st.i<ts.length:=by
 rcases R with _|st
 ·cases h
 ·exact⟨st,rfl,startsP_lt h⟩
theorem ratom_no (B G:Nat) (tv:Value) (ts:List Tk) (en:Int) (dd:Int) (hd0:0≤dd) (hd:dd≤40) (htl:ts.length≤1000000) (e:PS→Except PE (Nat × PS)) (kE:Hid (ExK B G tv ts en 53 (dd+1) e)) (w:World) (nv:Value) (R:Except PE PS) (hq:Hid (startsX ts R=false)) (h:Hid (PkX B G tv ts en w nv R)) :
  Calls Tryz.prog 109 #[.pointer (some ⟨G,0,none⟩), .int .i64 dd] w (RkN B G tv ts en w nv (R >>= atomP ts en e)):=by
 have k:=bH (rstarts_any B G tv ts en w nv R h)
 rw[hq.out] at k
 go_enter Tryz.func109,Tryz.ntmps109
 go_wp2_with fail
 refine k.out.mono ?_
 rintro e1 w1 ⟨rfl,hb1⟩
 have hp1:=bH (h.out.below hb1)
 have hS1:=bH (show Stp G w nv w1 nv from Stp.below hb1)
 clear k hb1
 have k5:=bH (rfail_any B G tv ts en w1 nv R 403 (by decide) hp1)
 go_wp2_with fail
 refine k5.out.mono ?_
 rintro e9 w9 ⟨rfl,hp9,hb9⟩
 have ha:=rat_no (en:=en) (e:=e) hq.out
 have hfin:Hid (RkN B G tv ts en w nv (R >>= atomP ts en e) (.returned (.int .i64 0)) w9):=bH ⟨0,nv,rfl,by rw[ha.1];exact hp9,hS1.out.trans (Stp.of hb9),fun x st' hc=>absurd hc (ha.2 x st')⟩
 clear k5 hp9 hb9 ha
 go_wp2_with fail
 go_ret
 exact hfin.out
theorem rat0 {ts:List Tk} {en:Int} {e:PS→Except PE (Nat × PS)} {R:Except PE PS} {t:Tk} (hp:peekX ts en R=t) (hk:t.kind=0) {x:ByteArray} (hv : ∀y st',(R >>= nameP ts en)= .ok (y,st')→x=y):(stX (R >>= nameP ts en) >>= putP ts en ⟨0,0,0,0,0,x,⟨#[]⟩,⟨#[]⟩,⟨#[]⟩,t.at_⟩)=(R >>= atomP ts en e):=by
 obtain⟨st,hR,_,ha⟩:=at0 (e:=e) hp hk
 obtain⟨st2,hR2,_,hn⟩:=name_yes (en:=en) (R:=R) (by rw[hp];exact hk)
 rw[hp] at hn
 obtain rfl:=hv _ _ hn
 rw[ha,hn]
 rw[hR] at hR2
 injection hR2 with hR2
 subst hR2
 rfl
theorem ratom_name (B G:Nat) (tv:Value) (ts:List Tk) (en:Int) (dd:Int) (hd0:0≤dd) (hd:dd≤40) (htl:ts.length≤1000000) (e:PS→Except PE (Nat × PS)) (kE:Hid (ExK B G tv ts en 53 (dd+1) e)) (w:World) (nv:Value) (R:Except PE PS) (hq:Hid (startsX ts R=true)) (h:Hid (PkX B G tv ts en w nv R)) (hk:Hid ((peekX ts en R).kind=0)) :
  Calls Tryz.prog 109 #[.pointer (some ⟨G,0,none⟩), .int .i64 dd] w (RkN B G tv ts en w nv (R >>= atomP ts en e)):=by
 have k:=bH (rstarts_any B G tv ts en w nv R h)
 rw[hq.out] at k
 obtain⟨st,hst,hlt⟩:=starts_ok hq.out
 have hR:Hid (R= .ok st):=bH hst
 have hlt':=bH hlt
 clear hst hlt
 go_enter Tryz.func109,Tryz.ntmps109
 go_wp2_with fail
 refine k.out.mono ?_
 rintro e1 v1 ⟨rfl,hb1⟩
 have k2:=bH (rhere_any B G tv ts en v1 nv R (bH (h.out.below hb1)))
 have hb1:=bH hb1
 clear k
 go_wp2_with fail
 refine k2.out.mono ?_
 rintro e2 v2 ⟨z,rfl,hb2,hz0⟩
 have hz:=bH (hz0 st hR.out)
 clear hz0
 have hb2:=belT hb1.out hb2
 have hx0:=bH (NdBox.newK (h.out.below hb2) ⟨0,0,0,0,0,⟨#[]⟩,⟨#[]⟩,⟨#[]⟩,⟨#[]⟩,z⟩)
 have hp0:=bH ((h.out.below hb2).below (below_alc v2 (.cells #[.int .i64 0, .int .i64 0, .int .i64 0, .int .i64 0, .int .i64 0, .string ⟨#[]⟩, .string ⟨#[]⟩, .string ⟨#[]⟩, .string ⟨#[]⟩, .int .i64 z] 45)))
 have hS0:=bH (show Stp G w nv (v2.alloc (.cells #[.int .i64 0, .int .i64 0, .int .i64 0, .int .i64 0, .int .i64 0, .string ⟨#[]⟩, .string ⟨#[]⟩, .string ⟨#[]⟩, .string ⟨#[]⟩, .int .i64 z] 45)) nv from (Stp.below hb2).next (below_alc v2 (.cells #[.int .i64 0, .int .i64 0, .int .i64 0, .int .i64 0, .int .i64 0, .string ⟨#[]⟩, .string ⟨#[]⟩, .string ⟨#[]⟩, .string ⟨#[]⟩, .int .i64 z] 45)))
 have hBb:=bH (show B≤v2.heap.size from (h.out.below hb2).lt.2.1)
 have hbb:=bH (show w.heap.size≤v2.heap.size from hb2.size)
 clear k2 hb2 hb1
 go_upto_region 5 with fail
 obtain⟨v3,hv3⟩ : ∃W,v2.alloc (.cells #[.int .i64 0, .int .i64 0, .int .i64 0, .int .i64 0, .int .i64 0, .string ⟨#[]⟩, .string ⟨#[]⟩, .string ⟨#[]⟩, .string ⟨#[]⟩, .int .i64 z] 45)=W:=⟨_,rfl⟩
 rw[hv3] at hx0 hp0 hS0 ⊢
 clear hv3
 generalize v2.heap.size=b at hx0 hBb hbb ⊢
 have h1 : ∃p,PkW B G tv ts en v3 nv st (0,p):=by have:=hp0.out;rw[hR.out] at this;exact this
 obtain⟨p0,h1⟩:=h1
 have h3:=h1.i
 have h4:=h1.t
 have hgl:G<v3.heap.size:=by have:=h1.gB;have:=h1.bl;omega
 obtain⟨T,c,rfl,hT,⟨a0,a1,a2,a3⟩,hg⟩:=tk_get h1.tk hlt'.out
 simp only[Nat.zero_add] at a0 a1 a2 a3
 have hpk:Hid (peekX ts en R=ts.getD st.i tk0):=bH (by rw[hR.out,peek_ok,hg];rfl)
 have hzt:Hid (z=(ts.getD st.i tk0).at_):=bH (by rw[hz.out];unfold hereP;rw[hg])
 generalize ts.getD st.i tk0=t at a0 a1 a2 a3 hpk hzt
 have hj1:(st.i:Int)<(ts.length:Int):=by have:=hlt'.out;omega
 have hj0:(0:Int)≤(st.i:Int):=by omega
 have hbl:b<v3.heap.size:=hx0.out.lt
 clear hg h1
 go_region
 obtain⟨v4,hv4⟩ : ∃W,(v3.alloc (.cells #[.int .i64 t.kind, .string (bs t.text), .int .i64 t.num, .int .i64 t.at_] 114)).drew=W:=⟨_,rfl⟩
 have hbv:Below v3.heap.size v3 v4:=by rw[← hv4];exact(below_alc v3 _).drew
 have hg1:=bH (show TkB G v4 v3.heap.size t from by rw[← hv4];exact(TkB.new G v3 t hgl).step (Bar.of_below (Below.refl _ _).drew))
 rw[hv4]
 clear hv4
 have hS1:=bH (hS0.out.next hbv)
 have hx1:=bH (hx0.out.step (Stp.below (nv:=nv) hbv))
 have hp1:=bH (hp0.out.below hbv)
 have hbg : ¬ v3.heap.size=b:=by omega
 generalize v3.heap.size=g at hg1 hbg ⊢
 clear hbv a0 a1 a2 a3 h3 h4 hx0 hp0 hS0 hgl hT hbl hj1 hj0
 have hk:=hk.out
 rw[hpk.out] at hk
 have d0:=hg1.out.c0;have dl:=hg1.out.lt
 rw[hk] at d0
 go_wp2_with fail
 refine(rname_any B G _ ts en _ nv _ htl hp1).mono ?_
 rintro e2 w2 ⟨x2,rfl,⟨hq2,hb2⟩,hv2⟩
 have hs2:=bH (show Stp G _ nv w2 nv from Stp.of hb2)
 clear hb2
 have hv2:=bH hv2
 have hy2:=bH (hx1.out.step hs2.out)
 have hx2:=bH (hy2.out.set5 x2)
 have hp2:=bH (hq2.box hy2.out hBb.out 5 (.string x2))
 have hS2:=bH ((hS1.out.trans hs2.out).store hbb.out 5 (.string x2))
 have cs:=hy2.out.c5;have cf:=hy2.out.fz;have cl:=hy2.out.lt
 clear hx1 hS1 hp1 hs2 hq2
 clear cs cf cl
 have c0:=hy2.out.c0
 have c1:=hy2.out.c1
 have c2:=hy2.out.c2
 have c3:=hy2.out.c3
 have c4:=hy2.out.c4
 have c5:=hy2.out.c5
 have c6:=hy2.out.c6
 have c7:=hy2.out.c7
 have c8:=hy2.out.c8
 have c9:=hy2.out.c9
 have cf:=hy2.out.fz;have cl:=hy2.out.lt
 try dsimp only at c0 c1 c2 c3 c4 c5 c6 c7 c8 c9
 have k4:=bH (rput_any B G _ ts en _ nv _ ⟨0,0,0,0,0,x2,⟨#[]⟩,⟨#[]⟩,⟨#[]⟩,z⟩ hp2)
 have he:=bH (show (stX (R >>= nameP ts en) >>= putP ts en ⟨0,0,0,0,0,x2,⟨#[]⟩,⟨#[]⟩,⟨#[]⟩,z⟩)=(R >>= atomP ts en e) from by rw[hzt.out];exact rat0 hpk.out hk hv2.out)
 go_wp2_with fail
 refine k4.out.mono ?_
 rintro e4 w4 ⟨v,nv4,rfl,hp4,hs4,hv4⟩
 have hfin:Hid (RkN B G _ ts en w nv (R >>= atomP ts en e) (.returned (.int .i64 v)) w4):=bH (by rw[← he.out];exact⟨v,nv4,rfl,hp4,hS2.out.trans hs4,hv4⟩)
 clear k4 hp4 hs4 hv4 he c0 c1 c2 c3 c4 c5 c6 c7 c8 c9 cf cl
 go_wp2_with fail
 go_ret
 exact hfin.out
theorem ratom_num (B G:Nat) (tv:Value) (ts:List Tk) (en:Int) (dd:Int) (hd0:0≤dd) (hd:dd≤40) (htl:ts.length≤1000000) (e:PS→Except PE (Nat × PS)) (kE:Hid (ExK B G tv ts en 53 (dd+1) e)) (w:World) (nv:Value) (R:Except PE PS) (hq:Hid (startsX ts R=true)) (h:Hid (PkX B G tv ts en w nv R)) (hk:Hid ((peekX ts en R).kind=1)) :
  Calls Tryz.prog 109 #[.pointer (some ⟨G,0,none⟩), .int .i64 dd] w (RkN B G tv ts en w nv (R >>= atomP ts en e)):=by
 have k:=bH (rstarts_any B G tv ts en w nv R h)
 rw[hq.out] at k
 obtain⟨st,hst,hlt⟩:=starts_ok hq.out
 have hR:Hid (R= .ok st):=bH hst
 have hlt':=bH hlt
 clear hst hlt
 go_enter Tryz.func109,Tryz.ntmps109
 go_wp2_with fail
 refine k.out.mono ?_
 rintro e1 v1 ⟨rfl,hb1⟩
 have k2:=bH (rhere_any B G tv ts en v1 nv R (bH (h.out.below hb1)))
 have hb1:=bH hb1
 clear k
 go_wp2_with fail
 refine k2.out.mono ?_
 rintro e2 v2 ⟨z,rfl,hb2,hz0⟩
 have hz:=bH (hz0 st hR.out)
 clear hz0
 have hb2:=belT hb1.out hb2
 have hx0:=bH (NdBox.newK (h.out.below hb2) ⟨0,0,0,0,0,⟨#[]⟩,⟨#[]⟩,⟨#[]⟩,⟨#[]⟩,z⟩)
 have hp0:=bH ((h.out.below hb2).below (below_alc v2 (.cells #[.int .i64 0, .int .i64 0, .int .i64 0, .int .i64 0, .int .i64 0, .string ⟨#[]⟩, .string ⟨#[]⟩, .string ⟨#[]⟩, .string ⟨#[]⟩, .int .i64 z] 45)))
 have hS0:=bH (show Stp G w nv (v2.alloc (.cells #[.int .i64 0, .int .i64 0, .int .i64 0, .int .i64 0, .int .i64 0, .string ⟨#[]⟩, .string ⟨#[]⟩, .string ⟨#[]⟩, .string ⟨#[]⟩, .int .i64 z] 45)) nv from (Stp.below hb2).next (below_alc v2 (.cells #[.int .i64 0, .int .i64 0, .int .i64 0, .int .i64 0, .int .i64 0, .string ⟨#[]⟩, .string ⟨#[]⟩, .string ⟨#[]⟩, .string ⟨#[]⟩, .int .i64 z] 45)))
 have hBb:=bH (show B≤v2.heap.size from (h.out.below hb2).lt.2.1)
 have hbb:=bH (show w.heap.size≤v2.heap.size from hb2.size)
 clear k2 hb2 hb1
 go_upto_region 5 with fail
 obtain⟨v3,hv3⟩ : ∃W,v2.alloc (.cells #[.int .i64 0, .int .i64 0, .int .i64 0, .int .i64 0, .int .i64 0, .string ⟨#[]⟩, .string ⟨#[]⟩, .string ⟨#[]⟩, .string ⟨#[]⟩, .int .i64 z] 45)=W:=⟨_,rfl⟩
 rw[hv3] at hx0 hp0 hS0 ⊢
 clear hv3
 generalize v2.heap.size=b at hx0 hBb hbb ⊢
 have h1 : ∃p,PkW B G tv ts en v3 nv st (0,p):=by have:=hp0.out;rw[hR.out] at this;exact this
 obtain⟨p0,h1⟩:=h1
 have h3:=h1.i
 have h4:=h1.t
 have hgl:G<v3.heap.size:=by have:=h1.gB;have:=h1.bl;omega
 obtain⟨T,c,rfl,hT,⟨a0,a1,a2,a3⟩,hg⟩:=tk_get h1.tk hlt'.out
 simp only[Nat.zero_add] at a0 a1 a2 a3
 have hpk:Hid (peekX ts en R=ts.getD st.i tk0):=bH (by rw[hR.out,peek_ok,hg];rfl)
 have hzt:Hid (z=(ts.getD st.i tk0).at_):=bH (by rw[hz.out];unfold hereP;rw[hg])
 generalize ts.getD st.i tk0=t at a0 a1 a2 a3 hpk hzt
 have hj1:(st.i:Int)<(ts.length:Int):=by have:=hlt'.out;omega
 have hj0:(0:Int)≤(st.i:Int):=by omega
 have hbl:b<v3.heap.size:=hx0.out.lt
 clear hg h1
 go_region
 obtain⟨v4,hv4⟩ : ∃W,(v3.alloc (.cells #[.int .i64 t.kind, .string (bs t.text), .int .i64 t.num, .int .i64 t.at_] 114)).drew=W:=⟨_,rfl⟩
 have hbv:Below v3.heap.size v3 v4:=by rw[← hv4];exact(below_alc v3 _).drew
 have hg1:=bH (show TkB G v4 v3.heap.size t from by rw[← hv4];exact(TkB.new G v3 t hgl).step (Bar.of_below (Below.refl _ _).drew))
 rw[hv4]
 clear hv4
 have hS1:=bH (hS0.out.next hbv)
 have hx1:=bH (hx0.out.step (Stp.below (nv:=nv) hbv))
 have hp1:=bH (hp0.out.below hbv)
 have hbg : ¬ v3.heap.size=b:=by omega
 generalize v3.heap.size=g at hg1 hbg ⊢
 clear hbv a0 a1 a2 a3 h3 h4 hx0 hp0 hS0 hgl hT hbl hj1 hj0
 have hk:=hk.out
 rw[hpk.out] at hk
 have d0:=hg1.out.c0;have dl:=hg1.out.lt
 rw[hk] at d0
 have h2 : ∃p,PkW B G (.slice (some ⟨T,0,none⟩) ts.length c) ts en v4 nv st (0,p):=by have:=hp1.out;rw[hR.out] at this;exact this
 obtain⟨p1,h2⟩:=h2
 have h4:=bH (h2.setI (st.i+1) hlt'.out)
 have h3:=h2.i
 have hf:=h2.fg
 have hgl:G<v4.heap.size:=by have:=h2.gB;have:=h2.bl;omega
 have hr1:(st.i:Int)≤1000000:=by have:=h2.il;omega
 have hr0:(0:Int)≤(st.i:Int):=by omega
 have d2:=hg1.out.c2
 have cg : ¬ b=G:=hx1.out.gb
 have cg2 : ¬ G=b:=fun e=>cg e.symm
 have ch : ¬ g=G:=hg1.out.gb
 have ch2 : ¬ G=g:=fun e=>ch e.symm
 have hbg2 : ¬ b=g:=fun e=>hbg e.symm
 have x0:=hx1.out.c0;have x4:=hx1.out.c4;have xf:=hx1.out.fz;have xl:=hx1.out.lt
 try dsimp only at x0 x4 d2
 have hx2:=bH (((hx1.out.step (Stp.of (nv:=nv) h4.out.2)).set0 1).set4 t.num)
 have hp2:=bH (PkX.box (R:= .ok ⟨st.i+1,st.ns⟩) (PkX.box (R:= .ok ⟨st.i+1,st.ns⟩) ⟨p1,h4.out.1⟩ (hx1.out.step (Stp.of (nv:=nv) h4.out.2)) hBb.out 0 (.int .i64 1)) ((hx1.out.step (Stp.of (nv:=nv) h4.out.2)).set0 1) hBb.out 4 (.int .i64 t.num))
 have hS2:=bH (((hS1.out.trans (Stp.of (nv:=nv) h4.out.2)).store hbb.out 0 (.int .i64 1)).store hbb.out 4 (.int .i64 t.num))
 clear h2
 go_upto_region 13 with fail
 clear h3 hf hgl x0 x4 xf xl d0 d2 dl
 push_cast at hx2 hp2 hS2
 obtain⟨v5,hv5⟩ : ∃W,((v4.setCell ⟨G,2,none⟩ (.int .i64 ((st.i:Int)+1))).setCell ⟨b,0,none⟩ (.int .i64 1)).setCell ⟨b,4,none⟩ (.int .i64 t.num)=W:=⟨_,rfl⟩
 rw[hv5] at hx2 hp2 hS2 ⊢
 clear hv5 h4
 have c0:=hx2.out.c0
 have c1:=hx2.out.c1
 have c2:=hx2.out.c2
 have c3:=hx2.out.c3
 have c4:=hx2.out.c4
 have c5:=hx2.out.c5
 have c6:=hx2.out.c6
 have c7:=hx2.out.c7
 have c8:=hx2.out.c8
 have c9:=hx2.out.c9
 have cf:=hx2.out.fz;have cl:=hx2.out.lt
 try dsimp only at c0 c1 c2 c3 c4 c5 c6 c7 c8 c9
 have k4:=bH (rput_any B G _ ts en _ nv _ ⟨1,0,0,0,t.num,⟨#[]⟩,⟨#[]⟩,⟨#[]⟩,⟨#[]⟩,z⟩ hp2)
 have he:=bH (show (Except.ok ⟨st.i+1,st.ns⟩ >>= putP ts en ⟨1,0,0,0,t.num,⟨#[]⟩,⟨#[]⟩,⟨#[]⟩,⟨#[]⟩,z⟩)=(R >>= atomP ts en e) from by rw[hzt.out];obtain⟨st2,hR2,_,ha⟩:=at1 (e:=e) hpk.out hk;rw[ha];rw[hR.out] at hR2;injection hR2 with hR2;subst hR2;rfl)
 go_wp2_with fail
 refine k4.out.mono ?_
 rintro e4 w4 ⟨v,nv4,rfl,hp4,hs4,hv4⟩
 have hfin:Hid (RkN B G _ ts en w nv (R >>= atomP ts en e) (.returned (.int .i64 v)) w4):=bH (by rw[← he.out];exact⟨v,nv4,rfl,hp4,hS2.out.trans hs4,hv4⟩)
 clear k4 hp4 hs4 hv4 he c0 c1 c2 c3 c4 c5 c6 c7 c8 c9 cf cl
 go_wp2_with fail
 go_ret
 exact hfin.out
theorem ratom_open (B G:Nat) (tv:Value) (ts:List Tk) (en:Int) (dd:Int) (hd0:0≤dd) (hd:dd≤40) (htl:ts.length≤1000000) (e:PS→Except PE (Nat × PS)) (kE:Hid (ExK B G tv ts en 53 (dd+1) e)) (w:World) (nv:Value) (R:Except PE PS) (hq:Hid (startsX ts R=true)) (h:Hid (PkX B G tv ts en w nv R)) (h0:Hid ((peekX ts en R).kind≠0)) (h1:Hid ((peekX ts en R).kind≠1)) (hn1:Hid (isX ts R kwTrue=false)) (hn2:Hid (isX ts R kwFalse=false)) (hu:Hid (isX ts R sgOpen=true)) :
  Calls Tryz.prog 109 #[.pointer (some ⟨G,0,none⟩), .int .i64 dd] w (RkN B G tv ts en w nv (R >>= atomP ts en e)):=by
 have k:=bH (rstarts_any B G tv ts en w nv R h)
 rw[hq.out] at k
 obtain⟨st,hst,hlt⟩:=starts_ok hq.out
 have hR:Hid (R= .ok st):=bH hst
 have hlt':=bH hlt
 clear hst hlt
 go_enter Tryz.func109,Tryz.ntmps109
 go_wp2_with fail
 refine k.out.mono ?_
 rintro e1 v1 ⟨rfl,hb1⟩
 have k2:=bH (rhere_any B G tv ts en v1 nv R (bH (h.out.below hb1)))
 have hb1:=bH hb1
 clear k
 go_wp2_with fail
 refine k2.out.mono ?_
 rintro e2 v2 ⟨z,rfl,hb2,hz0⟩
 have hz:=bH (hz0 st hR.out)
 clear hz0
 have hb2:=belT hb1.out hb2
 have hx0:=bH (NdBox.newK (h.out.below hb2) ⟨0,0,0,0,0,⟨#[]⟩,⟨#[]⟩,⟨#[]⟩,⟨#[]⟩,z⟩)
 have hp0:=bH ((h.out.below hb2).below (below_alc v2 (.cells #[.int .i64 0, .int .i64 0, .int .i64 0, .int .i64 0, .int .i64 0, .string ⟨#[]⟩, .string ⟨#[]⟩, .string ⟨#[]⟩, .string ⟨#[]⟩, .int .i64 z] 45)))
 have hS0:=bH (show Stp G w nv (v2.alloc (.cells #[.int .i64 0, .int .i64 0, .int .i64 0, .int .i64 0, .int .i64 0, .string ⟨#[]⟩, .string ⟨#[]⟩, .string ⟨#[]⟩, .string ⟨#[]⟩, .int .i64 z] 45)) nv from (Stp.below hb2).next (below_alc v2 (.cells #[.int .i64 0, .int .i64 0, .int .i64 0, .int .i64 0, .int .i64 0, .string ⟨#[]⟩, .string ⟨#[]⟩, .string ⟨#[]⟩, .string ⟨#[]⟩, .int .i64 z] 45)))
 have hBb:=bH (show B≤v2.heap.size from (h.out.below hb2).lt.2.1)
 have hbb:=bH (show w.heap.size≤v2.heap.size from hb2.size)
 clear k2 hb2 hb1
 go_upto_region 5 with fail
 obtain⟨v3,hv3⟩ : ∃W,v2.alloc (.cells #[.int .i64 0, .int .i64 0, .int .i64 0, .int .i64 0, .int .i64 0, .string ⟨#[]⟩, .string ⟨#[]⟩, .string ⟨#[]⟩, .string ⟨#[]⟩, .int .i64 z] 45)=W:=⟨_,rfl⟩
 rw[hv3] at hx0 hp0 hS0 ⊢
 clear hv3
 generalize v2.heap.size=b at hx0 hBb hbb ⊢
 have h1 : ∃p,PkW B G tv ts en v3 nv st (0,p):=by have:=hp0.out;rw[hR.out] at this;exact this
 obtain⟨p0,h1⟩:=h1
 have h3:=h1.i
 have h4:=h1.t
 have hgl:G<v3.heap.size:=by have:=h1.gB;have:=h1.bl;omega
 obtain⟨T,c,rfl,hT,⟨a0,a1,a2,a3⟩,hg⟩:=tk_get h1.tk hlt'.out
 simp only[Nat.zero_add] at a0 a1 a2 a3
 have hpk:Hid (peekX ts en R=ts.getD st.i tk0):=bH (by rw[hR.out,peek_ok,hg];rfl)
 have hzt:Hid (z=(ts.getD st.i tk0).at_):=bH (by rw[hz.out];unfold hereP;rw[hg])
 generalize ts.getD st.i tk0=t at a0 a1 a2 a3 hpk hzt
 have hj1:(st.i:Int)<(ts.length:Int):=by have:=hlt'.out;omega
 have hj0:(0:Int)≤(st.i:Int):=by omega
 have hbl:b<v3.heap.size:=hx0.out.lt
 clear hg h1
 go_region
 obtain⟨v4,hv4⟩ : ∃W,(v3.alloc (.cells #[.int .i64 t.kind, .string (bs t.text), .int .i64 t.num, .int .i64 t.at_] 114)).drew=W:=⟨_,rfl⟩
 have hbv:Below v3.heap.size v3 v4:=by rw[← hv4];exact(below_alc v3 _).drew
 have hg1:=bH (show TkB G v4 v3.heap.size t from by rw[← hv4];exact(TkB.new G v3 t hgl).step (Bar.of_below (Below.refl _ _).drew))
 rw[hv4]
 clear hv4
 have hS1:=bH (hS0.out.next hbv)
 have hx1:=bH (hx0.out.step (Stp.below (nv:=nv) hbv))
 have hp1:=bH (hp0.out.below hbv)
 have hbg : ¬ v3.heap.size=b:=by omega
 generalize v3.heap.size=g at hg1 hbg ⊢
 clear hbv a0 a1 a2 a3 h3 h4 hx0 hp0 hS0 hgl hT hbl hj1 hj0
 have hk0:=h0.out;have hk1:=h1.out
 rw[hpk.out] at hk0 hk1
 have e0:(t.kind==0)=false:=beq_eq_false_iff_ne.2 hk0
 have e1:(t.kind==1)=false:=beq_eq_false_iff_ne.2 hk1
 have hk0:=bH hk0;have hk1:=bH hk1
 have d0:=hg1.out.c0;have dl:=hg1.out.lt
 have k2:=bH (rtake_any B G _ ts en _ nv R htl sgOpen hp1)
 rw[hu.out] at k2
 go_wp2_with fail
 refine k2.out.mono ?_
 rintro e2 w2 ⟨rfl,hq2,hb2⟩
 have hs2:=bH (show Stp G _ nv w2 nv from Stp.of hb2)
 have hx2:=bH (hx1.out.step hs2.out)
 have hS2:=bH (hS1.out.trans hs2.out)
 have hp2:=bH hq2
 clear k2 hx1 hS1 hp1 hs2 hb2 hq2
 clear d0 dl hg1
 have ha:=bH (at4 (e:=e) hpk.out hk0.out hk1.out hn1.out hn2.out hu.out)
 go_wp2_with fail
 refine(kE.out _ nv _ hp2.out).mono ?_
 rintro e9 w9 ⟨v,nv9,rfl,hp9,hs9,hv9⟩
 have hv9:=bH hv9
 have hS9:=bH (hS2.out.trans hs9)
 have k10:=bH (rwant_any B G _ ts en w9 nv9 _ htl sgShut (bH hp9))
 clear hp9 hs9 hx2 hS2 hp2
 go_wp2_with fail
 refine k10.out.mono ?_
 rintro e10 w10 ⟨rfl,hp10,hb10⟩
 have hfin:Hid (RkN B G (.slice (some ⟨T,0,none⟩) ts.length c) ts en w nv (R >>= atomP ts en e) (.returned (.int .i64 v)) w10):=bH (by rw[ha.out];exact⟨v,nv9,rfl,by rw[shut_st];exact hp10,hS9.out.trans (Stp.of hb10),fun x st' hc=>by obtain⟨s,hs⟩:=shut_ok hc;exact hv9.out _ _ hs⟩)
 clear k10 hp10 hb10 hS9 hv9 ha
 go_wp2_with fail
 go_ret
 exact hfin.out
theorem ratom_handle (B G:Nat) (tv:Value) (ts:List Tk) (en:Int) (dd:Int) (hd0:0≤dd) (hd:dd≤40) (htl:ts.length≤1000000) (e:PS→Except PE (Nat × PS)) (kE:Hid (ExK B G tv ts en 53 (dd+1) e)) (w:World) (nv:Value) (R:Except PE PS) (hq:Hid (startsX ts R=true)) (h:Hid (PkX B G tv ts en w nv R)) (h0:Hid ((peekX ts en R).kind≠0)) (h1:Hid ((peekX ts en R).kind≠1)) (hn1:Hid (isX ts R kwTrue=false)) (hn2:Hid (isX ts R kwFalse=false)) (hn3:Hid (isX ts R sgOpen=false)) (hu:Hid (isX ts R kwHandle=true)) :
  Calls Tryz.prog 109 #[.pointer (some ⟨G,0,none⟩), .int .i64 dd] w (RkN B G tv ts en w nv (R >>= atomP ts en e)):=by
 have k:=bH (rstarts_any B G tv ts en w nv R h)
 rw[hq.out] at k
 obtain⟨st,hst,hlt⟩:=starts_ok hq.out
 have hR:Hid (R= .ok st):=bH hst
 have hlt':=bH hlt
 clear hst hlt
 go_enter Tryz.func109,Tryz.ntmps109
 go_wp2_with fail
 refine k.out.mono ?_
 rintro e1 v1 ⟨rfl,hb1⟩
 have k2:=bH (rhere_any B G tv ts en v1 nv R (bH (h.out.below hb1)))
 have hb1:=bH hb1
 clear k
 go_wp2_with fail
 refine k2.out.mono ?_
 rintro e2 v2 ⟨z,rfl,hb2,hz0⟩
 have hz:=bH (hz0 st hR.out)
 clear hz0
 have hb2:=belT hb1.out hb2
 have hx0:=bH (NdBox.newK (h.out.below hb2) ⟨0,0,0,0,0,⟨#[]⟩,⟨#[]⟩,⟨#[]⟩,⟨#[]⟩,z⟩)
 have hp0:=bH ((h.out.below hb2).below (below_alc v2 (.cells #[.int .i64 0, .int .i64 0, .int .i64 0, .int .i64 0, .int .i64 0, .string ⟨#[]⟩, .string ⟨#[]⟩, .string ⟨#[]⟩, .string ⟨#[]⟩, .int .i64 z] 45)))
 have hS0:=bH (show Stp G w nv (v2.alloc (.cells #[.int .i64 0, .int .i64 0, .int .i64 0, .int .i64 0, .int .i64 0, .string ⟨#[]⟩, .string ⟨#[]⟩, .string ⟨#[]⟩, .string ⟨#[]⟩, .int .i64 z] 45)) nv from (Stp.below hb2).next (below_alc v2 (.cells #[.int .i64 0, .int .i64 0, .int .i64 0, .int .i64 0, .int .i64 0, .string ⟨#[]⟩, .string ⟨#[]⟩, .string ⟨#[]⟩, .string ⟨#[]⟩, .int .i64 z] 45)))
 have hBb:=bH (show B≤v2.heap.size from (h.out.below hb2).lt.2.1)
 have hbb:=bH (show w.heap.size≤v2.heap.size from hb2.size)
 clear k2 hb2 hb1
 go_upto_region 5 with fail
 obtain⟨v3,hv3⟩ : ∃W,v2.alloc (.cells #[.int .i64 0, .int .i64 0, .int .i64 0, .int .i64 0, .int .i64 0, .string ⟨#[]⟩, .string ⟨#[]⟩, .string ⟨#[]⟩, .string ⟨#[]⟩, .int .i64 z] 45)=W:=⟨_,rfl⟩
 rw[hv3] at hx0 hp0 hS0 ⊢
 clear hv3
 generalize v2.heap.size=b at hx0 hBb hbb ⊢
 have h1 : ∃p,PkW B G tv ts en v3 nv st (0,p):=by have:=hp0.out;rw[hR.out] at this;exact this
 obtain⟨p0,h1⟩:=h1
 have h3:=h1.i
 have h4:=h1.t
 have hgl:G<v3.heap.size:=by have:=h1.gB;have:=h1.bl;omega
 obtain⟨T,c,rfl,hT,⟨a0,a1,a2,a3⟩,hg⟩:=tk_get h1.tk hlt'.out
 simp only[Nat.zero_add] at a0 a1 a2 a3
 have hpk:Hid (peekX ts en R=ts.getD st.i tk0):=bH (by rw[hR.out,peek_ok,hg];rfl)
 have hzt:Hid (z=(ts.getD st.i tk0).at_):=bH (by rw[hz.out];unfold hereP;rw[hg])
 generalize ts.getD st.i tk0=t at a0 a1 a2 a3 hpk hzt
 have hj1:(st.i:Int)<(ts.length:Int):=by have:=hlt'.out;omega
 have hj0:(0:Int)≤(st.i:Int):=by omega
 have hbl:b<v3.heap.size:=hx0.out.lt
 clear hg h1
 go_region
 obtain⟨v4,hv4⟩ : ∃W,(v3.alloc (.cells #[.int .i64 t.kind, .string (bs t.text), .int .i64 t.num, .int .i64 t.at_] 114)).drew=W:=⟨_,rfl⟩
 have hbv:Below v3.heap.size v3 v4:=by rw[← hv4];exact(below_alc v3 _).drew
 have hg1:=bH (show TkB G v4 v3.heap.size t from by rw[← hv4];exact(TkB.new G v3 t hgl).step (Bar.of_below (Below.refl _ _).drew))
 rw[hv4]
 clear hv4
 have hS1:=bH (hS0.out.next hbv)
 have hx1:=bH (hx0.out.step (Stp.below (nv:=nv) hbv))
 have hp1:=bH (hp0.out.below hbv)
 have hbg : ¬ v3.heap.size=b:=by omega
 generalize v3.heap.size=g at hg1 hbg ⊢
 clear hbv a0 a1 a2 a3 h3 h4 hx0 hp0 hS0 hgl hT hbl hj1 hj0
 have hk0:=h0.out;have hk1:=h1.out
 rw[hpk.out] at hk0 hk1
 have e0:(t.kind==0)=false:=beq_eq_false_iff_ne.2 hk0
 have e1:(t.kind==1)=false:=beq_eq_false_iff_ne.2 hk1
 have hk0:=bH hk0;have hk1:=bH hk1
 have d0:=hg1.out.c0;have dl:=hg1.out.lt
 have k2:=bH (rtake_any B G _ ts en _ nv R htl sgOpen hp1)
 rw[hn3.out] at k2
 go_wp2_with fail
 refine k2.out.mono ?_
 rintro e2 w2 ⟨rfl,hq2,hb2⟩
 have hs2:=bH (show Stp G _ nv w2 nv from Stp.of hb2)
 have hx2:=bH (hx1.out.step hs2.out)
 have hS2:=bH (hS1.out.trans hs2.out)
 rw[take_no hn3.out] at hq2
 have hp2:=bH hq2
 clear k2 hx1 hS1 hp1 hs2 hb2 hq2
 clear d0 dl hg1
 have k3:=bH (rtake_any B G _ ts en _ nv R htl kwHandle hp2)
 rw[hu.out] at k3
 go_wp2_with fail
 refine k3.out.mono ?_
 rintro e3 w3 ⟨rfl,hq3,hb3⟩
 have hs3:=bH (show Stp G _ nv w3 nv from Stp.of hb3)
 have hx3:=bH (hx2.out.step hs3.out)
 have hS3:=bH (hS2.out.trans hs3.out)
 have hp3:=bH hq3
 clear k3 hx2 hS2 hp2 hs3 hb3 hq3
 have ha:=bH (at5 (e:=e) hpk.out hk0.out hk1.out hn1.out hn2.out hn3.out hu.out)
 rw[← hzt.out] at ha
 have c0:=hx3.out.c0
 have c1:=hx3.out.c1
 have c2:=hx3.out.c2
 have c3:=hx3.out.c3
 have c4:=hx3.out.c4
 have c5:=hx3.out.c5
 have c6:=hx3.out.c6
 have c7:=hx3.out.c7
 have c8:=hx3.out.c8
 have c9:=hx3.out.c9
 have cf:=hx3.out.fz;have cl:=hx3.out.lt
 try dsimp only at c0 c1 c2 c3 c4 c5 c6 c7 c8 c9
 have k9:=bH (rhandle_any B G _ ts en dd hd0 hd htl e kE z w3 nv _ hp3)
 go_wp2_with fail
 refine k9.out.mono ?_
 rintro e9 w9 ⟨v,nv9,rfl,hp9,hs9,hv9⟩
 rw[← ha.out] at hp9 hv9
 have hfin:Hid (RkN B G (.slice (some ⟨T,0,none⟩) ts.length c) ts en w nv (R >>= atomP ts en e) (.returned (.int .i64 v)) w9):=bH ⟨v,nv9,rfl,hp9,hS3.out.trans hs9,hv9⟩
 clear k9 hp9 hs9 hv9 ha c0 c1 c2 c3 c4 c5 c6 c7 c8 c9 cf cl
 go_wp2_with fail
 go_ret
 exact hfin.out
theorem ratom_true (B G:Nat) (tv:Value) (ts:List Tk) (en:Int) (dd:Int) (hd0:0≤dd) (hd:dd≤40) (htl:ts.length≤1000000) (e:PS→Except PE (Nat × PS)) (kE:Hid (ExK B G tv ts en 53 (dd+1) e)) (w:World) (nv:Value) (R:Except PE PS) (hq:Hid (startsX ts R=true)) (h:Hid (PkX B G tv ts en w nv R)) (h0:Hid ((peekX ts en R).kind≠0)) (h1:Hid ((peekX ts en R).kind≠1)) (hn3:Hid (isX ts R sgOpen=false)) (hn4:Hid (isX ts R kwHandle=false)) (hu:Hid (isX ts R kwTrue=true)) :
  Calls Tryz.prog 109 #[.pointer (some ⟨G,0,none⟩), .int .i64 dd] w (RkN B G tv ts en w nv (R >>= atomP ts en e)):=by
 have k:=bH (rstarts_any B G tv ts en w nv R h)
 rw[hq.out] at k
 obtain⟨st,hst,hlt⟩:=starts_ok hq.out
 have hR:Hid (R= .ok st):=bH hst
 have hlt':=bH hlt
 clear hst hlt
 go_enter Tryz.func109,Tryz.ntmps109
 go_wp2_with fail
 refine k.out.mono ?_
 rintro e1 v1 ⟨rfl,hb1⟩
 have k2:=bH (rhere_any B G tv ts en v1 nv R (bH (h.out.below hb1)))
 have hb1:=bH hb1
 clear k
 go_wp2_with fail
 refine k2.out.mono ?_
 rintro e2 v2 ⟨z,rfl,hb2,hz0⟩
 have hz:=bH (hz0 st hR.out)
 clear hz0
 have hb2:=belT hb1.out hb2
 have hx0:=bH (NdBox.newK (h.out.below hb2) ⟨0,0,0,0,0,⟨#[]⟩,⟨#[]⟩,⟨#[]⟩,⟨#[]⟩,z⟩)
 have hp0:=bH ((h.out.below hb2).below (below_alc v2 (.cells #[.int .i64 0, .int .i64 0, .int .i64 0, .int .i64 0, .int .i64 0, .string ⟨#[]⟩, .string ⟨#[]⟩, .string ⟨#[]⟩, .string ⟨#[]⟩, .int .i64 z] 45)))
 have hS0:=bH (show Stp G w nv (v2.alloc (.cells #[.int .i64 0, .int .i64 0, .int .i64 0, .int .i64 0, .int .i64 0, .string ⟨#[]⟩, .string ⟨#[]⟩, .string ⟨#[]⟩, .string ⟨#[]⟩, .int .i64 z] 45)) nv from (Stp.below hb2).next (below_alc v2 (.cells #[.int .i64 0, .int .i64 0, .int .i64 0, .int .i64 0, .int .i64 0, .string ⟨#[]⟩, .string ⟨#[]⟩, .string ⟨#[]⟩, .string ⟨#[]⟩, .int .i64 z] 45)))
 have hBb:=bH (show B≤v2.heap.size from (h.out.below hb2).lt.2.1)
 have hbb:=bH (show w.heap.size≤v2.heap.size from hb2.size)
 clear k2 hb2 hb1
 go_upto_region 5 with fail
 obtain⟨v3,hv3⟩ : ∃W,v2.alloc (.cells #[.int .i64 0, .int .i64 0, .int .i64 0, .int .i64 0, .int .i64 0, .string ⟨#[]⟩, .string ⟨#[]⟩, .string ⟨#[]⟩, .string ⟨#[]⟩, .int .i64 z] 45)=W:=⟨_,rfl⟩
 rw[hv3] at hx0 hp0 hS0 ⊢
 clear hv3
 generalize v2.heap.size=b at hx0 hBb hbb ⊢
 have h1 : ∃p,PkW B G tv ts en v3 nv st (0,p):=by have:=hp0.out;rw[hR.out] at this;exact this
 obtain⟨p0,h1⟩:=h1
 have h3:=h1.i
 have h4:=h1.t
 have hgl:G<v3.heap.size:=by have:=h1.gB;have:=h1.bl;omega
 obtain⟨T,c,rfl,hT,⟨a0,a1,a2,a3⟩,hg⟩:=tk_get h1.tk hlt'.out
 simp only[Nat.zero_add] at a0 a1 a2 a3
 have hpk:Hid (peekX ts en R=ts.getD st.i tk0):=bH (by rw[hR.out,peek_ok,hg];rfl)
 have hzt:Hid (z=(ts.getD st.i tk0).at_):=bH (by rw[hz.out];unfold hereP;rw[hg])
 generalize ts.getD st.i tk0=t at a0 a1 a2 a3 hpk hzt
 have hj1:(st.i:Int)<(ts.length:Int):=by have:=hlt'.out;omega
 have hj0:(0:Int)≤(st.i:Int):=by omega
 have hbl:b<v3.heap.size:=hx0.out.lt
 clear hg h1
 go_region
 obtain⟨v4,hv4⟩ : ∃W,(v3.alloc (.cells #[.int .i64 t.kind, .string (bs t.text), .int .i64 t.num, .int .i64 t.at_] 114)).drew=W:=⟨_,rfl⟩
 have hbv:Below v3.heap.size v3 v4:=by rw[← hv4];exact(below_alc v3 _).drew
 have hg1:=bH (show TkB G v4 v3.heap.size t from by rw[← hv4];exact(TkB.new G v3 t hgl).step (Bar.of_below (Below.refl _ _).drew))
 rw[hv4]
 clear hv4
 have hS1:=bH (hS0.out.next hbv)
 have hx1:=bH (hx0.out.step (Stp.below (nv:=nv) hbv))
 have hp1:=bH (hp0.out.below hbv)
 have hbg : ¬ v3.heap.size=b:=by omega
 generalize v3.heap.size=g at hg1 hbg ⊢
 clear hbv a0 a1 a2 a3 h3 h4 hx0 hp0 hS0 hgl hT hbl hj1 hj0
 have hk0:=h0.out;have hk1:=h1.out
 rw[hpk.out] at hk0 hk1
 have e0:(t.kind==0)=false:=beq_eq_false_iff_ne.2 hk0
 have e1:(t.kind==1)=false:=beq_eq_false_iff_ne.2 hk1
 have hk0:=bH hk0;have hk1:=bH hk1
 have d0:=hg1.out.c0;have dl:=hg1.out.lt
 have k2:=bH (rtake_any B G _ ts en _ nv R htl sgOpen hp1)
 rw[hn3.out] at k2
 go_wp2_with fail
 refine k2.out.mono ?_
 rintro e2 w2 ⟨rfl,hq2,hb2⟩
 have hs2:=bH (show Stp G _ nv w2 nv from Stp.of hb2)
 have hx2:=bH (hx1.out.step hs2.out)
 have hS2:=bH (hS1.out.trans hs2.out)
 rw[take_no hn3.out] at hq2
 have hp2:=bH hq2
 clear k2 hx1 hS1 hp1 hs2 hb2 hq2
 clear d0 dl hg1
 have k3:=bH (rtake_any B G _ ts en _ nv R htl kwHandle hp2)
 rw[hn4.out] at k3
 go_wp2_with fail
 refine k3.out.mono ?_
 rintro e3 w3 ⟨rfl,hq3,hb3⟩
 have hs3:=bH (show Stp G _ nv w3 nv from Stp.of hb3)
 have hx3:=bH (hx2.out.step hs3.out)
 have hS3:=bH (hS2.out.trans hs3.out)
 rw[take_no hn4.out] at hq3
 have hp3:=bH hq3
 clear k3 hx2 hS2 hp2 hs3 hb3 hq3
 have cs:=hx3.out.c0;have cf:=hx3.out.fz;have cl:=hx3.out.lt
 have hx3k0:=bH (hx3.out.set0 2)
 have hp3k0:=bH (hp3.out.box hx3.out hBb.out 0 (.int .i64 2))
 have hS3k0:=bH (hS3.out.store hbb.out 0 (.int .i64 2))
 clear hx3 hp3 hS3
 have hx3:=hx3k0;have hp3:=hp3k0;have hS3:=hS3k0
 clear hx3k0 hp3k0 hS3k0
 have k4:=bH (rtake_any B G _ ts en _ nv R htl kwTrue hp3)
 rw[hu.out] at k4
 go_wp2_with fail
 clear cs cf cl
 refine k4.out.mono ?_
 rintro e4 w4 ⟨rfl,hq4,hb4⟩
 have hs4:=bH (show Stp G _ nv w4 nv from Stp.of hb4)
 have hx4:=bH (hx3.out.step hs4.out)
 have hS4:=bH (hS3.out.trans hs4.out)
 have hp4:=bH hq4
 clear k4 hx3 hS3 hp3 hs4 hb4 hq4
 have cs:=hx4.out.c4;have cf:=hx4.out.fz;have cl:=hx4.out.lt
 have hx5:=bH (hx4.out.set4 1)
 have hp5:=bH (hp4.out.box hx4.out hBb.out 4 (.int .i64 1))
 have hS5:=bH (hS4.out.store hbb.out 4 (.int .i64 1))
 go_upto_region 24 with fail
 clear cs cf cl hx4 hp4 hS4
 obtain⟨w5,hw5⟩ : ∃W,w4.setCell ⟨b,4,none⟩ (.int .i64 1)=W:=⟨_,rfl⟩
 rw[hw5] at hx5 hp5 hS5 ⊢
 clear hw5
 have c0:=hx5.out.c0
 have c1:=hx5.out.c1
 have c2:=hx5.out.c2
 have c3:=hx5.out.c3
 have c4:=hx5.out.c4
 have c5:=hx5.out.c5
 have c6:=hx5.out.c6
 have c7:=hx5.out.c7
 have c8:=hx5.out.c8
 have c9:=hx5.out.c9
 have cf:=hx5.out.fz;have cl:=hx5.out.lt
 try dsimp only at c0 c1 c2 c3 c4 c5 c6 c7 c8 c9
 have k4:=bH (rput_any B G _ ts en _ nv _ ⟨2,0,0,0,1,⟨#[]⟩,⟨#[]⟩,⟨#[]⟩,⟨#[]⟩,z⟩ hp5)
 have he:=bH (show (takeX ts R kwTrue >>= putP ts en ⟨2,0,0,0,1,⟨#[]⟩,⟨#[]⟩,⟨#[]⟩,⟨#[]⟩,z⟩)=(R >>= atomP ts en e) from by rw[hzt.out];exact(at2 hpk.out hk0.out hk1.out hu.out).symm)
 go_wp2_with fail
 refine k4.out.mono ?_
 rintro e4 w4 ⟨v,nv4,rfl,hp4,hs4,hv4⟩
 have hfin:Hid (RkN B G _ ts en w nv (R >>= atomP ts en e) (.returned (.int .i64 v)) w4):=bH (by rw[← he.out];exact⟨v,nv4,rfl,hp4,hS5.out.trans hs4,hv4⟩)
 clear k4 hp4 hs4 hv4 he c0 c1 c2 c3 c4 c5 c6 c7 c8 c9 cf cl
 go_wp2_with fail
 go_ret
 exact hfin.out
theorem ratom_false (B G:Nat) (tv:Value) (ts:List Tk) (en:Int) (dd:Int) (hd0:0≤dd) (hd:dd≤40) (htl:ts.length≤1000000) (e:PS→Except PE (Nat × PS)) (kE:Hid (ExK B G tv ts en 53 (dd+1) e)) (w:World) (nv:Value) (R:Except PE PS) (hq:Hid (startsX ts R=true)) (h:Hid (PkX B G tv ts en w nv R)) (h0:Hid ((peekX ts en R).kind≠0)) (h1:Hid ((peekX ts en R).kind≠1)) (hn1:Hid (isX ts R kwTrue=false)) (hn3:Hid (isX ts R sgOpen=false)) (hn4:Hid (isX ts R kwHandle=false)) (hu:Hid (isX ts R kwFalse=true)) :
  Calls Tryz.prog 109 #[.pointer (some ⟨G,0,none⟩), .int .i64 dd] w (RkN B G tv ts en w nv (R >>= atomP ts en e)):=by
 have k:=bH (rstarts_any B G tv ts en w nv R h)
 rw[hq.out] at k
 obtain⟨st,hst,hlt⟩:=starts_ok hq.out
 have hR:Hid (R= .ok st):=bH hst
 have hlt':=bH hlt
 clear hst hlt
 go_enter Tryz.func109,Tryz.ntmps109
 go_wp2_with fail
 refine k.out.mono ?_
 rintro e1 v1 ⟨rfl,hb1⟩
 have k2:=bH (rhere_any B G tv ts en v1 nv R (bH (h.out.below hb1)))
 have hb1:=bH hb1
 clear k
 go_wp2_with fail
 refine k2.out.mono ?_
 rintro e2 v2 ⟨z,rfl,hb2,hz0⟩
 have hz:=bH (hz0 st hR.out)
 clear hz0
 have hb2:=belT hb1.out hb2
 have hx0:=bH (NdBox.newK (h.out.below hb2) ⟨0,0,0,0,0,⟨#[]⟩,⟨#[]⟩,⟨#[]⟩,⟨#[]⟩,z⟩)
 have hp0:=bH ((h.out.below hb2).below (below_alc v2 (.cells #[.int .i64 0, .int .i64 0, .int .i64 0, .int .i64 0, .int .i64 0, .string ⟨#[]⟩, .string ⟨#[]⟩, .string ⟨#[]⟩, .string ⟨#[]⟩, .int .i64 z] 45)))
 have hS0:=bH (show Stp G w nv (v2.alloc (.cells #[.int .i64 0, .int .i64 0, .int .i64 0, .int .i64 0, .int .i64 0, .string ⟨#[]⟩, .string ⟨#[]⟩, .string ⟨#[]⟩, .string ⟨#[]⟩, .int .i64 z] 45)) nv from (Stp.below hb2).next (below_alc v2 (.cells #[.int .i64 0, .int .i64 0, .int .i64 0, .int .i64 0, .int .i64 0, .string ⟨#[]⟩, .string ⟨#[]⟩, .string ⟨#[]⟩, .string ⟨#[]⟩, .int .i64 z] 45)))
 have hBb:=bH (show B≤v2.heap.size from (h.out.below hb2).lt.2.1)
 have hbb:=bH (show w.heap.size≤v2.heap.size from hb2.size)
 clear k2 hb2 hb1
 go_upto_region 5 with fail
 obtain⟨v3,hv3⟩ : ∃W,v2.alloc (.cells #[.int .i64 0, .int .i64 0, .int .i64 0, .int .i64 0, .int .i64 0, .string ⟨#[]⟩, .string ⟨#[]⟩, .string ⟨#[]⟩, .string ⟨#[]⟩, .int .i64 z] 45)=W:=⟨_,rfl⟩
 rw[hv3] at hx0 hp0 hS0 ⊢
 clear hv3
 generalize v2.heap.size=b at hx0 hBb hbb ⊢
 have h1 : ∃p,PkW B G tv ts en v3 nv st (0,p):=by have:=hp0.out;rw[hR.out] at this;exact this
 obtain⟨p0,h1⟩:=h1
 have h3:=h1.i
 have h4:=h1.t
 have hgl:G<v3.heap.size:=by have:=h1.gB;have:=h1.bl;omega
 obtain⟨T,c,rfl,hT,⟨a0,a1,a2,a3⟩,hg⟩:=tk_get h1.tk hlt'.out
 simp only[Nat.zero_add] at a0 a1 a2 a3
 have hpk:Hid (peekX ts en R=ts.getD st.i tk0):=bH (by rw[hR.out,peek_ok,hg];rfl)
 have hzt:Hid (z=(ts.getD st.i tk0).at_):=bH (by rw[hz.out];unfold hereP;rw[hg])
 generalize ts.getD st.i tk0=t at a0 a1 a2 a3 hpk hzt
 have hj1:(st.i:Int)<(ts.length:Int):=by have:=hlt'.out;omega
 have hj0:(0:Int)≤(st.i:Int):=by omega
 have hbl:b<v3.heap.size:=hx0.out.lt
 clear hg h1
 go_region
 obtain⟨v4,hv4⟩ : ∃W,(v3.alloc (.cells #[.int .i64 t.kind, .string (bs t.text), .int .i64 t.num, .int .i64 t.at_] 114)).drew=W:=⟨_,rfl⟩
 have hbv:Below v3.heap.size v3 v4:=by rw[← hv4];exact(below_alc v3 _).drew
 have hg1:=bH (show TkB G v4 v3.heap.size t from by rw[← hv4];exact(TkB.new G v3 t hgl).step (Bar.of_below (Below.refl _ _).drew))
 rw[hv4]
 clear hv4
 have hS1:=bH (hS0.out.next hbv)
 have hx1:=bH (hx0.out.step (Stp.below (nv:=nv) hbv))
 have hp1:=bH (hp0.out.below hbv)
 have hbg : ¬ v3.heap.size=b:=by omega
 generalize v3.heap.size=g at hg1 hbg ⊢
 clear hbv a0 a1 a2 a3 h3 h4 hx0 hp0 hS0 hgl hT hbl hj1 hj0
 have hk0:=h0.out;have hk1:=h1.out
 rw[hpk.out] at hk0 hk1
 have e0:(t.kind==0)=false:=beq_eq_false_iff_ne.2 hk0
 have e1:(t.kind==1)=false:=beq_eq_false_iff_ne.2 hk1
 have hk0:=bH hk0;have hk1:=bH hk1
 have d0:=hg1.out.c0;have dl:=hg1.out.lt
 have k2:=bH (rtake_any B G _ ts en _ nv R htl sgOpen hp1)
 rw[hn3.out] at k2
 go_wp2_with fail
 refine k2.out.mono ?_
 rintro e2 w2 ⟨rfl,hq2,hb2⟩
 have hs2:=bH (show Stp G _ nv w2 nv from Stp.of hb2)
 have hx2:=bH (hx1.out.step hs2.out)
 have hS2:=bH (hS1.out.trans hs2.out)
 rw[take_no hn3.out] at hq2
 have hp2:=bH hq2
 clear k2 hx1 hS1 hp1 hs2 hb2 hq2
 clear d0 dl hg1
 have k3:=bH (rtake_any B G _ ts en _ nv R htl kwHandle hp2)
 rw[hn4.out] at k3
 go_wp2_with fail
 refine k3.out.mono ?_
 rintro e3 w3 ⟨rfl,hq3,hb3⟩
 have hs3:=bH (show Stp G _ nv w3 nv from Stp.of hb3)
 have hx3:=bH (hx2.out.step hs3.out)
 have hS3:=bH (hS2.out.trans hs3.out)
 rw[take_no hn4.out] at hq3
 have hp3:=bH hq3
 clear k3 hx2 hS2 hp2 hs3 hb3 hq3
 have cs:=hx3.out.c0;have cf:=hx3.out.fz;have cl:=hx3.out.lt
 have hx3k0:=bH (hx3.out.set0 2)
 have hp3k0:=bH (hp3.out.box hx3.out hBb.out 0 (.int .i64 2))
 have hS3k0:=bH (hS3.out.store hbb.out 0 (.int .i64 2))
 clear hx3 hp3 hS3
 have hx3:=hx3k0;have hp3:=hp3k0;have hS3:=hS3k0
 clear hx3k0 hp3k0 hS3k0
 have k4:=bH (rtake_any B G _ ts en _ nv R htl kwTrue hp3)
 rw[hn1.out] at k4
 go_wp2_with fail
 clear cs cf cl
 refine k4.out.mono ?_
 rintro e4 w4 ⟨rfl,hq4,hb4⟩
 have hs4:=bH (show Stp G _ nv w4 nv from Stp.of hb4)
 have hx4:=bH (hx3.out.step hs4.out)
 have hS4:=bH (hS3.out.trans hs4.out)
 rw[take_no hn1.out] at hq4
 have hp4:=bH hq4
 clear k4 hx3 hS3 hp3 hs4 hb4 hq4
 go_wp2_with fail
 refine(rwant_any B G _ ts en _ nv _ htl kwFalse hp4).mono ?_
 rintro e5 w5 ⟨rfl,hq5,hb5⟩
 have hs5:=bH (show Stp G _ nv w5 nv from Stp.of hb5)
 have hx5:=bH (hx4.out.step hs5.out)
 have hS5:=bH (hS4.out.trans hs5.out)
 have hp5:=bH hq5
 clear hx4 hS4 hp4 hs5 hb5 hq5
 have c0:=hx5.out.c0
 have c1:=hx5.out.c1
 have c2:=hx5.out.c2
 have c3:=hx5.out.c3
 have c4:=hx5.out.c4
 have c5:=hx5.out.c5
 have c6:=hx5.out.c6
 have c7:=hx5.out.c7
 have c8:=hx5.out.c8
 have c9:=hx5.out.c9
 have cf:=hx5.out.fz;have cl:=hx5.out.lt
 try dsimp only at c0 c1 c2 c3 c4 c5 c6 c7 c8 c9
 have k4:=bH (rput_any B G _ ts en _ nv _ ⟨2,0,0,0,0,⟨#[]⟩,⟨#[]⟩,⟨#[]⟩,⟨#[]⟩,z⟩ hp5)
 have he:=bH (show ((R >>= wantP ts en kwFalse) >>= putP ts en ⟨2,0,0,0,0,⟨#[]⟩,⟨#[]⟩,⟨#[]⟩,⟨#[]⟩,z⟩)=(R >>= atomP ts en e) from by rw[hzt.out,want_yes hu.out];exact(at3 hpk.out hk0.out hk1.out hn1.out hu.out).symm)
 go_wp2_with fail
 refine k4.out.mono ?_
 rintro e4 w4 ⟨v,nv4,rfl,hp4,hs4,hv4⟩
 have hfin:Hid (RkN B G _ ts en w nv (R >>= atomP ts en e) (.returned (.int .i64 v)) w4):=bH (by rw[← he.out];exact⟨v,nv4,rfl,hp4,hS5.out.trans hs4,hv4⟩)
 clear k4 hp4 hs4 hv4 he c0 c1 c2 c3 c4 c5 c6 c7 c8 c9 cf cl
 go_wp2_with fail
 go_ret
 exact hfin.out
theorem ratom_ex {B G:Nat} {tv:Value} {ts:List Tk} {en:Int} {dd:Int} (hd0:0≤dd) (hd:dd≤40) (htl:ts.length≤1000000) {e:PS→Except PE (Nat × PS)} (kE:Hid (ExK B G tv ts en 53 (dd+1) e)):ExK B G tv ts en 109 dd (atomP ts en e):=by
 intro w nv R h
 have h:=bH h
 cases hq:startsX ts R
 ·exact ratom_no B G tv ts en dd hd0 hd htl e kE w nv R (bH hq) h
 have hq':=bH hq
 by_cases h0:(peekX ts en R).kind=0
 ·exact ratom_name B G tv ts en dd hd0 hd htl e kE w nv R hq' h (bH h0)
 by_cases h1:(peekX ts en R).kind=1
 ·exact ratom_num B G tv ts en dd hd0 hd htl e kE w nv R hq' h (bH h1)
 have h0':=bH h0
 have h1':=bH h1
 cases hu:isX ts R kwTrue
 ·cases hu2:isX ts R kwFalse
  ·cases hu3:isX ts R sgOpen
   ·cases hu4:isX ts R kwHandle
    ·have hs:=start_eq ts en R
     rw[hq,hu,hu2,hu3,hu4,beq_eq_false_iff_ne.2 h0,beq_eq_false_iff_ne.2 h1] at hs
     cases hs
    ·exact ratom_handle B G tv ts en dd hd0 hd htl e kE w nv R hq' h h0' h1' (bH hu) (bH hu2) (bH hu3) (bH hu4)
   ·exact ratom_open B G tv ts en dd hd0 hd htl e kE w nv R hq' h h0' h1' (bH hu) (bH hu2) (bH hu3)
  ·exact ratom_false B G tv ts en dd hd0 hd htl e kE w nv R hq' h h0' h1' (bH hu) (bH (isX_not hu2 (by decide))) (bH (isX_not hu2 (by decide))) (bH hu2)
 ·exact ratom_true B G tv ts en dd hd0 hd htl e kE w nv R hq' h h0' h1' (bH (isX_not hu (by decide))) (bH (isX_not hu (by decide))) (bH hu)
end Go.Proofs.YthpcbgljbpmafaaGreatDoor
