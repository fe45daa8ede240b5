/- Layer 25: read. -/
import Derived.Test.YthpcbgljbpmafaaGreatDoorW16
import Derived.Test.YthpcbgljbpmafaaGreatDoorW32
import Derived.Test.YthpcbgljbpmafaaGreatDoorW33
import Derived.Test.YthpcbgljbpmafaaGreatDoorW40
import Derived.Test.YthpcbgljbpmafaaGreatDoorW41
import Derived.Test.YthpcbgljbpmafaaGreatDoorW48
set_option maxRecDepth 100000
set_option maxHeartbeats 8000000
namespace Go.Proofs.YthpcbgljbpmafaaGreatDoor
open Go.RowKit
set_option linter.unusedVariables false
set_option linter.unusedSimpArgs false
theorem smay_sz {os:List Or} {ts:List Nd} (h:smayV os ts=true) : ∀t∈ts,NdSz t:=by
 rw[smay_c] at h
 simp only[Bool.and_eq_true,List.all_eq_true] at h
 intro t ht
 have hb:=h.2.2.1 t ht
 unfold bareC at hb
 simp only[Bool.and_eq_true,beq_iff_eq] at hb
 have z : ∀x:ByteArray,x.data.toList=[]→x.size≤1125899906842624:=fun x hx=>by
  have:x.data= #[]:=by simpa using hx
  simp[ByteArray.size,this]
 exact⟨z _ hb.1,z _ hb.2.1,z _ hb.2.2.1,z _ hb.2.2.2⟩
theorem smay_len {os:List Or} {ts:List Nd} (h:smayV os ts=true):ts.length≤512∧os.length≤4:=by
 have hT:=tre_may h
 rw[smay_r] at h
 unfold opsV at h
 simp only[Bool.and_eq_true,decide_eq_true_eq] at h
 exact⟨hT.len.2,by omega⟩
def eqNd (t u:Nd):Bool:=decide (t.k=u.k) && (decide (t.a=u.a) && (decide (t.b=u.b) && (decide (t.c=u.c) && (decide (t.n=u.n) && (decide (t.p=u.p) && ((t.nm.data.toList==u.nm.data.toList) && ((t.x.data.toList==u.x.data.toList) && ((t.y.data.toList==u.y.data.toList) && (t.z.data.toList==u.z.data.toList)))))))))
theorem eqNd_eq {t u:Nd} (h:eqNd t u=true):t=u:=by
 unfold eqNd at h
 simp only[Bool.and_eq_true,decide_eq_true_eq,beq_iff_eq] at h
 obtain⟨h1,h2,h3,h4,h5,h6,h7,h8,h9,h10⟩:=h
 have e : ∀x y:ByteArray,x.data.toList=y.data.toList→x=y:=fun x y h=>ba_ext h
 cases t;cases u
 simp only at h1 h2 h3 h4 h5 h6 h7 h8 h9 h10
 rw[h1,h2,h3,h4,h5,h6,e _ _ h7,e _ _ h8,e _ _ h9,e _ _ h10]
def eqRow:List Nd→List Nd→Bool
 | [],[]=>true
 | t :: ts,u :: us=>eqNd t u && eqRow ts us
 | _,_=>false
theorem eqRow_eq : ∀ {ts us:List Nd},eqRow ts us=true→ts=us
 | [],[],_=>rfl
 | t :: ts,u :: us,h=>by
  unfold eqRow at h
  rw[Bool.and_eq_true] at h
  rw[eqNd_eq h.1,eqRow_eq h.2]
theorem td_ok {os:List Or} {ts:List Nd} {w w':World} {e:Ending} (h:TdPost os ts w e w') (hm:smayV os ts=true) : ∃ao co an cn,e= .returned (.tuple #[.agg #[.slice ao os.length co, .slice an (td ts (ts.length-1) []).length cn], .int .i64 0])∧Below w.heap.size w w'∧OwnO w.heap.size w' (.slice ao os.length co) os∧OwnN w.heap.size w' (.slice an (td ts (ts.length-1) []).length cn) (td ts (ts.length-1) []):=by
 obtain⟨hb,⟨h1,_⟩|⟨_,vo,vn,rfl,h2,h3⟩⟩:=h
 ·rw[hm] at h1;cases h1
 obtain⟨a,c,rfl⟩:=owno_sl h2
 obtain⟨a2,c2,rfl⟩:=own_sl h3
 exact⟨a,c,a2,c2,rfl,hb,h2,h3⟩
theorem td_no {os:List Or} {ts:List Nd} {w w':World} {e:Ending} (h:TdPost os ts w e w') (hm:smayV os ts=false):e= .returned (.tuple #[.agg #[.slice none 0 0, .slice none 0 0], .int .i64 2500])∧Below w.heap.size w w':=by
 obtain⟨hb,⟨_,h1⟩|⟨h1,_⟩⟩:=h
 ·exact⟨h1,hb⟩
 ·rw[hm] at h1;cases h1
theorem own_none {B:Nat} {w:World} {a:Option Addr} {n c:Nat} {l:List Or} (h:OwnO B w (.slice a n c) l):a=none→c=0:=by
 rintro rfl
 rcases h.cases with ⟨h,_⟩|⟨g,c,h,_⟩<;>injection h with h1 h2 h3
 cases h1
theorem rread_any (s:ByteArray) (os:List Or) (ns ss:List Nd) (w:World) (hs:s.size≤1125899906842624) (hp:Hid (parseV s= .ok (os,ns))) (hr:Hid (resV os ns= .ok ss)) :
    Calls Tryz.prog 15 #[.string s] w fun e w'=> ∃ao co N cn,e= .returned (.tuple #[.agg #[.slice ao os.length co, .slice (some ⟨N,0,none⟩) ss.length cn], .bool true])∧Below w.heap.size w w'∧OArg w' ao os.length os∧(ao=none→co=0)∧NArg w' (some ⟨N,0,none⟩) ss.length ss:=by
  have hk:=parse_k hp.out
  have hl1:=hk.l1
  have hol:=hk.ol
  have kP:=bH fun (W:World)=>rParse_any s W hs
  have kR:=bH fun (W:World) (a a2:Option Addr) (c c2:Nat) (h1:OArg W a os.length os) (hc:a=none→c=0) (h2:NArg W a2 ns.length ns)=>rResolve_any a a2 os.length c ns.length c2 os ns W (bH h1) hc (bH hk.oz) (by omega) (bH h2) (bH hk.sz) (by omega)
  clear hk hl1 hol hs
  go_enter Tryz.func15,Tryz.ntmps15
  go_wp2_with fail
  refine(kP.out _).mono ?_
  intro e w1 hpost
  obtain⟨a,c,a2,c2,rfl,hb1,ho,hn⟩:=prp_ok hpost hp.out
  have q0 : ∀i,i<2→w1.cell? ⟨w.heap.size,i,none⟩=some (.slice none 0 0):=fun i hi=>by
    have hcs:i=0∨i=1:=by omega
    rcases hcs with rfl|rfl<;>exact carry hb1 (by simp) (by simp[go_sem])
  have qf : ∀i,w1.frozen? ⟨w.heap.size,i,none⟩=false:=fun i=>(hb1.frozen (p:=⟨w.heap.size,i,none⟩) (by simp)).trans (by simp[go_sem])
  have hB1:Below w.heap.size w w1:=belT (show Below w.heap.size w _ from below_alc _ _) hb1
  have hl1:w.heap.size<w1.heap.size:=Nat.lt_of_lt_of_le (by simp) hb1.size
  have hc:=own_none ho
  have hO:=bH ho.arg
  have hN:=bH hn.arg
  clear hpost hb1 ho hn kP
  have hB1:=bH hB1
  have q0:=bH q0
  have qf:=bH qf
  go_wp2_with fail
  refine(kR.out _ a a2 c c2 (hO.out.below (below_alc _ _)) hc (hN.out.below (below_alc _ _))).mono ?_
  intro e w2 hpost
  obtain⟨ao,co,N,cn,rfl,hb2,hown,hN1,hN2,hsl⟩:=res_ok hpost hr.out
  have hb3:=belT (show Below w1.heap.size w1 _ from below_alc _ _) hb2
  have p0:w2.cell? ⟨w.heap.size,0,none⟩=_:=carry hb3 hl1 (q0.out 0 (by omega))
  have p1:w2.cell? ⟨w.heap.size,1,none⟩=_:=carry hb3 hl1 (q0.out 1 (by omega))
  have pf : ∀i,w2.frozen? ⟨w.heap.size,i,none⟩=false:=fun i=>(hb3.frozen (p:=⟨w.heap.size,i,none⟩) hl1).trans (qf.out i)
  have pf0:=pf 0
  have pf1:=pf 1
  have hB2:=bH (belT hB1.out hb3)
  have hl2:w.heap.size<w2.heap.size:=Nat.lt_of_lt_of_le hl1 hb3.size
  have hO2:=bH hown.arg
  have hN3:=bH (show NArg w2 (some ⟨N,0,none⟩) ss.length ss from ⟨rfl, .inr ⟨N,0,rfl,hsl,hN2⟩⟩)
  have hco:=own_none hown
  have hNw:w.heap.size<N:=by have:w1.heap.size<(w1.alloc (.cells #[.slice a os.length c, .slice a2 ns.length c2] 25)).heap.size:=(by simp);omega
  have hOb : ∀b off,ao=some ⟨b,off,none⟩→w.heap.size<b:=by
    intro b off hb'
    rcases hown.cases with ⟨h,_⟩|⟨g,c9,h,hg',_⟩
    · injection h with h _ _;rw[h] at hb';cases hb'
    · injection h with h _ _;rw[h] at hb';injection hb' with hb';injection hb' with hb' _ _
      have:w1.heap.size<(w1.alloc (.cells #[.slice a os.length c, .slice a2 ns.length c2] 25)).heap.size:=by simp
      omega
  clear hpost hb2 hb3 hown hsl q0 qf pf kR hO hN hB1
  have hOb:=bH hOb
  go_wp2_with fail
  refine bodyPost_ret (v:= .tuple #[.agg #[.slice ao os.length co, .slice (some ⟨N,0,none⟩) ss.length cn], .bool true]) (by simp[results,Tryz.results15,go_sem,p0,p1,pf0,pf1,hl2]) rfl ?_
  obtain⟨s0,s1,s2⟩:=two_set p0 p1 (.slice ao os.length co) (.slice (some ⟨N,0,none⟩) ss.length cn)
  have hfin:Below w.heap.size w (w2.setCell ⟨w.heap.size,0,none⟩ (.slice ao os.length co)):=hB2.out.setCell (Nat.le_refl _) _
  have hO4:=hO2.out.bar s2 (fun b off e h=>by have:=hOb.out b off e;have h:b=w.heap.size:=h;omega)
  have hN4:=hN3.out.bar s2 (fun h=>by have h:N=w.heap.size:=h;omega)
  exact⟨ao,co,N,cn,rfl,belT (hfin.setCell (Nat.le_refl _) _) (below_alc _ _),hO4.below (below_alc _ _),hco,hN4.below (below_alc _ _)⟩
def aw25a:List UInt8:=[105,102,32,49,32,60,32,50,32,116,104,101,110,32,102,117,110,32,120,32,45,62,32,120,32,43,32,40,50,32,42,32,51,41,32,101,108,115,101,32,49,32,47,32,48]
def aw25b:List UInt8:=[49,32,45,32,50]
def aw25A:Bool:=match parseV (bs aw25a) with
 | .ok a=>(match resVC a.1 a.2 with
  | .ok ss=>decide ((td ss (ss.length-1) []).length=4) && (decide (((td ss (ss.length-1) []).getD 1 nd0).k=1) && (decide (((td ss (ss.length-1) []).getD 1 nd0).n=6) && decide (((td ss (ss.length-1) []).getD 3 nd0).k=3)))
  | .error _=>false)
 | .error _=>false
theorem aw25A_ok:aw25A=true:=by decide +kernel
theorem aw25_1 : ∃os ns ss,parseV (bs aw25a)= .ok (os,ns)∧resV os ns= .ok ss∧(td ss (ss.length-1) []).length=4∧((td ss (ss.length-1) []).getD 1 nd0).k=1∧((td ss (ss.length-1) []).getD 1 nd0).n=6∧((td ss (ss.length-1) []).getD 3 nd0).k=3:=by
 have h:=aw25A_ok
 unfold aw25A at h
 split at h
 ·rename_i a ha
  split at h
  ·rename_i ss hs
   simp only[Bool.and_eq_true,decide_eq_true_eq] at h
   exact⟨a.1,a.2,ss,ha,by rw[resV_c];exact hs,h.1,h.2.1,h.2.2.1,h.2.2.2⟩
  ·cases h
 ·cases h
def aw25B:Bool:=match parseV (bs aw25b) with
 | .ok a=>(match resVC a.1 a.2 with
  | .ok ss=>eqRow (td ss (ss.length-1) []) ss
  | .error _=>false)
 | .error _=>false
theorem aw25B_ok:aw25B=true:=by decide +kernel
theorem aw25_2 : ∃os ns ss,parseV (bs aw25b)= .ok (os,ns)∧resV os ns= .ok ss∧td ss (ss.length-1) []=ss:=by
 have h:=aw25B_ok
 unfold aw25B at h
 split at h
 ·rename_i a ha
  split at h
  ·rename_i ss hs
   exact⟨a.1,a.2,ss,ha,by rw[resV_c];exact hs,eqRow_eq h⟩
  ·cases h
 ·cases h
theorem aw25a_sz:(bs aw25a).size≤1125899906842624:=by rw[bs_size];decide
theorem aw25b_sz:(bs aw25b).size≤1125899906842624:=by rw[bs_size];decide
theorem aw25_3:smayV [] []=false:=by rw[smay_c];decide +kernel
open Go.RowKit
theorem awake25_any (w:World) (hg:Hid (errTy w)):Calls Tryz.prog 14 #[] w fun e w'=>e= .returned (.bool true)∧Below w.heap.size w w':=by
 obtain⟨os1,ns1,ss1,hp1,hr1,hl1,ha1,hb1,hc1⟩:=aw25_1
 obtain⟨os2,ns2,ss2,hp2,hr2,hq2⟩:=aw25_2
 obtain⟨-,hm1, -⟩:=shape_ok hr1
 obtain⟨-,hm2, -⟩:=shape_ok hr2
 have hs1:=smay_len hm1
 have hs2:=smay_len hm2
 have kR1:=bH fun (W:World)=>rread_any (bs aw25a) os1 ns1 ss1 W aw25a_sz (bH hp1) (bH hr1)
 have kR2:=bH fun (W:World)=>rread_any (bs aw25b) os2 ns2 ss2 W aw25b_sz (bH hp2) (bH hr2)
 have kT1:=bH fun (W:World) (hb:Below w.heap.size w W) (a a2:Option Addr) (c c2:Nat) (h1:OArg W a os1.length os1) (h2:NArg W a2 ss1.length ss1)=>(tidy_any a a2 os1.length c ss1.length c2 os1 ss1 W (bH h1) (bH (parse_k hp1).oz) (by omega) (bH h2) (bH (smay_sz hm1)) (by omega) (bH (errTy_below hg.out hb))).mono fun e w' h=>td_ok h hm1
 have kT2:=bH fun (W:World) (hb:Below w.heap.size w W) (a a2:Option Addr) (c c2:Nat) (h1:OArg W a os2.length os2) (h2:NArg W a2 ss2.length ss2)=>(tidy_any a a2 os2.length c ss2.length c2 os2 ss2 W (bH h1) (bH (parse_k hp2).oz) (by omega) (bH h2) (bH (smay_sz hm2)) (by omega) (bH (errTy_below hg.out hb))).mono fun e w' h=>td_ok h hm2
 have kT0:=bH fun (W:World) (hb:Below w.heap.size w W)=>(tidy_any none none 0 0 0 0 [] [] W (bH (oarg0 _ _)) (bH or_sz0) (by omega) (bH (narg0 _ _)) (bH nd_sz0) (by omega) (bH (errTy_below hg.out hb))).mono fun e w' h=>td_no h aw25_3
 rw[hq2] at kT2
 obtain⟨q1,hq1⟩ : ∃r,td ss1 (ss1.length-1) []=r:=⟨_,rfl⟩
 rw[hq1] at hl1 ha1 hb1 hc1 kT1
 clear hp1 hr1 hp2 hr2 hq2 hm1 hm2 hq1
 have hlq:=bH hl1
 rw[hl1] at kT1
 have ha1:=bH ha1;have hb1:=bH hb1;have hc1:=bH hc1
 have hs1:=bH hs1;have hs2:=bH hs2
 clear hl1
 go_enter Tryz.func14,Tryz.ntmps14
 go_wp2_with fail
 refine(kR1.out _).mono ?_
 rintro e w1 ⟨ao,co,N,cn,rfl,hB1,hO1,_,hN1⟩
 have hB1:=bH hB1;have hO1:=bH hO1;have hN1:=bH hN1
 clear kR1
 go_wp2_with fail
 refine(kT1.out _ (belT hB1.out (below_alc _ _)) ao _ co cn (hO1.out.below (below_alc _ _)) (hN1.out.below (below_alc _ _))).mono ?_
 rintro e w2 ⟨a3,c3,a4,c4,rfl,hb2,hO2,hN2⟩
 have hB2:=bH (belT hB1.out (belT (show Below w1.heap.size w1 _ from below_alc _ _) hb2))
 have hN2b:OwnN (w1.alloc (.cells #[.slice ao os1.length co, .slice (some ⟨N,0,none⟩) ss1.length cn] 25)).heap.size w2 (.slice a4 q1.length c4) q1:=by rw[hlq.out];exact hN2
 obtain⟨g,hge,_,hgs,_,hgc,hS⟩:=own_at hN2b (p:=3) (by have:=hlq.out;omega)
 subst hge
 have t1:=(hS 1 (by have:=hlq.out;omega)).1
 have t2:=(hS 1 (by have:=hlq.out;omega)).2.2.2.2.1
 have t3:=(hS 3 (by have:=hlq.out;omega)).1
 rw[ha1.out] at t1
 rw[hb1.out] at t2
 rw[hc1.out] at t3
 simp only[Nat.zero_add,Nat.one_mul,Nat.add_zero,Nat.reduceMul,Nat.reduceAdd] at t1 t2 t3
 clear kT1 hb2 hO2 hN2 hN2b hS hB1 hO1 hN1
 go_wp2_with fail
 refine(kR2.out _).mono ?_
 rintro e w3 ⟨ao5,co5,N5,cn5,rfl,hb3,hO3,_,hN3⟩
 have hl3:w2.heap.size<w3.heap.size:=Nat.lt_of_lt_of_le (by simp) hb3.size
 have p1:w3.cell? ⟨w2.heap.size,1,none⟩=some (.slice (some ⟨g,0,none⟩) 4 c4):=carry hb3 (by simp) (by simp[go_sem])
 have hb3':=belT (show Below w2.heap.size w2 _ from below_alc _ _) hb3
 have t1:=carry hb3' hgs t1;have t2:=carry hb3' hgs t2;have t3:=carry hb3' hgs t3
 have hgs3:g<w3.heap.size:=Nat.lt_of_lt_of_le hgs hb3'.size
 have hB3:=bH (belT hB2.out hb3')
 have hO3:=bH hO3;have hN3:=bH hN3
 clear kR2 hb3 hb3' hB2
 go_wp2_with fail
 refine(kT2.out _ (belT hB3.out (below_alc _ _)) ao5 _ co5 cn5 (hO3.out.below (below_alc _ _)) (hN3.out.below (below_alc _ _))).mono ?_
 rintro e w4 ⟨a7,c7,a8,c8,rfl,hb4,hO4,hN4⟩
 have hl4:w3.heap.size<w4.heap.size:=Nat.lt_of_lt_of_le (by simp) hb4.size
 have r0:w4.cell? ⟨w3.heap.size,0,none⟩=some (.slice ao5 os2.length co5):=carry hb4 (by simp) (by simp[go_sem])
 have r1:w4.cell? ⟨w3.heap.size,1,none⟩=some (.slice (some ⟨N5,0,none⟩) ss2.length cn5):=carry hb4 (by simp) (by simp[go_sem])
 have hb4':=belT (show Below w3.heap.size w3 _ from below_alc _ _) hb4
 have p1:=carry hb4' hl3 p1
 have t1:=carry hb4' hgs3 t1;have t2:=carry hb4' hgs3 t2;have t3:=carry hb4' hgs3 t3
 have hO3:=bH (hO3.out.below hb4');have hN3:=bH (hN3.out.below hb4')
 have hB4:=bH (belT hB3.out hb4')
 have hO4:=bH hO4.arg;have hN4:=bH hN4.arg
 have hgs4:g<w4.heap.size:=Nat.lt_of_lt_of_le hgs3 hb4'.size
 have hl24:w2.heap.size<w4.heap.size:=Nat.lt_trans hl3 hl4
 clear kT2 hb4 hb4' hB3
 go_wp2_with fail
 refine(kT0.out _ (belT hB4.out (below_alc _ _))).mono ?_
 rintro e w5 ⟨rfl,hb5⟩
 have s0:w5.cell? ⟨w4.heap.size,0,none⟩=some (.slice a7 os2.length c7):=carry hb5 (by simp) (by simp[go_sem])
 have s1:w5.cell? ⟨w4.heap.size,1,none⟩=some (.slice a8 ss2.length c8):=carry hb5 (by simp) (by simp[go_sem])
 have hl5:w4.heap.size<w5.heap.size:=Nat.lt_of_lt_of_le (by simp) hb5.size
 have hb5':=belT (show Below w4.heap.size w4 _ from below_alc _ _) hb5
 have p1:=carry hb5' hl24 p1
 have r0:=carry hb5' hl4 r0;have r1:=carry hb5' hl4 r1
 have t1:=carry hb5' hgs4 t1;have t2:=carry hb5' hgs4 t2;have t3:=carry hb5' hgs4 t3
 have hO3:=bH (hO3.out.below hb5');have hN3:=bH (hN3.out.below hb5')
 have hO4:=bH (hO4.out.below hb5');have hN4:=bH (hN4.out.below hb5')
 have hB5:=bH (belT hB4.out hb5')
 have hgs5:g<w5.heap.size:=Nat.lt_of_lt_of_le hgs4 hb5'.size
 have hl25:w2.heap.size<w5.heap.size:=Nat.lt_trans hl24 hl5
 have hl35:w3.heap.size<w5.heap.size:=Nat.lt_trans hl4 hl5
 have hl5b:=hs2.out.1;have hl5o:=hs2.out.2
 have kS:=bH fun (W:World) (hb:Below w5.heap.size w5 W)=>sameProg_any a7 a8 ao5 (some ⟨N5,0,none⟩) os2.length c7 ss2.length c8 os2.length co5 ss2.length cn5 os2 ss2 W (bH (hO4.out.below hb)) (bH (hN4.out.below hb)) (bH (hO3.out.below hb)) (bH (hN3.out.below hb)) (by omega) (by omega)
 clear kT0 hb5 hb5' hB4 hl3 hl4 hl24 hgs hgs3 hgs4
 go_wp2_with (first|(go_at_call 11;refine(num_any _ _ (by omega) (by omega)).mono ?_;rintro e w' ⟨rfl,rfl⟩)|(go_at_call 10;refine(kS.out _ (bZ)).mono ?_;rintro e w6 ⟨rfl,hb6⟩;have hB6:=bH (belT hB5.out (belT (show Below w5.heap.size w5 _ from bZ) hb6));clear hb6 kS p1 r0 r1 s0 s1 t1 t2 t3))
 go_ret
 exact⟨rfl,hB6.out⟩
end Go.Proofs.YthpcbgljbpmafaaGreatDoor
