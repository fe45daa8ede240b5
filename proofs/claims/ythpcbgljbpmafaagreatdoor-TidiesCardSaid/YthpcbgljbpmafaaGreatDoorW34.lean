/- The reference's within and ScopeMay. -/
import Derived.Test.YthpcbgljbpmafaaGreatDoorW31
import Derived.Test.YthpcbgljbpmafaaGreatDoorW32
import Derived.Test.YthpcbgljbpmafaaGreatDoorW33
import Derived.BigQuiet
set_option maxRecDepth 100000
set_option maxHeartbeats 8000000
namespace Go.Proofs.YthpcbgljbpmafaaGreatDoor
open Go.RowKit
set_option linter.unusedVariables false
set_option linter.unusedSimpArgs false
theorem ok_bareB {t:Nd} (h:okNd (okNm false) t=true):bareB t=true:=by
 unfold okNd at h
 simp only[Bool.and_eq_true] at h
 obtain⟨⟨⟨⟨h1,_⟩,_⟩,_⟩,h5⟩:=h
 unfold okNm resB namesL at h5
 unfold plainB at h1
 unfold bareB
 simp only[Bool.false_eq_true,if_false] at h5
 simp only[Bool.and_eq_true,beq_iff_eq]
 by_cases k0:t.k=0
 ·simp only[k0,true_or,if_true,List.all_cons,List.all_nil,Bool.and_true,decide_eq_true_eq] at h1 h5
  simp_all
 by_cases k1:t.k=1∨t.k=2
 ·rw[if_neg k0,if_pos k1] at h1;simp only[decide_eq_true_eq] at h1;simp_all
 by_cases k3:t.k=3
 ·simp only[k3] at h1 h5;simp at h1 h5;simp_all
 by_cases k4:t.k=4
 ·simp only[k4] at h1 h5;simp at h1 h5;simp_all
 by_cases k5:t.k=5
 ·simp only[k5] at h1 h5;simp at h1 h5;simp_all
 by_cases k6:t.k=6
 ·simp only[k6] at h1 h5;simp at h1 h5;simp_all
 by_cases k7:t.k=7
 ·simp only[k7] at h1 h5;simp at h1 h5;simp_all
 by_cases k8:t.k=8
 ·simp only[k8] at h1 h5;simp at h1 h5;simp_all
 by_cases k9:t.k=9
 ·simp only[k9] at h1 h5;simp at h1 h5;simp_all
 ·rw[if_neg k0,if_neg k1,if_neg k3,if_neg k4,if_neg k5,if_neg k6,if_neg k7,if_neg k8,if_neg k9] at h1
  have k10:t.k=10:=of_decide_eq_true h1
  simp only[k10] at h5;simp at h5;simp_all
theorem nm_nil {s:ByteArray} (h:s.toList=[]):nmB s.data.toList=false:=by
 rw[ByteArray.toList_eq] at h;rw[h];rfl
theorem ok_named {t:Nd} (h:okNd (okNm true) t=true) (hb:bareB t=true):okNd (okNm false) t=true:=by
 unfold okNd at h ⊢
 unfold bareB at hb
 simp only[Bool.and_eq_true,beq_iff_eq] at h hb ⊢
 obtain⟨h1,h5⟩:=h
 refine⟨h1, ?_⟩
 obtain⟨b1,b2,b3,b4⟩:=hb
 unfold okNm namedB namesL at h5
 unfold okNm resB namesL
 simp only[if_true,Bool.false_eq_true,if_false,Bool.and_eq_true] at h5 ⊢
 have h6:=h5.2
 clear h5
 by_cases k0:t.k=0∨t.k=9
 ·rw[if_pos k0] at h6;simp only[List.all_cons,nm_nil b1,Bool.false_and] at h6;cases h6
 ·rw[if_neg k0] at h6 ⊢
  by_cases k3:t.k=3∨t.k=5
  ·rw[if_pos k3] at h6;simp only[List.all_cons,nm_nil b2,Bool.false_and] at h6;cases h6
  ·rw[if_neg k3] at h6 ⊢
   by_cases k6:t.k=6
   ·rw[if_pos k6] at h6;simp only[List.all_cons,nm_nil b2,Bool.false_and] at h6;cases h6
   ·rw[if_neg k6] at h6 ⊢
    by_cases k10:t.k=10
    ·rw[if_pos k10] at h6;simp only[List.all_cons,nm_nil b1,Bool.false_and] at h6;cases h6
    ·rw[if_neg k10];rfl
theorem has_bare (ts:List Nd):(hasV ts 0 && ts.all bareB)=treeV (okNm false) ts:=by
 rw[Bool.eq_iff_iff,Bool.and_eq_true]
 constructor
 ·rintro ⟨h1,h2⟩
  unfold hasV anyV at h1
  simp only[Bool.and_eq_true,Bool.or_eq_true] at h1
  rcases h1.2 with h|h
  ·unfold treeV at h ⊢
   simp only[Bool.and_eq_true,List.all_eq_true] at h h2 ⊢
   exact⟨⟨h.1.1,fun t ht=>ok_named (h.1.2 t ht) (h2 t ht)⟩,h.2⟩
  ·exact h
 ·intro h
  have hh:=h
  unfold treeV at h
  simp only[Bool.and_eq_true,List.all_eq_true,decide_eq_true_eq] at h
  refine⟨?_,by rw[List.all_eq_true];exact fun t ht=>ok_bareB (h.1.2 t ht)⟩
  unfold hasV anyV
  rw[hh,Bool.or_true,Bool.and_true,decide_eq_true_eq]
  omega
theorem smay_r (os:List Or) (ts:List Nd):smayV os ts=(opsV os && (treeV (okNm false) ts && (!dupB (opN os) && numsV os.length ts.length ts (ts.length-1) 0))):=by
 unfold smayV
 rw[← Bool.and_assoc (hasV ts 0),has_bare]
 cases opsV os<;>cases dupB (opN os)<;>cases treeV (okNm false) ts<;>simp
def WiSpec (a a2:Option Addr) (no c n2 c2:Nat) (ts:List Nd) (f:Nat):Prop:= ∀(at_ bound:Nat) (w:World),at_<f→at_<ts.length→ts.length≤512→Downs ts→bound+2*at_≤1000000→no≤1000000→Hid (NArg w a2 n2 ts)→
  Calls Tryz.prog 43 #[.agg #[.slice a no c, .slice a2 n2 c2], .int .i64 at_, .int .i64 bound] w fun e w'=>e= .returned (.bool (numsV no f ts at_ bound))∧Below w.heap.size w w'
theorem wi_0 (a a2:Option Addr) (no c n2 c2:Nat) (ts:List Nd) (f:Nat) (ih:WiSpec a a2 no c n2 c2 ts f) (at_ bound:Nat) (w:World) (hf:at_<f+1) (hat:at_<ts.length) (hsl:ts.length≤512) (hD:Downs ts) (hbd:bound+2*at_≤1000000) (hno:no≤1000000) (hN:Hid (NArg w a2 n2 ts)) (hk0:(ts.getD at_ nd0).k=0) :
  Calls Tryz.prog 43 #[.agg #[.slice a no c, .slice a2 n2 c2], .int .i64 at_, .int .i64 bound] w fun e w'=>e= .returned (.bool (numsV no (f+1) ts at_ bound))∧Below w.heap.size w w':=by
 obtain⟨t,ht⟩ : ∃t,ts.getD at_ nd0=t:=⟨_,rfl⟩
 rw[ht] at hk0
 have hk1:=bH hk0
 clear hk0
 have hkid:=bH (fun c (hc:c∈kidsS t)=>hD at_ hat c (by rw[ht];exact hc))
 have hV:Hid (numsV no (f+1) ts at_ bound=(nmBd no bound t && (kidsS t).all fun c=>numsV no f ts c.1.toNat (bound+c.2.length))):=bH (by rw[← ht];rfl)
 obtain rfl:n2=ts.length:=hN.out.1
 rcases hN.out.2 with h0|⟨b,off,rfl,hs,hbl⟩
 ·rw[h0] at hat;simp at hat
 obtain⟨w0,hw0⟩ : ∃W,w.alloc (.cells #[.slice a no c, .slice (some ⟨b,off,none⟩) ts.length c2] 25)=W:=⟨_,rfl⟩
 have hP0:Pg w0 w.heap.size a no c (some ⟨b,off,none⟩) ts.length c2:=by rw[← hw0];exact pg_lit _ _ _ rfl _ _ _ _ _ _
 have hb0:Below w.heap.size w w0:=by rw[← hw0];exact below_alc _ _
 have hT:=(hs at_ hat).below hb0 hbl
 rw[ht] at hT
 obtain⟨w1,hw1⟩ : ∃W,w0.alloc (.cells #[.int .i64 t.k, .int .i64 t.a, .int .i64 t.b, .int .i64 t.c, .int .i64 t.n, .string t.nm, .string t.x, .string t.y, .string t.z, .int .i64 t.p] 45)=W:=⟨_,rfl⟩
 have hX:Hid (Nd10 w1 w0.heap.size t):=bH (by rw[← hw1];exact nd10_lit _ _ _ _ _ rfl rfl)
 have hb1:Below w0.heap.size w0 w1:=by rw[← hw1];exact below_alc _ _
 have hP:Hid (Pg w1 w.heap.size a no c (some ⟨b,off,none⟩) ts.length c2):=bH (hP0.below hb1)
 have hB:Hid (Below w.heap.size w w1):=bH (belT hb0 hb1)
 have hati:(at_:Int)<(ts.length:Int):=by omega
 have hat0:(0:Int)≤(at_:Int):=by omega
 unfold NdAt at hT
 obtain⟨e0,e1,e2,e3,e4,e5,e6,e7,e8,e9⟩:=hT
 obtain⟨q0,q1,q2⟩:=hP0
 have hbl0:b<w0.heap.size:=by have:=hb0.size;omega
 have hs:=bH hs
 have hD2:=bH hD
 clear ht hb1 hD
 go_enter Tryz.func43,Tryz.ntmps43
 go_upto_region 1 with fail
 (try rw[hw0])
 clear hw0
 go_upto_region 2 with fail
 (try rw[hw1])
 clear hw1 e0 e1 e2 e3 e4 e5 e6 e7 e8 e9 q0 q1 q2 hb0
 have hk0:=hk1.out
 clear hk1
 obtain⟨k,ta,tb,tc,n,nm,x,y,z,p⟩:=t
 dsimp only at hk0
 subst hk0
 have hV:Hid (numsV no (f+1) ts at_ bound=decide (0≤n∧n<(bound:Int))):=bH (hV.out.trans (by show (decide (0≤n∧n<(bound:Int)) && true)=_;rw[Bool.and_true]))
 obtain⟨xl,x0,x1,x2,x3,x4,x5,x6,x7,x8,x9,_⟩:=hX.out
 dsimp only at x0 x4
 have hcs : ¬ (0≤n)∨(0≤n∧ ¬ n<(bound:Int))∨(0≤n∧n<(bound:Int)):=by omega
 rcases hcs with g0|⟨g0,g1⟩|⟨g0,g1⟩
 ·have hf:Hid (numsV no (f+1) ts at_ bound=false):=bH (by rw[hV.out,decide_eq_false (by omega)])
  have gd:decide (0≤n)=false:=decide_eq_false g0
  go_wp2_with fail
  go_ret
  exact⟨ret_bb hf.out.symm,hB.out⟩
 ·have hf:Hid (numsV no (f+1) ts at_ bound=false):=bH (by rw[hV.out,decide_eq_false (by omega)])
  go_wp2_with fail
  go_ret
  exact⟨ret_bb hf.out.symm,hB.out⟩
 ·have hf:Hid (numsV no (f+1) ts at_ bound=true):=bH (by rw[hV.out,decide_eq_true ⟨g0,g1⟩])
  go_wp2_with fail
  go_ret
  exact⟨ret_bb hf.out.symm,hB.out⟩
theorem wi_1 (a a2:Option Addr) (no c n2 c2:Nat) (ts:List Nd) (f:Nat) (ih:WiSpec a a2 no c n2 c2 ts f) (at_ bound:Nat) (w:World) (hf:at_<f+1) (hat:at_<ts.length) (hsl:ts.length≤512) (hD:Downs ts) (hbd:bound+2*at_≤1000000) (hno:no≤1000000) (hN:Hid (NArg w a2 n2 ts)) (hk0:(ts.getD at_ nd0).k=1∨(ts.getD at_ nd0).k=2) :
  Calls Tryz.prog 43 #[.agg #[.slice a no c, .slice a2 n2 c2], .int .i64 at_, .int .i64 bound] w fun e w'=>e= .returned (.bool (numsV no (f+1) ts at_ bound))∧Below w.heap.size w w':=by
 obtain⟨t,ht⟩ : ∃t,ts.getD at_ nd0=t:=⟨_,rfl⟩
 rw[ht] at hk0
 have hk1:=bH hk0
 clear hk0
 have hkid:=bH (fun c (hc:c∈kidsS t)=>hD at_ hat c (by rw[ht];exact hc))
 have hV:Hid (numsV no (f+1) ts at_ bound=(nmBd no bound t && (kidsS t).all fun c=>numsV no f ts c.1.toNat (bound+c.2.length))):=bH (by rw[← ht];rfl)
 obtain rfl:n2=ts.length:=hN.out.1
 rcases hN.out.2 with h0|⟨b,off,rfl,hs,hbl⟩
 ·rw[h0] at hat;simp at hat
 obtain⟨w0,hw0⟩ : ∃W,w.alloc (.cells #[.slice a no c, .slice (some ⟨b,off,none⟩) ts.length c2] 25)=W:=⟨_,rfl⟩
 have hP0:Pg w0 w.heap.size a no c (some ⟨b,off,none⟩) ts.length c2:=by rw[← hw0];exact pg_lit _ _ _ rfl _ _ _ _ _ _
 have hb0:Below w.heap.size w w0:=by rw[← hw0];exact below_alc _ _
 have hT:=(hs at_ hat).below hb0 hbl
 rw[ht] at hT
 obtain⟨w1,hw1⟩ : ∃W,w0.alloc (.cells #[.int .i64 t.k, .int .i64 t.a, .int .i64 t.b, .int .i64 t.c, .int .i64 t.n, .string t.nm, .string t.x, .string t.y, .string t.z, .int .i64 t.p] 45)=W:=⟨_,rfl⟩
 have hX:Hid (Nd10 w1 w0.heap.size t):=bH (by rw[← hw1];exact nd10_lit _ _ _ _ _ rfl rfl)
 have hb1:Below w0.heap.size w0 w1:=by rw[← hw1];exact below_alc _ _
 have hP:Hid (Pg w1 w.heap.size a no c (some ⟨b,off,none⟩) ts.length c2):=bH (hP0.below hb1)
 have hB:Hid (Below w.heap.size w w1):=bH (belT hb0 hb1)
 have hati:(at_:Int)<(ts.length:Int):=by omega
 have hat0:(0:Int)≤(at_:Int):=by omega
 unfold NdAt at hT
 obtain⟨e0,e1,e2,e3,e4,e5,e6,e7,e8,e9⟩:=hT
 obtain⟨q0,q1,q2⟩:=hP0
 have hbl0:b<w0.heap.size:=by have:=hb0.size;omega
 have hs:=bH hs
 have hD2:=bH hD
 clear ht hb1 hD
 go_enter Tryz.func43,Tryz.ntmps43
 go_upto_region 1 with fail
 (try rw[hw0])
 clear hw0
 go_upto_region 2 with fail
 (try rw[hw1])
 clear hw1 e0 e1 e2 e3 e4 e5 e6 e7 e8 e9 q0 q1 q2 hb0
 have hk0:=hk1.out
 clear hk1
 obtain⟨k,ta,tb,tc,n,nm,x,y,z,p⟩:=t
 dsimp only at hk0
 have hVt:Hid (numsV no (f+1) ts at_ bound=true):=bH (by rw[hV.out];rcases hk0 with rfl|rfl<;>rfl)
 obtain⟨xl,x0,x1,x2,x3,x4,x5,x6,x7,x8,x9,_⟩:=hX.out
 dsimp only at x0
 clear hV hkid
 rcases hk0 with rfl|rfl
 ·go_wp2_with fail
  go_ret
  exact⟨ret_bb hVt.out.symm,hB.out⟩
 ·go_wp2_with fail
  go_ret
  exact⟨ret_bb hVt.out.symm,hB.out⟩
theorem wi_3 (a a2:Option Addr) (no c n2 c2:Nat) (ts:List Nd) (f:Nat) (ih:WiSpec a a2 no c n2 c2 ts f) (at_ bound:Nat) (w:World) (hf:at_<f+1) (hat:at_<ts.length) (hsl:ts.length≤512) (hD:Downs ts) (hbd:bound+2*at_≤1000000) (hno:no≤1000000) (hN:Hid (NArg w a2 n2 ts)) (hk0:(ts.getD at_ nd0).k=3) :
  Calls Tryz.prog 43 #[.agg #[.slice a no c, .slice a2 n2 c2], .int .i64 at_, .int .i64 bound] w fun e w'=>e= .returned (.bool (numsV no (f+1) ts at_ bound))∧Below w.heap.size w w':=by
 obtain⟨t,ht⟩ : ∃t,ts.getD at_ nd0=t:=⟨_,rfl⟩
 rw[ht] at hk0
 have hk1:=bH hk0
 clear hk0
 have hkid:=bH (fun c (hc:c∈kidsS t)=>hD at_ hat c (by rw[ht];exact hc))
 have hV:Hid (numsV no (f+1) ts at_ bound=(nmBd no bound t && (kidsS t).all fun c=>numsV no f ts c.1.toNat (bound+c.2.length))):=bH (by rw[← ht];rfl)
 obtain rfl:n2=ts.length:=hN.out.1
 rcases hN.out.2 with h0|⟨b,off,rfl,hs,hbl⟩
 ·rw[h0] at hat;simp at hat
 obtain⟨w0,hw0⟩ : ∃W,w.alloc (.cells #[.slice a no c, .slice (some ⟨b,off,none⟩) ts.length c2] 25)=W:=⟨_,rfl⟩
 have hP0:Pg w0 w.heap.size a no c (some ⟨b,off,none⟩) ts.length c2:=by rw[← hw0];exact pg_lit _ _ _ rfl _ _ _ _ _ _
 have hb0:Below w.heap.size w w0:=by rw[← hw0];exact below_alc _ _
 have hT:=(hs at_ hat).below hb0 hbl
 rw[ht] at hT
 obtain⟨w1,hw1⟩ : ∃W,w0.alloc (.cells #[.int .i64 t.k, .int .i64 t.a, .int .i64 t.b, .int .i64 t.c, .int .i64 t.n, .string t.nm, .string t.x, .string t.y, .string t.z, .int .i64 t.p] 45)=W:=⟨_,rfl⟩
 have hX:Hid (Nd10 w1 w0.heap.size t):=bH (by rw[← hw1];exact nd10_lit _ _ _ _ _ rfl rfl)
 have hb1:Below w0.heap.size w0 w1:=by rw[← hw1];exact below_alc _ _
 have hP:Hid (Pg w1 w.heap.size a no c (some ⟨b,off,none⟩) ts.length c2):=bH (hP0.below hb1)
 have hB:Hid (Below w.heap.size w w1):=bH (belT hb0 hb1)
 have hati:(at_:Int)<(ts.length:Int):=by omega
 have hat0:(0:Int)≤(at_:Int):=by omega
 unfold NdAt at hT
 obtain⟨e0,e1,e2,e3,e4,e5,e6,e7,e8,e9⟩:=hT
 obtain⟨q0,q1,q2⟩:=hP0
 have hbl0:b<w0.heap.size:=by have:=hb0.size;omega
 have hs:=bH hs
 have hD2:=bH hD
 clear ht hb1 hD
 go_enter Tryz.func43,Tryz.ntmps43
 go_upto_region 1 with fail
 (try rw[hw0])
 clear hw0
 go_upto_region 2 with fail
 (try rw[hw1])
 clear hw1 e0 e1 e2 e3 e4 e5 e6 e7 e8 e9 q0 q1 q2 hb0
 have hk0:=hk1.out
 clear hk1
 obtain⟨k,ta,tb,tc,n,nm,x,y,z,p⟩:=t
 dsimp only at hk0
 subst hk0
 obtain⟨qa,rfl⟩ : ∃q:Nat,ta=(q:Int):=⟨ta.toNat,by have:=hkid.out (ta,_) (by simp[kidsS];first|rfl|exact .inl rfl|exact .inr rfl|exact .inr (.inl rfl)|exact .inr (.inr rfl));have:=this.1;dsimp only at this;omega⟩
 have hqa:qa<at_:=by have:=hkid.out ((qa:Int),_) (by simp[kidsS];first|rfl|exact .inl rfl|exact .inr rfl|exact .inr (.inl rfl)|exact .inr (.inr rfl));have:=this.2;dsimp only at this;omega
 clear hkid
 have hV:Hid (numsV no (f+1) ts at_ bound=(nmBd no bound ⟨3,(qa:Int),tb,tc,n,nm,x,y,z,p⟩ && (numsV no f ts qa (bound+1) && true))):=bH (hV.out.trans rfl)
 have hV:Hid (numsV no (f+1) ts at_ bound=(numsV no f ts qa (bound+1) && true)):=bH (hV.out.trans (Bool.true_and _))
 obtain⟨xl,x0,x1,x2,x3,x4,x5,x6,x7,x8,x9,_⟩:=hX.out
 obtain⟨p0,p1,p2⟩:=hP.out
 dsimp only at x0 x1 x2 x3 x4 x5 x6 x7 x8 x9
 have kR:=bH (ih qa (bound+1) w1 (by omega) (by omega) hsl hD2.out (by omega) hno (bH (hN.out.below hB.out)))
 rw[show ((bound+1:Nat):Int)=(bound:Int)+1 from by omega] at kR
 obtain⟨b2,hb2⟩ : ∃q,numsV no f ts qa (bound+1)=q:=⟨_,rfl⟩
 rw[hb2] at kR
 have hb2:=bH hb2
 go_wp2_with fail
 clear xl x0 x1 x2 x3 x4 x5 x6 x7 x8 x9 p0 p1 p2
 refine kR.out.mono ?_
 rintro e w2 ⟨rfl,hb⟩
 have hP:=bH (hP.out.below hb)
 have hX:=bH (hX.out.below hb)
 have hB:=bH (belT hB.out hb)
 clear hb kR
 have hf:Hid (numsV no (f+1) ts at_ bound=b2):=bH (by rw[hV.out];simp only[Nat.add_zero,hb2.out,Bool.true_and,Bool.and_true])
 go_wp2_with fail
 go_ret
 exact⟨ret_bb hf.out.symm,hB.out⟩
theorem wi_4 (a a2:Option Addr) (no c n2 c2:Nat) (ts:List Nd) (f:Nat) (ih:WiSpec a a2 no c n2 c2 ts f) (at_ bound:Nat) (w:World) (hf:at_<f+1) (hat:at_<ts.length) (hsl:ts.length≤512) (hD:Downs ts) (hbd:bound+2*at_≤1000000) (hno:no≤1000000) (hN:Hid (NArg w a2 n2 ts)) (hk0:(ts.getD at_ nd0).k=4) :
  Calls Tryz.prog 43 #[.agg #[.slice a no c, .slice a2 n2 c2], .int .i64 at_, .int .i64 bound] w fun e w'=>e= .returned (.bool (numsV no (f+1) ts at_ bound))∧Below w.heap.size w w':=by
 obtain⟨t,ht⟩ : ∃t,ts.getD at_ nd0=t:=⟨_,rfl⟩
 rw[ht] at hk0
 have hk1:=bH hk0
 clear hk0
 have hkid:=bH (fun c (hc:c∈kidsS t)=>hD at_ hat c (by rw[ht];exact hc))
 have hV:Hid (numsV no (f+1) ts at_ bound=(nmBd no bound t && (kidsS t).all fun c=>numsV no f ts c.1.toNat (bound+c.2.length))):=bH (by rw[← ht];rfl)
 obtain rfl:n2=ts.length:=hN.out.1
 rcases hN.out.2 with h0|⟨b,off,rfl,hs,hbl⟩
 ·rw[h0] at hat;simp at hat
 obtain⟨w0,hw0⟩ : ∃W,w.alloc (.cells #[.slice a no c, .slice (some ⟨b,off,none⟩) ts.length c2] 25)=W:=⟨_,rfl⟩
 have hP0:Pg w0 w.heap.size a no c (some ⟨b,off,none⟩) ts.length c2:=by rw[← hw0];exact pg_lit _ _ _ rfl _ _ _ _ _ _
 have hb0:Below w.heap.size w w0:=by rw[← hw0];exact below_alc _ _
 have hT:=(hs at_ hat).below hb0 hbl
 rw[ht] at hT
 obtain⟨w1,hw1⟩ : ∃W,w0.alloc (.cells #[.int .i64 t.k, .int .i64 t.a, .int .i64 t.b, .int .i64 t.c, .int .i64 t.n, .string t.nm, .string t.x, .string t.y, .string t.z, .int .i64 t.p] 45)=W:=⟨_,rfl⟩
 have hX:Hid (Nd10 w1 w0.heap.size t):=bH (by rw[← hw1];exact nd10_lit _ _ _ _ _ rfl rfl)
 have hb1:Below w0.heap.size w0 w1:=by rw[← hw1];exact below_alc _ _
 have hP:Hid (Pg w1 w.heap.size a no c (some ⟨b,off,none⟩) ts.length c2):=bH (hP0.below hb1)
 have hB:Hid (Below w.heap.size w w1):=bH (belT hb0 hb1)
 have hati:(at_:Int)<(ts.length:Int):=by omega
 have hat0:(0:Int)≤(at_:Int):=by omega
 unfold NdAt at hT
 obtain⟨e0,e1,e2,e3,e4,e5,e6,e7,e8,e9⟩:=hT
 obtain⟨q0,q1,q2⟩:=hP0
 have hbl0:b<w0.heap.size:=by have:=hb0.size;omega
 have hs:=bH hs
 have hD2:=bH hD
 clear ht hb1 hD
 go_enter Tryz.func43,Tryz.ntmps43
 go_upto_region 1 with fail
 (try rw[hw0])
 clear hw0
 go_upto_region 2 with fail
 (try rw[hw1])
 clear hw1 e0 e1 e2 e3 e4 e5 e6 e7 e8 e9 q0 q1 q2 hb0
 have hk0:=hk1.out
 clear hk1
 obtain⟨k,ta,tb,tc,n,nm,x,y,z,p⟩:=t
 dsimp only at hk0
 subst hk0
 obtain⟨qa,rfl⟩ : ∃q:Nat,ta=(q:Int):=⟨ta.toNat,by have:=hkid.out (ta,_) (by simp[kidsS];first|rfl|exact .inl rfl|exact .inr rfl|exact .inr (.inl rfl)|exact .inr (.inr rfl));have:=this.1;dsimp only at this;omega⟩
 have hqa:qa<at_:=by have:=hkid.out ((qa:Int),_) (by simp[kidsS];first|rfl|exact .inl rfl|exact .inr rfl|exact .inr (.inl rfl)|exact .inr (.inr rfl));have:=this.2;dsimp only at this;omega
 obtain⟨qb,rfl⟩ : ∃q:Nat,tb=(q:Int):=⟨tb.toNat,by have:=hkid.out (tb,_) (by simp[kidsS];first|rfl|exact .inl rfl|exact .inr rfl|exact .inr (.inl rfl)|exact .inr (.inr rfl));have:=this.1;dsimp only at this;omega⟩
 have hqb:qb<at_:=by have:=hkid.out ((qb:Int),_) (by simp[kidsS];first|rfl|exact .inl rfl|exact .inr rfl|exact .inr (.inl rfl)|exact .inr (.inr rfl));have:=this.2;dsimp only at this;omega
 clear hkid
 have hV:Hid (numsV no (f+1) ts at_ bound=(nmBd no bound ⟨4,(qa:Int),(qb:Int),tc,n,nm,x,y,z,p⟩ && (numsV no f ts qa (bound+0) && (numsV no f ts qb (bound+0) && true)))):=bH (hV.out.trans rfl)
 have hV:Hid (numsV no (f+1) ts at_ bound=(numsV no f ts qa (bound+0) && (numsV no f ts qb (bound+0) && true))):=bH (hV.out.trans (Bool.true_and _))
 obtain⟨xl,x0,x1,x2,x3,x4,x5,x6,x7,x8,x9,_⟩:=hX.out
 obtain⟨p0,p1,p2⟩:=hP.out
 dsimp only at x0 x1 x2 x3 x4 x5 x6 x7 x8 x9
 have kR:=bH (ih qa bound w1 (by omega) (by omega) hsl hD2.out (by omega) hno (bH (hN.out.below hB.out)))
 skip
 obtain⟨b2,hb2⟩ : ∃q,numsV no f ts qa bound=q:=⟨_,rfl⟩
 rw[hb2] at kR
 have hb2:=bH hb2
 go_wp2_with fail
 clear xl x0 x1 x2 x3 x4 x5 x6 x7 x8 x9 p0 p1 p2
 refine kR.out.mono ?_
 rintro e w2 ⟨rfl,hb⟩
 have hP:=bH (hP.out.below hb)
 have hX:=bH (hX.out.below hb)
 have hB:=bH (belT hB.out hb)
 clear hb kR
 cases b2
 ·have hf:Hid (numsV no (f+1) ts at_ bound=false):=bH (by rw[hV.out];simp only[Nat.add_zero,hb2.out,Bool.true_and,Bool.false_and])
  go_wp2_with fail
  go_ret
  exact⟨ret_bb hf.out.symm,hB.out⟩
 ·skip
  obtain⟨xl,x0,x1,x2,x3,x4,x5,x6,x7,x8,x9,_⟩:=hX.out
  obtain⟨p0,p1,p2⟩:=hP.out
  dsimp only at x0 x1 x2 x3 x4 x5 x6 x7 x8 x9
  have kR:=bH (ih qb bound w2 (by omega) (by omega) hsl hD2.out (by omega) hno (bH (hN.out.below hB.out)))
  skip
  obtain⟨b3,hb3⟩ : ∃q,numsV no f ts qb bound=q:=⟨_,rfl⟩
  rw[hb3] at kR
  have hb3:=bH hb3
  go_wp2_with fail
  clear xl x0 x1 x2 x3 x4 x5 x6 x7 x8 x9 p0 p1 p2
  refine kR.out.mono ?_
  rintro e w3 ⟨rfl,hb⟩
  have hP:=bH (hP.out.below hb)
  have hX:=bH (hX.out.below hb)
  have hB:=bH (belT hB.out hb)
  clear hb kR
  have hf:Hid (numsV no (f+1) ts at_ bound=b3):=bH (by rw[hV.out];simp only[Nat.add_zero,hb2.out,hb3.out,Bool.true_and,Bool.and_true])
  go_wp2_with fail
  go_ret
  exact⟨ret_bb hf.out.symm,hB.out⟩
theorem wi_8 (a a2:Option Addr) (no c n2 c2:Nat) (ts:List Nd) (f:Nat) (ih:WiSpec a a2 no c n2 c2 ts f) (at_ bound:Nat) (w:World) (hf:at_<f+1) (hat:at_<ts.length) (hsl:ts.length≤512) (hD:Downs ts) (hbd:bound+2*at_≤1000000) (hno:no≤1000000) (hN:Hid (NArg w a2 n2 ts)) (hk0:(ts.getD at_ nd0).k=8) :
  Calls Tryz.prog 43 #[.agg #[.slice a no c, .slice a2 n2 c2], .int .i64 at_, .int .i64 bound] w fun e w'=>e= .returned (.bool (numsV no (f+1) ts at_ bound))∧Below w.heap.size w w':=by
 obtain⟨t,ht⟩ : ∃t,ts.getD at_ nd0=t:=⟨_,rfl⟩
 rw[ht] at hk0
 have hk1:=bH hk0
 clear hk0
 have hkid:=bH (fun c (hc:c∈kidsS t)=>hD at_ hat c (by rw[ht];exact hc))
 have hV:Hid (numsV no (f+1) ts at_ bound=(nmBd no bound t && (kidsS t).all fun c=>numsV no f ts c.1.toNat (bound+c.2.length))):=bH (by rw[← ht];rfl)
 obtain rfl:n2=ts.length:=hN.out.1
 rcases hN.out.2 with h0|⟨b,off,rfl,hs,hbl⟩
 ·rw[h0] at hat;simp at hat
 obtain⟨w0,hw0⟩ : ∃W,w.alloc (.cells #[.slice a no c, .slice (some ⟨b,off,none⟩) ts.length c2] 25)=W:=⟨_,rfl⟩
 have hP0:Pg w0 w.heap.size a no c (some ⟨b,off,none⟩) ts.length c2:=by rw[← hw0];exact pg_lit _ _ _ rfl _ _ _ _ _ _
 have hb0:Below w.heap.size w w0:=by rw[← hw0];exact below_alc _ _
 have hT:=(hs at_ hat).below hb0 hbl
 rw[ht] at hT
 obtain⟨w1,hw1⟩ : ∃W,w0.alloc (.cells #[.int .i64 t.k, .int .i64 t.a, .int .i64 t.b, .int .i64 t.c, .int .i64 t.n, .string t.nm, .string t.x, .string t.y, .string t.z, .int .i64 t.p] 45)=W:=⟨_,rfl⟩
 have hX:Hid (Nd10 w1 w0.heap.size t):=bH (by rw[← hw1];exact nd10_lit _ _ _ _ _ rfl rfl)
 have hb1:Below w0.heap.size w0 w1:=by rw[← hw1];exact below_alc _ _
 have hP:Hid (Pg w1 w.heap.size a no c (some ⟨b,off,none⟩) ts.length c2):=bH (hP0.below hb1)
 have hB:Hid (Below w.heap.size w w1):=bH (belT hb0 hb1)
 have hati:(at_:Int)<(ts.length:Int):=by omega
 have hat0:(0:Int)≤(at_:Int):=by omega
 unfold NdAt at hT
 obtain⟨e0,e1,e2,e3,e4,e5,e6,e7,e8,e9⟩:=hT
 obtain⟨q0,q1,q2⟩:=hP0
 have hbl0:b<w0.heap.size:=by have:=hb0.size;omega
 have hs:=bH hs
 have hD2:=bH hD
 clear ht hb1 hD
 go_enter Tryz.func43,Tryz.ntmps43
 go_upto_region 1 with fail
 (try rw[hw0])
 clear hw0
 go_upto_region 2 with fail
 (try rw[hw1])
 clear hw1 e0 e1 e2 e3 e4 e5 e6 e7 e8 e9 q0 q1 q2 hb0
 have hk0:=hk1.out
 clear hk1
 obtain⟨k,ta,tb,tc,n,nm,x,y,z,p⟩:=t
 dsimp only at hk0
 subst hk0
 obtain⟨qa,rfl⟩ : ∃q:Nat,ta=(q:Int):=⟨ta.toNat,by have:=hkid.out (ta,_) (by simp[kidsS];first|rfl|exact .inl rfl|exact .inr rfl|exact .inr (.inl rfl)|exact .inr (.inr rfl));have:=this.1;dsimp only at this;omega⟩
 have hqa:qa<at_:=by have:=hkid.out ((qa:Int),_) (by simp[kidsS];first|rfl|exact .inl rfl|exact .inr rfl|exact .inr (.inl rfl)|exact .inr (.inr rfl));have:=this.2;dsimp only at this;omega
 obtain⟨qb,rfl⟩ : ∃q:Nat,tb=(q:Int):=⟨tb.toNat,by have:=hkid.out (tb,_) (by simp[kidsS];first|rfl|exact .inl rfl|exact .inr rfl|exact .inr (.inl rfl)|exact .inr (.inr rfl));have:=this.1;dsimp only at this;omega⟩
 have hqb:qb<at_:=by have:=hkid.out ((qb:Int),_) (by simp[kidsS];first|rfl|exact .inl rfl|exact .inr rfl|exact .inr (.inl rfl)|exact .inr (.inr rfl));have:=this.2;dsimp only at this;omega
 clear hkid
 have hV:Hid (numsV no (f+1) ts at_ bound=(nmBd no bound ⟨8,(qa:Int),(qb:Int),tc,n,nm,x,y,z,p⟩ && (numsV no f ts qa (bound+0) && (numsV no f ts qb (bound+0) && true)))):=bH (hV.out.trans rfl)
 have hV:Hid (numsV no (f+1) ts at_ bound=(numsV no f ts qa (bound+0) && (numsV no f ts qb (bound+0) && true))):=bH (hV.out.trans (Bool.true_and _))
 obtain⟨xl,x0,x1,x2,x3,x4,x5,x6,x7,x8,x9,_⟩:=hX.out
 obtain⟨p0,p1,p2⟩:=hP.out
 dsimp only at x0 x1 x2 x3 x4 x5 x6 x7 x8 x9
 have kR:=bH (ih qa bound w1 (by omega) (by omega) hsl hD2.out (by omega) hno (bH (hN.out.below hB.out)))
 skip
 obtain⟨b2,hb2⟩ : ∃q,numsV no f ts qa bound=q:=⟨_,rfl⟩
 rw[hb2] at kR
 have hb2:=bH hb2
 go_wp2_with fail
 clear xl x0 x1 x2 x3 x4 x5 x6 x7 x8 x9 p0 p1 p2
 refine kR.out.mono ?_
 rintro e w2 ⟨rfl,hb⟩
 have hP:=bH (hP.out.below hb)
 have hX:=bH (hX.out.below hb)
 have hB:=bH (belT hB.out hb)
 clear hb kR
 cases b2
 ·have hf:Hid (numsV no (f+1) ts at_ bound=false):=bH (by rw[hV.out];simp only[Nat.add_zero,hb2.out,Bool.true_and,Bool.false_and])
  go_wp2_with fail
  go_ret
  exact⟨ret_bb hf.out.symm,hB.out⟩
 ·skip
  obtain⟨xl,x0,x1,x2,x3,x4,x5,x6,x7,x8,x9,_⟩:=hX.out
  obtain⟨p0,p1,p2⟩:=hP.out
  dsimp only at x0 x1 x2 x3 x4 x5 x6 x7 x8 x9
  have kR:=bH (ih qb bound w2 (by omega) (by omega) hsl hD2.out (by omega) hno (bH (hN.out.below hB.out)))
  skip
  obtain⟨b3,hb3⟩ : ∃q,numsV no f ts qb bound=q:=⟨_,rfl⟩
  rw[hb3] at kR
  have hb3:=bH hb3
  go_wp2_with fail
  clear xl x0 x1 x2 x3 x4 x5 x6 x7 x8 x9 p0 p1 p2
  refine kR.out.mono ?_
  rintro e w3 ⟨rfl,hb⟩
  have hP:=bH (hP.out.below hb)
  have hX:=bH (hX.out.below hb)
  have hB:=bH (belT hB.out hb)
  clear hb kR
  have hf:Hid (numsV no (f+1) ts at_ bound=b3):=bH (by rw[hV.out];simp only[Nat.add_zero,hb2.out,hb3.out,Bool.true_and,Bool.and_true])
  go_wp2_with fail
  go_ret
  exact⟨ret_bb hf.out.symm,hB.out⟩
theorem wi_5 (a a2:Option Addr) (no c n2 c2:Nat) (ts:List Nd) (f:Nat) (ih:WiSpec a a2 no c n2 c2 ts f) (at_ bound:Nat) (w:World) (hf:at_<f+1) (hat:at_<ts.length) (hsl:ts.length≤512) (hD:Downs ts) (hbd:bound+2*at_≤1000000) (hno:no≤1000000) (hN:Hid (NArg w a2 n2 ts)) (hk0:(ts.getD at_ nd0).k=5) :
  Calls Tryz.prog 43 #[.agg #[.slice a no c, .slice a2 n2 c2], .int .i64 at_, .int .i64 bound] w fun e w'=>e= .returned (.bool (numsV no (f+1) ts at_ bound))∧Below w.heap.size w w':=by
 obtain⟨t,ht⟩ : ∃t,ts.getD at_ nd0=t:=⟨_,rfl⟩
 rw[ht] at hk0
 have hk1:=bH hk0
 clear hk0
 have hkid:=bH (fun c (hc:c∈kidsS t)=>hD at_ hat c (by rw[ht];exact hc))
 have hV:Hid (numsV no (f+1) ts at_ bound=(nmBd no bound t && (kidsS t).all fun c=>numsV no f ts c.1.toNat (bound+c.2.length))):=bH (by rw[← ht];rfl)
 obtain rfl:n2=ts.length:=hN.out.1
 rcases hN.out.2 with h0|⟨b,off,rfl,hs,hbl⟩
 ·rw[h0] at hat;simp at hat
 obtain⟨w0,hw0⟩ : ∃W,w.alloc (.cells #[.slice a no c, .slice (some ⟨b,off,none⟩) ts.length c2] 25)=W:=⟨_,rfl⟩
 have hP0:Pg w0 w.heap.size a no c (some ⟨b,off,none⟩) ts.length c2:=by rw[← hw0];exact pg_lit _ _ _ rfl _ _ _ _ _ _
 have hb0:Below w.heap.size w w0:=by rw[← hw0];exact below_alc _ _
 have hT:=(hs at_ hat).below hb0 hbl
 rw[ht] at hT
 obtain⟨w1,hw1⟩ : ∃W,w0.alloc (.cells #[.int .i64 t.k, .int .i64 t.a, .int .i64 t.b, .int .i64 t.c, .int .i64 t.n, .string t.nm, .string t.x, .string t.y, .string t.z, .int .i64 t.p] 45)=W:=⟨_,rfl⟩
 have hX:Hid (Nd10 w1 w0.heap.size t):=bH (by rw[← hw1];exact nd10_lit _ _ _ _ _ rfl rfl)
 have hb1:Below w0.heap.size w0 w1:=by rw[← hw1];exact below_alc _ _
 have hP:Hid (Pg w1 w.heap.size a no c (some ⟨b,off,none⟩) ts.length c2):=bH (hP0.below hb1)
 have hB:Hid (Below w.heap.size w w1):=bH (belT hb0 hb1)
 have hati:(at_:Int)<(ts.length:Int):=by omega
 have hat0:(0:Int)≤(at_:Int):=by omega
 unfold NdAt at hT
 obtain⟨e0,e1,e2,e3,e4,e5,e6,e7,e8,e9⟩:=hT
 obtain⟨q0,q1,q2⟩:=hP0
 have hbl0:b<w0.heap.size:=by have:=hb0.size;omega
 have hs:=bH hs
 have hD2:=bH hD
 clear ht hb1 hD
 go_enter Tryz.func43,Tryz.ntmps43
 go_upto_region 1 with fail
 (try rw[hw0])
 clear hw0
 go_upto_region 2 with fail
 (try rw[hw1])
 clear hw1 e0 e1 e2 e3 e4 e5 e6 e7 e8 e9 q0 q1 q2 hb0
 have hk0:=hk1.out
 clear hk1
 obtain⟨k,ta,tb,tc,n,nm,x,y,z,p⟩:=t
 dsimp only at hk0
 subst hk0
 obtain⟨qa,rfl⟩ : ∃q:Nat,ta=(q:Int):=⟨ta.toNat,by have:=hkid.out (ta,_) (by simp[kidsS];first|rfl|exact .inl rfl|exact .inr rfl|exact .inr (.inl rfl)|exact .inr (.inr rfl));have:=this.1;dsimp only at this;omega⟩
 have hqa:qa<at_:=by have:=hkid.out ((qa:Int),_) (by simp[kidsS];first|rfl|exact .inl rfl|exact .inr rfl|exact .inr (.inl rfl)|exact .inr (.inr rfl));have:=this.2;dsimp only at this;omega
 obtain⟨qb,rfl⟩ : ∃q:Nat,tb=(q:Int):=⟨tb.toNat,by have:=hkid.out (tb,_) (by simp[kidsS];first|rfl|exact .inl rfl|exact .inr rfl|exact .inr (.inl rfl)|exact .inr (.inr rfl));have:=this.1;dsimp only at this;omega⟩
 have hqb:qb<at_:=by have:=hkid.out ((qb:Int),_) (by simp[kidsS];first|rfl|exact .inl rfl|exact .inr rfl|exact .inr (.inl rfl)|exact .inr (.inr rfl));have:=this.2;dsimp only at this;omega
 clear hkid
 have hV:Hid (numsV no (f+1) ts at_ bound=(nmBd no bound ⟨5,(qa:Int),(qb:Int),tc,n,nm,x,y,z,p⟩ && (numsV no f ts qa (bound+0) && (numsV no f ts qb (bound+1) && true)))):=bH (hV.out.trans rfl)
 have hV:Hid (numsV no (f+1) ts at_ bound=(numsV no f ts qa (bound+0) && (numsV no f ts qb (bound+1) && true))):=bH (hV.out.trans (Bool.true_and _))
 obtain⟨xl,x0,x1,x2,x3,x4,x5,x6,x7,x8,x9,_⟩:=hX.out
 obtain⟨p0,p1,p2⟩:=hP.out
 dsimp only at x0 x1 x2 x3 x4 x5 x6 x7 x8 x9
 have kR:=bH (ih qa bound w1 (by omega) (by omega) hsl hD2.out (by omega) hno (bH (hN.out.below hB.out)))
 skip
 obtain⟨b2,hb2⟩ : ∃q,numsV no f ts qa bound=q:=⟨_,rfl⟩
 rw[hb2] at kR
 have hb2:=bH hb2
 go_wp2_with fail
 clear xl x0 x1 x2 x3 x4 x5 x6 x7 x8 x9 p0 p1 p2
 refine kR.out.mono ?_
 rintro e w2 ⟨rfl,hb⟩
 have hP:=bH (hP.out.below hb)
 have hX:=bH (hX.out.below hb)
 have hB:=bH (belT hB.out hb)
 clear hb kR
 cases b2
 ·have hf:Hid (numsV no (f+1) ts at_ bound=false):=bH (by rw[hV.out];simp only[Nat.add_zero,hb2.out,Bool.true_and,Bool.false_and])
  go_wp2_with fail
  go_ret
  exact⟨ret_bb hf.out.symm,hB.out⟩
 ·skip
  obtain⟨xl,x0,x1,x2,x3,x4,x5,x6,x7,x8,x9,_⟩:=hX.out
  obtain⟨p0,p1,p2⟩:=hP.out
  dsimp only at x0 x1 x2 x3 x4 x5 x6 x7 x8 x9
  have kR:=bH (ih qb (bound+1) w2 (by omega) (by omega) hsl hD2.out (by omega) hno (bH (hN.out.below hB.out)))
  rw[show ((bound+1:Nat):Int)=(bound:Int)+1 from by omega] at kR
  obtain⟨b3,hb3⟩ : ∃q,numsV no f ts qb (bound+1)=q:=⟨_,rfl⟩
  rw[hb3] at kR
  have hb3:=bH hb3
  go_wp2_with fail
  clear xl x0 x1 x2 x3 x4 x5 x6 x7 x8 x9 p0 p1 p2
  refine kR.out.mono ?_
  rintro e w3 ⟨rfl,hb⟩
  have hP:=bH (hP.out.below hb)
  have hX:=bH (hX.out.below hb)
  have hB:=bH (belT hB.out hb)
  clear hb kR
  have hf:Hid (numsV no (f+1) ts at_ bound=b3):=bH (by rw[hV.out];simp only[Nat.add_zero,hb2.out,hb3.out,Bool.true_and,Bool.and_true])
  go_wp2_with fail
  go_ret
  exact⟨ret_bb hf.out.symm,hB.out⟩
theorem wi_6 (a a2:Option Addr) (no c n2 c2:Nat) (ts:List Nd) (f:Nat) (ih:WiSpec a a2 no c n2 c2 ts f) (at_ bound:Nat) (w:World) (hf:at_<f+1) (hat:at_<ts.length) (hsl:ts.length≤512) (hD:Downs ts) (hbd:bound+2*at_≤1000000) (hno:no≤1000000) (hN:Hid (NArg w a2 n2 ts)) (hk0:(ts.getD at_ nd0).k=6) :
  Calls Tryz.prog 43 #[.agg #[.slice a no c, .slice a2 n2 c2], .int .i64 at_, .int .i64 bound] w fun e w'=>e= .returned (.bool (numsV no (f+1) ts at_ bound))∧Below w.heap.size w w':=by
 obtain⟨t,ht⟩ : ∃t,ts.getD at_ nd0=t:=⟨_,rfl⟩
 rw[ht] at hk0
 have hk1:=bH hk0
 clear hk0
 have hkid:=bH (fun c (hc:c∈kidsS t)=>hD at_ hat c (by rw[ht];exact hc))
 have hV:Hid (numsV no (f+1) ts at_ bound=(nmBd no bound t && (kidsS t).all fun c=>numsV no f ts c.1.toNat (bound+c.2.length))):=bH (by rw[← ht];rfl)
 obtain rfl:n2=ts.length:=hN.out.1
 rcases hN.out.2 with h0|⟨b,off,rfl,hs,hbl⟩
 ·rw[h0] at hat;simp at hat
 obtain⟨w0,hw0⟩ : ∃W,w.alloc (.cells #[.slice a no c, .slice (some ⟨b,off,none⟩) ts.length c2] 25)=W:=⟨_,rfl⟩
 have hP0:Pg w0 w.heap.size a no c (some ⟨b,off,none⟩) ts.length c2:=by rw[← hw0];exact pg_lit _ _ _ rfl _ _ _ _ _ _
 have hb0:Below w.heap.size w w0:=by rw[← hw0];exact below_alc _ _
 have hT:=(hs at_ hat).below hb0 hbl
 rw[ht] at hT
 obtain⟨w1,hw1⟩ : ∃W,w0.alloc (.cells #[.int .i64 t.k, .int .i64 t.a, .int .i64 t.b, .int .i64 t.c, .int .i64 t.n, .string t.nm, .string t.x, .string t.y, .string t.z, .int .i64 t.p] 45)=W:=⟨_,rfl⟩
 have hX:Hid (Nd10 w1 w0.heap.size t):=bH (by rw[← hw1];exact nd10_lit _ _ _ _ _ rfl rfl)
 have hb1:Below w0.heap.size w0 w1:=by rw[← hw1];exact below_alc _ _
 have hP:Hid (Pg w1 w.heap.size a no c (some ⟨b,off,none⟩) ts.length c2):=bH (hP0.below hb1)
 have hB:Hid (Below w.heap.size w w1):=bH (belT hb0 hb1)
 have hati:(at_:Int)<(ts.length:Int):=by omega
 have hat0:(0:Int)≤(at_:Int):=by omega
 unfold NdAt at hT
 obtain⟨e0,e1,e2,e3,e4,e5,e6,e7,e8,e9⟩:=hT
 obtain⟨q0,q1,q2⟩:=hP0
 have hbl0:b<w0.heap.size:=by have:=hb0.size;omega
 have hs:=bH hs
 have hD2:=bH hD
 clear ht hb1 hD
 go_enter Tryz.func43,Tryz.ntmps43
 go_upto_region 1 with fail
 (try rw[hw0])
 clear hw0
 go_upto_region 2 with fail
 (try rw[hw1])
 clear hw1 e0 e1 e2 e3 e4 e5 e6 e7 e8 e9 q0 q1 q2 hb0
 have hk0:=hk1.out
 clear hk1
 obtain⟨k,ta,tb,tc,n,nm,x,y,z,p⟩:=t
 dsimp only at hk0
 subst hk0
 obtain⟨qa,rfl⟩ : ∃q:Nat,ta=(q:Int):=⟨ta.toNat,by have:=hkid.out (ta,_) (by simp[kidsS];first|rfl|exact .inl rfl|exact .inr rfl|exact .inr (.inl rfl)|exact .inr (.inr rfl));have:=this.1;dsimp only at this;omega⟩
 have hqa:qa<at_:=by have:=hkid.out ((qa:Int),_) (by simp[kidsS];first|rfl|exact .inl rfl|exact .inr rfl|exact .inr (.inl rfl)|exact .inr (.inr rfl));have:=this.2;dsimp only at this;omega
 obtain⟨qb,rfl⟩ : ∃q:Nat,tb=(q:Int):=⟨tb.toNat,by have:=hkid.out (tb,_) (by simp[kidsS];first|rfl|exact .inl rfl|exact .inr rfl|exact .inr (.inl rfl)|exact .inr (.inr rfl));have:=this.1;dsimp only at this;omega⟩
 have hqb:qb<at_:=by have:=hkid.out ((qb:Int),_) (by simp[kidsS];first|rfl|exact .inl rfl|exact .inr rfl|exact .inr (.inl rfl)|exact .inr (.inr rfl));have:=this.2;dsimp only at this;omega
 clear hkid
 have hV:Hid (numsV no (f+1) ts at_ bound=(nmBd no bound ⟨6,(qa:Int),(qb:Int),tc,n,nm,x,y,z,p⟩ && (numsV no f ts qa (bound+2) && (numsV no f ts qb (bound+1) && true)))):=bH (hV.out.trans rfl)
 have hV:Hid (numsV no (f+1) ts at_ bound=(numsV no f ts qa (bound+2) && (numsV no f ts qb (bound+1) && true))):=bH (hV.out.trans (Bool.true_and _))
 obtain⟨xl,x0,x1,x2,x3,x4,x5,x6,x7,x8,x9,_⟩:=hX.out
 obtain⟨p0,p1,p2⟩:=hP.out
 dsimp only at x0 x1 x2 x3 x4 x5 x6 x7 x8 x9
 have kR:=bH (ih qa (bound+2) w1 (by omega) (by omega) hsl hD2.out (by omega) hno (bH (hN.out.below hB.out)))
 rw[show ((bound+2:Nat):Int)=(bound:Int)+2 from by omega] at kR
 obtain⟨b2,hb2⟩ : ∃q,numsV no f ts qa (bound+2)=q:=⟨_,rfl⟩
 rw[hb2] at kR
 have hb2:=bH hb2
 go_wp2_with fail
 clear xl x0 x1 x2 x3 x4 x5 x6 x7 x8 x9 p0 p1 p2
 refine kR.out.mono ?_
 rintro e w2 ⟨rfl,hb⟩
 have hP:=bH (hP.out.below hb)
 have hX:=bH (hX.out.below hb)
 have hB:=bH (belT hB.out hb)
 clear hb kR
 cases b2
 ·have hf:Hid (numsV no (f+1) ts at_ bound=false):=bH (by rw[hV.out];simp only[Nat.add_zero,hb2.out,Bool.true_and,Bool.false_and])
  go_wp2_with fail
  go_ret
  exact⟨ret_bb hf.out.symm,hB.out⟩
 ·skip
  obtain⟨xl,x0,x1,x2,x3,x4,x5,x6,x7,x8,x9,_⟩:=hX.out
  obtain⟨p0,p1,p2⟩:=hP.out
  dsimp only at x0 x1 x2 x3 x4 x5 x6 x7 x8 x9
  have kR:=bH (ih qb (bound+1) w2 (by omega) (by omega) hsl hD2.out (by omega) hno (bH (hN.out.below hB.out)))
  rw[show ((bound+1:Nat):Int)=(bound:Int)+1 from by omega] at kR
  obtain⟨b3,hb3⟩ : ∃q,numsV no f ts qb (bound+1)=q:=⟨_,rfl⟩
  rw[hb3] at kR
  have hb3:=bH hb3
  go_wp2_with fail
  clear xl x0 x1 x2 x3 x4 x5 x6 x7 x8 x9 p0 p1 p2
  refine kR.out.mono ?_
  rintro e w3 ⟨rfl,hb⟩
  have hP:=bH (hP.out.below hb)
  have hX:=bH (hX.out.below hb)
  have hB:=bH (belT hB.out hb)
  clear hb kR
  have hf:Hid (numsV no (f+1) ts at_ bound=b3):=bH (by rw[hV.out];simp only[Nat.add_zero,hb2.out,hb3.out,Bool.true_and,Bool.and_true])
  go_wp2_with fail
  go_ret
  exact⟨ret_bb hf.out.symm,hB.out⟩
theorem wi_7 (a a2:Option Addr) (no c n2 c2:Nat) (ts:List Nd) (f:Nat) (ih:WiSpec a a2 no c n2 c2 ts f) (at_ bound:Nat) (w:World) (hf:at_<f+1) (hat:at_<ts.length) (hsl:ts.length≤512) (hD:Downs ts) (hbd:bound+2*at_≤1000000) (hno:no≤1000000) (hN:Hid (NArg w a2 n2 ts)) (hk0:(ts.getD at_ nd0).k=7) :
  Calls Tryz.prog 43 #[.agg #[.slice a no c, .slice a2 n2 c2], .int .i64 at_, .int .i64 bound] w fun e w'=>e= .returned (.bool (numsV no (f+1) ts at_ bound))∧Below w.heap.size w w':=by
 obtain⟨t,ht⟩ : ∃t,ts.getD at_ nd0=t:=⟨_,rfl⟩
 rw[ht] at hk0
 have hk1:=bH hk0
 clear hk0
 have hkid:=bH (fun c (hc:c∈kidsS t)=>hD at_ hat c (by rw[ht];exact hc))
 have hV:Hid (numsV no (f+1) ts at_ bound=(nmBd no bound t && (kidsS t).all fun c=>numsV no f ts c.1.toNat (bound+c.2.length))):=bH (by rw[← ht];rfl)
 obtain rfl:n2=ts.length:=hN.out.1
 rcases hN.out.2 with h0|⟨b,off,rfl,hs,hbl⟩
 ·rw[h0] at hat;simp at hat
 obtain⟨w0,hw0⟩ : ∃W,w.alloc (.cells #[.slice a no c, .slice (some ⟨b,off,none⟩) ts.length c2] 25)=W:=⟨_,rfl⟩
 have hP0:Pg w0 w.heap.size a no c (some ⟨b,off,none⟩) ts.length c2:=by rw[← hw0];exact pg_lit _ _ _ rfl _ _ _ _ _ _
 have hb0:Below w.heap.size w w0:=by rw[← hw0];exact below_alc _ _
 have hT:=(hs at_ hat).below hb0 hbl
 rw[ht] at hT
 obtain⟨w1,hw1⟩ : ∃W,w0.alloc (.cells #[.int .i64 t.k, .int .i64 t.a, .int .i64 t.b, .int .i64 t.c, .int .i64 t.n, .string t.nm, .string t.x, .string t.y, .string t.z, .int .i64 t.p] 45)=W:=⟨_,rfl⟩
 have hX:Hid (Nd10 w1 w0.heap.size t):=bH (by rw[← hw1];exact nd10_lit _ _ _ _ _ rfl rfl)
 have hb1:Below w0.heap.size w0 w1:=by rw[← hw1];exact below_alc _ _
 have hP:Hid (Pg w1 w.heap.size a no c (some ⟨b,off,none⟩) ts.length c2):=bH (hP0.below hb1)
 have hB:Hid (Below w.heap.size w w1):=bH (belT hb0 hb1)
 have hati:(at_:Int)<(ts.length:Int):=by omega
 have hat0:(0:Int)≤(at_:Int):=by omega
 unfold NdAt at hT
 obtain⟨e0,e1,e2,e3,e4,e5,e6,e7,e8,e9⟩:=hT
 obtain⟨q0,q1,q2⟩:=hP0
 have hbl0:b<w0.heap.size:=by have:=hb0.size;omega
 have hs:=bH hs
 have hD2:=bH hD
 clear ht hb1 hD
 go_enter Tryz.func43,Tryz.ntmps43
 go_upto_region 1 with fail
 (try rw[hw0])
 clear hw0
 go_upto_region 2 with fail
 (try rw[hw1])
 clear hw1 e0 e1 e2 e3 e4 e5 e6 e7 e8 e9 q0 q1 q2 hb0
 have hk0:=hk1.out
 clear hk1
 obtain⟨k,ta,tb,tc,n,nm,x,y,z,p⟩:=t
 dsimp only at hk0
 subst hk0
 obtain⟨qa,rfl⟩ : ∃q:Nat,ta=(q:Int):=⟨ta.toNat,by have:=hkid.out (ta,_) (by simp[kidsS];first|rfl|exact .inl rfl|exact .inr rfl|exact .inr (.inl rfl)|exact .inr (.inr rfl));have:=this.1;dsimp only at this;omega⟩
 have hqa:qa<at_:=by have:=hkid.out ((qa:Int),_) (by simp[kidsS];first|rfl|exact .inl rfl|exact .inr rfl|exact .inr (.inl rfl)|exact .inr (.inr rfl));have:=this.2;dsimp only at this;omega
 obtain⟨qb,rfl⟩ : ∃q:Nat,tb=(q:Int):=⟨tb.toNat,by have:=hkid.out (tb,_) (by simp[kidsS];first|rfl|exact .inl rfl|exact .inr rfl|exact .inr (.inl rfl)|exact .inr (.inr rfl));have:=this.1;dsimp only at this;omega⟩
 have hqb:qb<at_:=by have:=hkid.out ((qb:Int),_) (by simp[kidsS];first|rfl|exact .inl rfl|exact .inr rfl|exact .inr (.inl rfl)|exact .inr (.inr rfl));have:=this.2;dsimp only at this;omega
 obtain⟨qc,rfl⟩ : ∃q:Nat,tc=(q:Int):=⟨tc.toNat,by have:=hkid.out (tc,_) (by simp[kidsS];first|rfl|exact .inl rfl|exact .inr rfl|exact .inr (.inl rfl)|exact .inr (.inr rfl));have:=this.1;dsimp only at this;omega⟩
 have hqc:qc<at_:=by have:=hkid.out ((qc:Int),_) (by simp[kidsS];first|rfl|exact .inl rfl|exact .inr rfl|exact .inr (.inl rfl)|exact .inr (.inr rfl));have:=this.2;dsimp only at this;omega
 clear hkid
 have hV:Hid (numsV no (f+1) ts at_ bound=(nmBd no bound ⟨7,(qa:Int),(qb:Int),(qc:Int),n,nm,x,y,z,p⟩ && (numsV no f ts qa (bound+0) && (numsV no f ts qb (bound+0) && (numsV no f ts qc (bound+0) && true))))):=bH (hV.out.trans rfl)
 have hV:Hid (numsV no (f+1) ts at_ bound=(numsV no f ts qa (bound+0) && (numsV no f ts qb (bound+0) && (numsV no f ts qc (bound+0) && true)))):=bH (hV.out.trans (Bool.true_and _))
 obtain⟨xl,x0,x1,x2,x3,x4,x5,x6,x7,x8,x9,_⟩:=hX.out
 obtain⟨p0,p1,p2⟩:=hP.out
 dsimp only at x0 x1 x2 x3 x4 x5 x6 x7 x8 x9
 have kR:=bH (ih qa bound w1 (by omega) (by omega) hsl hD2.out (by omega) hno (bH (hN.out.below hB.out)))
 skip
 obtain⟨b2,hb2⟩ : ∃q,numsV no f ts qa bound=q:=⟨_,rfl⟩
 rw[hb2] at kR
 have hb2:=bH hb2
 go_wp2_with fail
 clear xl x0 x1 x2 x3 x4 x5 x6 x7 x8 x9 p0 p1 p2
 refine kR.out.mono ?_
 rintro e w2 ⟨rfl,hb⟩
 have hP:=bH (hP.out.below hb)
 have hX:=bH (hX.out.below hb)
 have hB:=bH (belT hB.out hb)
 clear hb kR
 cases b2
 ·have hf:Hid (numsV no (f+1) ts at_ bound=false):=bH (by rw[hV.out];simp only[Nat.add_zero,hb2.out,Bool.true_and,Bool.false_and])
  go_wp2_with fail
  go_ret
  exact⟨ret_bb hf.out.symm,hB.out⟩
 ·skip
  obtain⟨xl,x0,x1,x2,x3,x4,x5,x6,x7,x8,x9,_⟩:=hX.out
  obtain⟨p0,p1,p2⟩:=hP.out
  dsimp only at x0 x1 x2 x3 x4 x5 x6 x7 x8 x9
  have kR:=bH (ih qb bound w2 (by omega) (by omega) hsl hD2.out (by omega) hno (bH (hN.out.below hB.out)))
  skip
  obtain⟨b3,hb3⟩ : ∃q,numsV no f ts qb bound=q:=⟨_,rfl⟩
  rw[hb3] at kR
  have hb3:=bH hb3
  go_wp2_with fail
  clear xl x0 x1 x2 x3 x4 x5 x6 x7 x8 x9 p0 p1 p2
  refine kR.out.mono ?_
  rintro e w3 ⟨rfl,hb⟩
  have hP:=bH (hP.out.below hb)
  have hX:=bH (hX.out.below hb)
  have hB:=bH (belT hB.out hb)
  clear hb kR
  cases b3
  ·have hf:Hid (numsV no (f+1) ts at_ bound=false):=bH (by rw[hV.out];simp only[Nat.add_zero,hb2.out,hb3.out,Bool.true_and,Bool.false_and])
   go_wp2_with fail
   go_ret
   exact⟨ret_bb hf.out.symm,hB.out⟩
  ·skip
   obtain⟨xl,x0,x1,x2,x3,x4,x5,x6,x7,x8,x9,_⟩:=hX.out
   obtain⟨p0,p1,p2⟩:=hP.out
   dsimp only at x0 x1 x2 x3 x4 x5 x6 x7 x8 x9
   have kR:=bH (ih qc bound w3 (by omega) (by omega) hsl hD2.out (by omega) hno (bH (hN.out.below hB.out)))
   skip
   obtain⟨b4,hb4⟩ : ∃q,numsV no f ts qc bound=q:=⟨_,rfl⟩
   rw[hb4] at kR
   have hb4:=bH hb4
   go_wp2_with fail
   clear xl x0 x1 x2 x3 x4 x5 x6 x7 x8 x9 p0 p1 p2
   refine kR.out.mono ?_
   rintro e w4 ⟨rfl,hb⟩
   have hP:=bH (hP.out.below hb)
   have hX:=bH (hX.out.below hb)
   have hB:=bH (belT hB.out hb)
   clear hb kR
   have hf:Hid (numsV no (f+1) ts at_ bound=b4):=bH (by rw[hV.out];simp only[Nat.add_zero,hb2.out,hb3.out,hb4.out,Bool.true_and,Bool.and_true])
   go_wp2_with fail
   go_ret
   exact⟨ret_bb hf.out.symm,hB.out⟩
theorem wi_9 (a a2:Option Addr) (no c n2 c2:Nat) (ts:List Nd) (f:Nat) (ih:WiSpec a a2 no c n2 c2 ts f) (at_ bound:Nat) (w:World) (hf:at_<f+1) (hat:at_<ts.length) (hsl:ts.length≤512) (hD:Downs ts) (hbd:bound+2*at_≤1000000) (hno:no≤1000000) (hN:Hid (NArg w a2 n2 ts)) (hk0:(ts.getD at_ nd0).k=9) :
  Calls Tryz.prog 43 #[.agg #[.slice a no c, .slice a2 n2 c2], .int .i64 at_, .int .i64 bound] w fun e w'=>e= .returned (.bool (numsV no (f+1) ts at_ bound))∧Below w.heap.size w w':=by
 obtain⟨t,ht⟩ : ∃t,ts.getD at_ nd0=t:=⟨_,rfl⟩
 rw[ht] at hk0
 have hk1:=bH hk0
 clear hk0
 have hkid:=bH (fun c (hc:c∈kidsS t)=>hD at_ hat c (by rw[ht];exact hc))
 have hV:Hid (numsV no (f+1) ts at_ bound=(nmBd no bound t && (kidsS t).all fun c=>numsV no f ts c.1.toNat (bound+c.2.length))):=bH (by rw[← ht];rfl)
 obtain rfl:n2=ts.length:=hN.out.1
 rcases hN.out.2 with h0|⟨b,off,rfl,hs,hbl⟩
 ·rw[h0] at hat;simp at hat
 obtain⟨w0,hw0⟩ : ∃W,w.alloc (.cells #[.slice a no c, .slice (some ⟨b,off,none⟩) ts.length c2] 25)=W:=⟨_,rfl⟩
 have hP0:Pg w0 w.heap.size a no c (some ⟨b,off,none⟩) ts.length c2:=by rw[← hw0];exact pg_lit _ _ _ rfl _ _ _ _ _ _
 have hb0:Below w.heap.size w w0:=by rw[← hw0];exact below_alc _ _
 have hT:=(hs at_ hat).below hb0 hbl
 rw[ht] at hT
 obtain⟨w1,hw1⟩ : ∃W,w0.alloc (.cells #[.int .i64 t.k, .int .i64 t.a, .int .i64 t.b, .int .i64 t.c, .int .i64 t.n, .string t.nm, .string t.x, .string t.y, .string t.z, .int .i64 t.p] 45)=W:=⟨_,rfl⟩
 have hX:Hid (Nd10 w1 w0.heap.size t):=bH (by rw[← hw1];exact nd10_lit _ _ _ _ _ rfl rfl)
 have hb1:Below w0.heap.size w0 w1:=by rw[← hw1];exact below_alc _ _
 have hP:Hid (Pg w1 w.heap.size a no c (some ⟨b,off,none⟩) ts.length c2):=bH (hP0.below hb1)
 have hB:Hid (Below w.heap.size w w1):=bH (belT hb0 hb1)
 have hati:(at_:Int)<(ts.length:Int):=by omega
 have hat0:(0:Int)≤(at_:Int):=by omega
 unfold NdAt at hT
 obtain⟨e0,e1,e2,e3,e4,e5,e6,e7,e8,e9⟩:=hT
 obtain⟨q0,q1,q2⟩:=hP0
 have hbl0:b<w0.heap.size:=by have:=hb0.size;omega
 have hs:=bH hs
 have hD2:=bH hD
 clear ht hb1 hD
 go_enter Tryz.func43,Tryz.ntmps43
 go_upto_region 1 with fail
 (try rw[hw0])
 clear hw0
 go_upto_region 2 with fail
 (try rw[hw1])
 clear hw1 e0 e1 e2 e3 e4 e5 e6 e7 e8 e9 q0 q1 q2 hb0
 have hk0:=hk1.out
 clear hk1
 obtain⟨k,ta,tb,tc,n,nm,x,y,z,p⟩:=t
 dsimp only at hk0
 subst hk0
 obtain⟨qa,rfl⟩ : ∃q:Nat,ta=(q:Int):=⟨ta.toNat,by have:=hkid.out (ta,_) (by simp[kidsS];first|rfl|exact .inl rfl|exact .inr rfl|exact .inr (.inl rfl)|exact .inr (.inr rfl));have:=this.1;dsimp only at this;omega⟩
 have hqa:qa<at_:=by have:=hkid.out ((qa:Int),_) (by simp[kidsS];first|rfl|exact .inl rfl|exact .inr rfl|exact .inr (.inl rfl)|exact .inr (.inr rfl));have:=this.2;dsimp only at this;omega
 clear hkid
 have hV:Hid (numsV no (f+1) ts at_ bound=(nmBd no bound ⟨9,(qa:Int),tb,tc,n,nm,x,y,z,p⟩ && (numsV no f ts qa (bound+0) && true))):=bH (hV.out.trans rfl)
 have hnm:nmBd no bound ⟨9,(qa:Int),tb,tc,n,nm,x,y,z,p⟩=decide (0≤n∧n<(no:Int)):=rfl
 rw[hnm] at hV
 clear hnm
 have hcs : ¬ (0≤n)∨(0≤n∧ ¬ n<(no:Int))∨(0≤n∧n<(no:Int)):=by omega
 rcases hcs with g0|⟨g0,g1⟩|⟨g0,g1⟩
 ·obtain⟨xl,x0,x1,x2,x3,x4,x5,x6,x7,x8,x9,_⟩:=hX.out
  obtain⟨p0,p1,p2⟩:=hP.out
  dsimp only at x0 x1 x2 x3 x4 x5 x6 x7 x8 x9
  have hf:Hid (numsV no (f+1) ts at_ bound=false):=bH (by rw[hV.out,decide_eq_false (by omega)];rfl)
  have gd:decide (0≤n)=false:=decide_eq_false g0
  go_wp2_with fail
  go_ret
  exact⟨ret_bb hf.out.symm,hB.out⟩
 ·obtain⟨xl,x0,x1,x2,x3,x4,x5,x6,x7,x8,x9,_⟩:=hX.out
  obtain⟨p0,p1,p2⟩:=hP.out
  dsimp only at x0 x1 x2 x3 x4 x5 x6 x7 x8 x9
  have hf:Hid (numsV no (f+1) ts at_ bound=false):=bH (by rw[hV.out,decide_eq_false (by omega)];rfl)
  go_wp2_with fail
  go_ret
  exact⟨ret_bb hf.out.symm,hB.out⟩
 ·have hV:Hid (numsV no (f+1) ts at_ bound=(numsV no f ts qa (bound+0) && true)):=bH (by rw[hV.out,decide_eq_true ⟨g0,g1⟩,Bool.true_and])
  obtain⟨xl,x0,x1,x2,x3,x4,x5,x6,x7,x8,x9,_⟩:=hX.out
  obtain⟨p0,p1,p2⟩:=hP.out
  dsimp only at x0 x1 x2 x3 x4 x5 x6 x7 x8 x9
  have kR:=bH (ih qa bound w1 (by omega) (by omega) hsl hD2.out (by omega) hno (bH (hN.out.below hB.out)))
  skip
  obtain⟨b2,hb2⟩ : ∃q,numsV no f ts qa bound=q:=⟨_,rfl⟩
  rw[hb2] at kR
  have hb2:=bH hb2
  go_wp2_with fail
  clear xl x0 x1 x2 x3 x4 x5 x6 x7 x8 x9 p0 p1 p2
  refine kR.out.mono ?_
  rintro e w2 ⟨rfl,hb⟩
  have hP:=bH (hP.out.below hb)
  have hX:=bH (hX.out.below hb)
  have hB:=bH (belT hB.out hb)
  clear hb kR
  have hf:Hid (numsV no (f+1) ts at_ bound=b2):=bH (by rw[hV.out];simp only[Nat.add_zero,hb2.out,Bool.true_and,Bool.and_true])
  go_wp2_with fail
  go_ret
  exact⟨ret_bb hf.out.symm,hB.out⟩
theorem wi_10 (a a2:Option Addr) (no c n2 c2:Nat) (ts:List Nd) (f:Nat) (ih:WiSpec a a2 no c n2 c2 ts f) (at_ bound:Nat) (w:World) (hf:at_<f+1) (hat:at_<ts.length) (hsl:ts.length≤512) (hD:Downs ts) (hbd:bound+2*at_≤1000000) (hno:no≤1000000) (hN:Hid (NArg w a2 n2 ts)) (hk0:(ts.getD at_ nd0).k=10) :
  Calls Tryz.prog 43 #[.agg #[.slice a no c, .slice a2 n2 c2], .int .i64 at_, .int .i64 bound] w fun e w'=>e= .returned (.bool (numsV no (f+1) ts at_ bound))∧Below w.heap.size w w':=by
 obtain⟨t,ht⟩ : ∃t,ts.getD at_ nd0=t:=⟨_,rfl⟩
 rw[ht] at hk0
 have hk1:=bH hk0
 clear hk0
 have hkid:=bH (fun c (hc:c∈kidsS t)=>hD at_ hat c (by rw[ht];exact hc))
 have hV:Hid (numsV no (f+1) ts at_ bound=(nmBd no bound t && (kidsS t).all fun c=>numsV no f ts c.1.toNat (bound+c.2.length))):=bH (by rw[← ht];rfl)
 obtain rfl:n2=ts.length:=hN.out.1
 rcases hN.out.2 with h0|⟨b,off,rfl,hs,hbl⟩
 ·rw[h0] at hat;simp at hat
 obtain⟨w0,hw0⟩ : ∃W,w.alloc (.cells #[.slice a no c, .slice (some ⟨b,off,none⟩) ts.length c2] 25)=W:=⟨_,rfl⟩
 have hP0:Pg w0 w.heap.size a no c (some ⟨b,off,none⟩) ts.length c2:=by rw[← hw0];exact pg_lit _ _ _ rfl _ _ _ _ _ _
 have hb0:Below w.heap.size w w0:=by rw[← hw0];exact below_alc _ _
 have hT:=(hs at_ hat).below hb0 hbl
 rw[ht] at hT
 obtain⟨w1,hw1⟩ : ∃W,w0.alloc (.cells #[.int .i64 t.k, .int .i64 t.a, .int .i64 t.b, .int .i64 t.c, .int .i64 t.n, .string t.nm, .string t.x, .string t.y, .string t.z, .int .i64 t.p] 45)=W:=⟨_,rfl⟩
 have hX:Hid (Nd10 w1 w0.heap.size t):=bH (by rw[← hw1];exact nd10_lit _ _ _ _ _ rfl rfl)
 have hb1:Below w0.heap.size w0 w1:=by rw[← hw1];exact below_alc _ _
 have hP:Hid (Pg w1 w.heap.size a no c (some ⟨b,off,none⟩) ts.length c2):=bH (hP0.below hb1)
 have hB:Hid (Below w.heap.size w w1):=bH (belT hb0 hb1)
 have hati:(at_:Int)<(ts.length:Int):=by omega
 have hat0:(0:Int)≤(at_:Int):=by omega
 unfold NdAt at hT
 obtain⟨e0,e1,e2,e3,e4,e5,e6,e7,e8,e9⟩:=hT
 obtain⟨q0,q1,q2⟩:=hP0
 have hbl0:b<w0.heap.size:=by have:=hb0.size;omega
 have hs:=bH hs
 have hD2:=bH hD
 clear ht hb1 hD
 go_enter Tryz.func43,Tryz.ntmps43
 go_upto_region 1 with fail
 (try rw[hw0])
 clear hw0
 go_upto_region 2 with fail
 (try rw[hw1])
 clear hw1 e0 e1 e2 e3 e4 e5 e6 e7 e8 e9 q0 q1 q2 hb0
 have hk0:=hk1.out
 clear hk1
 obtain⟨k,ta,tb,tc,n,nm,x,y,z,p⟩:=t
 dsimp only at hk0
 subst hk0
 obtain⟨qa,rfl⟩ : ∃q:Nat,ta=(q:Int):=⟨ta.toNat,by have:=hkid.out (ta,_) (by simp[kidsS];first|rfl|exact .inl rfl|exact .inr rfl|exact .inr (.inl rfl)|exact .inr (.inr rfl));have:=this.1;dsimp only at this;omega⟩
 have hqa:qa<at_:=by have:=hkid.out ((qa:Int),_) (by simp[kidsS];first|rfl|exact .inl rfl|exact .inr rfl|exact .inr (.inl rfl)|exact .inr (.inr rfl));have:=this.2;dsimp only at this;omega
 obtain⟨qb,rfl⟩ : ∃q:Nat,tb=(q:Int):=⟨tb.toNat,by have:=hkid.out (tb,_) (by simp[kidsS];first|rfl|exact .inl rfl|exact .inr rfl|exact .inr (.inl rfl)|exact .inr (.inr rfl));have:=this.1;dsimp only at this;omega⟩
 have hqb:qb<at_:=by have:=hkid.out ((qb:Int),_) (by simp[kidsS];first|rfl|exact .inl rfl|exact .inr rfl|exact .inr (.inl rfl)|exact .inr (.inr rfl));have:=this.2;dsimp only at this;omega
 obtain⟨qc,rfl⟩ : ∃q:Nat,tc=(q:Int):=⟨tc.toNat,by have:=hkid.out (tc,_) (by simp[kidsS];first|rfl|exact .inl rfl|exact .inr rfl|exact .inr (.inl rfl)|exact .inr (.inr rfl));have:=this.1;dsimp only at this;omega⟩
 have hqc:qc<at_:=by have:=hkid.out ((qc:Int),_) (by simp[kidsS];first|rfl|exact .inl rfl|exact .inr rfl|exact .inr (.inl rfl)|exact .inr (.inr rfl));have:=this.2;dsimp only at this;omega
 clear hkid
 have hV:Hid (numsV no (f+1) ts at_ bound=(nmBd no bound ⟨10,(qa:Int),(qb:Int),(qc:Int),n,nm,x,y,z,p⟩ && (numsV no f ts qa (bound+0) && (numsV no f ts qb (bound+2) && (numsV no f ts qc (bound+1) && true))))):=bH (hV.out.trans rfl)
 have hnm:nmBd no bound ⟨10,(qa:Int),(qb:Int),(qc:Int),n,nm,x,y,z,p⟩=decide (0≤n∧n<(no:Int)):=rfl
 rw[hnm] at hV
 clear hnm
 have hcs : ¬ (0≤n)∨(0≤n∧ ¬ n<(no:Int))∨(0≤n∧n<(no:Int)):=by omega
 rcases hcs with g0|⟨g0,g1⟩|⟨g0,g1⟩
 ·obtain⟨xl,x0,x1,x2,x3,x4,x5,x6,x7,x8,x9,_⟩:=hX.out
  obtain⟨p0,p1,p2⟩:=hP.out
  dsimp only at x0 x1 x2 x3 x4 x5 x6 x7 x8 x9
  have hf:Hid (numsV no (f+1) ts at_ bound=false):=bH (by rw[hV.out,decide_eq_false (by omega)];rfl)
  have gd:decide (0≤n)=false:=decide_eq_false g0
  go_wp2_with fail
  go_ret
  exact⟨ret_bb hf.out.symm,hB.out⟩
 ·obtain⟨xl,x0,x1,x2,x3,x4,x5,x6,x7,x8,x9,_⟩:=hX.out
  obtain⟨p0,p1,p2⟩:=hP.out
  dsimp only at x0 x1 x2 x3 x4 x5 x6 x7 x8 x9
  have hf:Hid (numsV no (f+1) ts at_ bound=false):=bH (by rw[hV.out,decide_eq_false (by omega)];rfl)
  go_wp2_with fail
  go_ret
  exact⟨ret_bb hf.out.symm,hB.out⟩
 ·have hV:Hid (numsV no (f+1) ts at_ bound=(numsV no f ts qa (bound+0) && (numsV no f ts qb (bound+2) && (numsV no f ts qc (bound+1) && true)))):=bH (by rw[hV.out,decide_eq_true ⟨g0,g1⟩,Bool.true_and])
  obtain⟨xl,x0,x1,x2,x3,x4,x5,x6,x7,x8,x9,_⟩:=hX.out
  obtain⟨p0,p1,p2⟩:=hP.out
  dsimp only at x0 x1 x2 x3 x4 x5 x6 x7 x8 x9
  have kR:=bH (ih qa bound w1 (by omega) (by omega) hsl hD2.out (by omega) hno (bH (hN.out.below hB.out)))
  skip
  obtain⟨b2,hb2⟩ : ∃q,numsV no f ts qa bound=q:=⟨_,rfl⟩
  rw[hb2] at kR
  have hb2:=bH hb2
  go_wp2_with fail
  clear xl x0 x1 x2 x3 x4 x5 x6 x7 x8 x9 p0 p1 p2
  refine kR.out.mono ?_
  rintro e w2 ⟨rfl,hb⟩
  have hP:=bH (hP.out.below hb)
  have hX:=bH (hX.out.below hb)
  have hB:=bH (belT hB.out hb)
  clear hb kR
  cases b2
  ·have hf:Hid (numsV no (f+1) ts at_ bound=false):=bH (by rw[hV.out];simp only[Nat.add_zero,hb2.out,Bool.true_and,Bool.false_and])
   go_wp2_with fail
   go_ret
   exact⟨ret_bb hf.out.symm,hB.out⟩
  ·skip
   obtain⟨xl,x0,x1,x2,x3,x4,x5,x6,x7,x8,x9,_⟩:=hX.out
   obtain⟨p0,p1,p2⟩:=hP.out
   dsimp only at x0 x1 x2 x3 x4 x5 x6 x7 x8 x9
   have kR:=bH (ih qb (bound+2) w2 (by omega) (by omega) hsl hD2.out (by omega) hno (bH (hN.out.below hB.out)))
   rw[show ((bound+2:Nat):Int)=(bound:Int)+2 from by omega] at kR
   obtain⟨b3,hb3⟩ : ∃q,numsV no f ts qb (bound+2)=q:=⟨_,rfl⟩
   rw[hb3] at kR
   have hb3:=bH hb3
   go_wp2_with fail
   clear xl x0 x1 x2 x3 x4 x5 x6 x7 x8 x9 p0 p1 p2
   refine kR.out.mono ?_
   rintro e w3 ⟨rfl,hb⟩
   have hP:=bH (hP.out.below hb)
   have hX:=bH (hX.out.below hb)
   have hB:=bH (belT hB.out hb)
   clear hb kR
   cases b3
   ·have hf:Hid (numsV no (f+1) ts at_ bound=false):=bH (by rw[hV.out];simp only[Nat.add_zero,hb2.out,hb3.out,Bool.true_and,Bool.false_and])
    go_wp2_with fail
    go_ret
    exact⟨ret_bb hf.out.symm,hB.out⟩
   ·skip
    obtain⟨xl,x0,x1,x2,x3,x4,x5,x6,x7,x8,x9,_⟩:=hX.out
    obtain⟨p0,p1,p2⟩:=hP.out
    dsimp only at x0 x1 x2 x3 x4 x5 x6 x7 x8 x9
    have kR:=bH (ih qc (bound+1) w3 (by omega) (by omega) hsl hD2.out (by omega) hno (bH (hN.out.below hB.out)))
    rw[show ((bound+1:Nat):Int)=(bound:Int)+1 from by omega] at kR
    obtain⟨b4,hb4⟩ : ∃q,numsV no f ts qc (bound+1)=q:=⟨_,rfl⟩
    rw[hb4] at kR
    have hb4:=bH hb4
    go_wp2_with fail
    clear xl x0 x1 x2 x3 x4 x5 x6 x7 x8 x9 p0 p1 p2
    refine kR.out.mono ?_
    rintro e w4 ⟨rfl,hb⟩
    have hP:=bH (hP.out.below hb)
    have hX:=bH (hX.out.below hb)
    have hB:=bH (belT hB.out hb)
    clear hb kR
    have hf:Hid (numsV no (f+1) ts at_ bound=b4):=bH (by rw[hV.out];simp only[Nat.add_zero,hb2.out,hb3.out,hb4.out,Bool.true_and,Bool.and_true])
    go_wp2_with fail
    go_ret
    exact⟨ret_bb hf.out.symm,hB.out⟩
end Go.Proofs.YthpcbgljbpmafaaGreatDoor
