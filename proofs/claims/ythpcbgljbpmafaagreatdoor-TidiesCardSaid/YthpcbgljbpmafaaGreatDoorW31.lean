/- areNums, areOperations. -/
import Derived.Test.YthpcbgljbpmafaaGreatDoorW21
import Derived.Test.YthpcbgljbpmafaaGreatDoorW22
import Derived.Test.YthpcbgljbpmafaaGreatDoorW30
set_option maxRecDepth 100000
set_option maxHeartbeats 8000000
namespace Go.Proofs.YthpcbgljbpmafaaGreatDoor
open Go.RowKit
set_option linter.unusedVariables false
set_option linter.unusedSimpArgs false
def nmBd (no bound:Nat) (t:Nd):Bool:=if t.k=9∨t.k=10 then decide (0≤t.n∧t.n<no) else if t.k=0 then decide (0≤t.n∧t.n<bound) else true
def numsV (no:Nat):Nat→List Nd→Nat→Nat→Bool
 | 0,_,_,_=>false
 | f+1,ts,at_,bound=>nmBd no bound (ts.getD at_ nd0) && (kidsS (ts.getD at_ nd0)).all fun c=>numsV no f ts c.1.toNat (bound+c.2.length)
theorem all_takeK {α:Type} {p:α→Bool} {l:List α} {d:α} {j:Nat} (hj:j<l.length) (h:(l.take j).all p=true):(l.take (j+1)).all p=p (l.getD j d):=by
 rw[List.take_succ_eq_append_getElem hj,List.all_append,h,List.getD_eq_getElem?_getD,List.getElem?_eq_getElem hj];simp
theorem all_stopK {α:Type} {p:α→Bool} {l:List α} {d:α} {j:Nat} (hj:j<l.length) (h:p (l.getD j d)=false):l.all p=false:=by
 rw[List.all_eq_false]
 refine⟨l[j],List.getElem_mem hj, ?_⟩
 rw[List.getD_eq_getElem?_getD,List.getElem?_eq_getElem hj] at h
 simpa using h
theorem KidsAt.below {B:Nat} {w w':World} {v:Value} {l:List (Int × List ByteArray)} (h:KidsAt B w v l) (hb:Below w.heap.size w w'):KidsAt B w' v l:=h.bar (Bar.of_below (S:=fun _=>False) hb) (fun _ _ _=>id)
theorem areNums_any (no:Nat) (hno:no≤1000000) : ∀(f at_ bound:Nat) (ts:List Nd) (a a2:Option Addr) (c n2 c2:Nat) (w:World),at_<f→at_<ts.length→ts.length≤512→Downs ts→bound+2*at_≤1000000→Hid (NArg w a2 n2 ts)→
  Calls Tryz.prog 37 #[.agg #[.slice a no c, .slice a2 n2 c2], .int .i64 at_, .int .i64 bound] w fun e w'=>e= .returned (.bool (numsV no f ts at_ bound))∧Below w.heap.size w w':=by
 intro f
 induction f with
 | zero=>intro at_ bound ts a a2 c n2 c2 w h;omega
 | succ f ih=>
  intro at_ bound ts a a2 c n2 c2 w hf hat hl hD hbd h
  obtain rfl:n2=ts.length:=h.out.1
  rcases h.out.2 with h0|⟨b,off,rfl,hs,hb⟩
  ·rw[h0] at hat;simp at hat
  have hN:=hs at_ hat
  obtain⟨t,ht⟩ : ∃t,ts.getD at_ nd0=t:=⟨_,rfl⟩
  rw[ht] at hN
  have hkid:=bH (fun x (hx:x∈kidsS t)=>hD at_ hat x (by rw[ht];exact hx))
  have hkid2:=bH (kidsS_two t)
  obtain⟨r,hr⟩ : ∃r,numsV no (f+1) ts at_ bound=r:=⟨_,rfl⟩
  have hrr:=bH (show r=(nmBd no bound t && (kidsS t).all fun x=>numsV no f ts x.1.toNat (bound+x.2.length)) from by rw[← hr, ← ht];rfl)
  rw[hr]
  have hD:=bH hD
  clear hr ht hs
  have hN1:=hN.below (below_alc w (.cells #[.slice a no c, .slice (some ⟨b,off,none⟩) ts.length c2] 25)) hb
  unfold NdAt at hN1
  have hP1:=pg_lit w 25 w.heap.size rfl a (some ⟨b,off,none⟩) no c ts.length c2
  have hati:(at_:Int)<(ts.length:Int):=by omega
  have hat0:(0:Int)≤(at_:Int):=by omega
  clear hN
  obtain⟨k,ta,tb,tc,tn,nm,tx,ty,tz,tp⟩:=t
  obtain⟨e0,e1,e2,e3,e4,e5,e6,e7,e8,e9⟩:=hN1
  simp only at e0 e1 e2 e3 e4 e5 e6 e7 e8 e9
  obtain⟨p0,p1,p2⟩:=hP1
  have hc:k=9∨k=10∨k=0∨(k≠9∧k≠10∧k≠0):=by omega
  rcases hc with rfl|rfl|rfl|⟨h9,h10,h0⟩
  ·cases hA:decide (tn<0)
   ·cases hM:decide ((no:Int)≤tn)
    ·have hchk:nmBd no bound ⟨9,ta,tb,tc,tn,nm,tx,ty,tz,tp⟩=true:=by unfold nmBd;rw[if_pos (.inl rfl)];have:=of_decide_eq_false hA;have:=of_decide_eq_false hM;exact decide_eq_true ⟨by show 0≤tn;omega,by show tn<(no:Int);omega⟩
     have hchk:=hchk
     obtain⟨w0,hw0⟩ : ∃W,(w.alloc (.cells #[.slice a no c, .slice (some ⟨b,off,none⟩) ts.length c2] 25)).alloc (.cells #[.int .i64 9, .int .i64 ta, .int .i64 tb, .int .i64 tc, .int .i64 tn, .string nm, .string tx, .string ty, .string tz, .int .i64 tp] 45)=W:=⟨_,rfl⟩
     have hP:Pg w0 w.heap.size a no c (some ⟨b,off,none⟩) ts.length c2:=by rw[← hw0];exact(pg_lit w _ _ rfl _ _ _ _ _ _).below (below_alc _ _)
     have hX:Nd10 w0 (w.heap.size+1) ⟨9,ta,tb,tc,tn,nm,tx,ty,tz,tp⟩:=by rw[← hw0];exact nd10_lit _ _ _ _ _ (by simp) rfl
     have hb0:Below w.heap.size w w0:=by rw[← hw0];exact belA _ (below_alc _ _)
     have hP:=bH hP
     have hX:=bH hX
     have hb0:=bH hb0
     go_enter Tryz.func37,Tryz.ntmps37
     go_upto_region 3 with fail
     (try rw[hw0])
     clear hw0 e0 e1 e2 e3 e4 e5 e6 e7 e8 e9 p0 p1 p2
     obtain⟨p0,p1,p2⟩:=hP.out
     obtain⟨xl,x0,x1,x2,x3,x4,x5,x6,x7,x8,x9,_⟩:=hX.out
     simp only at x0 x1 x2 x3 x4 x5 x6 x7 x8 x9
     go_wp2_with fail
     clear p0 p1 p2 xl x0 x1 x2 x3 x4 x5 x6 x7 x8 x9
     refine(children_any ⟨9,ta,tb,tc,tn,nm,tx,ty,tz,tp⟩ w0).mono ?_
     rintro e w2 ⟨kv,rfl,hkv,hb2⟩
     rw[hchk,Bool.true_and] at hrr
     obtain⟨kids,hkids⟩ : ∃l,kidsS ⟨9,ta,tb,tc,tn,nm,tx,ty,tz,tp⟩=l:=⟨_,rfl⟩
     rw[hkids] at hkv hkid hkid2 hrr
     have hP:=bH (hP.out.below hb2)
     have hkv:=bH hkv
     have hb0:=bH (belT hb0.out hb2)
     have hkl:kids.length≤3:=by rw[← hkids];unfold kidsS;(repeat' split)<;>simp
     have hks : ∃ka,kv= .slice ka kids.length kids.length:=by rcases hkv.out with ⟨h,h2⟩|⟨g,h,_⟩;exact⟨none,by rw[h,h2];rfl⟩;exact⟨_,h⟩
     obtain⟨ka,rfl⟩:=hks
     clear hX hkids hb2 hchk
     go_wp2_with fail
     go_loopw [39] (fun i wr=> ∃j:Nat,j≤kids.length∧i= .int .i64 j∧Hid ((kids.take j).all (fun x=>numsV no f ts x.1.toNat (bound+x.2.length))=true)∧Below w2.heap.size w2 wr) (fun i _=>kids.length-(intOf i).toNat)
     case atStart=>exact⟨0,by omega,rfl,bH (by simp),Below.refl _ _⟩
     case round=>
      obtain⟨j,hj,rfl,hall,hbw⟩:=hrel
      by_cases hlt:j<kids.length
      ·rcases(hkv.out.below hbw) with ⟨h1,h2⟩|⟨g,hka,hBg,hgl,hcs⟩
       ·rw[h2] at hlt;simp at hlt
       obtain⟨k1,ad,n3,c3,k2,hys,hnn,hbb⟩:=hcs j hlt
       injection hka with hka _ _
       subst hka
       have hkm:kids.getD j (0,[])∈kids:=by rw[List.getD_eq_getElem?_getD,List.getElem?_eq_getElem hlt];exact List.getElem_mem hlt
       have hq:=hkid.out _ hkm
       have hy2:=hkid2.out _ hkm
       have htk:=bH (all_takeK (d:=((0:Int),([]:List ByteArray))) hlt hall.out)
       have hst:=bH (all_stopK (p:=fun x=>numsV no f ts x.1.toNat (bound+x.2.length)) (d:=((0:Int),([]:List ByteArray))) hlt)
       obtain⟨q,hqe⟩ : ∃q:Nat,(kids.getD j (0,[])).1=(q:Int):=⟨(kids.getD j (0,[])).1.toNat,by omega⟩
       obtain⟨ys,hye⟩ : ∃ys,(kids.getD j (0,[])).2=ys:=⟨_,rfl⟩
       have hqn:((q:Int)).toNat=q:=by omega
       rw[hqe] at k1 hq htk hst
       rw[hye] at hys hy2 htk hst
       rw[hqn] at htk hst
       obtain rfl:n3=ys.length:=hys.1
       have hqa:q<at_:=by omega
       clear hcs hkm hq hqe hye hqn hnn hbb hys
       have hP3:=hP.out.below hbw
       obtain⟨p0,p1,p2⟩:=hP3
       obtain⟨v,hv⟩ : ∃v,numsV no f ts q (bound+ys.length)=v:=⟨_,rfl⟩
       have kA:=bH fun (W:World) (hW:Below w2.heap.size w2 W)=>ih q (bound+ys.length) ts a (some ⟨b,off,none⟩) c ts.length c2 W (by omega) (by omega) hl hD.out (by omega) (bH (h.out.below (belT hb0.out hW)))
       rw[hv] at kA htk hst
       have hji:(j:Int)<(kids.length:Int):=by omega
       have hj0:(0:Int)≤(j:Int):=by omega
       have hw1:IntKind.i64.wrap ((bound:Int)+(ys.length:Int))=((bound+ys.length:Nat):Int):=by rw[IntWalk.i64_in _ (by omega)];omega
       go_wp2_with fail
       refine(kA.out _ (belA _ hbw)).mono ?_
       rintro e w3 ⟨rfl,hb3⟩
       have hbw3:=belT (belA (.cells #[.int .i64 (q:Int), .slice ad ys.length c3] 98) hbw) hb3
       clear p0 p1 p2 k1 k2 kA hb3 hv
       cases v
       ·have hr:=hst.out rfl
        go_wp2_with fail
        go_ret
        exact⟨by rw[hrr.out,hr];rfl,belT hb0.out hbw3⟩
       ·go_wp2_with fail
        go_roundw
        case rel=>exact⟨j+1,by omega,by go_num,bH htk.out,hbw3⟩
        case measure=>simp[intOf];omega
      ·have hj2:j=kids.length:=by omega
       have hal2:=hall.out
       rw[hj2,List.take_length] at hal2
       have hal3:=bH hal2
       clear hal2
       subst hj2
       go_wp2_with fail
       go_ret
       exact⟨by rw[hrr.out,hal3.out];rfl,belT hb0.out hbw⟩
    ·have hchk:nmBd no bound ⟨9,ta,tb,tc,tn,nm,tx,ty,tz,tp⟩=false:=by unfold nmBd;rw[if_pos (.inl rfl)];have:=of_decide_eq_true hM;exact decide_eq_false (fun h=>by have h2:tn<(no:Int):=h.2;omega)
     obtain⟨w0,hw0⟩ : ∃W,(w.alloc (.cells #[.slice a no c, .slice (some ⟨b,off,none⟩) ts.length c2] 25)).alloc (.cells #[.int .i64 9, .int .i64 ta, .int .i64 tb, .int .i64 tc, .int .i64 tn, .string nm, .string tx, .string ty, .string tz, .int .i64 tp] 45)=W:=⟨_,rfl⟩
     have hP:Pg w0 w.heap.size a no c (some ⟨b,off,none⟩) ts.length c2:=by rw[← hw0];exact(pg_lit w _ _ rfl _ _ _ _ _ _).below (below_alc _ _)
     have hX:Nd10 w0 (w.heap.size+1) ⟨9,ta,tb,tc,tn,nm,tx,ty,tz,tp⟩:=by rw[← hw0];exact nd10_lit _ _ _ _ _ (by simp) rfl
     have hb0:Below w.heap.size w w0:=by rw[← hw0];exact belA _ (below_alc _ _)
     have hP:=bH hP
     have hX:=bH hX
     have hb0:=bH hb0
     go_enter Tryz.func37,Tryz.ntmps37
     go_upto_region 3 with fail
     (try rw[hw0])
     clear hw0 e0 e1 e2 e3 e4 e5 e6 e7 e8 e9 p0 p1 p2
     obtain⟨p0,p1,p2⟩:=hP.out
     obtain⟨xl,x0,x1,x2,x3,x4,x5,x6,x7,x8,x9,_⟩:=hX.out
     simp only at x0 x1 x2 x3 x4 x5 x6 x7 x8 x9
     go_wp2_with fail
     go_ret
     exact⟨by rw[hrr.out,hchk];rfl,hb0.out⟩
   ·have hchk:nmBd no bound ⟨9,ta,tb,tc,tn,nm,tx,ty,tz,tp⟩=false:=by unfold nmBd;rw[if_pos (.inl rfl)];have:=of_decide_eq_true hA;exact decide_eq_false (fun h=>by have h1:0≤tn:=h.1;omega)
    obtain⟨w0,hw0⟩ : ∃W,(w.alloc (.cells #[.slice a no c, .slice (some ⟨b,off,none⟩) ts.length c2] 25)).alloc (.cells #[.int .i64 9, .int .i64 ta, .int .i64 tb, .int .i64 tc, .int .i64 tn, .string nm, .string tx, .string ty, .string tz, .int .i64 tp] 45)=W:=⟨_,rfl⟩
    have hP:Pg w0 w.heap.size a no c (some ⟨b,off,none⟩) ts.length c2:=by rw[← hw0];exact(pg_lit w _ _ rfl _ _ _ _ _ _).below (below_alc _ _)
    have hX:Nd10 w0 (w.heap.size+1) ⟨9,ta,tb,tc,tn,nm,tx,ty,tz,tp⟩:=by rw[← hw0];exact nd10_lit _ _ _ _ _ (by simp) rfl
    have hb0:Below w.heap.size w w0:=by rw[← hw0];exact belA _ (below_alc _ _)
    have hP:=bH hP
    have hX:=bH hX
    have hb0:=bH hb0
    go_enter Tryz.func37,Tryz.ntmps37
    go_upto_region 3 with fail
    (try rw[hw0])
    clear hw0 e0 e1 e2 e3 e4 e5 e6 e7 e8 e9 p0 p1 p2
    obtain⟨p0,p1,p2⟩:=hP.out
    obtain⟨xl,x0,x1,x2,x3,x4,x5,x6,x7,x8,x9,_⟩:=hX.out
    simp only at x0 x1 x2 x3 x4 x5 x6 x7 x8 x9
    go_wp2_with fail
    go_ret
    exact⟨by rw[hrr.out,hchk];rfl,hb0.out⟩
  ·cases hA:decide (tn<0)
   ·cases hM:decide ((no:Int)≤tn)
    ·have hchk:nmBd no bound ⟨10,ta,tb,tc,tn,nm,tx,ty,tz,tp⟩=true:=by unfold nmBd;rw[if_pos (.inr rfl)];have:=of_decide_eq_false hA;have:=of_decide_eq_false hM;exact decide_eq_true ⟨by show 0≤tn;omega,by show tn<(no:Int);omega⟩
     have hchk:=hchk
     obtain⟨w0,hw0⟩ : ∃W,(w.alloc (.cells #[.slice a no c, .slice (some ⟨b,off,none⟩) ts.length c2] 25)).alloc (.cells #[.int .i64 10, .int .i64 ta, .int .i64 tb, .int .i64 tc, .int .i64 tn, .string nm, .string tx, .string ty, .string tz, .int .i64 tp] 45)=W:=⟨_,rfl⟩
     have hP:Pg w0 w.heap.size a no c (some ⟨b,off,none⟩) ts.length c2:=by rw[← hw0];exact(pg_lit w _ _ rfl _ _ _ _ _ _).below (below_alc _ _)
     have hX:Nd10 w0 (w.heap.size+1) ⟨10,ta,tb,tc,tn,nm,tx,ty,tz,tp⟩:=by rw[← hw0];exact nd10_lit _ _ _ _ _ (by simp) rfl
     have hb0:Below w.heap.size w w0:=by rw[← hw0];exact belA _ (below_alc _ _)
     have hP:=bH hP
     have hX:=bH hX
     have hb0:=bH hb0
     go_enter Tryz.func37,Tryz.ntmps37
     go_upto_region 3 with fail
     (try rw[hw0])
     clear hw0 e0 e1 e2 e3 e4 e5 e6 e7 e8 e9 p0 p1 p2
     obtain⟨p0,p1,p2⟩:=hP.out
     obtain⟨xl,x0,x1,x2,x3,x4,x5,x6,x7,x8,x9,_⟩:=hX.out
     simp only at x0 x1 x2 x3 x4 x5 x6 x7 x8 x9
     go_wp2_with fail
     clear p0 p1 p2 xl x0 x1 x2 x3 x4 x5 x6 x7 x8 x9
     refine(children_any ⟨10,ta,tb,tc,tn,nm,tx,ty,tz,tp⟩ w0).mono ?_
     rintro e w2 ⟨kv,rfl,hkv,hb2⟩
     rw[hchk,Bool.true_and] at hrr
     obtain⟨kids,hkids⟩ : ∃l,kidsS ⟨10,ta,tb,tc,tn,nm,tx,ty,tz,tp⟩=l:=⟨_,rfl⟩
     rw[hkids] at hkv hkid hkid2 hrr
     have hP:=bH (hP.out.below hb2)
     have hkv:=bH hkv
     have hb0:=bH (belT hb0.out hb2)
     have hkl:kids.length≤3:=by rw[← hkids];unfold kidsS;(repeat' split)<;>simp
     have hks : ∃ka,kv= .slice ka kids.length kids.length:=by rcases hkv.out with ⟨h,h2⟩|⟨g,h,_⟩;exact⟨none,by rw[h,h2];rfl⟩;exact⟨_,h⟩
     obtain⟨ka,rfl⟩:=hks
     clear hX hkids hb2 hchk
     go_wp2_with fail
     go_loopw [39] (fun i wr=> ∃j:Nat,j≤kids.length∧i= .int .i64 j∧Hid ((kids.take j).all (fun x=>numsV no f ts x.1.toNat (bound+x.2.length))=true)∧Below w2.heap.size w2 wr) (fun i _=>kids.length-(intOf i).toNat)
     case atStart=>exact⟨0,by omega,rfl,bH (by simp),Below.refl _ _⟩
     case round=>
      obtain⟨j,hj,rfl,hall,hbw⟩:=hrel
      by_cases hlt:j<kids.length
      ·rcases(hkv.out.below hbw) with ⟨h1,h2⟩|⟨g,hka,hBg,hgl,hcs⟩
       ·rw[h2] at hlt;simp at hlt
       obtain⟨k1,ad,n3,c3,k2,hys,hnn,hbb⟩:=hcs j hlt
       injection hka with hka _ _
       subst hka
       have hkm:kids.getD j (0,[])∈kids:=by rw[List.getD_eq_getElem?_getD,List.getElem?_eq_getElem hlt];exact List.getElem_mem hlt
       have hq:=hkid.out _ hkm
       have hy2:=hkid2.out _ hkm
       have htk:=bH (all_takeK (d:=((0:Int),([]:List ByteArray))) hlt hall.out)
       have hst:=bH (all_stopK (p:=fun x=>numsV no f ts x.1.toNat (bound+x.2.length)) (d:=((0:Int),([]:List ByteArray))) hlt)
       obtain⟨q,hqe⟩ : ∃q:Nat,(kids.getD j (0,[])).1=(q:Int):=⟨(kids.getD j (0,[])).1.toNat,by omega⟩
       obtain⟨ys,hye⟩ : ∃ys,(kids.getD j (0,[])).2=ys:=⟨_,rfl⟩
       have hqn:((q:Int)).toNat=q:=by omega
       rw[hqe] at k1 hq htk hst
       rw[hye] at hys hy2 htk hst
       rw[hqn] at htk hst
       obtain rfl:n3=ys.length:=hys.1
       have hqa:q<at_:=by omega
       clear hcs hkm hq hqe hye hqn hnn hbb hys
       have hP3:=hP.out.below hbw
       obtain⟨p0,p1,p2⟩:=hP3
       obtain⟨v,hv⟩ : ∃v,numsV no f ts q (bound+ys.length)=v:=⟨_,rfl⟩
       have kA:=bH fun (W:World) (hW:Below w2.heap.size w2 W)=>ih q (bound+ys.length) ts a (some ⟨b,off,none⟩) c ts.length c2 W (by omega) (by omega) hl hD.out (by omega) (bH (h.out.below (belT hb0.out hW)))
       rw[hv] at kA htk hst
       have hji:(j:Int)<(kids.length:Int):=by omega
       have hj0:(0:Int)≤(j:Int):=by omega
       have hw1:IntKind.i64.wrap ((bound:Int)+(ys.length:Int))=((bound+ys.length:Nat):Int):=by rw[IntWalk.i64_in _ (by omega)];omega
       go_wp2_with fail
       refine(kA.out _ (belA _ hbw)).mono ?_
       rintro e w3 ⟨rfl,hb3⟩
       have hbw3:=belT (belA (.cells #[.int .i64 (q:Int), .slice ad ys.length c3] 98) hbw) hb3
       clear p0 p1 p2 k1 k2 kA hb3 hv
       cases v
       ·have hr:=hst.out rfl
        go_wp2_with fail
        go_ret
        exact⟨by rw[hrr.out,hr];rfl,belT hb0.out hbw3⟩
       ·go_wp2_with fail
        go_roundw
        case rel=>exact⟨j+1,by omega,by go_num,bH htk.out,hbw3⟩
        case measure=>simp[intOf];omega
      ·have hj2:j=kids.length:=by omega
       have hal2:=hall.out
       rw[hj2,List.take_length] at hal2
       have hal3:=bH hal2
       clear hal2
       subst hj2
       go_wp2_with fail
       go_ret
       exact⟨by rw[hrr.out,hal3.out];rfl,belT hb0.out hbw⟩
    ·have hchk:nmBd no bound ⟨10,ta,tb,tc,tn,nm,tx,ty,tz,tp⟩=false:=by unfold nmBd;rw[if_pos (.inr rfl)];have:=of_decide_eq_true hM;exact decide_eq_false (fun h=>by have h2:tn<(no:Int):=h.2;omega)
     obtain⟨w0,hw0⟩ : ∃W,(w.alloc (.cells #[.slice a no c, .slice (some ⟨b,off,none⟩) ts.length c2] 25)).alloc (.cells #[.int .i64 10, .int .i64 ta, .int .i64 tb, .int .i64 tc, .int .i64 tn, .string nm, .string tx, .string ty, .string tz, .int .i64 tp] 45)=W:=⟨_,rfl⟩
     have hP:Pg w0 w.heap.size a no c (some ⟨b,off,none⟩) ts.length c2:=by rw[← hw0];exact(pg_lit w _ _ rfl _ _ _ _ _ _).below (below_alc _ _)
     have hX:Nd10 w0 (w.heap.size+1) ⟨10,ta,tb,tc,tn,nm,tx,ty,tz,tp⟩:=by rw[← hw0];exact nd10_lit _ _ _ _ _ (by simp) rfl
     have hb0:Below w.heap.size w w0:=by rw[← hw0];exact belA _ (below_alc _ _)
     have hP:=bH hP
     have hX:=bH hX
     have hb0:=bH hb0
     go_enter Tryz.func37,Tryz.ntmps37
     go_upto_region 3 with fail
     (try rw[hw0])
     clear hw0 e0 e1 e2 e3 e4 e5 e6 e7 e8 e9 p0 p1 p2
     obtain⟨p0,p1,p2⟩:=hP.out
     obtain⟨xl,x0,x1,x2,x3,x4,x5,x6,x7,x8,x9,_⟩:=hX.out
     simp only at x0 x1 x2 x3 x4 x5 x6 x7 x8 x9
     go_wp2_with fail
     go_ret
     exact⟨by rw[hrr.out,hchk];rfl,hb0.out⟩
   ·have hchk:nmBd no bound ⟨10,ta,tb,tc,tn,nm,tx,ty,tz,tp⟩=false:=by unfold nmBd;rw[if_pos (.inr rfl)];have:=of_decide_eq_true hA;exact decide_eq_false (fun h=>by have h1:0≤tn:=h.1;omega)
    obtain⟨w0,hw0⟩ : ∃W,(w.alloc (.cells #[.slice a no c, .slice (some ⟨b,off,none⟩) ts.length c2] 25)).alloc (.cells #[.int .i64 10, .int .i64 ta, .int .i64 tb, .int .i64 tc, .int .i64 tn, .string nm, .string tx, .string ty, .string tz, .int .i64 tp] 45)=W:=⟨_,rfl⟩
    have hP:Pg w0 w.heap.size a no c (some ⟨b,off,none⟩) ts.length c2:=by rw[← hw0];exact(pg_lit w _ _ rfl _ _ _ _ _ _).below (below_alc _ _)
    have hX:Nd10 w0 (w.heap.size+1) ⟨10,ta,tb,tc,tn,nm,tx,ty,tz,tp⟩:=by rw[← hw0];exact nd10_lit _ _ _ _ _ (by simp) rfl
    have hb0:Below w.heap.size w w0:=by rw[← hw0];exact belA _ (below_alc _ _)
    have hP:=bH hP
    have hX:=bH hX
    have hb0:=bH hb0
    go_enter Tryz.func37,Tryz.ntmps37
    go_upto_region 3 with fail
    (try rw[hw0])
    clear hw0 e0 e1 e2 e3 e4 e5 e6 e7 e8 e9 p0 p1 p2
    obtain⟨p0,p1,p2⟩:=hP.out
    obtain⟨xl,x0,x1,x2,x3,x4,x5,x6,x7,x8,x9,_⟩:=hX.out
    simp only at x0 x1 x2 x3 x4 x5 x6 x7 x8 x9
    go_wp2_with fail
    go_ret
    exact⟨by rw[hrr.out,hchk];rfl,hb0.out⟩
  ·cases hA:decide (tn<0)
   ·cases hM:decide ((bound:Int)≤tn)
    ·have hchk:nmBd no bound ⟨0,ta,tb,tc,tn,nm,tx,ty,tz,tp⟩=true:=by unfold nmBd;rw[if_neg (by simp),if_pos rfl];have:=of_decide_eq_false hA;have:=of_decide_eq_false hM;exact decide_eq_true ⟨by show 0≤tn;omega,by show tn<(bound:Int);omega⟩
     have hchk:=hchk
     obtain⟨w0,hw0⟩ : ∃W,(w.alloc (.cells #[.slice a no c, .slice (some ⟨b,off,none⟩) ts.length c2] 25)).alloc (.cells #[.int .i64 0, .int .i64 ta, .int .i64 tb, .int .i64 tc, .int .i64 tn, .string nm, .string tx, .string ty, .string tz, .int .i64 tp] 45)=W:=⟨_,rfl⟩
     have hP:Pg w0 w.heap.size a no c (some ⟨b,off,none⟩) ts.length c2:=by rw[← hw0];exact(pg_lit w _ _ rfl _ _ _ _ _ _).below (below_alc _ _)
     have hX:Nd10 w0 (w.heap.size+1) ⟨0,ta,tb,tc,tn,nm,tx,ty,tz,tp⟩:=by rw[← hw0];exact nd10_lit _ _ _ _ _ (by simp) rfl
     have hb0:Below w.heap.size w w0:=by rw[← hw0];exact belA _ (below_alc _ _)
     have hP:=bH hP
     have hX:=bH hX
     have hb0:=bH hb0
     go_enter Tryz.func37,Tryz.ntmps37
     go_upto_region 3 with fail
     (try rw[hw0])
     clear hw0 e0 e1 e2 e3 e4 e5 e6 e7 e8 e9 p0 p1 p2
     obtain⟨p0,p1,p2⟩:=hP.out
     obtain⟨xl,x0,x1,x2,x3,x4,x5,x6,x7,x8,x9,_⟩:=hX.out
     simp only at x0 x1 x2 x3 x4 x5 x6 x7 x8 x9
     go_wp2_with fail
     clear p0 p1 p2 xl x0 x1 x2 x3 x4 x5 x6 x7 x8 x9
     refine(children_any ⟨0,ta,tb,tc,tn,nm,tx,ty,tz,tp⟩ w0).mono ?_
     rintro e w2 ⟨kv,rfl,hkv,hb2⟩
     rw[hchk,Bool.true_and] at hrr
     obtain⟨kids,hkids⟩ : ∃l,kidsS ⟨0,ta,tb,tc,tn,nm,tx,ty,tz,tp⟩=l:=⟨_,rfl⟩
     rw[hkids] at hkv hkid hkid2 hrr
     have hP:=bH (hP.out.below hb2)
     have hkv:=bH hkv
     have hb0:=bH (belT hb0.out hb2)
     have hkl:kids.length≤3:=by rw[← hkids];unfold kidsS;(repeat' split)<;>simp
     have hks : ∃ka,kv= .slice ka kids.length kids.length:=by rcases hkv.out with ⟨h,h2⟩|⟨g,h,_⟩;exact⟨none,by rw[h,h2];rfl⟩;exact⟨_,h⟩
     obtain⟨ka,rfl⟩:=hks
     clear hX hkids hb2 hchk
     go_wp2_with fail
     go_loopw [39] (fun i wr=> ∃j:Nat,j≤kids.length∧i= .int .i64 j∧Hid ((kids.take j).all (fun x=>numsV no f ts x.1.toNat (bound+x.2.length))=true)∧Below w2.heap.size w2 wr) (fun i _=>kids.length-(intOf i).toNat)
     case atStart=>exact⟨0,by omega,rfl,bH (by simp),Below.refl _ _⟩
     case round=>
      obtain⟨j,hj,rfl,hall,hbw⟩:=hrel
      by_cases hlt:j<kids.length
      ·rcases(hkv.out.below hbw) with ⟨h1,h2⟩|⟨g,hka,hBg,hgl,hcs⟩
       ·rw[h2] at hlt;simp at hlt
       obtain⟨k1,ad,n3,c3,k2,hys,hnn,hbb⟩:=hcs j hlt
       injection hka with hka _ _
       subst hka
       have hkm:kids.getD j (0,[])∈kids:=by rw[List.getD_eq_getElem?_getD,List.getElem?_eq_getElem hlt];exact List.getElem_mem hlt
       have hq:=hkid.out _ hkm
       have hy2:=hkid2.out _ hkm
       have htk:=bH (all_takeK (d:=((0:Int),([]:List ByteArray))) hlt hall.out)
       have hst:=bH (all_stopK (p:=fun x=>numsV no f ts x.1.toNat (bound+x.2.length)) (d:=((0:Int),([]:List ByteArray))) hlt)
       obtain⟨q,hqe⟩ : ∃q:Nat,(kids.getD j (0,[])).1=(q:Int):=⟨(kids.getD j (0,[])).1.toNat,by omega⟩
       obtain⟨ys,hye⟩ : ∃ys,(kids.getD j (0,[])).2=ys:=⟨_,rfl⟩
       have hqn:((q:Int)).toNat=q:=by omega
       rw[hqe] at k1 hq htk hst
       rw[hye] at hys hy2 htk hst
       rw[hqn] at htk hst
       obtain rfl:n3=ys.length:=hys.1
       have hqa:q<at_:=by omega
       clear hcs hkm hq hqe hye hqn hnn hbb hys
       have hP3:=hP.out.below hbw
       obtain⟨p0,p1,p2⟩:=hP3
       obtain⟨v,hv⟩ : ∃v,numsV no f ts q (bound+ys.length)=v:=⟨_,rfl⟩
       have kA:=bH fun (W:World) (hW:Below w2.heap.size w2 W)=>ih q (bound+ys.length) ts a (some ⟨b,off,none⟩) c ts.length c2 W (by omega) (by omega) hl hD.out (by omega) (bH (h.out.below (belT hb0.out hW)))
       rw[hv] at kA htk hst
       have hji:(j:Int)<(kids.length:Int):=by omega
       have hj0:(0:Int)≤(j:Int):=by omega
       have hw1:IntKind.i64.wrap ((bound:Int)+(ys.length:Int))=((bound+ys.length:Nat):Int):=by rw[IntWalk.i64_in _ (by omega)];omega
       go_wp2_with fail
       refine(kA.out _ (belA _ hbw)).mono ?_
       rintro e w3 ⟨rfl,hb3⟩
       have hbw3:=belT (belA (.cells #[.int .i64 (q:Int), .slice ad ys.length c3] 98) hbw) hb3
       clear p0 p1 p2 k1 k2 kA hb3 hv
       cases v
       ·have hr:=hst.out rfl
        go_wp2_with fail
        go_ret
        exact⟨by rw[hrr.out,hr];rfl,belT hb0.out hbw3⟩
       ·go_wp2_with fail
        go_roundw
        case rel=>exact⟨j+1,by omega,by go_num,bH htk.out,hbw3⟩
        case measure=>simp[intOf];omega
      ·have hj2:j=kids.length:=by omega
       have hal2:=hall.out
       rw[hj2,List.take_length] at hal2
       have hal3:=bH hal2
       clear hal2
       subst hj2
       go_wp2_with fail
       go_ret
       exact⟨by rw[hrr.out,hal3.out];rfl,belT hb0.out hbw⟩
    ·have hchk:nmBd no bound ⟨0,ta,tb,tc,tn,nm,tx,ty,tz,tp⟩=false:=by unfold nmBd;rw[if_neg (by simp),if_pos rfl];have:=of_decide_eq_true hM;exact decide_eq_false (fun h=>by have h2:tn<(bound:Int):=h.2;omega)
     obtain⟨w0,hw0⟩ : ∃W,(w.alloc (.cells #[.slice a no c, .slice (some ⟨b,off,none⟩) ts.length c2] 25)).alloc (.cells #[.int .i64 0, .int .i64 ta, .int .i64 tb, .int .i64 tc, .int .i64 tn, .string nm, .string tx, .string ty, .string tz, .int .i64 tp] 45)=W:=⟨_,rfl⟩
     have hP:Pg w0 w.heap.size a no c (some ⟨b,off,none⟩) ts.length c2:=by rw[← hw0];exact(pg_lit w _ _ rfl _ _ _ _ _ _).below (below_alc _ _)
     have hX:Nd10 w0 (w.heap.size+1) ⟨0,ta,tb,tc,tn,nm,tx,ty,tz,tp⟩:=by rw[← hw0];exact nd10_lit _ _ _ _ _ (by simp) rfl
     have hb0:Below w.heap.size w w0:=by rw[← hw0];exact belA _ (below_alc _ _)
     have hP:=bH hP
     have hX:=bH hX
     have hb0:=bH hb0
     go_enter Tryz.func37,Tryz.ntmps37
     go_upto_region 3 with fail
     (try rw[hw0])
     clear hw0 e0 e1 e2 e3 e4 e5 e6 e7 e8 e9 p0 p1 p2
     obtain⟨p0,p1,p2⟩:=hP.out
     obtain⟨xl,x0,x1,x2,x3,x4,x5,x6,x7,x8,x9,_⟩:=hX.out
     simp only at x0 x1 x2 x3 x4 x5 x6 x7 x8 x9
     go_wp2_with fail
     go_ret
     exact⟨by rw[hrr.out,hchk];rfl,hb0.out⟩
   ·have hchk:nmBd no bound ⟨0,ta,tb,tc,tn,nm,tx,ty,tz,tp⟩=false:=by unfold nmBd;rw[if_neg (by simp),if_pos rfl];have:=of_decide_eq_true hA;exact decide_eq_false (fun h=>by have h1:0≤tn:=h.1;omega)
    obtain⟨w0,hw0⟩ : ∃W,(w.alloc (.cells #[.slice a no c, .slice (some ⟨b,off,none⟩) ts.length c2] 25)).alloc (.cells #[.int .i64 0, .int .i64 ta, .int .i64 tb, .int .i64 tc, .int .i64 tn, .string nm, .string tx, .string ty, .string tz, .int .i64 tp] 45)=W:=⟨_,rfl⟩
    have hP:Pg w0 w.heap.size a no c (some ⟨b,off,none⟩) ts.length c2:=by rw[← hw0];exact(pg_lit w _ _ rfl _ _ _ _ _ _).below (below_alc _ _)
    have hX:Nd10 w0 (w.heap.size+1) ⟨0,ta,tb,tc,tn,nm,tx,ty,tz,tp⟩:=by rw[← hw0];exact nd10_lit _ _ _ _ _ (by simp) rfl
    have hb0:Below w.heap.size w w0:=by rw[← hw0];exact belA _ (below_alc _ _)
    have hP:=bH hP
    have hX:=bH hX
    have hb0:=bH hb0
    go_enter Tryz.func37,Tryz.ntmps37
    go_upto_region 3 with fail
    (try rw[hw0])
    clear hw0 e0 e1 e2 e3 e4 e5 e6 e7 e8 e9 p0 p1 p2
    obtain⟨p0,p1,p2⟩:=hP.out
    obtain⟨xl,x0,x1,x2,x3,x4,x5,x6,x7,x8,x9,_⟩:=hX.out
    simp only at x0 x1 x2 x3 x4 x5 x6 x7 x8 x9
    go_wp2_with fail
    go_ret
    exact⟨by rw[hrr.out,hchk];rfl,hb0.out⟩
  ·have hchk:nmBd no bound ⟨k,ta,tb,tc,tn,nm,tx,ty,tz,tp⟩=true:=by unfold nmBd;rw[if_neg (fun h=>h.elim h9 h10),if_neg h0]
   have b9:(k==9)=false:=beq_eq_false_iff_ne.2 h9
   have b10:(k==10)=false:=beq_eq_false_iff_ne.2 h10
   have b0:(k==0)=false:=beq_eq_false_iff_ne.2 h0
   clear h9 h10 h0
   obtain⟨w0,hw0⟩ : ∃W,(w.alloc (.cells #[.slice a no c, .slice (some ⟨b,off,none⟩) ts.length c2] 25)).alloc (.cells #[.int .i64 k, .int .i64 ta, .int .i64 tb, .int .i64 tc, .int .i64 tn, .string nm, .string tx, .string ty, .string tz, .int .i64 tp] 45)=W:=⟨_,rfl⟩
   have hP:Pg w0 w.heap.size a no c (some ⟨b,off,none⟩) ts.length c2:=by rw[← hw0];exact(pg_lit w _ _ rfl _ _ _ _ _ _).below (below_alc _ _)
   have hX:Nd10 w0 (w.heap.size+1) ⟨k,ta,tb,tc,tn,nm,tx,ty,tz,tp⟩:=by rw[← hw0];exact nd10_lit _ _ _ _ _ (by simp) rfl
   have hb0:Below w.heap.size w w0:=by rw[← hw0];exact belA _ (below_alc _ _)
   have hP:=bH hP
   have hX:=bH hX
   have hb0:=bH hb0
   go_enter Tryz.func37,Tryz.ntmps37
   go_upto_region 3 with fail
   (try rw[hw0])
   clear hw0 e0 e1 e2 e3 e4 e5 e6 e7 e8 e9 p0 p1 p2
   obtain⟨p0,p1,p2⟩:=hP.out
   obtain⟨xl,x0,x1,x2,x3,x4,x5,x6,x7,x8,x9,_⟩:=hX.out
   simp only at x0 x1 x2 x3 x4 x5 x6 x7 x8 x9
   go_wp2_with fail
   clear p0 p1 p2 xl x0 x1 x2 x3 x4 x5 x6 x7 x8 x9
   refine(children_any ⟨k,ta,tb,tc,tn,nm,tx,ty,tz,tp⟩ w0).mono ?_
   rintro e w2 ⟨kv,rfl,hkv,hb2⟩
   rw[hchk,Bool.true_and] at hrr
   obtain⟨kids,hkids⟩ : ∃l,kidsS ⟨k,ta,tb,tc,tn,nm,tx,ty,tz,tp⟩=l:=⟨_,rfl⟩
   rw[hkids] at hkv hkid hkid2 hrr
   have hP:=bH (hP.out.below hb2)
   have hkv:=bH hkv
   have hb0:=bH (belT hb0.out hb2)
   have hkl:kids.length≤3:=by rw[← hkids];unfold kidsS;(repeat' split)<;>simp
   have hks : ∃ka,kv= .slice ka kids.length kids.length:=by rcases hkv.out with ⟨h,h2⟩|⟨g,h,_⟩;exact⟨none,by rw[h,h2];rfl⟩;exact⟨_,h⟩
   obtain⟨ka,rfl⟩:=hks
   clear hX hkids hb2 hchk
   go_wp2_with fail
   go_loopw [39] (fun i wr=> ∃j:Nat,j≤kids.length∧i= .int .i64 j∧Hid ((kids.take j).all (fun x=>numsV no f ts x.1.toNat (bound+x.2.length))=true)∧Below w2.heap.size w2 wr) (fun i _=>kids.length-(intOf i).toNat)
   case atStart=>exact⟨0,by omega,rfl,bH (by simp),Below.refl _ _⟩
   case round=>
    obtain⟨j,hj,rfl,hall,hbw⟩:=hrel
    by_cases hlt:j<kids.length
    ·rcases(hkv.out.below hbw) with ⟨h1,h2⟩|⟨g,hka,hBg,hgl,hcs⟩
     ·rw[h2] at hlt;simp at hlt
     obtain⟨k1,ad,n3,c3,k2,hys,hnn,hbb⟩:=hcs j hlt
     injection hka with hka _ _
     subst hka
     have hkm:kids.getD j (0,[])∈kids:=by rw[List.getD_eq_getElem?_getD,List.getElem?_eq_getElem hlt];exact List.getElem_mem hlt
     have hq:=hkid.out _ hkm
     have hy2:=hkid2.out _ hkm
     have htk:=bH (all_takeK (d:=((0:Int),([]:List ByteArray))) hlt hall.out)
     have hst:=bH (all_stopK (p:=fun x=>numsV no f ts x.1.toNat (bound+x.2.length)) (d:=((0:Int),([]:List ByteArray))) hlt)
     obtain⟨q,hqe⟩ : ∃q:Nat,(kids.getD j (0,[])).1=(q:Int):=⟨(kids.getD j (0,[])).1.toNat,by omega⟩
     obtain⟨ys,hye⟩ : ∃ys,(kids.getD j (0,[])).2=ys:=⟨_,rfl⟩
     have hqn:((q:Int)).toNat=q:=by omega
     rw[hqe] at k1 hq htk hst
     rw[hye] at hys hy2 htk hst
     rw[hqn] at htk hst
     obtain rfl:n3=ys.length:=hys.1
     have hqa:q<at_:=by omega
     clear hcs hkm hq hqe hye hqn hnn hbb hys
     have hP3:=hP.out.below hbw
     obtain⟨p0,p1,p2⟩:=hP3
     obtain⟨v,hv⟩ : ∃v,numsV no f ts q (bound+ys.length)=v:=⟨_,rfl⟩
     have kA:=bH fun (W:World) (hW:Below w2.heap.size w2 W)=>ih q (bound+ys.length) ts a (some ⟨b,off,none⟩) c ts.length c2 W (by omega) (by omega) hl hD.out (by omega) (bH (h.out.below (belT hb0.out hW)))
     rw[hv] at kA htk hst
     have hji:(j:Int)<(kids.length:Int):=by omega
     have hj0:(0:Int)≤(j:Int):=by omega
     have hw1:IntKind.i64.wrap ((bound:Int)+(ys.length:Int))=((bound+ys.length:Nat):Int):=by rw[IntWalk.i64_in _ (by omega)];omega
     go_wp2_with fail
     refine(kA.out _ (belA _ hbw)).mono ?_
     rintro e w3 ⟨rfl,hb3⟩
     have hbw3:=belT (belA (.cells #[.int .i64 (q:Int), .slice ad ys.length c3] 98) hbw) hb3
     clear p0 p1 p2 k1 k2 kA hb3 hv
     cases v
     ·have hr:=hst.out rfl
      go_wp2_with fail
      go_ret
      exact⟨by rw[hrr.out,hr];rfl,belT hb0.out hbw3⟩
     ·go_wp2_with fail
      go_roundw
      case rel=>exact⟨j+1,by omega,by go_num,bH htk.out,hbw3⟩
      case measure=>simp[intOf];omega
    ·have hj2:j=kids.length:=by omega
     have hal2:=hall.out
     rw[hj2,List.take_length] at hal2
     have hal3:=bH hal2
     clear hal2
     subst hj2
     go_wp2_with fail
     go_ret
     exact⟨by rw[hrr.out,hal3.out];rfl,belT hb0.out hbw⟩
open Go.RowKit
def ndI:Nd:=⟨1,0,0,0,0,⟨#[]⟩,⟨#[]⟩,⟨#[]⟩,⟨#[]⟩,0⟩
theorem ndI_tree:treeV (okNm true) [ndI]=true:=by kernel_rfl
theorem nArg_lit (w:World) (arr:Array Value) (T:TypeId) (g n:Nat) (ts:List Nd) (hg:g=w.heap.size) (hn:n=ts.length) (h:arr.toList=ndL ts):NArg (w.alloc (.cells arr T)) (some ⟨g,0,none⟩) n ts:=by
 subst hg
 refine⟨hn, .inr ⟨_,0,rfl,ndSl_of fun j u hj=> ?_,by simp⟩⟩
 rw[Nat.zero_add,World.cell?_alloc_at _ _ _ _ rfl, ← hj, ← h,Array.getElem?_toList]
theorem areOps_any (a:Option Addr) (n c:Nat) (os:List Or) (w:World) (h:Hid (OArg w a n os)) (hsz:Hid (∀t∈os,OrSz t)) (hl:n≤140737488351232) (hg:Hid (errTy w)) :
  Calls Tryz.prog 34 #[.slice a n c] w fun e w'=>e= .returned (.bool (opsV os))∧Below w.heap.size w w':=by
 have hb:=below_alc w (.cells #[.int .i64 1, .int .i64 0, .int .i64 0, .int .i64 0, .int .i64 0, .string ⟨#[]⟩, .string ⟨#[]⟩, .string ⟨#[]⟩, .string ⟨#[]⟩, .int .i64 0] 45)
 have hN:=nArg_lit w #[.int .i64 1, .int .i64 0, .int .i64 0, .int .i64 0, .int .i64 0, .string ⟨#[]⟩, .string ⟨#[]⟩, .string ⟨#[]⟩, .string ⟨#[]⟩, .int .i64 0] 45 w.heap.size 1 [ndI] rfl rfl rfl
 have kM:=bH (tMay_any a (some ⟨w.heap.size,0,none⟩) n c 1 1 os [ndI] _ (bH (h.out.below hb)) hsz hl (bH hN) (bH (by intro t ht;rw[List.mem_singleton.1 ht];exact⟨by decide,by decide,by decide,by decide⟩)) (by omega) (bH (hg.out.below hb)))
 have hv:=bH (show mayV os [ndI]=opsV os from by unfold mayV;rw[ndI_tree,Bool.and_true])
 have hb:=bH hb
 clear hN
 go_enter Tryz.func34,Tryz.ntmps34
 go_wp2_with fail
 refine kM.out.mono ?_
 rintro e w1 ⟨rfl,hb1⟩
 have hbf:=bH (belT hb.out hb1)
 rw[hv.out]
 clear hb1
 go_wp2_with fail
 go_ret
 exact⟨rfl,hbf.out⟩
def bareB (t:Nd):Bool:=(t.nm.toList==[]) && ((t.x.toList==[]) && ((t.y.toList==[]) && (t.z.toList==[])))
def smayV (os:List Or) (ts:List Nd):Bool:=(opsV os && !dupB (opN os)) && (hasV ts 0 && (ts.all bareB && numsV os.length ts.length ts (ts.length-1) 0))
theorem takeB {ts:List Nd} {j:Nat} (hj:j<ts.length) (h:(ts.take j).all bareB=true):(ts.take (j+1)).all bareB=bareB (ts.getD j nd0):=all_takeK hj h
theorem stopB {ts:List Nd} {j:Nat} (hj:j<ts.length) (h:bareB (ts.getD j nd0)=false):ts.all bareB=false:=all_stopK hj h
theorem sMay_any (a a2:Option Addr) (n c n2 c2:Nat) (os:List Or) (ts:List Nd) (w:World) (h:Hid (OArg w a n os)) (hsz:Hid (∀t∈os,OrSz t)) (hl:n≤140737488351232) (h2:Hid (NArg w a2 n2 ts)) (hsz2:Hid (∀t∈ts,NdSz t)) (hl2:n2≤140737488351232) (hg:Hid (errTy w)) :
  Calls Tryz.prog 21 #[.agg #[.slice a n c, .slice a2 n2 c2]] w fun e w'=>e= .returned (.bool (smayV os ts))∧Below w.heap.size w w':=by
 obtain⟨r,hr⟩ : ∃r,smayV os ts=r:=⟨_,rfl⟩
 rw[hr]
 have hrr:=bH (show r=((opsV os && !dupB (opN os)) && (hasV ts 0 && (ts.all bareB && numsV os.length ts.length ts (ts.length-1) 0))) from hr.symm)
 clear hr
 obtain⟨w0,hw0⟩ : ∃W,w.alloc (.cells #[.slice a n c, .slice a2 n2 c2] 25)=W:=⟨_,rfl⟩
 have hP:Pg w0 w.heap.size a n c a2 n2 c2:=by rw[← hw0];exact pg_lit _ _ _ rfl _ _ _ _ _ _
 have hb0:Below w.heap.size w w0:=by rw[← hw0];exact below_alc _ _
 have hP:=bH hP
 have hb0:=bH hb0
 go_enter Tryz.func21,Tryz.ntmps21
 go_upto_region 1 with fail
 (try rw[hw0])
 clear hw0
 refine wp_region_held_drew (S:=fun W=>W.cell? ⟨w.heap.size,0,none⟩=some (.slice a n c)∧W.cell? ⟨w.heap.size,1,none⟩=some (.slice a2 n2 c2)) (by kernel_rfl) (by have h:=hP.out.below ((Below.refl _ _).drew);exact h.2) (fun hHeld=> ?_)
 have hP:=bH (hP.out.below ((Below.refl _ _).drew))
 have hb0:=bH (belT hb0.out ((Below.refl _ _).drew))
 generalize w0.drew=wd at hP hb0 hHeld ⊢
 refine rg_take 0 (some 7) (v:= ?v1) rfl rfl (by kernel_rfl) (by kernel_rfl) (by kernel_rfl) (fun _ _ _ h=>h) (by rfl) ?hy1 (by assumption) ?_
 case hy1=>intro W hSW;(try dsimp only at hSW);go_simp;(try with_reducible rfl)
 try simp only[Act.put,List.setIfInBounds_toArray,List.set_cons_zero,List.set_cons_succ]
 refine rg_take 1 (some 8) (v:= ?v2) rfl rfl (by kernel_rfl) (by kernel_rfl) (by kernel_rfl) (fun _ _ _ h=>h) (by rfl) ?hy2 (by assumption) ?_
 case hy2=>intro W hSW;(try dsimp only at hSW);go_simp;(try with_reducible rfl)
 try simp only[Act.put,List.setIfInBounds_toArray,List.set_cons_zero,List.set_cons_succ]
 refine rg_one 2 rfl (by kernel_rfl) (by rfl) (fun K hK=> ?_)
 go_simp
 (go_at_call 34;refine(areOps_any a n c os wd (bH (h.out.below hb0.out)) hsz hl (bH (hg.out.below hb0.out))).mono ?_;rintro e w1 ⟨rfl,hb1⟩)
 have hP:=bH (hP.out.below hb1)
 have hb0:=bH (belT hb0.out hb1)
 refine hK.out _ _ hP.out.2 (fun hHeld=> ?_)
 clear hK K hb1
 try simp only[Act.put,List.setIfInBounds_toArray,List.set_cons_zero,List.set_cons_succ]
 cases hops:opsV os
 ·rw[hops] at hrr
  refine rg_take 3 (some 10) (v:= ?v3) rfl rfl (by kernel_rfl) (by kernel_rfl) (by kernel_rfl) (fun _ _ _ h=>h) (by rfl) ?hy3 (by assumption) ?_
  case hy3=>intro W hSW;(try dsimp only at hSW);go_simp;(try with_reducible rfl)
  try simp only[Act.put,List.setIfInBounds_toArray,List.set_cons_zero,List.set_cons_succ]
  refine rg_take 4 (some 11) (v:= ?v4) rfl rfl (by kernel_rfl) (by kernel_rfl) (by kernel_rfl) (fun _ _ _ h=>h) (by rfl) ?hy4 (by assumption) ?_
  case hy4=>intro W hSW;(try dsimp only at hSW);go_simp;(try with_reducible rfl)
  try simp only[Act.put,List.setIfInBounds_toArray,List.set_cons_zero,List.set_cons_succ]
  refine rg_skip 5 (some 12) rfl rfl (by kernel_rfl) (by kernel_rfl) (by kernel_rfl) (fun _ _ _ h=>h) (by rfl) (by assumption) ?_
  try simp only[Act.put,List.setIfInBounds_toArray,List.set_cons_zero,List.set_cons_succ]
  refine rg_skip 6 (some 13) rfl rfl (by kernel_rfl) (by kernel_rfl) (by kernel_rfl) (fun _ _ _ h=>h) (by rfl) (by assumption) ?_
  try simp only[Act.put,List.setIfInBounds_toArray,List.set_cons_zero,List.set_cons_succ]
  refine rg_skip 7 (some 14) rfl rfl (by kernel_rfl) (by kernel_rfl) (by kernel_rfl) (fun _ _ _ h=>h) (by rfl) (by assumption) ?_
  try simp only[Act.put,List.setIfInBounds_toArray,List.set_cons_zero,List.set_cons_succ]
  refine rg_skip 8 (some 15) rfl rfl (by kernel_rfl) (by kernel_rfl) (by kernel_rfl) (fun _ _ _ h=>h) (by rfl) (by assumption) ?_
  try simp only[Act.put,List.setIfInBounds_toArray,List.set_cons_zero,List.set_cons_succ]
  refine rg_skip 9 (some 16) rfl rfl (by kernel_rfl) (by kernel_rfl) (by kernel_rfl) (fun _ _ _ h=>h) (by rfl) (by assumption) ?_
  try simp only[Act.put,List.setIfInBounds_toArray,List.set_cons_zero,List.set_cons_succ]
  refine rg_skip 10 (some 17) rfl rfl (by kernel_rfl) (by kernel_rfl) (by kernel_rfl) (fun _ _ _ h=>h) (by rfl) (by assumption) ?_
  try simp only[Act.put,List.setIfInBounds_toArray,List.set_cons_zero,List.set_cons_succ]
  refine rg_skip 11 (some 18) rfl rfl (by kernel_rfl) (by kernel_rfl) (by kernel_rfl) (fun _ _ _ h=>h) (by rfl) (by assumption) ?_
  try simp only[Act.put,List.setIfInBounds_toArray,List.set_cons_zero,List.set_cons_succ]
  refine rg_skip 12 (some 19) rfl rfl (by kernel_rfl) (by kernel_rfl) (by kernel_rfl) (fun _ _ _ h=>h) (by rfl) (by assumption) ?_
  try simp only[Act.put,List.setIfInBounds_toArray,List.set_cons_zero,List.set_cons_succ]
  refine rg_take 13 (some 20) (v:= ?v5) rfl rfl (by kernel_rfl) (by kernel_rfl) (by kernel_rfl) (fun _ _ _ h=>h) (by rfl) ?hy5 (by assumption) ?_
  case hy5=>intro W hSW;(try dsimp only at hSW);go_simp;(try with_reducible rfl)
  try simp only[Act.put,List.setIfInBounds_toArray,List.set_cons_zero,List.set_cons_succ]
  refine wpAnyH_done (by kernel_rfl) ?_ _
  go_wp2_with fail
  go_ret
  exact⟨by rw[hrr.out];rfl,hb0.out⟩
 ·rw[hops] at hrr
  have hn4:n≤4:=by rw[h.out.1];unfold opsV at hops;simp only[Bool.and_eq_true,decide_eq_true_eq] at hops;exact hops.1
  clear hops
  refine rg_take 3 (some 10) (v:= ?v6) rfl rfl (by kernel_rfl) (by kernel_rfl) (by kernel_rfl) (fun _ _ _ h=>h) (by rfl) ?hy6 (by assumption) ?_
  case hy6=>intro W hSW;(try dsimp only at hSW);go_simp;(try with_reducible rfl)
  try simp only[Act.put,List.setIfInBounds_toArray,List.set_cons_zero,List.set_cons_succ]
  refine rg_take 4 (some 11) (v:= ?v7) rfl rfl (by kernel_rfl) (by kernel_rfl) (by kernel_rfl) (fun _ _ _ h=>h) (by rfl) ?hy7 (by assumption) ?_
  case hy7=>intro W hSW;(try dsimp only at hSW);go_simp;(try with_reducible rfl)
  try simp only[Act.put,List.setIfInBounds_toArray,List.set_cons_zero,List.set_cons_succ]
  refine rg_take 5 (some 12) (v:= ?v8) rfl rfl (by kernel_rfl) (by kernel_rfl) (by kernel_rfl) (fun _ _ _ h=>h) (by rfl) ?hy8 (by assumption) ?_
  case hy8=>intro W hSW;(try dsimp only at hSW);go_simp;(try with_reducible rfl)
  try simp only[Act.put,List.setIfInBounds_toArray,List.set_cons_zero,List.set_cons_succ]
  refine rg_take 6 (some 13) (v:= ?v9) rfl rfl (by kernel_rfl) (by kernel_rfl) (by kernel_rfl) (fun _ _ _ h=>h) (by rfl) ?hy9 (by assumption) ?_
  case hy9=>intro W hSW;(try dsimp only at hSW);go_simp;(try with_reducible rfl)
  try simp only[Act.put,List.setIfInBounds_toArray,List.set_cons_zero,List.set_cons_succ]
  refine rg_take 9 (some 16) (v:= ?v10) rfl rfl (by kernel_rfl) (by kernel_rfl) (by kernel_rfl) (fun _ _ _ h=>h) (by rfl) ?hy10 (by assumption) ?_
  case hy10=>intro W hSW;(try dsimp only at hSW);go_simp;(try with_reducible rfl)
  try simp only[Act.put,List.setIfInBounds_toArray,List.set_cons_zero,List.set_cons_succ]
  refine rg_take 10 (some 17) (v:= ?v11) rfl rfl (by kernel_rfl) (by kernel_rfl) (by kernel_rfl) (fun _ _ _ h=>h) (by rfl) ?hy11 (by assumption) ?_
  case hy11=>intro W hSW;(try dsimp only at hSW);go_simp;(try with_reducible rfl)
  try simp only[Act.put,List.setIfInBounds_toArray,List.set_cons_zero,List.set_cons_succ]
  refine rg_take 11 (some 18) (v:= ?v12) rfl rfl (by kernel_rfl) (by kernel_rfl) (by kernel_rfl) (fun _ _ _ h=>h) (by rfl) ?hy12 (by assumption) ?_
  case hy12=>intro W hSW;(try dsimp only at hSW);go_simp;(try with_reducible rfl)
  try simp only[Act.put,List.setIfInBounds_toArray,List.set_cons_zero,List.set_cons_succ]
  refine rg_one 7 rfl (by kernel_rfl) (by rfl) (fun K hK=> ?_)
  go_simp
  (go_at_call 35;refine(places_any a n c os w1 (bH (h.out.below hb0.out)) hsz (by omega)).mono ?_;rintro e w2 ⟨M,rfl,hM,hMl,hb1⟩)
  have hP:=bH (hP.out.below hb1)
  have hb0:=bH (belT hb0.out hb1)
  refine hK.out _ _ hP.out.2 (fun hHeld=> ?_)
  clear hK K hb1
  try simp only[Act.put,List.setIfInBounds_toArray,List.set_cons_zero,List.set_cons_succ]
  obtain⟨k,hkl,hk1,gk2⟩:=op_len2 hM
  have hol:(opN os).length=n:=by unfold opN;rw[List.length_map,h.out.1]
  rw[hol] at hk1 gk2
  have hk2:=bH gk2
  clear gk2
  have hkl2:=fun ty=>hkl ty w2 rfl
  clear hkl hol hMl hM
  refine rg_one 8 rfl (by kernel_rfl) (by rfl) (fun K hK=> ?_)
  go_simp
  refine hK.out _ _ hP.out.2 (fun hHeld=> ?_)
  clear hK K hkl2
  try simp only[Act.put,List.setIfInBounds_toArray,List.set_cons_zero,List.set_cons_succ]
  cases hdup:dupB (opN os)
  ·have hnd:=dupB_iff.1 hdup
   obtain rfl:k=n:=hk2.out.2 hnd
   rw[hdup] at hrr
   clear hk1 hk2 hnd hdup
   refine rg_take 12 (some 19) (v:= ?v13) rfl rfl (by kernel_rfl) (by kernel_rfl) (by kernel_rfl) (fun _ _ _ h=>h) (by rfl) ?hy13 (by assumption) ?_
   case hy13=>intro W hSW;(try dsimp only at hSW);go_simp;(try with_reducible rfl)
   try simp only[Act.put,List.setIfInBounds_toArray,List.set_cons_zero,List.set_cons_succ]
   refine rg_take 13 (some 20) (v:= ?v14) rfl rfl (by kernel_rfl) (by kernel_rfl) (by kernel_rfl) (fun _ _ _ h=>h) (by rfl) ?hy14 (by assumption) ?_
   case hy14=>intro W hSW;(try dsimp only at hSW);go_simp;(try with_reducible rfl)
   try simp only[Act.put,List.setIfInBounds_toArray,List.set_cons_zero,List.set_cons_succ]
   refine wpAnyH_done (by kernel_rfl) ?_ _
   obtain rfl:n2=ts.length:=h2.out.1
   obtain⟨p0,p1,p2⟩:=hP.out
   go_wp2_with fail
   clear p0 p1 p2
   refine(tDepth_any a2 ts.length c2 ts 0 w2 (bH (h2.out.below hb0.out)) hsz2 hl2 (bH (hg.out.below hb0.out))).mono ?_
   rintro e w3 ⟨rfl,hb1⟩
   have hP:=bH (hP.out.below hb1)
   have hb0:=bH (belT hb0.out hb1)
   clear hb1
   generalize (depV ts 0).1=dd
   cases hh:hasV ts 0
   ·have hd1:(depV ts 0).2=300:=by unfold depV;rw[hh];rfl
    rw[hd1]
    rw[hh] at hrr
    clear hd1 hh
    go_wp2_with fail
    go_ret
    exact⟨by rw[hrr.out];rfl,hb0.out⟩
   ·have hd1:(depV ts 0).2=0:=by unfold depV;rw[hh];rfl
    rw[hd1]
    rw[hh] at hrr
    have hany:anyV ts=true:=by unfold hasV at hh;simp only[Bool.and_eq_true] at hh;exact hh.2
    obtain⟨hz1,hz2,hz3,hz4⟩:=anyV_wf hany
    have hD:=bH (downs_of (by omega) hz3)
    have hz1:ts.length≤512:=hz1
    clear hd1 hh hany hz3 hz4
    rcases h2.out.2 with h0|⟨b,off,rfl,hs,hbl⟩
    ·rw[h0] at hz2;simp at hz2
    have hs:=bH hs
    have hsw:=bH fun (j:Nat) (hj:j<ts.length)=>(show NdSz (ts.getD j nd0) from hsz2.out _ (by rw[List.getD_eq_getElem?_getD,List.getElem?_eq_getElem hj];exact List.getElem_mem hj))
    obtain⟨p0,p1,p2⟩:=hP.out
    go_wp2_with fail
    clear p0 p1 p2
    go_loopw [32] (fun i wr=> ∃j:Nat,j≤ts.length∧i= .int .i64 j∧Hid ((ts.take j).all bareB=true)∧Below w3.heap.size w3 wr) (fun i _=>ts.length-(intOf i).toNat)
    case atStart=>exact⟨0,by omega,rfl,bH (by simp),Below.refl _ _⟩
    case round=>
     obtain⟨j,hj,rfl,hall,hbw⟩:=hrel
     by_cases hlt:j<ts.length
     ·have hN:=(hs.out j hlt).below (belT hb0.out hbw) hbl
      have htk:=bH (takeB hlt hall.out)
      have hst:=bH (stopB (ts:=ts) hlt)
      have hji:(j:Int)<(ts.length:Int):=by omega
      have hj0:(0:Int)≤(j:Int):=by omega
      generalize ts.getD j nd0=t at hN htk hst
      have hbl2:b<wr.heap.size:=by have:=hb0.out.size;have:=hbw.size;omega
      unfold NdAt at hN
      obtain⟨e0,e1,e2,e3,e4,e5,e6,e7,e8,e9⟩:=hN
      obtain⟨w6,hw6⟩ : ∃W,wr.alloc (.cells #[.int .i64 t.k, .int .i64 t.a, .int .i64 t.b, .int .i64 t.c, .int .i64 t.n, .string t.nm, .string t.x, .string t.y, .string t.z, .int .i64 t.p] 45)=W:=⟨_,rfl⟩
      have hX:Nd10 w6 wr.heap.size t:=by rw[← hw6];exact nd10_lit _ _ _ _ _ rfl rfl
      have hbw6:Below w3.heap.size w3 w6:=by rw[← hw6];exact belA _ hbw
      go_upto_region 9 with fail
      (try rw[hw6])
      clear hw6 e0 e1 e2 e3 e4 e5 e6 e7 e8 e9
      obtain⟨xl,x0,x1,x2,x3,x4,x5,x6,x7,x8,x9,_⟩:=hX
      cases b1:(t.nm.toList==[])
      ·go_wp2_with fail
       go_ret
       exact⟨by rw[hrr.out,hst.out (by unfold bareB;rw[b1];rfl)];rfl,belT hb0.out hbw6⟩
      ·cases b2:(t.x.toList==[])
       ·go_wp2_with fail
        go_ret
        exact⟨by rw[hrr.out,hst.out (by unfold bareB;rw[b1,b2];rfl)];rfl,belT hb0.out hbw6⟩
       ·cases b3:(t.y.toList==[])
        ·go_wp2_with fail
         go_ret
         exact⟨by rw[hrr.out,hst.out (by unfold bareB;rw[b1,b2,b3];rfl)];rfl,belT hb0.out hbw6⟩
        ·cases b4:(t.z.toList==[])
         ·go_wp2_with fail
          go_ret
          exact⟨by rw[hrr.out,hst.out (by unfold bareB;rw[b1,b2,b3,b4];rfl)];rfl,belT hb0.out hbw6⟩
         ·go_wp2_with fail
          go_roundw
          case rel=>exact⟨j+1,by omega,by go_num,bH (by rw[htk.out];unfold bareB;rw[b1,b2,b3,b4];rfl),hbw6⟩
          case measure=>simp[intOf];omega
     ·have hj2:j=ts.length:=by omega
      have hal2:=hall.out
      rw[hj2,List.take_length] at hal2
      rw[hal2] at hrr
      clear hal2 hall
      subst hj2
      have hbF:=bH (belT hb0.out hbw)
      have hP3:=hP.out.below hbw
      have kN:=areNums_any k (by omega) ts.length (ts.length-1) 0 ts a (some ⟨b,off,none⟩) c ts.length c2 wr (by omega) (by omega) hz1 hD.out (by omega) (bH (h2.out.below hbF.out))
      rw[show ((0:Nat):Int)=0 from rfl] at kN
      have kN:=bH kN
      have e1:IntKind.i64.wrap ((ts.length:Int)-1)=((ts.length-1:Nat):Int):=by rw[IntWalk.i64_in _ (by omega)];omega
      obtain⟨p0,p1,p2⟩:=hP3
      go_wp2_with fail
      clear p0 p1 p2 e1
      refine kN.out.mono ?_
      rintro e w7 ⟨rfl,hb7⟩
      have hbF:=bH (belT hbF.out hb7)
      have hno:os.length=_:=h.out.1.symm
      rw[hno] at hrr
      generalize numsV _ ts.length ts (ts.length-1) 0=nv at hrr ⊢
      have hrv:r=nv:=by rw[hrr.out];cases nv<;>rfl
      subst hrv
      clear hrr hno
      go_wp2_with fail
      go_ret
      exact⟨rfl,hbF.out⟩
  ·have hnd : ¬ (opN os).Nodup:=fun e=>by rw[dupB_iff.2 e] at hdup;cases hdup
   have hkn : ¬ k=n:=fun e=>hnd (hk2.out.1 e)
   have hkb:((k:Int) != (n:Int))=true:=by rw[bne_iff_ne];omega
   rw[hdup] at hrr
   clear hk1 hk2 hnd hdup hkn
   refine rg_take 12 (some 19) (v:= ?v15) rfl rfl (by kernel_rfl) (by kernel_rfl) (by kernel_rfl) (fun _ _ _ h=>h) (by rfl) ?hy15 (by assumption) ?_
   case hy15=>intro W hSW;(try dsimp only at hSW);go_simp;(try with_reducible rfl)
   try simp only[Act.put,List.setIfInBounds_toArray,List.set_cons_zero,List.set_cons_succ]
   refine rg_take 13 (some 20) (v:= ?v16) rfl rfl (by kernel_rfl) (by kernel_rfl) (by kernel_rfl) (fun _ _ _ h=>h) (by rfl) ?hy16 (by assumption) ?_
   case hy16=>intro W hSW;(try dsimp only at hSW);go_simp;(try with_reducible rfl)
   try simp only[Act.put,List.setIfInBounds_toArray,List.set_cons_zero,List.set_cons_succ]
   refine wpAnyH_done (by kernel_rfl) ?_ _
   go_wp2_with fail
   go_ret
   exact⟨by rw[hrr.out];rfl,hb0.out⟩
end Go.Proofs.YthpcbgljbpmafaaGreatDoor
