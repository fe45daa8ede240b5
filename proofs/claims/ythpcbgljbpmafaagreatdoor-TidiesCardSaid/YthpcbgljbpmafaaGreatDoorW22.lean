/- The program's tidier: choose, known. -/
import Derived.Test.YthpcbgljbpmafaaGreatDoorW9
import Derived.Test.YthpcbgljbpmafaaGreatDoorW15
import Derived.Test.YthpcbgljbpmafaaGreatDoorW16
import Derived.Test.YthpcbgljbpmafaaGreatDoorW18
import Derived.Test.YthpcbgljbpmafaaGreatDoorW20
import Derived.Test.YthpcbgljbpmafaaGreatDoorW21
import Derived.BigRegion
set_option maxRecDepth 100000
set_option maxHeartbeats 8000000
namespace Go.Proofs.YthpcbgljbpmafaaGreatDoor
open Go.RowKit
set_option linter.unusedVariables false
set_option linter.unusedSimpArgs false
theorem own_at {B:Nat} {w:World} {a:Option Addr} {n c:Nat} {m:List Nd} (h:OwnN B w (.slice a n c) m) {p:Nat} (hp:p<m.length) : ∃g,a=some ⟨g,0,none⟩∧B≤g∧g<w.heap.size∧n=m.length∧n≤c∧NdSl w g 0 m:=by
 rcases h.cases with ⟨h1,rfl⟩|⟨g,c',h1,h2,h3,h4,h5,_⟩
 ·simp at hp
 ·injection h1 with h0 h1 h6
  subst h0 h1 h6
  exact⟨g,rfl,h2,h3,rfl,h4,h5⟩
theorem tchoose_any (B G:Nat) (sv:Value) (ts:List Nd) (w:World) (mv:Value) (m R:List Nd) (k b c n:Int) (nm u y z:ByteArray) (at_:Int) (p:Nat) (h:Hid (TdW B G sv ts w mv m)) (hp:p<m.length)
  (ih1:Hid ((m.getD p nd0).n=1→ ∀W mv1,Hid (TdW B G sv ts W mv1 (m.take p))→Calls Tryz.prog 22 #[.pointer (some ⟨G,0,none⟩), .int .i64 b] W (TdN B G sv ts W mv1 R)))
  (ih2:Hid (¬ (m.getD p nd0).n=1→ ∀W mv1,Hid (TdW B G sv ts W mv1 (m.take p))→Calls Tryz.prog 22 #[.pointer (some ⟨G,0,none⟩), .int .i64 c] W (TdN B G sv ts W mv1 R))) :
  Calls Tryz.prog 39 #[.pointer (some ⟨G,0,none⟩), .agg #[.int .i64 k, .int .i64 p, .int .i64 b, .int .i64 c, .int .i64 n, .string nm, .string u, .string y, .string z, .int .i64 at_]] w (TdN B G sv ts w mv R):=by
 obtain⟨a,cp,rfl⟩:=own_sl h.out.own
 obtain⟨g,rfl,hBg,hgs,_,hnc,hT⟩:=own_at h.out.own hp
 have hGl:G<w.heap.size:=by have:=h.out.gB;have:=h.out.bl;omega
 have hml:m.length≤600:=h.out.ml
 obtain⟨_,_,_,_,t4,_,_,_,_,_⟩:=hT p hp
 simp only[Nat.zero_add] at t4
 obtain⟨q,hq⟩ : ∃q,(m.getD p nd0).n=q:=⟨_,rfl⟩
 rw[hq] at t4 ih1 ih2
 clear hT hq
 go_enter Tryz.func39,Tryz.ntmps39
 go_upto_region 1 with fail
 obtain⟨W0,hW0⟩ : ∃W,w.alloc (.cells #[.int .i64 k, .int .i64 p, .int .i64 b, .int .i64 c, .int .i64 n, .string nm, .string u, .string y, .string z, .int .i64 at_] 45)=W:=⟨_,rfl⟩
 obtain⟨⟨y0,y1,y2,y3,y4,y5,y6,y7,y8,y9⟩,hb0,hs0⟩:=nd_box w W0 ⟨k,p,b,c,n,nm,u,y,z,at_⟩ hW0
 simp only at y0 y1 y2 y3 y4 y5 y6 y7 y8 y9
 rw[hW0]
 clear hW0
 have h2:=bH (h.out.below hb0)
 have hn:=h2.out.cm
 have hfr:=h2.out.fg 1
 have hGW:G<W0.heap.size:=by omega
 have hgW:g<W0.heap.size:=by omega
 have t4':W0.cell? ⟨g,p*10+4,none⟩=some (.int .i64 q):=carry hb0 hgs t4
 have hp1:(p:Int)<(m.length:Int):=by omega
 have hp0:(0:Int)≤(p:Int):=by omega
 have hpc:p≤cp:=by omega
 have hM:Hid (∀Wd,Below (W0.setCell ⟨G,1,none⟩ (.slice (some ⟨g,0,none⟩) p cp)).heap.size (W0.setCell ⟨G,1,none⟩ (.slice (some ⟨g,0,none⟩) p cp)) Wd→TdW B G sv ts Wd (.slice (some ⟨g,0,none⟩) p cp) (m.take p)∧Stp G w (.slice (some ⟨g,0,none⟩) m.length cp) Wd (.slice (some ⟨g,0,none⟩) p cp)):=bH fun Wd hd=>by
  have k1:=TdW.setM h2.out (Bar.refl _ _) (h2.out.own.take p (by omega)) (fun g hg=> .inl hg) (by rw[List.length_take];have:=h2.out.ml;omega)
  exact⟨k1.1.below hd,((Stp.below hb0).trans k1.2).next hd⟩
 clear t4 h hml
 go_region
 go_upto_region 2 with fail
 go_region
 by_cases hq:q=1
 ·subst hq
  go_wp2_with fail
  refine(ih1.out (by first|rfl|trivial) _ _ (bH (hM.out _ ((Below.refl _ _).drew.drew)).1)).mono ?_
  rintro e w2 ⟨rfl,mv',k1,k2⟩
  have k1:=bH k1
  have k3:=bH (((hM.out _ ((Below.refl _ _).drew.drew)).2).trans k2)
  go_wp2_with fail
  go_ret
  exact⟨rfl,mv',k1.out,k3.out⟩
 ·go_wp2_with fail
  refine(ih2.out hq _ _ (bH (hM.out _ ((Below.refl _ _).drew.drew)).1)).mono ?_
  rintro e w2 ⟨rfl,mv',k1,k2⟩
  have k1:=bH k1
  have k3:=bH (((hM.out _ ((Below.refl _ _).drew.drew)).2).trans k2)
  go_wp2_with fail
  go_ret
  exact⟨rfl,mv',k1.out,k3.out⟩
open Go.RowKit
def r17V (k n:Int):Value:= .agg #[.int .i64 k, .int .i64 n, .int .i64 0, .pointer none, .slice none 0 0, .pointer none, .pointer none]
def rprV (o:Int × Int):Value:=if o.1=3 then .tuple #[r17V 0 0, .int .i64 o.2] else .tuple #[r17V o.1 o.2, .int .i64 (-1)]
theorem rtruth_any (b:Bool) (w:World) :
  Calls Tryz.prog 87 #[.bool b] w fun e w'=>e= .returned (r17V 1 (if b then 1 else 0))∧Below w.heap.size w w':=by
 cases b
 ·go_enter Tryz.func87,Tryz.ntmps87
  go_wp2_with fail
  refine bodyPost_ret (v:=r17V 1 0) (by simp[results,Tryz.results87,go_sem,r17V]) rfl ⟨rfl,bZ⟩
 ·go_enter Tryz.func87,Tryz.ntmps87
  go_wp2_with fail
  refine bodyPost_ret (v:=r17V 1 1) (by simp[results,Tryz.results87,go_sem,r17V]) rfl ⟨rfl,bZ⟩
theorem bx7 {w w9:World} {a b c d e f g:Value} {T:TypeId} (hb:Below (w.alloc (.cells #[a,b,c,d,e,f,g] T)).heap.size (w.alloc (.cells #[a,b,c,d,e,f,g] T)) w9) :
  (w9.cell? ⟨w.heap.size,0,none⟩=some a∧w9.cell? ⟨w.heap.size,1,none⟩=some b∧w9.cell? ⟨w.heap.size,2,none⟩=some c∧w9.cell? ⟨w.heap.size,3,none⟩=some d∧w9.cell? ⟨w.heap.size,4,none⟩=some e∧w9.cell? ⟨w.heap.size,5,none⟩=some f∧w9.cell? ⟨w.heap.size,6,none⟩=some g)∧(∀o,w9.frozen? ⟨w.heap.size,o,none⟩=false)∧Below w.heap.size w w9∧w.heap.size<w9.heap.size:=by
 have hB:=Bar.of_below (S:=fun _=>False) hb
 have hsz:=hb.size
 simp at hsz
 refine⟨⟨hB.cell (by simp[go_sem]) id,hB.cell (by simp[go_sem]) id,hB.cell (by simp[go_sem]) id,hB.cell (by simp[go_sem]) id,hB.cell (by simp[go_sem]) id,hB.cell (by simp[go_sem]) id,hB.cell (by simp[go_sem]) id⟩,fun o=> ?_,belT (below_alc w _) hb,by omega⟩
 rw[hB.frozen (a:=⟨w.heap.size,o,none⟩) (by simp) id]
 simp[go_sem]
theorem rprim_any (p u v:Int) (w:World) (hp:0≤p∧p≤5) (hu:0≤u∧u≤1073741823) (hv:0≤v∧v≤1073741823) :
  Calls Tryz.prog 66 #[.int .i64 p, .int .i64 u, .int .i64 v] w fun e w'=>e= .returned (rprV (prmV p u v))∧Below w.heap.size w w':=by
 have hm:0≤u*v∧u*v≤1152921504606846976:=⟨Int.mul_nonneg hu.1 hv.1,Int.le_trans (Int.mul_le_mul hu.2 hv.2 hv.1 (by omega)) (by decide)⟩
 have hd:v≠0→0≤u.tdiv v∧u.tdiv v≤1073741823:=fun _=>⟨Int.tdiv_nonneg hu.1 hv.1,Int.le_trans (Int.tdiv_le_self v hu.1) hu.2⟩
 have kT:=fun (b:Bool) (W:World)=>bH (rtruth_any b W)
 have w1:IntKind.i64.wrap (u+v)=u+v:=IntWalk.i64_in _ (by omega)
 have w2:IntKind.i64.wrap (u-v)=u-v:=IntWalk.i64_in _ (by omega)
 have w3:IntKind.i64.wrap (u*v)=u*v:=IntWalk.i64_in _ (by omega)
 have hc:p=0∨p=1∨p=2∨p=3∨p=4∨p=5:=by omega
 rcases hc with rfl|rfl|rfl|rfl|rfl|rfl
 ·obtain⟨X,hX⟩ : ∃X,u+v=X:=⟨_,rfl⟩
  have hV:prmV 0 u v=numO X:=by rw[← hX];rfl
  rw[hV]
  rw[hX] at w1 
  by_cases hA:1073741823<X
  ·have e:rprV (numO X)= .tuple #[r17V 0 0, .int .i64 0]:=by unfold numO;rw[if_pos (.inr hA)];rfl
   rw[e]
   go_enter Tryz.func66,Tryz.ntmps66
   go_wp2_with fail
   refine bodyPost_ret (v:= .tuple #[r17V 0 0, .int .i64 0]) (by simp[results,Tryz.results66,go_sem,r17V]) rfl ⟨rfl,bZ⟩
  ·by_cases hB:X < -1073741824
   ·exfalso;omega
   ·have e:rprV (numO X)= .tuple #[r17V 0 X, .int .i64 (-1)]:=by unfold numO;rw[if_neg (by omega)];rfl
    rw[e]
    go_enter Tryz.func66,Tryz.ntmps66
    go_wp2_with fail
    refine bodyPost_ret (v:= .tuple #[r17V 0 X, .int .i64 (-1)]) (by simp[results,Tryz.results66,go_sem,r17V]) rfl ⟨rfl,bZ⟩
 ·obtain⟨X,hX⟩ : ∃X,u-v=X:=⟨_,rfl⟩
  have hV:prmV 1 u v=numO X:=by rw[← hX];rfl
  rw[hV]
  rw[hX] at w2 
  by_cases hA:1073741823<X
  ·exfalso;omega
  ·by_cases hB:X < -1073741824
   ·exfalso;omega
   ·have e:rprV (numO X)= .tuple #[r17V 0 X, .int .i64 (-1)]:=by unfold numO;rw[if_neg (by omega)];rfl
    rw[e]
    go_enter Tryz.func66,Tryz.ntmps66
    go_wp2_with fail
    refine bodyPost_ret (v:= .tuple #[r17V 0 X, .int .i64 (-1)]) (by simp[results,Tryz.results66,go_sem,r17V]) rfl ⟨rfl,bZ⟩
 ·obtain⟨X,hX⟩ : ∃X,u*v=X:=⟨_,rfl⟩
  have hV:prmV 2 u v=numO X:=by rw[← hX];rfl
  rw[hV]
  rw[hX] at w3 hm
  by_cases hA:1073741823<X
  ·have e:rprV (numO X)= .tuple #[r17V 0 0, .int .i64 0]:=by unfold numO;rw[if_pos (.inr hA)];rfl
   rw[e]
   go_enter Tryz.func66,Tryz.ntmps66
   go_wp2_with fail
   refine bodyPost_ret (v:= .tuple #[r17V 0 0, .int .i64 0]) (by simp[results,Tryz.results66,go_sem,r17V]) rfl ⟨rfl,bZ⟩
  ·by_cases hB:X < -1073741824
   ·exfalso;omega
   ·have e:rprV (numO X)= .tuple #[r17V 0 X, .int .i64 (-1)]:=by unfold numO;rw[if_neg (by omega)];rfl
    rw[e]
    go_enter Tryz.func66,Tryz.ntmps66
    go_wp2_with fail
    refine bodyPost_ret (v:= .tuple #[r17V 0 X, .int .i64 (-1)]) (by simp[results,Tryz.results66,go_sem,r17V]) rfl ⟨rfl,bZ⟩
 ·by_cases hz:v=0
  ·subst hz
   go_enter Tryz.func66,Tryz.ntmps66
   go_wp2_with fail
   refine bodyPost_ret (v:= .tuple #[r17V 0 0, .int .i64 1]) (by simp[results,Tryz.results66,go_sem,r17V]) rfl ⟨rfl,bZ⟩
  ·have hd:=hd hz
   have w4:IntKind.i64.wrap (u.tdiv v)=u.tdiv v:=IntWalk.i64_in _ (by omega)
   obtain⟨X,hX⟩ : ∃X,u.tdiv v=X:=⟨_,rfl⟩
   have hV:prmV 3 u v=numO X:=by rw[← hX];exact if_neg hz
   rw[hV]
   rw[hX] at w4 hd
   by_cases hA:1073741823<X
   ·exfalso;omega
   ·by_cases hB:X < -1073741824
    ·exfalso;omega
    ·have e:rprV (numO X)= .tuple #[r17V 0 X, .int .i64 (-1)]:=by unfold numO;rw[if_neg (by omega)];rfl
     rw[e]
     go_enter Tryz.func66,Tryz.ntmps66
     go_wp2_with fail
     refine bodyPost_ret (v:= .tuple #[r17V 0 X, .int .i64 (-1)]) (by simp[results,Tryz.results66,go_sem,r17V]) rfl ⟨rfl,bZ⟩
 ·obtain⟨o,ho⟩ : ∃o:Int,(if decide (u=v) then 1 else 0)=o:=⟨_,rfl⟩
  have e:rprV (prmV 4 u v)= .tuple #[r17V 1 o, .int .i64 (-1)]:=by
   show rprV (truO (decide (u=v)))=_
   rw[← ho]
   unfold truO
   split<;>rfl
  rw[e]
  go_enter Tryz.func66,Tryz.ntmps66
  go_wp2_with fail
  refine(kT (decide (u=v)) _).out.mono ?_
  rintro e w9 ⟨he,hb⟩
  obtain⟨⟨x0,x1,x2,x3,x4,x5,x6⟩,xf,hb5,xl⟩:=bx7 hb
  rw[ho] at he
  have e9:r17V 1 o= .agg #[.int .i64 1, .int .i64 o, .int .i64 0, .pointer none, .slice none 0 0, .pointer none, .pointer none]:=rfl
  rw[e9] at he
  subst he
  clear hb
  go_wp2_with fail
  refine bodyPost_ret (v:= .tuple #[r17V 1 o, .int .i64 (-1)]) (by simp[results,Tryz.results66,go_sem,r17V,x0,x1,x2,x3,x4,x5,x6,xf,xl]) rfl ⟨rfl,bZ⟩
 ·obtain⟨o,ho⟩ : ∃o:Int,(if decide (u<v) then 1 else 0)=o:=⟨_,rfl⟩
  have e:rprV (prmV 5 u v)= .tuple #[r17V 1 o, .int .i64 (-1)]:=by
   show rprV (truO (decide (u<v)))=_
   rw[← ho]
   unfold truO
   split<;>rfl
  rw[e]
  go_enter Tryz.func66,Tryz.ntmps66
  go_wp2_with fail
  refine(kT (decide (u<v)) _).out.mono ?_
  rintro e w9 ⟨he,hb⟩
  obtain⟨⟨x0,x1,x2,x3,x4,x5,x6⟩,xf,hb5,xl⟩:=bx7 hb
  rw[ho] at he
  have e9:r17V 1 o= .agg #[.int .i64 1, .int .i64 o, .int .i64 0, .pointer none, .slice none 0 0, .pointer none, .pointer none]:=rfl
  rw[e9] at he
  subst he
  clear hb
  go_wp2_with fail
  refine bodyPost_ret (v:= .tuple #[r17V 1 o, .int .i64 (-1)]) (by simp[results,Tryz.results66,go_sem,r17V,x0,x1,x2,x3,x4,x5,x6,xf,xl]) rfl ⟨rfl,bZ⟩
open Go.RowKit
theorem cloneO_none (n c:Nat) (w:World) (hn:n=0) :
  Calls Tryz.prog 23 #[.slice none n c] w fun e w'=> ∃v,e= .returned v∧OwnO w.heap.size w' v []∧Below w.heap.size w w':=by
 subst hn
 have heq : ∀W:World,(binOp .eql 22 (.slice none 0 c) (.slice none 0 0)).run Tryz.prog W= .ok (.bool true) W:=fun _=>by kernel_rfl
 go_enter Tryz.func23,Tryz.ntmps23
 go_wp2_with fail
 go_ret
 exact⟨_,rfl,OwnO.nil _ _,Below.refl _ _⟩
theorem cloneO_some (ad:Addr) (n c:Nat) (l:List Or) (w:World) (hn:n=l.length) (h:Hid (∀j u,(orL l)[j]? = some u→(w.alloc (.cells #[] 54)).cell? (ad.add j)=some u)) (hl:l.length*32≤140737488351232) :
  Calls Tryz.prog 23 #[.slice (some ad) n c] w fun e w'=> ∃v,e= .returned v∧OwnO w.heap.size w' v l∧Below w.heap.size w w':=by
 subst hn
 obtain⟨i0,hi,hz0,hz1,hz2⟩:=info_parts infoOr
 have hown0:=bH (OwnO.fresh w)
 have heq : ∀W:World,(binOp .eql 22 (.slice (some ad) l.length c) (.slice none 0 0)).run Tryz.prog W= .ok (.bool false) W:=fun _=>by kernel_rfl
 go_enter Tryz.func23,Tryz.ntmps23
 go_wp2_with (at_builtin;refine wpList_append_own _ rfl (.tmp 5) (.tmp 6) 22 rfl w.heap.size 54 i0 (.agg #[.string ByteArray.empty, .int .i64 0, .int .i64 0]) 3 32 Tryz.underlying22 hi hz0 hz1 hz2 rfl (by decide) _ 0 [] rfl hown0.out ad l.length c (orL l) rfl (orL_len l) h.out (orL_one l) (by unfold maxLen;omega) (by omega) (by simp) ?_)
 intro v' w1 hown1 hgr _
 have hbel:Below w.heap.size w w1:=((Below.refl _ _).alloc (Nat.le_refl _) _).grown hgr (by simp) (by intro k hk;simp[Value.ownBlock] at hk;omega)
 (try rw[Nat.zero_add,List.nil_append] at hown1)
 have hown1':=bH hown1;clear hown1 hgr
 go_wp2_with fail
 go_ret
 exact⟨v',rfl,hown1'.out,hbel⟩
theorem cloneO_any (a:Option Addr) (n c:Nat) (l:List Or) (w:World) (h:Hid (OArg w a n l)) (hl:n*32≤140737488351232) :
  Calls Tryz.prog 23 #[.slice a n c] w fun e w'=> ∃v,e= .returned v∧OwnO w.heap.size w' v l∧Below w.heap.size w w':=by
 obtain⟨hn,h1⟩:=h.out
 by_cases h0:l=[]
 ·subst h0
  cases a with
  | none=>exact cloneO_none n c w hn
  | some ad=>exact cloneO_some ad n c [] w hn (bH (by intro j u hj;simp[orL] at hj)) (by simp)
 ·obtain⟨b,off,rfl,hs,hb⟩:=Or.resolve_left h1 h0
  refine cloneO_some _ n c l w hn (bH fun j u hj=> ?_) (by omega)
  have e:(⟨b,off,none⟩:Addr).add j=⟨b,off+j,none⟩:=by simp[Addr.add];try omega
  rw[e,World.cell?_alloc_past _ _ _ hb]
  exact orSl_get hs j u hj
def opN (os:List Or):List ByteArray:=os.map (·.nm)
theorem opN_take {os:List Or} {j:Nat} (h:j<os.length):opN (os.take (j+1))=opN (os.take j)++[(os.getD j or0).nm]:=by
 unfold opN
 rw[List.take_succ_eq_append_getElem h,List.map_append,List.getD_eq_getElem?_getD,List.getElem?_eq_getElem h];rfl
def PlPost (os:List Or) (w:World) (e:Ending) (w':World):Prop:= ∃M,e= .returned (.map (some M))∧OpMap w' M (opN os)∧w.heap.size≤M∧Below w.heap.size w w'
theorem places_any (a:Option Addr) (n c:Nat) (os:List Or) (w:World) (h:Hid (OArg w a n os)) (hsz:Hid (∀t∈os,OrSz t)) (hl:n≤1000000) :
  Calls Tryz.prog 35 #[.slice a n c] w (PlPost os w):=by
 have hmm:= @run_makeMap Tryz.prog
 obtain rfl:n=os.length:=h.out.1
 have hM0:=bH (opMap_made w)
 have hB0:=bH (below_alc w (.map #[] 0))
 have hlt0:w.heap.size<(w.alloc (.map #[] 0)).heap.size:=by simp
 go_enter Tryz.func35,Tryz.ntmps35
 go_wp2_with fail
 generalize w.alloc (.map #[] 0)=w0 at hM0 hB0 hlt0 ⊢
 go_loopw [9] (fun i wr=> ∃j:Nat,j≤os.length∧i= .int .i64 j∧Hid (OpMap wr w.heap.size (opN (os.take j)))∧Below w.heap.size w wr) (fun i _=>os.length-(intOf i).toNat)
 case atStart=>exact⟨0,by omega,rfl,hM0,hB0.out⟩
 case round=>
  obtain⟨j,hj,rfl,hM,hbw⟩:=hrel
  by_cases hlt:j<os.length
  ·rcases h.out.2 with h1|⟨b,off,rfl,hs,hb⟩
   ·rw[h1] at hlt;simp at hlt
   have hO:=(hs j hlt).below hbw hb
   have hnx:=bH (opN_take hlt)
   have hz:(os.getD j or0).nm.size≤1125899906842624:=hsz.out _ (getO_mem hlt)
   have hlj:(opN (os.take j)).length=j:=by unfold opN;rw[List.length_map,List.length_take];omega
   generalize os.getD j or0=t at hO hnx hz
   clear hs
   obtain⟨e0,e1,e2⟩:=hO
   obtain⟨wu,hup,hMu,hBu⟩:=op_put (hM.out.below (below_alc wr (.cells #[.string t.nm, .int .i64 t.f, .int .i64 t.t] 54))) t.nm hz (by omega)
   rw[hlj] at hup
   have hMu:=bH hMu
   have hbu:Below w.heap.size w wu:=⟨by rw[hBu.os];exact hbw.os,by rw[hBu.tape];exact hbw.tape,by rw[hBu.output];exact hbw.output,by have:=hBu.size;have:=hbw.size;simp at *;omega,fun k hk=>by
    rw[hBu.block k (by have:=hbw.size;simp;omega) (fun e=>by have e:k=w.heap.size:=e;omega),Below.heap_alloc wr _ k (by have:=hbw.size;omega)];exact hbw.block k hk⟩
   clear hBu hlj
   have hji:(j:Int)<(os.length:Int):=by omega
   have hj0:(0:Int)≤(j:Int):=by omega
   go_wp2_with fail
   go_roundw
   case rel=>exact⟨j+1,by omega,by go_num,bH (by rw[hnx.out];exact hMu.out),hbu⟩
   case measure=>simp[intOf];omega
  ·obtain rfl:j=os.length:=by omega
   have hM:=hM.out
   rw[List.take_length] at hM
   go_wp2_with fail
   go_ret
   exact⟨_,rfl,hM,Nat.le_refl _,hbw⟩
open Go.RowKit
def dupB:List ByteArray→Bool
 | []=>false
 | x :: l=>inS l x || dupB l
theorem dupB_iff : ∀ {l:List ByteArray},dupB l=false↔l.Nodup
 | []=>by simp[dupB]
 | x :: l=>by
  unfold dupB
  rw[Bool.or_eq_false_iff,inS_no,List.nodup_cons,dupB_iff]
def resV (os:List Or) (ts:List Nd):Except (Int × Int) (List Nd):=
 if mayV os ts then (if dupB (opN os) then .error (602,0) else resS (opN os) ts.length ts (ts.length-1) []) else .error (600,0)
theorem mayV_tree {os:List Or} {ts:List Nd} (h:mayV os ts=true):1≤ts.length∧ts.length≤512∧os.length≤4∧bg (ksN ts) (ts.length-1)=0:=by
 unfold mayV opsV treeV at h
 simp only[Bool.and_eq_true,decide_eq_true_eq] at h
 exact⟨h.2.1.1.1,h.2.1.1.2,h.1.1,h.2.2⟩
theorem kidsS_kids (t:Nd):(kidsS t).map (·.1)=kidsL t.k t.a t.b t.c:=by
 unfold kidsS kidsL
 have hc:t.k=3∨t.k=4∨t.k=8∨t.k=5∨t.k=6∨t.k=7∨t.k=9∨t.k=10∨(t.k≠3∧t.k≠4∧t.k≠8∧t.k≠5∧t.k≠6∧t.k≠7∧t.k≠9∧t.k≠10):=by omega
 rcases hc with h|h|h|h|h|h|h|h|⟨h1,h2,h3,h4,h5,h6,h7,h8⟩
 all_goals first|(simp[h];done)|(simp[h1,h2,h3,h4,h5,h6,h7,h8])
theorem downs_of {ts:List Nd} (h:1≤ts.length) (hb:bg (ksN ts) (ts.length-1)=0):Downs ts:=by
 intro i hi c hc
 have hm:c.1∈ksN ts i:=by
  show c.1∈kidsL _ _ _ _
  rw[← kidsS_kids];exact List.mem_map.2 ⟨c,hc,rfl⟩
 have:=kid_ok (ksN ts) i (bg_all hb i (by omega)) c.1 hm
 exact⟨this.1,this.2.1⟩
theorem op_len2 {w:World} {bm:Nat} {l:List ByteArray} (h:OpMap w bm l) : ∃n:Nat,(∀ty W,W=w→(Builtin.len_ #[66] ty #[.map (some bm)]).run Tryz.prog W= .ok (.int .i64 n) W)∧n≤l.length∧(n=l.length↔l.Nodup):=by
 obtain⟨D,h1,h2,h2',h3⟩:=h
 exact⟨_,fun ty W e=>by subst e;exact h1.len Tryz.underlying66 ty,h2,h2'⟩
def ResPost (os:List Or) (r:Except (Int × Int) (List Nd)) (w:World) (e:Ending) (w':World):Prop:=
 ∃ao no co an nn cn at_ code,e= .returned (.tuple #[.agg #[.slice ao no co, .slice an nn cn], .int .i64 at_, .int .i64 code])∧Below w.heap.size w w'∧
  match r with
  | .ok ss=>at_=0∧code=0∧OwnO w.heap.size w' (.slice ao no co) os∧ ∃N,an=some ⟨N,0,none⟩∧nn=ss.length∧w.heap.size≤N∧N<w'.heap.size∧NdSl w' N 0 ss∧ ∀o,w'.frozen? ⟨N,o,none⟩=false
  | .error e=>at_=e.2∧code=e.1∧ao=none∧no=0∧co=0∧an=none∧nn=0∧cn=0
end Go.Proofs.YthpcbgljbpmafaaGreatDoor
