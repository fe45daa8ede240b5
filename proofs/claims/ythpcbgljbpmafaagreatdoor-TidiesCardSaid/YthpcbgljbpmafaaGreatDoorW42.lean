/- The reference's ScopeMay. -/
import Derived.Test.YthpcbgljbpmafaaGreatDoorW12
import Derived.Test.YthpcbgljbpmafaaGreatDoorW13
import Derived.Test.YthpcbgljbpmafaaGreatDoorW15
import Derived.Test.YthpcbgljbpmafaaGreatDoorW18
import Derived.Test.YthpcbgljbpmafaaGreatDoorW30
import Derived.Test.YthpcbgljbpmafaaGreatDoorW34
import Derived.Test.YthpcbgljbpmafaaGreatDoorW41
import Derived.BigQuiet
import Derived.Deep.Slices
import Derived.OneCell
set_option maxRecDepth 100000
set_option maxHeartbeats 8000000
namespace Go.Proofs.YthpcbgljbpmafaaGreatDoor
open Go.RowKit
set_option linter.unusedVariables false
set_option linter.unusedSimpArgs false
theorem rwithin_any (a a2:Option Addr) (no c n2 c2:Nat) (ts:List Nd) (hk : ∀i,i<ts.length→0≤(ts.getD i nd0).k∧(ts.getD i nd0).k≤10) : ∀f,WiSpec a a2 no c n2 c2 ts f:=by
 intro f
 induction f with
 | zero=>intro at_ bound w h;omega
 | succ f ih=>
  intro at_ bound w hf hat hsl hD hbd hno hN
  have hkk:=hk at_ hat
  have hc:(ts.getD at_ nd0).k=0∨((ts.getD at_ nd0).k=1∨(ts.getD at_ nd0).k=2)∨(ts.getD at_ nd0).k=3∨(ts.getD at_ nd0).k=4∨(ts.getD at_ nd0).k=5∨(ts.getD at_ nd0).k=6∨(ts.getD at_ nd0).k=7∨(ts.getD at_ nd0).k=8∨(ts.getD at_ nd0).k=9∨(ts.getD at_ nd0).k=10:=by omega
  rcases hc with h|h|h|h|h|h|h|h|h|h
  ·exact wi_0 a a2 no c n2 c2 ts f ih at_ bound w hf hat hsl hD hbd hno hN h
  ·exact wi_1 a a2 no c n2 c2 ts f ih at_ bound w hf hat hsl hD hbd hno hN h
  ·exact wi_3 a a2 no c n2 c2 ts f ih at_ bound w hf hat hsl hD hbd hno hN h
  ·exact wi_4 a a2 no c n2 c2 ts f ih at_ bound w hf hat hsl hD hbd hno hN h
  ·exact wi_5 a a2 no c n2 c2 ts f ih at_ bound w hf hat hsl hD hbd hno hN h
  ·exact wi_6 a a2 no c n2 c2 ts f ih at_ bound w hf hat hsl hD hbd hno hN h
  ·exact wi_7 a a2 no c n2 c2 ts f ih at_ bound w hf hat hsl hD hbd hno hN h
  ·exact wi_8 a a2 no c n2 c2 ts f ih at_ bound w hf hat hsl hD hbd hno hN h
  ·exact wi_9 a a2 no c n2 c2 ts f ih at_ bound w hf hat hsl hD hbd hno hN h
  ·exact wi_10 a a2 no c n2 c2 ts f ih at_ bound w hf hat hsl hD hbd hno hN h
theorem ok_kindR {b:Bool} {t:Nd} (h:okNd (okNm b) t=true):0≤t.k∧t.k≤10:=by
 unfold okNd plainB at h
 simp only[Bool.and_eq_true] at h
 have h1:=h.1.1.1.1
 clear h
 by_cases k0:t.k=0; · omega
 rw[if_neg k0] at h1
 by_cases k1:t.k=1∨t.k=2; · omega
 rw[if_neg k1] at h1
 by_cases k3:t.k=3; · omega
 rw[if_neg k3] at h1
 by_cases k4:t.k=4; · omega
 rw[if_neg k4] at h1
 by_cases k5:t.k=5; · omega
 rw[if_neg k5] at h1
 by_cases k6:t.k=6; · omega
 rw[if_neg k6] at h1
 by_cases k7:t.k=7; · omega
 rw[if_neg k7] at h1
 by_cases k8:t.k=8; · omega
 rw[if_neg k8] at h1
 by_cases k9:t.k=9; · omega
 rw[if_neg k9] at h1
 have:=of_decide_eq_true h1;omega
theorem rScopeMay_any (a a2:Option Addr) (n c n2 c2:Nat) (os:List Or) (ts:List Nd) (w:World) (h:Hid (OArg w a n os)) (hsz:Hid (∀t∈os,OrSz t)) (hl:n≤140737488351232) (h2:Hid (NArg w a2 n2 ts)) (hsz2:Hid (∀t∈ts,NdSz t)) (hl2:n2≤140737488351232) :
  Calls Tryz.prog 24 #[.agg #[.slice a n c, .slice a2 n2 c2]] w fun e w'=>e= .returned (.bool (smayV os ts))∧Below w.heap.size w w':=by
 obtain rfl:n=os.length:=h.out.1
 obtain rfl:n2=ts.length:=h2.out.1
 obtain⟨w0,hw0⟩ : ∃W,w.alloc (.cells #[.slice a os.length c, .slice a2 ts.length c2] 25)=W:=⟨_,rfl⟩
 have hP:Hid (Pg w0 w.heap.size a os.length c a2 ts.length c2):=bH (by rw[← hw0];exact pg_lit _ _ _ rfl _ _ _ _ _ _)
 have hB:Hid (Below w.heap.size w w0):=bH (by rw[← hw0];exact below_alc _ _)
 obtain⟨S,hS⟩ : ∃q,smayV os ts=q:=⟨_,rfl⟩
 have hS':=bH ((smay_r os ts).symm.trans hS)
 rw[hS]
 clear hS
 go_enter Tryz.func24,Tryz.ntmps24
 go_upto_region 1 with fail
 (try rw[hw0])
 clear hw0
 have kO:=bH (opsMay_any a os.length c os w0 (bH (h.out.below hB.out)) hsz hl)
 obtain⟨b1,hb1⟩ : ∃q,opsV os=q:=⟨_,rfl⟩
 rw[hb1] at kO
 have hb1:=bH hb1
 obtain⟨p0,p1,p2⟩:=hP.out
 go_wp2_with fail
 clear p0 p1 p2
 refine kO.out.mono ?_
 rintro e w1 ⟨rfl,hb⟩
 have hP:=bH (hP.out.below hb)
 have hB:=bH (belT hB.out hb)
 clear hb kO
 cases b1
 ·have hf:Hid (S=false):=bH (by rw[← hS'.out,hb1.out];rfl)
  go_wp2_with fail
  go_ret
  exact⟨ret_bb hf.out.symm,hB.out⟩
 have kT:=bH (shaped_any false a2 ts.length c2 ts w1 (bH (h2.out.below hB.out)) hsz2 hl2)
 obtain⟨b2,hb2⟩ : ∃q,treeV (okNm false) ts=q:=⟨_,rfl⟩
 rw[hb2] at kT
 have hb2:=bH hb2
 obtain⟨p0,p1,p2⟩:=hP.out
 go_wp2_with fail
 clear p0 p1 p2
 refine kT.out.mono ?_
 rintro e w2 ⟨rfl,hb⟩
 have hP:=bH (hP.out.below hb)
 have hB:=bH (belT hB.out hb)
 clear hb kT
 cases b2
 ·have hf:Hid (S=false):=bH (by rw[← hS'.out,hb1.out,hb2.out];rfl)
  go_wp2_with fail
  go_ret
  exact⟨ret_bb hf.out.symm,hB.out⟩
 have hS2:Hid ((!dupB (opN os) && numsV os.length ts.length ts (ts.length-1) 0)=S):=bH (by rw[← hS'.out,hb1.out,hb2.out,Bool.true_and,Bool.true_and])
 have ho4:os.length≤4:=by
  have:=hb1.out;unfold opsV at this;simp only[Bool.and_eq_true,decide_eq_true_eq] at this;exact this.1
 have htr:Hid (treeV (okNm false) ts=true):=hb2
 clear hb1 hb2 hS'
 go_wp2_with fail
 go_loopw [3] (fun iv wr=> ∃i:Nat,i≤os.length∧iv= .int .i64 i∧Hid (Pg wr w.heap.size a os.length c a2 ts.length c2)∧Hid (Below w.heap.size w wr)∧Hid (Uniq os i)) (fun iv _=>os.length-(intOf iv).toNat)
 case atStart=>exact⟨0,by omega,rfl,hP,hB,bH fun x hx=>by omega⟩
 case round=>
  rename World=>wi
  obtain⟨i,hi,rfl,hP,hB,hU⟩:=hrel
  by_cases hlt:i<os.length
  ·have hii:(i:Int)<(os.length:Int):=by omega
   have hi0:(0:Int)≤(i:Int):=by omega
   obtain⟨p0,p1,p2⟩:=hP.out
   go_wp2_with fail
   clear p0 p1 p2
   go_loopw [4] (fun jv wr=> ∃j:Nat,j≤i∧jv= .int .i64 j∧Hid (Pg wr w.heap.size a os.length c a2 ts.length c2)∧Hid (Below w.heap.size w wr)∧Hid (∀y,y<j→eqS (os.getD i or0).nm (os.getD y or0).nm=false)) (fun jv _=>i-(intOf jv).toNat)
   case atStart=>exact⟨0,by omega,rfl,hP,hB,bH fun x hx=>by omega⟩
   case round=>
    obtain⟨j,hj,rfl,hP,hB,hJ⟩:=hrel
    obtain⟨p0,p1,p2⟩:=hP.out
    by_cases hjt:j<i
    ·rcases h.out.2 with h0|⟨b,off,rfl,hs,hbl⟩
     ·rw[h0] at hlt;simp at hlt
     have hO1:=(hs i hlt).below hB.out hbl
     have hO2:=(hs j (by omega)).below hB.out hbl
     have hdu:=bH fun e=>dup_of hlt hjt e
     obtain⟨q,hq⟩ : ∃q,eqS (os.getD i or0).nm (os.getD j or0).nm=q:=⟨_,rfl⟩
     have hJ2:Hid (q=false→ ∀y,y<j+1→eqS (os.getD i or0).nm (os.getD y or0).nm=false):=bH fun e y hy=>by
      by_cases hyj:y=j
      ·subst hyj;rw[hq,e]
      ·exact hJ.out y (by omega)
     rw[hq] at hdu
     unfold eqS at hq
     obtain⟨e0,_,_⟩:=hO1
     obtain⟨d0,_,_⟩:=hO2
     generalize hui:(os.getD i or0).nm=ui at e0 hq
     generalize huj:(os.getD j or0).nm=uj at d0 hq
     have hui:=bH hui
     have huj:=bH huj
     have hji:(j:Int)<(i:Int):=by omega
     have hjo:(j:Int)<(os.length:Int):=by omega
     have hj0:(0:Int)≤(j:Int):=by omega
     clear hs
     cases q
     ·go_wp2_with fail
      go_quiet (fail)
      go_wp2_with fail
      go_roundw
      case rel=>exact⟨j+1,by omega,by go_num,bH (hP.out.below (below_drewN (Below.refl _ _) _)),bH (below_drewN hB.out _),bH (by rw[← hui.out];exact hJ2.out (by first|rfl|trivial))⟩
      case measure=>simp[intOf];omega
     ·have hr:=bH (hdu.out (by first|rfl|trivial))
      have hf:Hid (S=false):=bH (by rw[← hS2.out,hr.out];rfl)
      clear hdu hJ2
      go_wp2_with fail
      go_quiet (fail)
      go_wp2_with fail
      go_ret
      exact⟨ret_bb hf.out.symm,below_drewN hB.out _⟩
    ·obtain rfl:j=i:=by omega
     go_wp2_with fail
     go_roundw
     case rel=>exact⟨j+1,by omega,by go_num,hP,hB,bH fun x hx y hy=>by
      by_cases hxj:x=j
      ·subst hxj;exact hJ.out y hy
      ·exact hU.out x (by omega) y hy⟩
     case measure=>simp[intOf];omega
  ·obtain rfl:i=os.length:=by omega
   have hdp:=uniq_nodup hU.out
   have hf:Hid (numsV os.length ts.length ts (ts.length-1) 0=S):=bH (by rw[← hS2.out,hdp];rfl)
   have htree:=htr.out
   unfold treeV at htree
   simp only[Bool.and_eq_true,List.all_eq_true,decide_eq_true_eq] at htree
   obtain⟨⟨⟨ht1,ht2⟩,ht3⟩,ht4⟩:=htree
   have kW:=bH (rwithin_any a a2 os.length c ts.length c2 ts (fun i hi=>ok_kindR (ht3 _ (by rw[List.getD_eq_getElem?_getD,List.getElem?_eq_getElem hi];exact List.getElem_mem hi))) ts.length (ts.length-1) 0 wi (by omega) (by omega) ht2 (downs_of ht1 ht4) (by omega) (by omega) (bH (h2.out.below hB.out)))
   rw[hf.out] at kW
   have e1:IntKind.i64.wrap ((ts.length:Int)-1)=((ts.length-1:Nat):Int):=by rw[IntWalk.i64_in _ (by omega)];omega
   have hii : ¬ ((os.length:Nat):Int)<(os.length:Int):=by omega
   clear hf hS2 hdp hU ht3 ht4 htr
   obtain⟨p0,p1,p2⟩:=hP.out
   go_wp2_with fail
   clear p0 p1 p2
   refine kW.out.mono ?_
   rintro e w3 ⟨rfl,hb⟩
   have hB:=bH (belT hB.out hb)
   clear hb kW
   go_wp2_with fail
   go_ret
   exact⟨rfl,hB.out⟩
open Go.RowKit
theorem addr_plus (b off k:Nat):(⟨b,off,none⟩:Addr).add k=⟨b,off+k,none⟩:=by
 unfold Addr.add
 by_cases h:k=0<;>simp[h]
theorem list_of {α:Type} (d:α) (n:Nat) (R:Nat→α→Prop) (h : ∀i,i<n→ ∃x,R i x) : ∃l:List α,l.length=n∧ ∀i,i<n→R i (l.getD i d):=by
 induction n with
 | zero=>exact⟨[],rfl,fun i hi=>by omega⟩
 | succ n ih=>
  obtain⟨l,hl,hs⟩:=ih fun i hi=>h i (by omega)
  obtain⟨x,hx⟩:=h n (by omega)
  refine⟨l++[x],by simp[hl],fun i hi=> ?_⟩
  by_cases hin:i<n
  ·have:=hs i hin
   rwa [List.getD_eq_getElem?_getD,List.getElem?_append_left (by omega), ← List.getD_eq_getElem?_getD]
  ·obtain rfl:i=n:=by omega
   rw[List.getD_eq_getElem?_getD,List.getElem?_append_right (by omega),hl,Nat.sub_self]
   exact hx
section
open Go.ChangeShapes Go.WideShapes Go.Deep
variable {H : Type} {enc : TypeId × Value → H} {P : Program} {w : World} {base : Nat} {spare : Nat → Bool} {held : Bool}
theorem slice_open {t e fuel f:Nat} {ks:List Sc} {p:Option Addr} {len cap:Nat} {x:DataW H × List MemPlace} (ht:P.underlying t=some (.slice e)) (hk:flat P f e=some ks) (hks:ks.length=P.cellsOf e) (hK0:0<P.cellsOf e)
  (h:DataW.trod enc P w base spare held fuel t [.slice p len cap]=some x) (hw : ∀y∈DataW.weights P t x.1,y≤reachBytes) :
  len≤cap∧len*P.bytesOf e≤reachBytes∧(len=0 ∨ ∃b off,p=some ⟨b,off,none⟩∧ ∀i,i<len→ ∃cs:List Value,Fit (ScOk enc P w base spare held) ks cs∧ ∀j,j<P.cellsOf e→w.cell? ⟨b,off+(i*P.cellsOf e+j),none⟩=cs[j]?):=by
 rcases open_slice ht h with ⟨hcs,_⟩|⟨a,len',cap',m,fu,D,Pl,hcs,_,hlc,_,hm,hx,hi⟩
 ·simp at hcs
  obtain⟨_,rfl,rfl⟩:=hcs
  exact⟨Nat.le_refl _,by simp, .inl rfl⟩
 ·simp only[List.cons.injEq,Value.slice.injEq,and_true] at hcs
  obtain⟨rfl,rfl,rfl⟩:=hcs
  have hml:len≤m:=by rw[hm];split<;>omega
  rw[hx] at hw
  simp only[DataW.weights,ht] at hw
  have hwb:len*P.bytesOf e≤reachBytes:=by
   have:=hw _ (List.mem_cons_self ..)
   simp only[List.length_map,List.length_range] at this
   exact Nat.le_trans (Nat.mul_le_mul_right _ (by omega)) this
  refine⟨hlc,hwb, ?_⟩
  by_cases h0:len=0
  ·exact .inl h0
  have key : ∀i,i<len→ ∃cs:List Value,Fit (ScOk enc P w base spare held) ks cs∧ ∀j,j<P.cellsOf e→w.cell? (a.add (i*P.cellsOf e+j))=cs[j]? := by
   intro i hil
   obtain⟨cs',hc,hd⟩:=hi i (by omega)
   have hfit:=flat_fit f fu e cs' _ ks hk hd (fun y hy=>hw y (by
    refine List.mem_cons_of_mem _ (List.mem_append_left _ ?_)
    exact weightsAll_mem _ i (D i) (by rw[List.getElem?_map,List.getElem?_range hil];rfl) y hy))
   refine⟨cs',hfit,fun j hj=> ?_⟩
   obtain⟨hl,_,hat⟩:=World.cells?_some hc
   have:=hat j hj
   rwa [add_add] at this
  obtain⟨cs0,hf0,hc0⟩:=key 0 (by omega)
  have hl0:=hf0.length
  have h00:=hc0 0 hK0
  obtain⟨b,off,sp⟩:=a
  have hsp:sp=none:=by
   rw[List.getElem?_eq_getElem (by omega)] at h00
   have:=World.cell?_spot h00
   simpa [Addr.add] using this
  subst hsp
  refine .inr ⟨b,off,rfl,fun i hil=> ?_⟩
  obtain⟨cs,h1,h2⟩:=key i hil
  refine⟨cs,h1,fun j hj=> ?_⟩
  have:=h2 j hj
  rwa [addr_plus] at this
end
theorem nodes_open {H:Type} {enc:TypeId × Value→H} {w:World} {fuel:Nat} {y:DataW H × List MemPlace} {a:Option Addr} {n c:Nat} (h:DataW.trod enc Tryz.prog w 0 (fun _=>true) true fuel 23 [.slice a n c]=some y) (hw : ∀x∈DataW.weights Tryz.prog 23 y.1,x≤reachBytes) :
  n≤c∧n*112≤140737488351232∧ ∃ts:List Nd,NArg w a n ts∧ ∀t∈ts,NdSz t:=by
 obtain⟨h1,h2,h3⟩:=slice_open (f:=4) (ks:=[.i .i64, .i .i64, .i .i64, .i .i64, .i .i64, .s, .s, .s, .s, .i .i64]) Tryz.underlying23 (by kernel_rfl) (by kernel_rfl) (of_decide_eq_true (by kernel_rfl)) h hw
 have hc:Tryz.prog.cellsOf 45=10:=by kernel_rfl
 have hb:Tryz.prog.bytesOf 45=112:=by kernel_rfl
 rw[hb] at h2
 rw[hc] at h3
 refine⟨h1,h2, ?_⟩
 rcases h3 with rfl|⟨b,off,rfl,hi⟩
 ·exact⟨[],⟨rfl, .inl rfl⟩,by intro t ht;cases ht⟩
 by_cases h0:n=0
 ·subst h0;exact⟨[],⟨rfl, .inl rfl⟩,by intro t ht;cases ht⟩
 have key : ∀i,i<n→ ∃t:Nd,NdAt w b off t i∧NdSz t:=by
  intro i hin
  obtain⟨cs,hf,hcl⟩:=hi i hin
  obtain⟨v0,r0,rfl,⟨x0,rfl,_⟩,hf0⟩:=fit_i hf
  obtain⟨v1,r1,rfl,⟨x1,rfl,_⟩,hf1⟩:=fit_i hf0
  obtain⟨v2,r2,rfl,⟨x2,rfl,_⟩,hf2⟩:=fit_i hf1
  obtain⟨v3,r3,rfl,⟨x3,rfl,_⟩,hf3⟩:=fit_i hf2
  obtain⟨v4,r4,rfl,⟨x4,rfl,_⟩,hf4⟩:=fit_i hf3
  obtain⟨v5,r5,rfl,⟨x5,rfl,z5⟩,hf5⟩:=fit_i hf4
  obtain⟨v6,r6,rfl,⟨x6,rfl,z6⟩,hf6⟩:=fit_i hf5
  obtain⟨v7,r7,rfl,⟨x7,rfl,z7⟩,hf7⟩:=fit_i hf6
  obtain⟨v8,r8,rfl,⟨x8,rfl,z8⟩,hf8⟩:=fit_i hf7
  obtain⟨v9,r9,rfl,⟨x9,rfl,_⟩,hf9⟩:=fit_i hf8
  have z5:=reach_le z5;have z6:=reach_le z6;have z7:=reach_le z7;have z8:=reach_le z8
  refine⟨⟨x0,x1,x2,x3,x4,x5,x6,x7,x8,x9⟩,⟨?_, ?_, ?_, ?_, ?_, ?_, ?_, ?_, ?_, ?_⟩,⟨?_, ?_, ?_, ?_⟩⟩
  ·exact hcl 0 (by omega)
  ·exact hcl 1 (by omega)
  ·exact hcl 2 (by omega)
  ·exact hcl 3 (by omega)
  ·exact hcl 4 (by omega)
  ·exact hcl 5 (by omega)
  ·exact hcl 6 (by omega)
  ·exact hcl 7 (by omega)
  ·exact hcl 8 (by omega)
  ·exact hcl 9 (by omega)
  ·show x5.size≤_;omega
  ·show x6.size≤_;omega
  ·show x7.size≤_;omega
  ·show x8.size≤_;omega
 obtain⟨ts,hl,hs⟩:=list_of nd0 n (fun i t=>NdAt w b off t i∧NdSz t) key
 refine⟨ts,⟨hl.symm, .inr ⟨b,off,rfl,fun i hi=>(hs i (by omega)).1,World.block_lt_of_cell? _ _ (hs 0 (by omega)).1.1⟩⟩,fun t ht=> ?_⟩
 obtain⟨i,hi,rfl⟩:=List.getElem_of_mem ht
 have:=(hs i (by omega)).2
 rwa [List.getD_eq_getElem?_getD,List.getElem?_eq_getElem hi,Option.getD_some] at this
theorem ops_open {H:Type} {enc:TypeId × Value→H} {w:World} {fuel:Nat} {y:DataW H × List MemPlace} {a:Option Addr} {n c:Nat} (h:DataW.trod enc Tryz.prog w 0 (fun _=>true) true fuel 22 [.slice a n c]=some y) (hw : ∀x∈DataW.weights Tryz.prog 22 y.1,x≤reachBytes) :
  n≤c∧n*32≤140737488351232∧ ∃ts:List Or,OArg w a n ts∧ ∀t∈ts,OrSz t:=by
 obtain⟨h1,h2,h3⟩:=slice_open (f:=4) (ks:=[.s, .i .i64, .i .i64]) Tryz.underlying22 (by kernel_rfl) (by kernel_rfl) (of_decide_eq_true (by kernel_rfl)) h hw
 have hc:Tryz.prog.cellsOf 54=3:=by kernel_rfl
 have hb:Tryz.prog.bytesOf 54=32:=by kernel_rfl
 rw[hb] at h2
 rw[hc] at h3
 refine⟨h1,h2, ?_⟩
 rcases h3 with rfl|⟨b,off,rfl,hi⟩
 ·exact⟨[],⟨rfl, .inl rfl⟩,by intro t ht;cases ht⟩
 by_cases h0:n=0
 ·subst h0;exact⟨[],⟨rfl, .inl rfl⟩,by intro t ht;cases ht⟩
 have key : ∀i,i<n→ ∃t:Or,OrAt w b off t i∧OrSz t:=by
  intro i hin
  obtain⟨cs,hf,hcl⟩:=hi i hin
  obtain⟨v0,r0,rfl,⟨x0,rfl,z0⟩,hf0⟩:=fit_i hf
  obtain⟨v1,r1,rfl,⟨x1,rfl,_⟩,hf1⟩:=fit_i hf0
  obtain⟨v2,r2,rfl,⟨x2,rfl,_⟩,hf2⟩:=fit_i hf1
  have z0:=reach_le z0
  refine⟨⟨x0,x1,x2⟩,⟨?_, ?_, ?_⟩, ?_⟩
  ·exact hcl 0 (by omega)
  ·exact hcl 1 (by omega)
  ·exact hcl 2 (by omega)
  ·show x0.size≤_;omega
 obtain⟨ts,hl,hs⟩:=list_of or0 n (fun i t=>OrAt w b off t i∧OrSz t) key
 refine⟨ts,⟨hl.symm, .inr ⟨b,off,rfl,fun i hi=>(hs i (by omega)).1,World.block_lt_of_cell? _ _ (hs 0 (by omega)).1.1⟩⟩,fun t ht=> ?_⟩
 obtain⟨i,hi,rfl⟩:=List.getElem_of_mem ht
 have:=(hs i (by omega)).2
 rwa [List.getD_eq_getElem?_getD,List.getElem?_eq_getElem hi,Option.getD_some] at this
open Go.RowKit
def KeepL (w W:World):Prop:=Below w.heap.size w W∧w.heap.size+1<W.heap.size∧(∀o,W.frozen? ⟨w.heap.size+1,o,none⟩=false)∧ ∃u v,W.cell? ⟨w.heap.size+1,0,none⟩=some u∧W.cell? ⟨w.heap.size+1,1,none⟩=some v
theorem KeepL.go {w W W':World} (h:KeepL w W) (hb:Below W.heap.size W W'):KeepL w W':=by
 obtain⟨h1,h2,h3,u,v,h4,h5⟩:=h
 refine⟨belT h1 hb,by have:=hb.size;omega,fun o=>by rw[hb.frozen (p:=⟨w.heap.size+1,o,none⟩) h2];exact h3 o,u,v,carry hb h2 h4,carry hb h2 h5⟩
theorem ln_step {w W W':World} {x y:Value} (h:W.cell? ⟨w.heap.size,0,none⟩=some x∧W.cell? ⟨w.heap.size,1,none⟩=some y∧KeepL w W) (hb:Below W.heap.size W W'):W'.cell? ⟨w.heap.size,0,none⟩=some x∧W'.cell? ⟨w.heap.size,1,none⟩=some y∧KeepL w W':=
 ⟨carry hb (by have:=h.2.2.2.1;omega) h.1,carry hb (by have:=h.2.2.2.1;omega) h.2.1,h.2.2.go hb⟩
theorem ln_start {w:World} {x y:Value} {T T':TypeId}:((w.alloc (.cells #[x,y] T)).alloc (.cells #[.slice none 0 0, .slice none 0 0] T')).drew.cell? ⟨w.heap.size,0,none⟩=some x∧((w.alloc (.cells #[x,y] T)).alloc (.cells #[.slice none 0 0, .slice none 0 0] T')).drew.cell? ⟨w.heap.size,1,none⟩=some y∧KeepL w ((w.alloc (.cells #[x,y] T)).alloc (.cells #[.slice none 0 0, .slice none 0 0] T')).drew:=by
 refine⟨?_, ?_, ?_, ?_, ?_, .slice none 0 0, .slice none 0 0, ?_, ?_⟩
 ·show ((w.alloc (.cells #[x,y] T)).alloc (.cells #[.slice none 0 0, .slice none 0 0] T')).cell? _=_;simp
 ·show ((w.alloc (.cells #[x,y] T)).alloc (.cells #[.slice none 0 0, .slice none 0 0] T')).cell? _=_;simp
 ·(repeat' (first|with_reducible exact Below.refl _ _|with_reducible assumption|with_reducible apply Below.setCell|with_reducible apply Below.alloc|with_reducible apply Below.drew|with_reducible apply below_drewN|with_reducible exact Nat.le_refl _|(simp;done)|(simp;omega)|omega|exact Nat.le_refl _))
 ·show _<((w.alloc (.cells #[x,y] T)).alloc (.cells #[.slice none 0 0, .slice none 0 0] T')).heap.size;simp
 ·intro o;show ((w.alloc (.cells #[x,y] T)).alloc (.cells #[.slice none 0 0, .slice none 0 0] T')).frozen? _=_;simp[go_sem]
 ·show ((w.alloc (.cells #[x,y] T)).alloc (.cells #[.slice none 0 0, .slice none 0 0] T')).cell? _=_;simp
 ·show ((w.alloc (.cells #[x,y] T)).alloc (.cells #[.slice none 0 0, .slice none 0 0] T')).cell? _=_;simp
theorem ln_keep {w W:World} {x y:Value} (h:W.cell? ⟨w.heap.size,0,none⟩=some x∧W.cell? ⟨w.heap.size,1,none⟩=some y∧KeepL w W):Below w.heap.size w W:=h.2.2.1
theorem ln_cells {w W W':World} {x y:Value} (h:W.cell? ⟨w.heap.size,0,none⟩=some x∧W.cell? ⟨w.heap.size,1,none⟩=some y∧KeepL w W) (hb:Below W.heap.size W W') :
  W'.frozen? ⟨w.heap.size+1,0,none⟩=false∧W'.frozen? ⟨w.heap.size+1,1,none⟩=false∧ ∃u v,W'.cell? ⟨w.heap.size+1,0,none⟩=some u∧W'.cell? ⟨w.heap.size+1,1,none⟩=some v:=by
 obtain⟨_,_,h3,u,v,h4,h5⟩:=h.2.2.go hb
 exact⟨h3 0,h3 1,u,v,h4,h5⟩
theorem ln_store {w W:World} {x y p q:Value} (h:W.cell? ⟨w.heap.size,0,none⟩=some x∧W.cell? ⟨w.heap.size,1,none⟩=some y∧KeepL w W) :
  ((W.setCell ⟨w.heap.size+1,0,none⟩ p).setCell ⟨w.heap.size+1,1,none⟩ q).cell? ⟨w.heap.size,0,none⟩=some x∧((W.setCell ⟨w.heap.size+1,0,none⟩ p).setCell ⟨w.heap.size+1,1,none⟩ q).cell? ⟨w.heap.size,1,none⟩=some y∧KeepL w ((W.setCell ⟨w.heap.size+1,0,none⟩ p).setCell ⟨w.heap.size+1,1,none⟩ q):=by
 obtain⟨h1,h2,h3,h4,h5,u,v,h6,h7⟩:=h
 have hq:(W.setCell ⟨w.heap.size+1,0,none⟩ p).cell? ⟨w.heap.size+1,1,none⟩=some v:=by rw[cell_set _ _ _ _ _ _ _ h6,if_neg (by omega)];exact h7
 have rd : ∀b o,((W.setCell ⟨w.heap.size+1,0,none⟩ p).setCell ⟨w.heap.size+1,1,none⟩ q).cell? ⟨b,o,none⟩=if b=w.heap.size+1∧o=1 then some q else if b=w.heap.size+1∧o=0 then some p else W.cell? ⟨b,o,none⟩:=fun b o=>by
  rw[cell_set _ _ _ _ _ _ _ hq,cell_set _ _ _ _ _ _ _ h6]
 refine⟨?_, ?_, ?_, ?_, ?_,p,q, ?_, ?_⟩
 ·rw[rd,if_neg (by omega),if_neg (by omega)];exact h1
 ·rw[rd,if_neg (by omega),if_neg (by omega)];exact h2
 ·exact(h3.setCell (p:=⟨w.heap.size+1,0,none⟩) (by show _≤w.heap.size+1;omega) _).setCell (p:=⟨w.heap.size+1,1,none⟩) (by show _≤w.heap.size+1;omega) _
 ·simpa using h4
 ·intro o;simp[go_sem,h5]
 ·rw[rd,if_neg (by omega),if_pos ⟨rfl,rfl⟩]
 ·rw[rd,if_pos ⟨rfl,rfl⟩]
theorem own_le {B B':Nat} {w:World} {e:TypeId} {size:Nat} {v:Value} {n:Nat} {xs:List Value} (h:w.ownsRow B' e size v n xs) (hB:B≤B':=by omega):w.ownsRow B e size v n xs:=by
 refine⟨h.1, ?_⟩
 rcases h.2 with h|⟨g',cap,cur,e1,e2,e3⟩
 ·exact .inl h
 ·exact .inr ⟨g',cap,cur,e1,by omega,e3⟩
theorem lentO_set {B B':Nat} {w:World} {g n c:Nat} {l:List Or} (h:OwnO.Lent B' w g n c l) (hB:B≤B') {k o:Nat} (hk:k<B') (v:Value):OwnO.Lent B (w.setCell ⟨k,o,none⟩ v) g n c l:=by
 obtain⟨h1,h2,h3,h4⟩:=h
 refine⟨h1,h2,by omega, ?_⟩
 have h5:OwnO B w (.slice (some ⟨g,0,none⟩) (n+2) c) (l++[orMk,orMk]):=by
  refine⟨h4.1, ?_⟩
  rcases h4.2 with h|⟨g',cap,cur,e1,e2,e3⟩
  ·exact .inl h
  ·exact .inr ⟨g',cap,cur,e1,by omega,e3⟩
 exact ownsRow_setCell_other h5 (by simp[Value.ownBlock];omega) v
theorem lentN_set {B B':Nat} {w:World} {g n c:Nat} {l:List Nd} (h:OwnN.Lent B' w g n c l) (hB:B≤B') {k o:Nat} (hk:k<B') (v:Value):OwnN.Lent B (w.setCell ⟨k,o,none⟩ v) g n c l:=by
 obtain⟨h1,h2,h3,h4⟩:=h
 refine⟨h1,h2,by omega, ?_⟩
 have h5:OwnN B w (.slice (some ⟨g,0,none⟩) (n+2) c) (l++[ndMk,ndMk]):=by
  refine⟨h4.1, ?_⟩
  rcases h4.2 with h|⟨g',cap,cur,e1,e2,e3⟩
  ·exact .inl h
  ·exact .inr ⟨g',cap,cur,e1,by omega,e3⟩
 exact ownsRow_setCell_other h5 (by simp[Value.ownBlock];omega) v
def LendPost (os:List Or) (ts:List Nd) (w:World) (n n2:Nat) (e:Ending) (w':World):Prop:= ∃g c g2 c2,e= .returned (.agg #[.slice (some ⟨g,0,none⟩) n c, .slice (some ⟨g2,0,none⟩) n2 c2])∧OwnO.Lent w.heap.size w' g n c os∧OwnN.Lent w.heap.size w' g2 n2 c2 ts∧Below w.heap.size w w'
theorem lendProgram_any (a a2:Option Addr) (n c n2 c2:Nat) (os:List Or) (ts:List Nd) (w:World) (h:Hid (OArg w a n os)) (h2:Hid (NArg w a2 n2 ts)) (hl:n*32≤140737488351232) (hl2:n2*112≤140737488351232) :
  Calls Tryz.prog 7 #[.agg #[.slice a n c, .slice a2 n2 c2]] w (LendPost os ts w n n2):=by
 have kO:=bH fun (W:World) (hb:Below w.heap.size w W)=>LendOps_any a n c os W (bH (h.out.below hb)) hl
 have kN:=bH fun (W:World) (hb:Below w.heap.size w W)=>LendNodes_any a2 n2 c2 ts W (bH (h2.out.below hb)) hl2
 go_enter Tryz.func7,Tryz.ntmps7
 go_wp2_with fail
 go_region_held3 (fun W=>W.cell? ⟨w.heap.size,0,none⟩=some (.slice a n c)∧W.cell? ⟨w.heap.size,1,none⟩=some (.slice a2 n2 c2)∧KeepL w W)
  (first|exact ln_store (by assumption)|exact ln_step (by assumption) hbO|exact ln_step (by assumption) hbN|exact ln_start)
  (first|(go_at_call 19;refine(kO.out _ (ln_keep (by assumption))).mono ?_;rintro e wO ⟨gO,cO,rfl,hLO,hbO⟩)|(go_at_call 20;refine(kN.out _ (ln_keep (by assumption))).mono ?_;rintro e wN ⟨gN,cN,rfl,hLN,hbN⟩;have hcN:=bH (ln_cells (by assumption) hbN);obtain⟨fN0,fN1,uN,vN,cN0,cN1⟩:=hcN.out))
 have hf:=bH (ln_keep (by assumption))
 have hO1:=bH (lentO_set (B:=w.heap.size+2) (lentO_set (B:=w.heap.size+2) (hLO.below hbN) (by show _≤((w.alloc _).alloc _).heap.size;simp) (k:=w.heap.size+1) (o:=0) (by show _<((w.alloc _).alloc _).heap.size;simp) (.slice (some ⟨gO,0,none⟩) n cO)) (Nat.le_refl _) (k:=w.heap.size+1) (o:=1) (by omega) (.slice (some ⟨gN,0,none⟩) n2 cN))
 have hws:w.heap.size+2≤wO.heap.size:=by
  have h3:=hbO.size
  have h4 : ∀(o1 o2:Obj),((w.alloc o1).alloc o2).drew.heap.size=w.heap.size+2:=fun o1 o2=>by show ((w.alloc o1).alloc o2).heap.size=_;simp
  rw[h4] at h3;exact h3
 have hN1:=bH (lentN_set (B:=w.heap.size+2) (lentN_set (B:=w.heap.size+2) hLN hws (k:=w.heap.size+1) (o:=0) (by omega) (.slice (some ⟨gO,0,none⟩) n cO)) (Nat.le_refl _) (k:=w.heap.size+1) (o:=1) (by omega) (.slice (some ⟨gN,0,none⟩) n2 cN))
 have hd0:((wN.setCell ⟨w.heap.size+1,0,none⟩ (.slice (some ⟨gO,0,none⟩) n cO)).setCell ⟨w.heap.size+1,1,none⟩ (.slice (some ⟨gN,0,none⟩) n2 cN)).cell? ⟨w.heap.size+1,0,none⟩=some (.slice (some ⟨gO,0,none⟩) n cO):=by
  rw[cell_set _ _ _ _ _ _ vN (by rw[cell_set _ _ _ _ _ _ _ cN0,if_neg (by omega)];exact cN1),if_neg (by omega),cell_set _ _ _ _ _ _ _ cN0,if_pos ⟨rfl,rfl⟩]
 have hd1:((wN.setCell ⟨w.heap.size+1,0,none⟩ (.slice (some ⟨gO,0,none⟩) n cO)).setCell ⟨w.heap.size+1,1,none⟩ (.slice (some ⟨gN,0,none⟩) n2 cN)).cell? ⟨w.heap.size+1,1,none⟩=some (.slice (some ⟨gN,0,none⟩) n2 cN):=by
  rw[cell_set _ _ _ _ _ _ vN (by rw[cell_set _ _ _ _ _ _ _ cN0,if_neg (by omega)];exact cN1),if_pos ⟨rfl,rfl⟩]
 obtain⟨W,hW⟩ : ∃W,((wN.setCell ⟨w.heap.size+1,0,none⟩ (.slice (some ⟨gO,0,none⟩) n cO)).setCell ⟨w.heap.size+1,1,none⟩ (.slice (some ⟨gN,0,none⟩) n2 cN))=W:=⟨_,rfl⟩
 rw[hW] at hf hO1 hN1 hd0 hd1 ⊢
 clear hW hLO hLN hbO hbN hcN fN0 fN1 cN0 cN1
 go_wp2_with fail
 exact bodyPost_ret (v:= .agg #[.slice (some ⟨gO,0,none⟩) n cO, .slice (some ⟨gN,0,none⟩) n2 cN]) (by simp[results,Tryz.results7,go_sem,hd0,hd1]) rfl ⟨gO,cO,gN,cN,rfl,⟨hO1.out.1,hO1.out.2.1,by have:=hO1.out.2.2.1;omega,own_le hO1.out.2.2.2⟩,⟨hN1.out.1,hN1.out.2.1,by have:=hN1.out.2.2.1;omega,own_le hN1.out.2.2.2⟩,hf.out⟩
end Go.Proofs.YthpcbgljbpmafaaGreatDoor
