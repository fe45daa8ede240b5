/- Rows of nodes in memory; the closure of tree.isTree. -/
import Derived.Test.YthpcbgljbpmafaaGreatDoorW5
import Derived.Test.YthpcbgljbpmafaaGreatDoorW10
import Derived.Deep.OwnRows
import Derived.WalkSmall
set_option maxRecDepth 100000
set_option maxHeartbeats 8000000
namespace Go.Proofs.YthpcbgljbpmafaaGreatDoor
open Go.RowKit
set_option linter.unusedVariables false
set_option linter.unusedSimpArgs false
structure Nd where
 (k a b c n:Int) (nm x y z:ByteArray) (p:Int)
def nd0:Nd:=⟨0,0,0,0,0,⟨#[]⟩,⟨#[]⟩,⟨#[]⟩,⟨#[]⟩,0⟩
def NdAt (w:World) (b off:Nat) (t:Nd) (i:Nat):Prop:=
 w.cell? ⟨b,off+i*10,none⟩=some (.int .i64 t.k)∧w.cell? ⟨b,off+i*10+1,none⟩=some (.int .i64 t.a)∧w.cell? ⟨b,off+i*10+2,none⟩=some (.int .i64 t.b)∧
 w.cell? ⟨b,off+i*10+3,none⟩=some (.int .i64 t.c)∧w.cell? ⟨b,off+i*10+4,none⟩=some (.int .i64 t.n)∧w.cell? ⟨b,off+i*10+5,none⟩=some (.string t.nm)∧
 w.cell? ⟨b,off+i*10+6,none⟩=some (.string t.x)∧w.cell? ⟨b,off+i*10+7,none⟩=some (.string t.y)∧w.cell? ⟨b,off+i*10+8,none⟩=some (.string t.z)∧w.cell? ⟨b,off+i*10+9,none⟩=some (.int .i64 t.p)
theorem NdAt.below {B:Nat} {w w':World} {b off i:Nat} {t:Nd} (h:NdAt w b off t i) (hb:Below B w w') (hB:b<B):NdAt w' b off t i:=by
 unfold NdAt at *
 have e : ∀o,w'.cell? ⟨b,o,none⟩=w.cell? ⟨b,o,none⟩:=fun o=>hb.cell (p:=⟨b,o,none⟩) hB
 simp only[e];exact h
def NdSl (w:World) (b off:Nat) (ts:List Nd):Prop:= ∀i,i<ts.length→NdAt w b off (ts.getD i nd0) i
theorem NdSl.below {B:Nat} {w w':World} {b off:Nat} {ts:List Nd} (h:NdSl w b off ts) (hb:Below B w w') (hB:b<B):NdSl w' b off ts:=
 fun i hi=>(h i hi).below hb hB
def NdSz (t:Nd):Prop:=t.nm.size≤1125899906842624∧t.x.size≤1125899906842624∧t.y.size≤1125899906842624∧t.z.size≤1125899906842624
def ksN (ts:List Nd) (i:Nat):List Int:=kidsL (ts.getD i nd0).k (ts.getD i nd0).a (ts.getD i nd0).b (ts.getD i nd0).c
theorem kidsL_len (k a b c:Int):(kidsL k a b c).length≤3:=by unfold kidsL;(repeat' split)<;>simp
theorem tree1_any (b off cp p at_:Nat) (ts:List Nd) (w:World) (hp:w.cell? ⟨p,0,none⟩=some (.slice (some ⟨b,off,none⟩) ts.length cp)) (h:Hid (NdSl w b off ts)) (hat:at_<ts.length) (hl:ts.length≤140737488351232) :
  Calls Tryz.prog 100 #[.int .i64 at_, .pointer (some ⟨p,0,none⟩)] w fun e w'=>e= .returned (kidV (kidsL (ts.getD at_ nd0).k (ts.getD at_ nd0).a (ts.getD at_ nd0).b (ts.getD at_ nd0).c))∧Below w.heap.size w w':=by
 have hT:=h.out at_ hat
 generalize ts.getD at_ nd0=t at hT
 obtain⟨e0,e1,e2,e3,e4,e5,e6,e7,e8,e9⟩:=hT
 have hbs:=World.block_lt_of_cell? _ _ e0
 have hps:=World.block_lt_of_cell? _ _ hp
 simp only[] at hbs hps
 go_enter Tryz.func100,Tryz.ntmps100
 go_wp2_with fail
 refine(tchildren_any _ _ _ _ _ _ _ _ _ _ _).mono ?_
 rintro e w1 ⟨rfl,hb1⟩
 obtain⟨hc1,hf1⟩:=bcell hb1
 have hz1_0:w.heap.size<w1.heap.size:=by have:=hb1.size;(try simp at this);omega
 rw[kidV_eq]
 go_wp2_with fail
 exact bodyPost_ret (v:=kidV (kidsL t.k t.a t.b t.c)) (by simp[results,Tryz.results100,go_sem,kidV,hc1,hf1]) rfl ⟨rfl,by(repeat' (first|with_reducible exact Below.refl _ _|with_reducible assumption|with_reducible apply Below.setCell|with_reducible apply Below.alloc|with_reducible apply Below.drew|with_reducible apply below_drewN|with_reducible exact Nat.le_refl _|(simp;done)|(simp;omega)|omega|exact Nat.le_refl _));exact belT (bZ) hb1⟩
theorem allT_take {α:Type} (l:List α) (d:α) (p:α→Bool) (j:Nat) (h:j<l.length):(l.take (j+1)).all p=((l.take j).all p && p (l.getD j d)):=by
 rw[List.take_succ_eq_append_getElem h,List.all_append]
 simp[h]
open Go.RowKit
theorem take_rev (l:List Int) (m:Nat) (h1:1≤m) (h:m≤l.length):(l.take m).reverse=l.getD (m-1) 0 :: (l.take (m-1)).reverse:=by
 obtain⟨k,rfl⟩ : ∃k,m=k+1:=⟨m-1,by omega⟩
 have hk:k<l.length:=by omega
 rw[List.take_succ_eq_append_getElem hk,List.reverse_append]
 simp[hk]
def BegPost (ks:Nat→List Int) (n:Nat) (w:World) (e:Ending) (w':World):Prop:= ∃v,e= .returned (.tuple #[v, .bool (decide (0<n) && decide (bg ks (n-1)=0))])∧Below w.heap.size w w'
theorem begins_any (b off cp p:Nat) (ts:List Nd) (w:World) (hp:w.cell? ⟨p,0,none⟩=some (.slice (some ⟨b,off,none⟩) ts.length cp)) (h:Hid (NdSl w b off ts)) (hl:ts.length≤512) (h1:0<ts.length) :
  Calls Tryz.prog 99 #[.int .i64 ts.length, .func (.func 100) #[] #[.pointer (some ⟨p,0,none⟩)]] w (BegPost (ksN ts) ts.length w):=by
 have hps:=World.block_lt_of_cell? _ _ hp
 have hbs:b<w.heap.size:=World.block_lt_of_cell? _ _ (h.out 0 h1).1
 simp only[] at hps
 have hmk:=run_make_row' (P:=Tryz.prog) 47 3 (.int .i64 0) 8 Tryz.underlying47 (by kernel_rfl) rfl .i64 .i64 ts.length (by omega) (by omega)
 go_enter Tryz.func99,Tryz.ntmps99
 go_wp2_with fail
 go_loopw [15] (fun i wr=> ∃at_:Nat,at_≤ts.length∧i= .int .i64 at_∧Below w.heap.size w wr∧Hid (∀j,j<at_→0≤bg (ksN ts) j)∧Hid (wr.rowIs w.heap.size 3 ts.length (fun j=> .int .i64 (if j<at_ then bg (ksN ts) j else 0)))) (fun i _=>ts.length-(intOf i).toNat)
 case atStart=>exact⟨0,by omega,rfl,bZ,bH (by omega),bH ((World.rowIs_made _ _ _ _).congr (fun i hi=>by simp))⟩
 case round=>
  obtain⟨at_,hat,rfl,hbw,hpos,hrow⟩:=hrel
  by_cases hlt:at_<ts.length
  ·have hpr:wr.cell? ⟨p,0,none⟩=some (.slice (some ⟨b,off,none⟩) ts.length cp):=by rw[hbw.cell (p:=⟨p,0,none⟩) hps];exact hp
   have hTr:Hid (NdSl wr b off ts):=bH (h.out.below hbw hbs)
   have hwl:=hrow.out.lt
   go_wp2_with fail
   refine(tree1_any b off cp p at_ ts _ (by simpa using hpr) hTr hlt (by omega)).mono ?_
   rintro e w1 ⟨rfl,hb1⟩
   obtain⟨l,hlk⟩ : ∃l,ksN ts at_=l:=⟨_,rfl⟩
   have hl3:l.length≤3:=by rw[← hlk];exact kidsL_len _ _ _ _
   rw[show kidsL (ts.getD at_ nd0).k (ts.getD at_ nd0).a (ts.getD at_ nd0).b (ts.getD at_ nd0).c=l from hlk]
   have hlk':=bH hlk;clear hlk
   have hrow1:Hid (w1.rowIs w.heap.size 3 ts.length (fun j=> .int .i64 (if j<at_ then bg (ksN ts) j else 0))):=bH (hrow.out.of_block (hb1.block _ hwl))
   have hbw1:=hbw.trans (hb1.mono hbw.size)
   have hw1l:=hrow1.out.lt
   have hno:Hid (∀x:Int,bg (ksN ts) at_<0→BegPost (ksN ts) ts.length w (.returned (.tuple #[.slice none 0 0, .bool false])) (w1.alloc (.cells #[.int .i64 l.length, .int .i64 (l.getD 0 0), .int .i64 (l.getD 1 0), .int .i64 (l.getD 2 0)] 123))):=bH (fun _ hneg=>by
    refine⟨.slice none 0 0, ?_,by(refine Below.alloc hbw1 (by omega) _)⟩
    have : ¬ bg (ksN ts) (ts.length-1)=0:=fun hz=>by have:=bg_all hz at_ (by omega);omega
    rw[decide_eq_false this];simp)
   rw[kidV_eq]
   obtain⟨a0,ha0⟩ : ∃a,l.getD 0 0=a:=⟨_,rfl⟩
   obtain⟨a1,ha1⟩ : ∃a,l.getD 1 0=a:=⟨_,rfl⟩
   obtain⟨a2,ha2⟩ : ∃a,l.getD 2 0=a:=⟨_,rfl⟩
   rw[ha0,ha1,ha2] at hno ⊢
   have ha0':=bH ha0;have ha1':=bH ha1;have ha2':=bH ha2
   clear ha0 ha1 ha2
   go_wp2_with fail
   go_loop [9,10] (fun be i=> ∃m k:Nat,m≤l.length∧k≤at_∧be= .int .i64 k∧i= .int .i64 ((m:Int)-1)∧Hid (bgK (bg (ksN ts)) (l.take m).reverse k=bg (ksN ts) at_)) (fun _ i=>(intOf i+1).toNat)
   case atStart=>exact⟨l.length,at_,Nat.le_refl _,Nat.le_refl _,rfl,rfl,bH (by rw[List.take_length,bg_eq,hlk'.out])⟩
   case round=>
    obtain⟨m,k,hm,hk,rfl,rfl,hkb⟩:=hrel
    have hm3:m=0∨m=1∨m=2∨m=3:=by omega
    have hca:=hrow1.out.cell hlt
    have hfa:=hrow1.out.frozen at_
    simp only[Nat.lt_irrefl,if_false] at hca
    rcases hm3 with rfl|hm3
    ·have hkk:Hid ((k:Int)=bg (ksN ts) at_):=bH (by have:=hkb.out;simpa [bgK] using this)
     go_wp2_with fail
     go_round
     case rel=>
      refine⟨at_+1,by omega,by go_num,bZ,bH ?_,bH ?_⟩
      ·intro j hj
       by_cases hja:j=at_
       ·rw[hja, ← hkk.out];omega
       ·exact hpos.out j (by omega)
      ·refine((hrow1.out.set at_ _).alloc _).congr ?_
       intro j hj
       by_cases hja:j=at_
       ·simp[hja,hkk.out]
       ·simp only[hja,if_false]
        congr 1
        by_cases hjl:j<at_
        ·rw[if_pos hjl,if_pos (by omega)]
        ·rw[if_neg hjl,if_neg (by omega)]
     case measure=>simp[intOf];omega
    ·have hrev:Hid (bg (ksN ts) at_=bgK (bg (ksN ts)) (l.getD (m-1) 0 :: (l.take (m-1)).reverse) k):=bH (by rw[← hkb.out,take_rev l m (by omega) hm])
     have hstep:Hid (l.getD (m-1) 0=(k:Int)-1→1≤k→0≤bg (ksN ts) (k-1)→bgK (bg (ksN ts)) (l.take (m-1)).reverse (bg (ksN ts) (k-1))=bg (ksN ts) at_):=bH (by
      intro e1 e2 e3
      rw[hrev.out];conv=>rhs;unfold bgK
      have e4:((k:Int)-1).toNat=k-1:=by omega
      rw[if_pos ⟨e1,by omega⟩,e4,if_neg (by omega)])
     have hbad:Hid (¬ (l.getD (m-1) 0=(k:Int)-1∧1≤k)→bg (ksN ts) at_<0):=bH (by
      intro e1
      rw[hrev.out];unfold bgK
      rw[if_neg (by omega)];omega)
     by_cases hk0:k=0
     ·subst hk0
      have hfin:=hno.out 0 (hbad.out (by omega))
      have hfin':=bH hfin;clear hfin
      rcases hm3 with rfl|rfl|rfl
      all_goals
       go_wp2_with fail
       go_ret2
       exact hfin'.out
     ·obtain⟨q,rfl⟩ : ∃q,k=q+1:=⟨k-1,by omega⟩
      have hq0:=hpos.out q (by omega)
      have hcq:=hrow1.out.cell (i:=q) (by omega)
      rw[if_pos (by omega:q<at_)] at hcq
      simp only[Nat.add_sub_cancel] at hstep
      obtain⟨g,hg⟩:=Int.eq_ofNat_of_zero_le hq0
      have hgle:=bg_le (ksN ts) q
      rw[hg] at hcq hq0 hstep hgle
      have hg':=bH hg;clear hg
      rcases hm3 with rfl|rfl|rfl
      ·by_cases hv:a0=(q:Int)
       ·have hv':Hid (bgK (bg (ksN ts)) (l.take (0+1-1)).reverse (g:Int)=bg (ksN ts) at_):=bH (hstep.out (by rw[show l.getD (0+1-1) 0=a0 from ha0'.out,hv];omega) (by omega) hq0)
        subst hv
        go_wp2_with fail
        go_round
        case rel=>exact⟨0,g,by omega,by omega,rfl,by first|rfl|go_num,hv'⟩
        case measure=>simp[intOf]
       ·have hfin:=hno.out 0 (hbad.out (fun hh=>hv (by have:=hh.1;rw[show l.getD (0+1-1) 0=a0 from ha0'.out] at this;omega)))
        have hfin':=bH hfin;clear hfin
        have hv1:(a0==(q:Int))=false:=by simpa using hv
        have hv2:(a0 != (q:Int))=true:=by simpa using hv
        go_wp2_with fail
        go_ret2
        exact hfin'.out
      ·by_cases hv:a1=(q:Int)
       ·have hv':Hid (bgK (bg (ksN ts)) (l.take (1+1-1)).reverse (g:Int)=bg (ksN ts) at_):=bH (hstep.out (by rw[show l.getD (1+1-1) 0=a1 from ha1'.out,hv];omega) (by omega) hq0)
        subst hv
        go_wp2_with fail
        go_round
        case rel=>exact⟨1,g,by omega,by omega,rfl,by first|rfl|go_num,hv'⟩
        case measure=>simp[intOf]
       ·have hfin:=hno.out 0 (hbad.out (fun hh=>hv (by have:=hh.1;rw[show l.getD (1+1-1) 0=a1 from ha1'.out] at this;omega)))
        have hfin':=bH hfin;clear hfin
        have hv1:(a1==(q:Int))=false:=by simpa using hv
        have hv2:(a1 != (q:Int))=true:=by simpa using hv
        go_wp2_with fail
        go_ret2
        exact hfin'.out
      ·by_cases hv:a2=(q:Int)
       ·have hv':Hid (bgK (bg (ksN ts)) (l.take (2+1-1)).reverse (g:Int)=bg (ksN ts) at_):=bH (hstep.out (by rw[show l.getD (2+1-1) 0=a2 from ha2'.out,hv];omega) (by omega) hq0)
        subst hv
        go_wp2_with fail
        go_round
        case rel=>exact⟨2,g,by omega,by omega,rfl,by first|rfl|go_num,hv'⟩
        case measure=>simp[intOf]
       ·have hfin:=hno.out 0 (hbad.out (fun hh=>hv (by have:=hh.1;rw[show l.getD (2+1-1) 0=a2 from ha2'.out] at this;omega)))
        have hfin':=bH hfin;clear hfin
        have hv1:(a2==(q:Int))=false:=by simpa using hv
        have hv2:(a2 != (q:Int))=true:=by simpa using hv
        go_wp2_with fail
        go_ret2
        exact hfin'.out
  ·obtain rfl:at_=ts.length:=by omega
   have hcl:=hrow.out.cell (i:=ts.length-1) (by omega)
   rw[if_pos (by omega:ts.length-1<ts.length)] at hcl
   have h1':(0:Int)<(ts.length:Int):=by omega
   go_wp2_with fail
   go_quiet (fail)
   go_wp2_with fail
   go_ret2
   refine⟨.slice (some ⟨w.heap.size,0,none⟩) ts.length ts.length, ?_,below_drewN hbw nq⟩
   have e0:decide (0<ts.length)=true:=decide_eq_true h1
   rw[e0,Bool.true_and];rfl
open Go.RowKit
def okNd (ok:Nd→Bool) (t:Nd):Bool:=plainB t.k t.a t.b t.c t.n t.nm t.x t.y t.z && decide (0≤t.p) && decide (t.p≤4096) && numB t.k t.n && ok t
def treeV (ok:Nd→Bool) (ts:List Nd):Bool:=decide (1≤ts.length∧ts.length≤512) && ts.all (okNd ok) && decide (bg (ksN ts) (ts.length-1)=0)
theorem treeV_node (ok:Nd→Bool) (ts:List Nd) (j:Nat) (h:j<ts.length) (hn:okNd ok (ts.getD j nd0)=false):treeV ok ts=false:=by
 have:ts.all (okNd ok)=false:=by
  cases hc:ts.all (okNd ok)
  ·rfl
  ·rw[List.all_eq_true] at hc
   have:=hc (ts.getD j nd0) (by simp[h])
   rw[this] at hn;cases hn
 unfold treeV;rw[this];simp
theorem treeV_len (ok:Nd→Bool) (ts:List Nd) (h:ts.length=0∨512<ts.length):treeV ok ts=false:=by
 unfold treeV;rw[decide_eq_false (by omega)];simp
theorem treeV_ok (ok:Nd→Bool) (ts:List Nd) (h0:0<ts.length) (h1:ts.length≤512) (h:ts.all (okNd ok)=true):treeV ok ts=(decide (0<ts.length) && decide (bg (ksN ts) (ts.length-1)=0)):=by
 unfold treeV;rw[h,decide_eq_true (by omega),decide_eq_true h0];simp
theorem tree_nil (F:Nat) (p:Option Addr) (c:Nat) (w:World) :
  Calls Tryz.prog 75 #[.slice p 0 c, .func (.func F) #[] #[]] w fun e w'=>e= .returned (.bool false)∧Below w.heap.size w w':=by
 go_enter Tryz.func75,Tryz.ntmps75
 go_wp2_with fail
 go_ret
 exact⟨rfl,bZ⟩
theorem getN_mem {ts:List Nd} {j:Nat} (hj:j<ts.length):ts.getD j nd0∈ts:=by
 rw[List.getD_eq_getElem?_getD,List.getElem?_eq_getElem hj];exact List.getElem_mem hj
theorem isTree_any (F:Nat) (ok:Nd→Bool) (kF:Hid (∀(xs:Array Value) (W:World),(callFunc F xs).run Tryz.prog W= .ok (.enter F xs) W)) (kR:Hid (∀(t:Nd) (W:World),NdSz t→errTy W→Calls Tryz.prog F #[.agg #[.int .i64 t.k, .int .i64 t.a, .int .i64 t.b, .int .i64 t.c, .int .i64 t.n, .string t.nm, .string t.x, .string t.y, .string t.z, .int .i64 t.p]] W fun e w'=>e= .returned (.bool (ok t))∧Below W.heap.size W w'))
  (b off cp:Nat) (ts:List Nd) (w:World) (h:Hid (NdSl w b off ts)) (hsz:Hid (∀t∈ts,NdSz t)) (hbs:b<w.heap.size) (hl:ts.length≤140737488351232) (hg:Hid (errTy w)) :
  Calls Tryz.prog 75 #[.slice (some ⟨b,off,none⟩) ts.length cp, .func (.func F) #[] #[]] w fun e w'=>e= .returned (.bool (treeV ok ts))∧Below w.heap.size w w':=by
 by_cases h0:ts.length=0
 ·have hv:=bH (treeV_len ok ts (.inl h0))
  have h0':((ts.length:Int)==0)=true:=by rw[beq_iff_eq];omega
  have h0'':=bH h0;clear h0
  go_enter Tryz.func75,Tryz.ntmps75
  go_wp2_with fail
  go_ret
  exact⟨ret_b hv.out.symm,bZ⟩
 have h0':((ts.length:Int)==0)=false:=by rw[beq_eq_false_iff_ne];omega
 by_cases h1:512<ts.length
 ·have hv:=bH (treeV_len ok ts (.inr h1))
  go_enter Tryz.func75,Tryz.ntmps75
  go_wp2_with fail
  go_ret
  exact⟨ret_b hv.out.symm,bZ⟩
 have hfin:Hid (∀j,j<ts.length→okNd ok (ts.getD j nd0)=false→treeV ok ts=false):=bH (treeV_node ok ts)
 have hokv:Hid (ts.all (okNd ok)=true→treeV ok ts=(decide (0<ts.length) && decide (bg (ksN ts) (ts.length-1)=0))):=bH (treeV_ok ok ts (by omega) (by omega))
 have h0l:=hgl hg.out
 go_enter Tryz.func75,Tryz.ntmps75
 go_wp2_with fail
 go_loopw [19] (fun i wr=> ∃j:Nat,j≤ts.length∧i= .int .i64 j∧Below w.heap.size w wr∧Hid ((ts.take j).all (okNd ok)=true)∧wr.cell? ⟨w.heap.size,0,none⟩=some (.slice (some ⟨b,off,none⟩) ts.length cp)∧w.heap.size<wr.heap.size) (fun i _=>ts.length-(intOf i).toNat)
 case atStart=>exact⟨0,by omega,rfl,bZ,bH rfl,by simp,by simp⟩
 case round=>
  obtain⟨j,hj,rfl,hbw,hall,hcell,hws⟩:=hrel
  by_cases hlt:j<ts.length
  ·have hT:=(h.out j hlt).below hbw hbs
   have htk:Hid ((ts.take (j+1)).all (okNd ok)=((ts.take j).all (okNd ok) && okNd ok (ts.getD j nd0))):=bH (allT_take ts nd0 (okNd ok) j hlt)
   have hfj:Hid (okNd ok (ts.getD j nd0)=false→treeV ok ts=false):=bH (hfin.out j hlt)
   have hsj:Hid (NdSz (ts.getD j nd0)):=bH (hsz.out _ (getN_mem hlt))
   generalize ts.getD j nd0=t at hT htk hfj hsj
   obtain⟨e0,e1,e2,e3,e4,e5,e6,e7,e8,e9⟩:=hT
   have hbr:b<wr.heap.size:=by have:=hbw.size;omega
   have hgr:=bH (errTy_below hg.out hbw)
   go_wp2_with fail
   refine(isPlain_any _ _ _ _ _ _ _ _ _ _ _).mono ?_
   rintro e w1 ⟨rfl,hb1⟩
   have hbw1:=bH (belT (belT hbw (bZ)) hb1)
   have q9:w1.cell? ⟨wr.heap.size,9,none⟩=some (.int .i64 t.p):=carry hb1 (by simp) (by simp)
   have q0:w1.cell? ⟨wr.heap.size,0,none⟩=some (.int .i64 t.k):=carry hb1 (by simp) (by simp)
   have q1:w1.cell? ⟨wr.heap.size,1,none⟩=some (.int .i64 t.a):=carry hb1 (by simp) (by simp)
   have q2:w1.cell? ⟨wr.heap.size,2,none⟩=some (.int .i64 t.b):=carry hb1 (by simp) (by simp)
   have q3:w1.cell? ⟨wr.heap.size,3,none⟩=some (.int .i64 t.c):=carry hb1 (by simp) (by simp)
   have q4:w1.cell? ⟨wr.heap.size,4,none⟩=some (.int .i64 t.n):=carry hb1 (by simp) (by simp)
   have q5:w1.cell? ⟨wr.heap.size,5,none⟩=some (.string t.nm):=carry hb1 (by simp) (by simp)
   have q6:w1.cell? ⟨wr.heap.size,6,none⟩=some (.string t.x):=carry hb1 (by simp) (by simp)
   have q7:w1.cell? ⟨wr.heap.size,7,none⟩=some (.string t.y):=carry hb1 (by simp) (by simp)
   have q8:w1.cell? ⟨wr.heap.size,8,none⟩=some (.string t.z):=carry hb1 (by simp) (by simp)
   have qc:w1.cell? ⟨w.heap.size,0,none⟩=some (.slice (some ⟨b,off,none⟩) ts.length cp):=carry hb1 (by(try simp);omega) (by first|(simp[hcell,hws];done)|(rw[World.cell?_alloc_past _ _ _ hws];exact hcell)|exact hcell)
   have hz1:wr.heap.size<w1.heap.size:=by have:=hb1.size;(try simp at this);omega
   clear hb1 hcell e0 e1 e2 e3 e4 e5 e6 e7 e8 e9
   cases hp:plainB t.k t.a t.b t.c t.n t.nm t.x t.y t.z
   ·have hf:=bH (hfj.out (by unfold okNd;rw[hp];rfl));clear hp
    go_wp2_with fail
    go_ret
    exact⟨ret_b hf.out.symm,hbw1.out⟩
   have hp':=bH hp;clear hp
   by_cases hp0:t.p<0
   ·have hf:=bH (hfj.out (by unfold okNd;rw[hp'.out,decide_eq_false (by omega)];rfl))
    go_wp2_with fail
    go_ret
    exact⟨ret_b hf.out.symm,hbw1.out⟩
   by_cases hp1:4096<t.p
   ·have hf:=bH (hfj.out (by unfold okNd;rw[hp'.out,decide_eq_true (by omega:0≤t.p),decide_eq_false (by omega)];rfl))
    go_wp2_with fail
    go_ret
    exact⟨ret_b hf.out.symm,hbw1.out⟩
   have hpp:Hid (plainB t.k t.a t.b t.c t.n t.nm t.x t.y t.z && decide (0≤t.p) && decide (t.p≤4096)):=bH (by rw[hp'.out,decide_eq_true (by omega:0≤t.p),decide_eq_true (by omega:t.p≤4096)];rfl)
   go_wp2_with fail
   refine(isNum_any _ _ _ _ _ _ _ _ _ _ _).mono ?_
   rintro e w2 ⟨rfl,hb2⟩
   have hbw2:=bH (belT hbw1.out hb2)
   have q9:=carry hb2 hz1 q9
   have q0:=carry hb2 hz1 q0
   have q1:=carry hb2 hz1 q1
   have q2:=carry hb2 hz1 q2
   have q3:=carry hb2 hz1 q3
   have q4:=carry hb2 hz1 q4
   have q5:=carry hb2 hz1 q5
   have q6:=carry hb2 hz1 q6
   have q7:=carry hb2 hz1 q7
   have q8:=carry hb2 hz1 q8
   have qc:=carry hb2 (by omega) qc
   have hz2:wr.heap.size<w2.heap.size:=by have:=hb2.size;omega
   clear hb2
   cases hn:numB t.k t.n
   ·have hf:=bH (hfj.out (by unfold okNd;rw[hpp.out,hn];rfl));clear hn
    go_wp2_with fail
    go_ret
    exact⟨ret_b hf.out.symm,hbw2.out⟩
   have hn':=bH hn;clear hn
   have hg2:=bH (errTy_below hg.out hbw2.out)
   have kF':=kF.out
   go_wp2_with fail
   refine(kR.out t _ hsj.out hg2.out).mono ?_
   rintro e w3 ⟨rfl,hb3⟩
   have hbw3:=bH (belT hbw2.out hb3)
   have qc:=carry hb3 (by omega) qc
   have hz3:wr.heap.size<w3.heap.size:=by have:=hb3.size;omega
   clear hb3
   cases hm:ok t
   ·have hf:=bH (hfj.out (by unfold okNd;rw[hpp.out,hn'.out,hm];rfl));clear hm
    go_wp2_with fail
    go_ret
    exact⟨ret_b hf.out.symm,hbw3.out⟩
   have hm':=bH hm;clear hm
   go_wp2_with fail
   go_round
   case rel=>exact⟨j+1,by omega,by go_num,hbw3.out,bH (by rw[htk.out,hall.out];unfold okNd;rw[hpp.out,hn'.out,hm'.out];rfl),qc,by omega⟩
   case measure=>simp[intOf];omega
  ·have hval:Hid (treeV ok ts=(decide (0<ts.length) && decide (bg (ksN ts) (ts.length-1)=0))):=bH (hokv.out (by have:=hall.out;rwa [List.take_of_length_le (by omega)] at this))
   go_wp2_with fail
   refine(begins_any b off cp w.heap.size ts _ hcell (bH (h.out.below hbw hbs)) (by omega) (by omega)).mono ?_
   rintro e w1 ⟨v,rfl,hb1⟩
   rw[← hval.out]
   go_wp2_with fail
   go_ret
   exact⟨rfl,belT hbw hb1⟩
end Go.Proofs.YthpcbgljbpmafaaGreatDoor
