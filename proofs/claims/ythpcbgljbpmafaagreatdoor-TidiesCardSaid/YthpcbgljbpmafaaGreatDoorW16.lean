/- The reference's fields at any node. -/
import Derived.Test.YthpcbgljbpmafaaGreatDoorW5
import Derived.Test.YthpcbgljbpmafaaGreatDoorW9
import Derived.Test.YthpcbgljbpmafaaGreatDoorW12
import Derived.Test.YthpcbgljbpmafaaGreatDoorW13
import Derived.Test.YthpcbgljbpmafaaGreatDoorW14
import Derived.Test.YthpcbgljbpmafaaGreatDoorW15
import Derived.Laws.AppendOwn
import Derived.Laws.OwnMore
import Derived.Test.YthpcbgljbpmafaaGreatDoorChecked
set_option maxRecDepth 100000
set_option maxHeartbeats 8000000
namespace Go.Proofs.YthpcbgljbpmafaaGreatDoor
open Go.RowKit
set_option linter.unusedVariables false
set_option linter.unusedSimpArgs false
theorem boundX (kd:Int) (hk:kd<0∨10<kd) (a b c nm at_:Int) (s1 s2 s3 s4:ByteArray) (v:Value) (w:World) :
  Calls Tryz.prog 86 #[.agg #[.int .i64 kd, .int .i64 a, .int .i64 b, .int .i64 c, .int .i64 nm, .string s1, .string s2, .string s3, .string s4, .int .i64 at_],v] w fun e w'=>e= .returned (.bool true)∧Below w.heap.size w w':=by
 have b0:(kd==0)=false:=beq_eq_false_iff_ne.2 (by omega)
 have b1:(kd==1)=false:=beq_eq_false_iff_ne.2 (by omega)
 have b2:(kd==2)=false:=beq_eq_false_iff_ne.2 (by omega)
 have b3:(kd==3)=false:=beq_eq_false_iff_ne.2 (by omega)
 have b4:(kd==4)=false:=beq_eq_false_iff_ne.2 (by omega)
 have b5:(kd==5)=false:=beq_eq_false_iff_ne.2 (by omega)
 have b6:(kd==6)=false:=beq_eq_false_iff_ne.2 (by omega)
 have b7:(kd==7)=false:=beq_eq_false_iff_ne.2 (by omega)
 have b8:(kd==8)=false:=beq_eq_false_iff_ne.2 (by omega)
 have b9:(kd==9)=false:=beq_eq_false_iff_ne.2 (by omega)
 have b10:(kd==10)=false:=beq_eq_false_iff_ne.2 (by omega)
 clear hk
 go_enter Tryz.func86,Tryz.ntmps86
 go_wp2_with fail
 go_ret
 exact⟨rfl,bZ⟩
theorem okF_X (named:Bool) (kd:Int) (hk:kd<0∨10<kd) (a b c nm at_:Int) (s1 s2 s3 s4:ByteArray):okF named kd a b c nm s1 s2 s3 s4 at_=false:=by
 unfold okF plainB
 rw[if_neg (by omega),if_neg (by omega),if_neg (by omega),if_neg (by omega),if_neg (by omega),if_neg (by omega),if_neg (by omega),if_neg (by omega),if_neg (by omega)]
 rw[show decide (kd=10)=false from decide_eq_false (by omega)];simp
theorem kidsI_X (kd:Int) (hk:kd<0∨10<kd):kidsI kd= -1:=by
 unfold kidsI
 (repeat' rw[if_neg (by omega)])
theorem fieldsX (named:Bool) (kd:Int) (hk:kd<0∨10<kd) (a b c nm at_:Int) (s1 s2 s3 s4:ByteArray) (w:World) :
  Calls Tryz.prog 63 #[.agg #[.int .i64 kd, .int .i64 a, .int .i64 b, .int .i64 c, .int .i64 nm, .string s1, .string s2, .string s3, .string s4, .int .i64 at_], .bool named] w fun e w'=>e= .returned (.bool (okF named kd a b c nm s1 s2 s3 s4 at_))∧Below w.heap.size w w':=by
 rw[okF_X named kd hk]
 have kK:=bH fun (W:World)=>kids_any kd W
 rw[kidsI_X kd hk] at kK
 have kB:=bH fun (v:Value) (W:World)=>boundX kd hk a b c nm at_ s1 s2 s3 s4 v W
 have b0:(kd==0)=false:=beq_eq_false_iff_ne.2 (by omega)
 have b1:(kd==1)=false:=beq_eq_false_iff_ne.2 (by omega)
 have b2:(kd==2)=false:=beq_eq_false_iff_ne.2 (by omega)
 have b3:(kd==3)=false:=beq_eq_false_iff_ne.2 (by omega)
 have b4:(kd==4)=false:=beq_eq_false_iff_ne.2 (by omega)
 have b5:(kd==5)=false:=beq_eq_false_iff_ne.2 (by omega)
 have b6:(kd==6)=false:=beq_eq_false_iff_ne.2 (by omega)
 have b7:(kd==7)=false:=beq_eq_false_iff_ne.2 (by omega)
 have b8:(kd==8)=false:=beq_eq_false_iff_ne.2 (by omega)
 have b9:(kd==9)=false:=beq_eq_false_iff_ne.2 (by omega)
 have b10:(kd==10)=false:=beq_eq_false_iff_ne.2 (by omega)
 clear hk
 cases named
 all_goals
  go_enter Tryz.func63,Tryz.ntmps63
  go_wp2_with fail
  refine(kK.out _).mono ?_
  rintro e w1 ⟨rfl,hb1⟩
  have hB1:=bH (belT (show Below w.heap.size w _ from bZ) hb1)
  have q0:w1.cell? ⟨w.heap.size,0,none⟩=some (.int .i64 kd):=carry hb1 (by first|(simp;done)|(simp;omega)) (by simp)
  have q1:w1.cell? ⟨w.heap.size,1,none⟩=some (.int .i64 a):=carry hb1 (by first|(simp;done)|(simp;omega)) (by simp)
  have q2:w1.cell? ⟨w.heap.size,2,none⟩=some (.int .i64 b):=carry hb1 (by first|(simp;done)|(simp;omega)) (by simp)
  have q3:w1.cell? ⟨w.heap.size,3,none⟩=some (.int .i64 c):=carry hb1 (by first|(simp;done)|(simp;omega)) (by simp)
  have q4:w1.cell? ⟨w.heap.size,4,none⟩=some (.int .i64 nm):=carry hb1 (by first|(simp;done)|(simp;omega)) (by simp)
  have q5:w1.cell? ⟨w.heap.size,5,none⟩=some (.string s1):=carry hb1 (by first|(simp;done)|(simp;omega)) (by simp)
  have q6:w1.cell? ⟨w.heap.size,6,none⟩=some (.string s2):=carry hb1 (by first|(simp;done)|(simp;omega)) (by simp)
  have q7:w1.cell? ⟨w.heap.size,7,none⟩=some (.string s3):=carry hb1 (by first|(simp;done)|(simp;omega)) (by simp)
  have q8:w1.cell? ⟨w.heap.size,8,none⟩=some (.string s4):=carry hb1 (by first|(simp;done)|(simp;omega)) (by simp)
  have q9:w1.cell? ⟨w.heap.size,9,none⟩=some (.int .i64 at_):=carry hb1 (by first|(simp;done)|(simp;omega)) (by simp)
  have hs1:w.heap.size+1<w1.heap.size:=by have:=hb1.size;(try simp at this);omega
  clear hb1
  go_wp2_with fail
 ·go_ret
  exact⟨rfl,hB1.out⟩
 ·refine(kB.out _ _).mono ?_
  rintro e w2 ⟨rfl,hb2⟩
  have hB2:=bH (belT hB1.out hb2)
  clear hb2
  go_wp2_with fail
  go_ret
  exact⟨rfl,hB2.out⟩
theorem fields_any (named:Bool) (kd:Int) (a b c nm at_:Int) (s1 s2 s3 s4:ByteArray) (w:World) (hz:s1.size≤1125899906842624∧s2.size≤1125899906842624∧s3.size≤1125899906842624∧s4.size≤1125899906842624) :
  Calls Tryz.prog 63 #[.agg #[.int .i64 kd, .int .i64 a, .int .i64 b, .int .i64 c, .int .i64 nm, .string s1, .string s2, .string s3, .string s4, .int .i64 at_], .bool named] w fun e w'=>e= .returned (.bool (okF named kd a b c nm s1 s2 s3 s4 at_))∧Below w.heap.size w w':=by
 by_cases hk:kd<0∨10<kd
 ·exact fieldsX named kd hk a b c nm at_ s1 s2 s3 s4 w
 have h11:kd=0∨kd=1∨kd=2∨kd=3∨kd=4∨kd=5∨kd=6∨kd=7∨kd=8∨kd=9∨kd=10:=by omega
 rcases h11 with rfl|rfl|rfl|rfl|rfl|rfl|rfl|rfl|rfl|rfl|rfl<;>cases named
 ·exact fields0r a b c nm at_ s1 s2 s3 s4 w hz
 ·exact fields0n a b c nm at_ s1 s2 s3 s4 w hz
 ·exact fields1r a b c nm at_ s1 s2 s3 s4 w hz
 ·exact fields1n a b c nm at_ s1 s2 s3 s4 w hz
 ·exact fields2r a b c nm at_ s1 s2 s3 s4 w hz
 ·exact fields2n a b c nm at_ s1 s2 s3 s4 w hz
 ·exact fields3r a b c nm at_ s1 s2 s3 s4 w hz
 ·exact fields3n a b c nm at_ s1 s2 s3 s4 w hz
 ·exact fields4r a b c nm at_ s1 s2 s3 s4 w hz
 ·exact fields4n a b c nm at_ s1 s2 s3 s4 w hz
 ·exact fields5r a b c nm at_ s1 s2 s3 s4 w hz
 ·exact fields5n a b c nm at_ s1 s2 s3 s4 w hz
 ·exact fields6r a b c nm at_ s1 s2 s3 s4 w hz
 ·exact fields6n a b c nm at_ s1 s2 s3 s4 w hz
 ·exact fields7r a b c nm at_ s1 s2 s3 s4 w hz
 ·exact fields7n a b c nm at_ s1 s2 s3 s4 w hz
 ·exact fields8r a b c nm at_ s1 s2 s3 s4 w hz
 ·exact fields8n a b c nm at_ s1 s2 s3 s4 w hz
 ·exact fields9r a b c nm at_ s1 s2 s3 s4 w hz
 ·exact fields9n a b c nm at_ s1 s2 s3 s4 w hz
 ·exact fields10r a b c nm at_ s1 s2 s3 s4 w hz
 ·exact fields10n a b c nm at_ s1 s2 s3 s4 w hz
open Go.RowKit
def okNm (named:Bool) (t:Nd):Bool:=if named then namedB t.k t.n (namesL t.k t.nm t.x t.y t.z) else resB (namesL t.k t.nm t.x t.y t.z)
theorem okNd_F (named:Bool) (t:Nd):okNd (okNm named) t=(okF named t.k t.a t.b t.c t.n t.nm t.x t.y t.z t.p && numB t.k t.n):=by
 unfold okNd okF okNm
 cases plainB t.k t.a t.b t.c t.n t.nm t.x t.y t.z<;>cases decide (0≤t.p)<;>cases decide (t.p≤4096)<;>cases numB t.k t.n<;>simp
theorem kNamed:Hid (∀(t:Nd) (W:World),NdSz t→errTy W→Calls Tryz.prog 76 #[.agg #[.int .i64 t.k, .int .i64 t.a, .int .i64 t.b, .int .i64 t.c, .int .i64 t.n, .string t.nm, .string t.x, .string t.y, .string t.z, .int .i64 t.p]] W fun e w'=>e= .returned (.bool (okNm true t))∧Below W.heap.size W w'):=
 bH fun t W hz hg=>named_any t.k t.a t.b t.c t.n t.p t.nm t.x t.y t.z W hz hg
theorem kRes:Hid (∀(t:Nd) (W:World),NdSz t→errTy W→Calls Tryz.prog 79 #[.agg #[.int .i64 t.k, .int .i64 t.a, .int .i64 t.b, .int .i64 t.c, .int .i64 t.n, .string t.nm, .string t.x, .string t.y, .string t.z, .int .i64 t.p]] W fun e w'=>e= .returned (.bool (okNm false t))∧Below W.heap.size W w'):=
 bH fun t W hz hg=>resolved_any t.k t.a t.b t.c t.n t.p t.nm t.x t.y t.z W
theorem cfNamed (xs:Array Value) (W:World):(callFunc 76 xs).run Tryz.prog W= .ok (.enter 76 xs) W:=by kernel_rfl
theorem cfRes (xs:Array Value) (W:World):(callFunc 79 xs).run Tryz.prog W= .ok (.enter 79 xs) W:=by kernel_rfl
theorem treeV_nil (ok:Nd→Bool):treeV ok []=false:=treeV_len ok [] (.inl rfl)
theorem isTreeN_any (a:Option Addr) (n c:Nat) (ts:List Nd) (w:World) (h:Hid (NArg w a n ts)) (hsz:Hid (∀t∈ts,NdSz t)) (hl:n≤140737488351232) (hg:Hid (errTy w)) :
  Calls Tryz.prog 75 #[.slice a n c, .func (.func 76) #[] #[]] w fun e w'=>e= .returned (.bool (treeV (okNm true) ts))∧Below w.heap.size w w':=by
 obtain⟨rfl,rfl|⟨b,off,rfl,h1,h2⟩⟩:=h.out
 ·rw[treeV_nil];exact tree_nil _ a c w
 ·exact isTree_any _ _ (bH cfNamed) kNamed b off c ts w (bH h1) hsz h2 hl hg
theorem isTreeR_any (a:Option Addr) (n c:Nat) (ts:List Nd) (w:World) (h:Hid (NArg w a n ts)) (hsz:Hid (∀t∈ts,NdSz t)) (hl:n≤140737488351232) (hg:Hid (errTy w)) :
  Calls Tryz.prog 75 #[.slice a n c, .func (.func 79) #[] #[]] w fun e w'=>e= .returned (.bool (treeV (okNm false) ts))∧Below w.heap.size w w':=by
 obtain⟨rfl,rfl|⟨b,off,rfl,h1,h2⟩⟩:=h.out
 ·rw[treeV_nil];exact tree_nil _ a c w
 ·exact isTree_any _ _ (bH cfRes) kRes b off c ts w (bH h1) hsz h2 hl hg
theorem shaped_nil (nmd:Bool) (p:Option Addr) (c:Nat) (w:World) :
  Calls Tryz.prog 42 #[.slice p 0 c, .bool nmd] w fun e w'=>e= .returned (.bool false)∧Below w.heap.size w w':=by
 go_enter Tryz.func42,Tryz.ntmps42
 go_wp2_with fail
 go_ret
 exact⟨rfl,bZ⟩
theorem shaped_sl (nmd:Bool) (b off cp:Nat) (ts:List Nd) (w:World) (h:Hid (NdSl w b off ts)) (hsz:Hid (∀t∈ts,NdSz t)) (hbs:b<w.heap.size) (hl:ts.length≤140737488351232) :
  Calls Tryz.prog 42 #[.slice (some ⟨b,off,none⟩) ts.length cp, .bool nmd] w fun e w'=>e= .returned (.bool (treeV (okNm nmd) ts))∧Below w.heap.size w w':=by
 by_cases h0:ts.length=0
 ·have hv:=bH (treeV_len (okNm nmd) ts (.inl h0))
  have h0':(ts.length:Int)<1:=by omega
  have h0'':=bH h0;clear h0
  go_enter Tryz.func42,Tryz.ntmps42
  go_wp2_with fail
  go_ret
  exact⟨ret_b hv.out.symm,bZ⟩
 have h0' : ¬ (ts.length:Int)<1:=by omega
 by_cases h1:512<ts.length
 ·have hv:=bH (treeV_len (okNm nmd) ts (.inr h1))
  have h1':(512:Int)<(ts.length:Int):=by omega
  go_enter Tryz.func42,Tryz.ntmps42
  go_wp2_with fail
  go_ret
  exact⟨ret_b hv.out.symm,bZ⟩
 have h1' : ¬ (512:Int)<(ts.length:Int):=by omega
 have hfin:Hid (∀j,j<ts.length→okNd (okNm nmd) (ts.getD j nd0)=false→treeV (okNm nmd) ts=false):=bH (treeV_node (okNm nmd) ts)
 have hokv:Hid (ts.all (okNd (okNm nmd))=true→treeV (okNm nmd) ts=(decide (0<ts.length) && decide (bg (ksN ts) (ts.length-1)=0))):=bH (treeV_ok (okNm nmd) ts (by omega) (by omega))
 go_enter Tryz.func42,Tryz.ntmps42
 go_wp2_with fail
 go_loopw [5] (fun i wr=> ∃j:Nat,j≤ts.length∧i= .int .i64 j∧Below w.heap.size w wr∧Hid ((ts.take j).all (okNd (okNm nmd))=true)) (fun i _=>ts.length-(intOf i).toNat)
 case atStart=>exact⟨0,by omega,rfl,bZ,bH rfl⟩
 case round=>
  obtain⟨j,hj,rfl,hbw,hall⟩:=hrel
  by_cases hlt:j<ts.length
  ·have hT:=(h.out j hlt).below hbw hbs
   have htk:Hid ((ts.take (j+1)).all (okNd (okNm nmd))=((ts.take j).all (okNd (okNm nmd)) && okNd (okNm nmd) (ts.getD j nd0))):=bH (allT_take ts nd0 (okNd (okNm nmd)) j hlt)
   have hfj:Hid (okNd (okNm nmd) (ts.getD j nd0)=false→treeV (okNm nmd) ts=false):=bH (hfin.out j hlt)
   have hsj:Hid (NdSz (ts.getD j nd0)):=bH (hsz.out _ (getN_mem hlt))
   generalize ts.getD j nd0=t at hT htk hfj hsj
   have kF:=bH fun (W:World)=>fields_any nmd t.k t.a t.b t.c t.n t.p t.nm t.x t.y t.z W hsj.out
   have kN:=bH fun (W:World)=>nums_any t.k t.a t.b t.c t.n t.p t.nm t.x t.y t.z W
   have hok:=bH (okNd_F nmd t)
   generalize okF nmd t.k t.a t.b t.c t.n t.nm t.x t.y t.z t.p=bf at kF hok
   generalize numB t.k t.n=bn at kN hok
   obtain⟨e0,e1,e2,e3,e4,e5,e6,e7,e8,e9⟩:=hT
   have hbr:b<wr.heap.size:=by have:=hbw.size;omega
   have hlt':(j:Int)<(ts.length:Int):=by omega
   have hj0:(0:Int)≤(j:Int):=by omega
   go_wp2_with fail
   refine(kF.out _).mono ?_
   rintro e w1 ⟨rfl,hb1⟩
   have hbw1:=bH (belT hbw hb1)
   have d0:=carry hb1 hbr e0
   have d1:=carry hb1 hbr e1
   have d2:=carry hb1 hbr e2
   have d3:=carry hb1 hbr e3
   have d4:=carry hb1 hbr e4
   have d5:=carry hb1 hbr e5
   have d6:=carry hb1 hbr e6
   have d7:=carry hb1 hbr e7
   have d8:=carry hb1 hbr e8
   have d9:=carry hb1 hbr e9
   clear hb1 e0 e1 e2 e3 e4 e5 e6 e7 e8 e9
   cases bf
   ·have hf:=bH (hfj.out (by rw[hok.out];rfl))
    go_wp2_with fail
    go_ret
    exact⟨ret_b hf.out.symm,hbw1.out⟩
   go_wp2_with fail
   refine(kN.out _).mono ?_
   rintro e w2 ⟨rfl,hb2⟩
   have hbw2:=bH (belT hbw1.out hb2)
   clear hb2 d0 d1 d2 d3 d4 d5 d6 d7 d8 d9
   cases bn
   ·have hf:=bH (hfj.out (by rw[hok.out];rfl))
    go_wp2_with fail
    go_ret
    exact⟨ret_b hf.out.symm,hbw2.out⟩
   go_wp2_with fail
   go_round
   case rel=>exact⟨j+1,by omega,by go_num,hbw2.out,bH (by rw[htk.out,hall.out,hok.out];rfl)⟩
   case measure=>simp[intOf];omega
  ·have hval:Hid (treeV (okNm nmd) ts=(decide (0<ts.length) && decide (bg (ksN ts) (ts.length-1)=0))):=bH (hokv.out (by have:=hall.out;rwa [List.take_of_length_le (by omega)] at this))
   have kB:=bH fun (W:World) (hW:Hid (NdSl W b off ts)) (hbW:b<W.heap.size)=>(show Calls Tryz.prog 65 #[.slice (some ⟨b,off,none⟩) ts.length cp, .int .i64 ((ts.length:Int)-1)] W fun e w'=>e= .returned (.int .i64 (bg (ksN ts) (ts.length-1)))∧Below W.heap.size W w' from by
    rw[show (ts.length:Int)-1=((ts.length-1:Nat):Int) by omega]
    exact rbegin_any b off cp ts hl ts.length (ts.length-1) W (by omega) (by omega) hW hbW)
   obtain⟨R,hR⟩ : ∃r,bg (ksN ts) (ts.length-1)=r:=⟨_,rfl⟩
   rw[hR] at kB hval
   have hjl : ¬ (j:Int)<(ts.length:Int):=by omega
   clear hR
   go_wp2_with fail
   refine(kB.out _ (bH (h.out.below hbw hbs)) (by have:=hbw.size;omega)).mono ?_
   rintro e w1 ⟨rfl,hb1⟩
   have hbw1:=bH (belT hbw hb1)
   clear hb1
   go_wp2_with fail
   go_ret
   exact⟨ret_b (by rw[hval.out,decide_eq_true (by omega:0<ts.length),Bool.true_and,Bool.eq_iff_iff];simp),hbw1.out⟩
theorem shaped_any (nmd:Bool) (a:Option Addr) (n c:Nat) (ts:List Nd) (w:World) (h:Hid (NArg w a n ts)) (hsz:Hid (∀t∈ts,NdSz t)) (hl:n≤140737488351232) :
  Calls Tryz.prog 42 #[.slice a n c, .bool nmd] w fun e w'=>e= .returned (.bool (treeV (okNm nmd) ts))∧Below w.heap.size w w':=by
 obtain⟨rfl,rfl|⟨b,off,rfl,h1,h2⟩⟩:=h.out
 ·rw[treeV_nil];exact shaped_nil nmd a c w
 ·exact shaped_sl nmd b off c ts w (bH h1) hsz h2 hl
open Go.RowKit
def anyV (ts:List Nd):Bool:=treeV (okNm true) ts || treeV (okNm false) ts
def hasV (ts:List Nd) (at_:Int):Bool:=decide (0≤at_∧at_<ts.length) && anyV ts
def depV (ts:List Nd) (at_:Int):Int × Int:=if hasV ts at_ then (dp (ksN ts) at_.toNat,0) else (0,300)
theorem anyV_wf {ts:List Nd} (h:anyV ts=true):ts.length≤512∧0<ts.length∧bg (ksN ts) (ts.length-1)=0∧ ∀m,m<ts.length→0≤bg (ksN ts) m:=by
 unfold anyV treeV at h
 simp only[Bool.or_eq_true,Bool.and_eq_true,decide_eq_true_eq] at h
 have hb:bg (ksN ts) (ts.length-1)=0:=by rcases h with ⟨_,h⟩|⟨_,h⟩<;>exact h
 have hl:1≤ts.length∧ts.length≤512:=by rcases h with ⟨⟨h,_⟩,_⟩|⟨⟨h,_⟩,_⟩<;>exact h
 exact⟨hl.2,by omega,hb,fun m hm=>bg_all hb m (by omega)⟩
theorem has_any (a:Option Addr) (n c:Nat) (ts:List Nd) (at_:Int) (w:World) (h:Hid (NArg w a n ts)) (hsz:Hid (∀t∈ts,NdSz t)) (hl:n≤140737488351232) (hg:Hid (errTy w)) :
  Calls Tryz.prog 57 #[.slice a n c, .int .i64 at_] w fun e w'=>e= .returned (.bool (hasV ts at_))∧Below w.heap.size w w':=by
 have hn:=h.out.1
 by_cases h0:at_<0
 ·have hv:Hid (hasV ts at_=false):=bH (by unfold hasV;rw[decide_eq_false (by omega)];rfl)
  clear hn
  go_enter Tryz.func57,Tryz.ntmps57
  go_wp2_with fail
  go_ret
  exact⟨ret_b hv.out.symm,bZ⟩
 by_cases h1:at_<(n:Int)
 case neg=>
  have hv:Hid (hasV ts at_=false):=bH (by unfold hasV;rw[decide_eq_false (by omega)];rfl)
  clear hn
  go_enter Tryz.func57,Tryz.ntmps57
  go_wp2_with fail
  go_ret
  exact⟨ret_b hv.out.symm,bZ⟩
 have hv:Hid (hasV ts at_=(treeV (okNm true) ts || treeV (okNm false) ts)):=bH (by unfold hasV anyV;rw[decide_eq_true (by omega),Bool.true_and])
 have k1:=bH fun (W:World) (hW:Hid (NArg W a n ts)) (hg:Hid (errTy W))=>isTreeN_any a n c ts W hW hsz hl hg
 have k2:=bH fun (W:World) (hW:Hid (NArg W a n ts)) (hg:Hid (errTy W))=>isTreeR_any a n c ts W hW hsz hl hg
 rw[hv.out]
 clear hv hn
 generalize treeV (okNm true) ts=b1 at k1 ⊢
 generalize treeV (okNm false) ts=b2 at k2 ⊢
 go_enter Tryz.func57,Tryz.ntmps57
 go_wp2_with fail
 refine(k1.out _ h hg).mono ?_
 rintro e w1 ⟨rfl,hb1⟩
 have hb1':=bH hb1;clear hb1
 cases b1
 ·go_wp2_with fail
  refine(k2.out _ (bH (h.out.below hb1'.out)) (bH (errTy_below hg.out hb1'.out))).mono ?_
  rintro e w2 ⟨rfl,hb2⟩
  have hb2':=bH (belT hb1'.out hb2);clear hb2
  go_wp2_with fail
  go_ret
  exact⟨ret_b (by simp),hb2'.out⟩
 ·go_wp2_with fail
  go_ret
  exact⟨rfl,hb1'.out⟩
theorem depV_no {ts:List Nd} {at_:Int} (h:hasV ts at_=false):depV ts at_=(0,300):=by unfold depV;rw[h];rfl
theorem depV_yes {ts:List Nd} {at_:Int} (h:hasV ts at_=true):depV ts at_=(dp (ksN ts) at_.toNat,0):=by unfold depV;rw[h];rfl
theorem hasV_wf {ts:List Nd} {at_:Int} (h:hasV ts at_=true) : ∃k:Nat,at_=k∧k<ts.length∧ts.length≤512∧0≤bg (ksN ts) k∧ ∀m,m<ts.length→0≤bg (ksN ts) m:=by
 unfold hasV at h
 simp only[Bool.and_eq_true,decide_eq_true_eq] at h
 obtain⟨⟨h1,h2⟩,h3⟩:=h
 obtain⟨h4,h5,h6,h7⟩:=anyV_wf h3
 obtain⟨k,rfl⟩:=Int.eq_ofNat_of_zero_le h1
 exact⟨k,rfl,by omega,h4,h7 k (by omega),h7⟩
theorem tDepth_any (a:Option Addr) (n c:Nat) (ts:List Nd) (at_:Int) (w:World) (h:Hid (NArg w a n ts)) (hsz:Hid (∀t∈ts,NdSz t)) (hl:n≤140737488351232) (hg:Hid (errTy w)) :
  Calls Tryz.prog 36 #[.slice a n c, .int .i64 at_] w fun e w'=>e= .returned (.tuple #[.int .i64 (depV ts at_).1, .int .i64 (depV ts at_).2])∧Below w.heap.size w w':=by
 have k1:=bH fun (W:World) (hW:Hid (NArg W a n ts)) (hg:Hid (errTy W))=>has_any a n c ts at_ W hW hsz hl hg
 cases hh:hasV ts at_
 ·rw[depV_no hh]
  rw[hh] at k1
  clear hh
  go_enter Tryz.func36,Tryz.ntmps36
  go_wp2_with fail
  refine(k1.out _ h hg).mono ?_
  rintro e w1 ⟨rfl,hb1⟩
  have hb1':=bH hb1;clear hb1
  go_wp2_with fail
  go_ret2
  exact⟨rfl,hb1'.out⟩
 ·obtain⟨k,rfl,h1,h2,h3,_⟩:=hasV_wf hh
  rw[depV_yes hh]
  rw[hh] at k1
  obtain⟨rfl,h4⟩:=h.out
  obtain⟨b,off,rfl,h5,h6⟩ : ∃b off,a=some ⟨b,off,none⟩∧NdSl w b off ts∧b<w.heap.size:=by
   rcases h4 with rfl|h4
   ·simp at h1
   ·exact h4
  have k2:=bH fun (W:World) (hW:Hid (NdSl W b off ts)) (hb:b<W.heap.size)=>tdepth_any b off c ts h2 (k+1) k W (by omega) h1 h3 hW hb
  have h5':=bH h5
  rw[Int.toNat_natCast]
  generalize dp (ksN ts) k=D at k2 ⊢
  clear h5 h3 hh h4
  go_enter Tryz.func36,Tryz.ntmps36
  go_wp2_with fail
  refine(k1.out _ h hg).mono ?_
  rintro e w1 ⟨rfl,hb1⟩
  have hb1':=bH hb1;clear hb1
  go_wp2_with fail
  refine(k2.out _ (bH (h5'.out.below hb1'.out h6)) (by have:=hb1'.out.size;omega)).mono ?_
  rintro e w2 ⟨rfl,hb2⟩
  have hb2':=bH (belT hb1'.out hb2);clear hb2
  go_wp2_with fail
  go_ret2
  exact⟨rfl,hb2'.out⟩
open Go.RowKit
theorem infoNd:(Tryz.prog.info? 45).map (fun i=>(i.zero,i.size,i.bytes))=some (some (.agg #[.int .i64 0, .int .i64 0, .int .i64 0, .int .i64 0, .int .i64 0, .string ByteArray.empty, .string ByteArray.empty, .string ByteArray.empty, .string ByteArray.empty, .int .i64 0]),10,112):=by kernel_rfl
def ndL1 (t:Nd):List Value:=[.int .i64 t.k, .int .i64 t.a, .int .i64 t.b, .int .i64 t.c, .int .i64 t.n, .string t.nm, .string t.x, .string t.y, .string t.z, .int .i64 t.p]
def ndL (l:List Nd):List Value:=l.flatMap ndL1
theorem ndL_len (l:List Nd):(ndL l).length=l.length*10:=by
 induction l with
 | nil=>rfl
 | cons t l ih=>simp only[ndL,List.flatMap_cons,List.length_append,List.length_cons] at *;rw[ih];simp[ndL1];omega
theorem ndL_app (l m:List Nd):ndL (l++m)=ndL l++ndL m:=by simp[ndL]
theorem ndL_get : ∀(l:List Nd) (i k:Nat),k<10→(ndL l)[i*10+k]? = (l[i]?).bind fun t=>(ndL1 t)[k]?
 | [],i,k,_=>by simp[ndL]
 | t :: l,0,k,hk=>by
  simp only[ndL,List.flatMap_cons,Nat.zero_mul,Nat.zero_add]
  rw[List.getElem?_append_left (by simp[ndL1];omega)];rfl
 | t :: l,i+1,k,hk=>by
  have h:=ndL_get l i k hk
  simp only[ndL,List.flatMap_cons] at *
  rw[List.getElem?_append_right (by simp[ndL1];omega),show (i+1)*10+k-(ndL1 t).length=i*10+k by simp[ndL1];omega,h]
  simp
theorem ndL_one (l:List Nd) : ∀u∈ndL l,u.oneCell'=true:=by
 intro u hu
 unfold ndL at hu
 rw[List.mem_flatMap] at hu
 obtain⟨t,_,ht⟩:=hu
 unfold ndL1 at ht
 simp only[List.mem_cons,List.not_mem_nil,or_false] at ht
 rcases ht with rfl|rfl|rfl|rfl|rfl|rfl|rfl|rfl|rfl|rfl<;>rfl
theorem ndSl_of {w:World} {g off:Nat} {l:List Nd} (h : ∀j u,(ndL l)[j]? = some u→w.cell? ⟨g,off+j,none⟩=some u):NdSl w g off l:=by
 intro i hi
 have hg:l[i]? = some (l.getD i nd0):=by rw[List.getD_eq_getElem?_getD,List.getElem?_eq_getElem hi];rfl
 have k0:=h (i*10+0) (.int .i64 (l.getD i nd0).k) (by rw[ndL_get l i 0 (by omega),hg];rfl)
 have k1:=h (i*10+1) (.int .i64 (l.getD i nd0).a) (by rw[ndL_get l i 1 (by omega),hg];rfl)
 have k2:=h (i*10+2) (.int .i64 (l.getD i nd0).b) (by rw[ndL_get l i 2 (by omega),hg];rfl)
 have k3:=h (i*10+3) (.int .i64 (l.getD i nd0).c) (by rw[ndL_get l i 3 (by omega),hg];rfl)
 have k4:=h (i*10+4) (.int .i64 (l.getD i nd0).n) (by rw[ndL_get l i 4 (by omega),hg];rfl)
 have k5:=h (i*10+5) (.string (l.getD i nd0).nm) (by rw[ndL_get l i 5 (by omega),hg];rfl)
 have k6:=h (i*10+6) (.string (l.getD i nd0).x) (by rw[ndL_get l i 6 (by omega),hg];rfl)
 have k7:=h (i*10+7) (.string (l.getD i nd0).y) (by rw[ndL_get l i 7 (by omega),hg];rfl)
 have k8:=h (i*10+8) (.string (l.getD i nd0).z) (by rw[ndL_get l i 8 (by omega),hg];rfl)
 have k9:=h (i*10+9) (.int .i64 (l.getD i nd0).p) (by rw[ndL_get l i 9 (by omega),hg];rfl)
 exact⟨k0,k1,k2,k3,k4,k5,k6,k7,k8,k9⟩
theorem ndSl_get {w:World} {g off:Nat} {l:List Nd} (h:NdSl w g off l) : ∀j u,(ndL l)[j]? = some u→w.cell? ⟨g,off+j,none⟩=some u:=by
 intro j u hj
 have hjj:j=j / 10*10+j % 10:=by omega
 have hm:j % 10<10:=by omega
 generalize j / 10=i at hjj
 generalize j % 10=k at hjj hm
 subst hjj
 rw[ndL_get l i k hm] at hj
 cases hg:l[i]? with
 | none=>rw[hg] at hj;cases hj
 | some t=>
  rw[hg] at hj
  have hi:i<l.length:=(List.getElem?_eq_some_iff.1 hg).1
  have hT:=h i hi
  have ht:l.getD i nd0=t:=by rw[List.getD_eq_getElem?_getD,hg];rfl
  rw[ht] at hT
  obtain⟨e0,e1,e2,e3,e4,e5,e6,e7,e8,e9⟩:=hT
  rw[show off+(i*10+k)=off+i*10+k by omega]
  match k,hm with
  | 0,_=>simp[ndL1] at hj;subst hj;exact e0
  | 1,_=>simp[ndL1] at hj;subst hj;exact e1
  | 2,_=>simp[ndL1] at hj;subst hj;exact e2
  | 3,_=>simp[ndL1] at hj;subst hj;exact e3
  | 4,_=>simp[ndL1] at hj;subst hj;exact e4
  | 5,_=>simp[ndL1] at hj;subst hj;exact e5
  | 6,_=>simp[ndL1] at hj;subst hj;exact e6
  | 7,_=>simp[ndL1] at hj;subst hj;exact e7
  | 8,_=>simp[ndL1] at hj;subst hj;exact e8
  | 9,_=>simp[ndL1] at hj;subst hj;exact e9
def OwnN (B:Nat) (w:World) (v:Value) (l:List Nd):Prop:=w.ownsRow B 45 10 v l.length (ndL l)
theorem OwnN.nil (B:Nat) (w:World):OwnN B w (.slice none 0 0) []:=⟨rfl, .inl ⟨rfl,rfl⟩⟩
theorem OwnN.below {B:Nat} {w w1:World} {v:Value} {l:List Nd} (h:OwnN B w v l) (hb:Below w.heap.size w w1):OwnN B w1 v l:=owns_below h hb
theorem OwnN.fresh (w:World):OwnN w.heap.size (w.alloc (.cells #[] 45)) (.slice (some ⟨w.heap.size,0,none⟩) 0 0) []:=
 ⟨rfl, .inr ⟨w.heap.size,0, #[],rfl,Nat.le_refl _,by show (w.heap.push _)[w.heap.size]? = _;simp,Nat.le_refl _,by decide,rfl,rfl⟩⟩
theorem OwnN.cases {B:Nat} {w:World} {v:Value} {l:List Nd} (h:OwnN B w v l):(v= .slice none 0 0∧l=[]) ∨ ∃g c,v= .slice (some ⟨g,0,none⟩) l.length c∧B≤g∧g<w.heap.size∧l.length≤c∧NdSl w g 0 l∧ ∀o,w.frozen? ⟨g,o,none⟩=false:=by
 have hh:=h
 rcases h.2 with ⟨rfl,h0⟩|⟨g,cap,cur,rfl,hb,hg,hc,hm,hsz,htk⟩
 ·exact .inl ⟨rfl,List.eq_nil_of_length_eq_zero h0⟩
 ·refine .inr ⟨g,cap,rfl,hb,(Array.getElem?_eq_some_iff.1 hg).1,hc,ndSl_of fun j u hj=> ?_,fun o=>World.ownsRow.frozenAt hh o⟩
  have:=World.ownsRow.cells (show w.ownsRow B 45 10 (.slice (some ⟨g,0,none⟩) l.length cap) l.length (ndL l) from hh) rfl j u hj
  by_cases hj0:j=0
  ·subst hj0;simpa [Addr.add] using this
  ·simpa [Addr.add,hj0] using this
theorem OwnN.arg {B:Nat} {w:World} {a:Option Addr} {n c:Nat} {l:List Nd} (h:OwnN B w (.slice a n c) l):NArg w a n l:=by
 rcases h.cases with ⟨h1,rfl⟩|⟨g,c,h1,_,h3,_,h5,_⟩
 ·injection h1 with _ h1 _;subst h1;exact⟨rfl, .inl rfl⟩
 ·injection h1 with h0 h1 _;subst h0;subst h1;exact⟨rfl, .inr ⟨g,0,rfl,h5,h3⟩⟩
theorem op_nd {ops:Array Oper} {rest:List Oper} {o:Oper} {a:Act} {Q:Exit→Act→World→Prop} (hgd:o.guard=none) (s x:Operand) (W:World) (B:Nat) (hB:B≤W.heap.size) (ov:Value) (l ys:List Nd) (arr:Array Value)
  (ho:o.op= .call { callee:= .builtin .append,args:= #[s,x],argTypes:= #[23,23] })
  (hs:a.eval s=ov) (m:Nat) (hm:m=ys.length) (hx:a.eval x= .slice (some ⟨W.heap.size,0,none⟩) m m) (harr:arr.toList=ndL ys) (hown:OwnN B W ov l) (hlen:(l.length+ys.length)*112≤140737488355328)
  (h : ∀v' w',OwnN B w' v' (l++ys)→Below B W w'→(v'= .slice none 0 0→ys=[])→wpList Tryz.prog ops Q rest (a.put o.dst v') w') :
  wpList Tryz.prog ops Q (o :: rest) a (W.alloc (.cells arr 45)):=by
 subst hm
 obtain⟨i0,hi,hz0,hz1,hz2⟩:=info_parts infoNd
 refine wpList_append_own _ hgd s x 23 ho B 45 i0 (.agg #[.int .i64 0, .int .i64 0, .int .i64 0, .int .i64 0, .int .i64 0, .string ByteArray.empty, .string ByteArray.empty, .string ByteArray.empty, .string ByteArray.empty, .int .i64 0]) 10 112 Tryz.underlying23 hi hz0 hz1 hz2 rfl (by decide) ov l.length (ndL l) hs (World.ownsRow.alloc hown _) ⟨W.heap.size,0,none⟩ ys.length ys.length (ndL ys) hx (ndL_len ys) ?_ (ndL_one ys) (by unfold maxLen;omega) (by omega) (by simp;omega) ?_
 ·intro j u hj
  have e:(⟨W.heap.size,0,none⟩:Addr).add j=⟨W.heap.size,j,none⟩:=by simp[Addr.add];try omega
  rw[e,World.cell?_alloc_at _ _ _ _ rfl, ← hj, ← harr,Array.getElem?_toList]
 ·intro v' w' hown' hgr hnil
  refine h v' w' (by unfold OwnN;rw[ndL_app,List.length_append];exact hown') ?_ (fun e=>List.eq_nil_of_length_eq_zero (hnil.1 e).2)
  have hsz:=hgr.size
  simp at hsz
  refine⟨hgr.os,hgr.tape,hgr.output,by omega,fun k hk=> ?_⟩
  rw[hgr.block k (by simp;omega) ?_]
  ·exact Below.heap_alloc W _ k (by omega)
  ·intro e
   rcases hown.2 with ⟨rfl,_⟩|⟨g,cap,cur,rfl,hg,_⟩
   ·simp[Value.ownBlock] at e
   ·simp[Value.ownBlock] at e;omega
theorem CopyNodes_nil (a:Option Addr) (c:Nat) (w:World) :
  Calls Tryz.prog 17 #[.slice a 0 c] w fun e w'=> ∃v,e= .returned v∧OwnN w.heap.size w' v []∧Below w.heap.size w w':=by
 obtain⟨i0,hi,hz0,hz1,hz2⟩:=info_parts infoNd
 have hown0:=bH (OwnN.fresh w)
 cases a with
 | some ad=>
  go_enter Tryz.func17,Tryz.ntmps17
  go_wp2_with (at_builtin;refine wpList_append_own _ rfl (.tmp 3) (.tmp 4) 23 rfl w.heap.size 45 i0 (.agg #[.int .i64 0, .int .i64 0, .int .i64 0, .int .i64 0, .int .i64 0, .string ByteArray.empty, .string ByteArray.empty, .string ByteArray.empty, .string ByteArray.empty, .int .i64 0]) 10 112 Tryz.underlying23 hi hz0 hz1 hz2 rfl (by decide) _ 0 [] rfl hown0.out ad 0 c [] rfl rfl (by intro j u hj;simp at hj) (by intro u hu;simp at hu) (by unfold maxLen;omega) (by omega) (by simp) ?_)
  intro v' w1 hown1 hgr _
  have hbel:Below w.heap.size w w1:=((Below.refl _ _).alloc (Nat.le_refl _) _).grown hgr (by simp) (by intro k hk;simp[Value.ownBlock] at hk;omega)
  have hown1':=bH hown1;clear hown1 hgr
  go_wp2_with fail
  go_ret
  exact⟨v',rfl,hown1'.out,hbel⟩
 | none=>
 go_enter Tryz.func17,Tryz.ntmps17
 go_wp2_with fail
 go_ret
 exact⟨_,rfl,hown0.out,bZ⟩
theorem CopyNodes_sl (g off cp:Nat) (l:List Nd) (w:World) (h:Hid (NdSl w g off l)) (hg:g<w.heap.size) (hl:l.length*112≤140737488351232) :
  Calls Tryz.prog 17 #[.slice (some ⟨g,off,none⟩) l.length cp] w fun e w'=> ∃v,e= .returned v∧OwnN w.heap.size w' v l∧Below w.heap.size w w':=by
 obtain⟨i0,hi,hz0,hz1,hz2⟩:=info_parts infoNd
 have hown0':=bH (OwnN.fresh w)
 have hnews:Hid (∀j u,(ndL l)[j]? = some u→(w.alloc (.cells #[] 45)).cell? ((⟨g,off,none⟩:Addr).add j)=some u):=bH (by
  intro j u hj
  have e:(⟨g,off,none⟩:Addr).add j=⟨g,off+j,none⟩:=by simp[Addr.add];try omega
  rw[e,World.cell?_alloc_past _ _ _ hg]
  exact ndSl_get h.out j u hj)
 go_enter Tryz.func17,Tryz.ntmps17
 go_wp2_with (at_builtin;refine wpList_append_own _ rfl (.tmp 3) (.tmp 4) 23 rfl w.heap.size 45 i0 (.agg #[.int .i64 0, .int .i64 0, .int .i64 0, .int .i64 0, .int .i64 0, .string ByteArray.empty, .string ByteArray.empty, .string ByteArray.empty, .string ByteArray.empty, .int .i64 0]) 10 112 Tryz.underlying23 hi hz0 hz1 hz2 rfl (by decide) _ 0 [] rfl hown0'.out ⟨g,off,none⟩ l.length cp (ndL l) rfl (ndL_len l) hnews.out (ndL_one l) (by unfold maxLen;omega) (by omega) (by simp) ?_)
 intro v' w1 hown1 hgr _
 have hbel:Below w.heap.size w w1:=((Below.refl _ _).alloc (Nat.le_refl _) _).grown hgr (by simp) (by intro k hk;simp[Value.ownBlock] at hk;omega)
 (try rw[Nat.zero_add,List.nil_append] at hown1)
 have hown1':=bH hown1;clear hown1 hgr
 go_wp2_with fail
 go_ret
 exact⟨v',rfl,hown1'.out,hbel⟩
theorem CopyNodes_any (a:Option Addr) (n c:Nat) (l:List Nd) (w:World) (h:Hid (NArg w a n l)) (hl:n*112≤140737488351232) :
  Calls Tryz.prog 17 #[.slice a n c] w fun e w'=> ∃v,e= .returned v∧OwnN w.heap.size w' v l∧Below w.heap.size w w':=by
 obtain⟨rfl,rfl|⟨b,off,rfl,h1,h2⟩⟩:=h.out
 ·exact CopyNodes_nil a c w
 ·exact CopyNodes_sl b off c l w (bH h1) h2 hl
theorem nd_to (a:Option Addr) (m c n:Nat) (h:n≤c) (W:World):(Instr.slice 23 (.slice a m c) none (some (.int .i64 n)) none).run Tryz.prog W= .ok (.slice a n c) W:=by
 have hs : ∀W:World,(sizeOf 45).run Tryz.prog W= .ok 10 W:=fun _=>by kernel_rfl
 have he:Tryz.prog.elem 23=45:=by kernel_rfl
 rw[run_slice_h W 23 a m c (by rw[he];exact Tryz.underlying23) .i64 (n:Int) (by omega) (by omega),he,hs]
 cases a<;>simp[Result.andThen,sliced,Addr.add]
def ndMk:Nd:=⟨0,0,0,0,0,⟨#[]⟩,⟨#[]⟩,⟨#[]⟩,⟨#[]⟩,77777⟩
def OwnN.Lent (B:Nat) (w:World) (g n c:Nat) (l:List Nd):Prop:=n=l.length∧n+2≤c∧B≤g∧OwnN B w (.slice (some ⟨g,0,none⟩) (n+2) c) (l++[ndMk,ndMk])
def OwnN.LentPost (l:List Nd) (w:World) (n:Nat) (e:Ending) (w':World):Prop:= ∃g c,e= .returned (.slice (some ⟨g,0,none⟩) n c)∧OwnN.Lent w.heap.size w' g n c l∧Below w.heap.size w w'
theorem LendNodes_any (a:Option Addr) (n c:Nat) (l:List Nd) (w:World) (h:Hid (NArg w a n l)) (hl:n*112≤140737488351232) :
  Calls Tryz.prog 20 #[.slice a n c] w (OwnN.LentPost l w n):=by
 have hn:=bH h.out.1
 have kC:=bH (CopyNodes_any a n c l w h (by omega))
 go_enter Tryz.func20,Tryz.ntmps20
 go_wp2_with fail
 refine kC.out.mono ?_
 rintro e w1 ⟨v1,rfl,ho1,hb1⟩
 have ho1':=bH ho1
 have hB1:=bH hb1
 clear ho1 hb1
 go_wp2_with (at_builtin;refine op_nd rfl (.tmp 5) (.tmp 8) w1 w.heap.size hB1.out.size _ l [ndMk,ndMk] _ rfl rfl 2 rfl rfl rfl ho1'.out (by have:=hn.out;simp;omega) ?_;intro v' w2 hown2 hb2 hnn)
 have hbel:=bH (hB1.out.trans hb2)
 obtain⟨g,c2,rfl,hg1,hg2,hg3,_,_⟩ : ∃g c2,v'= .slice (some ⟨g,0,none⟩) (l++[ndMk,ndMk]).length c2∧w.heap.size≤g∧g<w2.heap.size∧(l++[ndMk,ndMk]).length≤c2∧NdSl w2 g 0 (l++[ndMk,ndMk])∧ ∀o,w2.frozen? ⟨g,o,none⟩=false:=by
  rcases hown2.cases with ⟨h1,_⟩|h1
  ·exact absurd (hnn h1) (by simp)
  ·exact h1
 have hlen:(l++[ndMk,ndMk]).length=n+2:=by rw[List.length_append,hn.out];rfl
 rw[hlen] at hown2 hg3 ⊢
 have hown2':=bH hown2
 clear hown2 hb2 hnn hlen
 have hnc:=fun (W:World)=>nd_to (some ⟨g,0,none⟩) (n+2) c2 n (by omega) W
 go_wp2_with fail
 rw[hnc]
 clear hnc
 go_wp2_with fail
 go_ret
 exact⟨g,c2,rfl,⟨hn.out,hg3,hg1,hown2'.out⟩,hbel.out⟩
theorem OwnN.Lent.arg {B:Nat} {w:World} {g n c:Nat} {l:List Nd} (h:OwnN.Lent B w g n c l):NArg w (some ⟨g,0,none⟩) n l:=by
 obtain⟨h1,h2,h3,h4⟩:=h
 refine⟨h1, .inr ⟨g,0,rfl,fun i hi=> ?_, ?_⟩⟩
 ·rcases h4.cases with ⟨h5,_⟩|⟨g',c',h5,_,_,_,h6,_⟩
  ·cases h5
  ·injection h5 with h5 _ _;injection h5 with h5;injection h5 with h5 _ _;subst h5
   have:=h6 i (by simp;omega)
   rwa [show (l++[ndMk,ndMk]).getD i nd0=l.getD i nd0 from by simp[List.getElem?_append_left hi]] at this
 ·rcases h4.cases with ⟨h5,_⟩|⟨g',c',h5,_,h7,_,h6,_⟩
  ·cases h5
  ·injection h5 with h5 _ _;injection h5 with h5;injection h5 with h5 _ _;subst h5;exact h7
theorem OwnN.Lent.marks {B:Nat} {w:World} {g n c:Nat} {l:List Nd} (h:OwnN.Lent B w g n c l):NdAt w g 0 ndMk n∧NdAt w g 0 ndMk (n+1)∧g<w.heap.size:=by
 obtain⟨h1,h2,h3,h4⟩:=h
 rcases h4.cases with ⟨h5,_⟩|⟨g',c',h5,_,h7,_,h6,_⟩
 ·cases h5
 ·injection h5 with h5 _ _;injection h5 with h5;injection h5 with h5 _ _;subst h5
  subst h1
  refine⟨?_, ?_,h7⟩
  ·have:=h6 l.length (by simp)
   rwa [show (l++[ndMk,ndMk]).getD l.length nd0=ndMk from by simp] at this
  ·have:=h6 (l.length+1) (by simp)
   rwa [show (l++[ndMk,ndMk]).getD (l.length+1) nd0=ndMk from by simp] at this
theorem OwnN.Lent.below {B:Nat} {w w':World} {g n c:Nat} {l:List Nd} (h:OwnN.Lent B w g n c l) (hb:Below w.heap.size w w'):OwnN.Lent B w' g n c l:=⟨h.1,h.2.1,h.2.2.1,h.2.2.2.below hb⟩
open Go.RowKit
theorem run_appN2 {W:World} (B:Nat) (hB:B≤W.heap.size) (ty:TypeId) (v:Value) (l:List Nd) (hown:OwnN B W v l) (ad:Addr) (m c:Nat) (ys:List Nd) (hm:m=ys.length) (hnews : ∀j u,(ndL ys)[j]? = some u→W.cell? (ad.add j)=some u) (hlen:l.length+ys.length≤1000000) :
  ∃v' w',(Builtin.append_ #[23,23] ty #[v, .slice (some ad) m c]).run Tryz.prog W= .ok v' w'∧OwnN B w' v' (l++ys)∧Bar (fun k=>v.ownBlock=some k) W w'∧(∀g,v'.ownBlock=some g→v.ownBlock=some g∨W.heap.size≤g):=by
 subst hm
 obtain⟨i0,hi,hz0,hz1,hz2⟩:=info_parts infoNd
 obtain⟨v',w',hr,h1,h2,h3⟩:=run_append_own (P:=Tryz.prog) (w:=W) B 23 ty 45 i0 (.agg #[.int .i64 0, .int .i64 0, .int .i64 0, .int .i64 0, .int .i64 0, .string ByteArray.empty, .string ByteArray.empty, .string ByteArray.empty, .string ByteArray.empty, .int .i64 0]) 10 112 Tryz.underlying23 hi hz0 hz1 hz2 rfl (by decide) v l.length (ndL l) hown ad ys.length c (ndL ys) (ndL_len ys) hnews (ndL_one ys) (by unfold maxLen;omega) (by omega) hB
 have h1':OwnN B w' v' (l++ys):=by unfold OwnN;rw[ndL_app,List.length_append];exact h1
 have hbar:Bar (fun k=>v.ownBlock=some k) W w':=⟨h2.os,h2.tape,h2.output,h2.size,fun k hk hn=>h2.block k hk (fun e=>hn e.symm)⟩
 refine⟨v',w',hr,h1',hbar, ?_⟩
 rcases hown.2 with ⟨e1,e0⟩|⟨g,cap,cur,e1,hBg,hg,hc,hcm,hcs,htk⟩
 ·have hl0:l=[]:=List.eq_nil_of_length_eq_zero e0
  subst hl0;subst e1
  intro k hk
  by_cases h0:ys.length=0
  ·have:=h3.2 ⟨rfl,h0⟩;rw[this] at hk;cases hk
  ·have hr2:=run_append_nil (P:=Tryz.prog) W 23 ty 45 i0 (.agg #[.int .i64 0, .int .i64 0, .int .i64 0, .int .i64 0, .int .i64 0, .string ByteArray.empty, .string ByteArray.empty, .string ByteArray.empty, .string ByteArray.empty, .int .i64 0]) Tryz.underlying23 hi hz0 ad ys.length c (ndL ys) (by rw[ndL_len,hz1]) hnews (by omega) (by omega) (by rw[hz2];omega)
   rw[hr] at hr2
   injection hr2 with e1 e2
   subst e1
   have hk:W.heap.size=k:=Option.some.inj hk
   exact .inr (by omega)
 ·subst e1
  by_cases hroom:l.length+ys.length≤cap
  ·have hfit:l.length*i0.size+(ndL ys).length≤cur.size:=by
    rw[hz1,hcs,ndL_len]
    have:=Nat.mul_le_mul_right 10 hroom
    rw[Nat.add_mul] at this;omega
   have hr2:=run_append_room (P:=Tryz.prog) W 23 ty 45 i0 Tryz.underlying23 hi g l.length cap cur hg ad ys.length c (ndL ys) (by rw[ndL_len,hz1]) hnews (ndL_one ys) hroom hfit
   rw[hr] at hr2
   injection hr2 with e1 e2
   intro k hk
   exact .inl (by rw[e1] at hk;exact hk)
  ·have hr2:=run_append_grow (P:=Tryz.prog) W 23 ty 45 i0 (.agg #[.int .i64 0, .int .i64 0, .int .i64 0, .int .i64 0, .int .i64 0, .string ByteArray.empty, .string ByteArray.empty, .string ByteArray.empty, .string ByteArray.empty, .int .i64 0]) Tryz.underlying23 hi hz0 ⟨g,0,none⟩ l.length cap (ndL l) (by rw[ndL_len,hz1]) (fun j u hj=>World.ownsRow.cells (show W.ownsRow B 45 10 (.slice (some ⟨g,0,none⟩) l.length cap) l.length (ndL l) from hown) rfl j u hj) ad ys.length c (ndL ys) (by rw[ndL_len,hz1]) hnews (by omega) (by omega) (by rw[hz2];exact growslice_fits (by omega) (by omega))
   rw[hr] at hr2
   injection hr2 with e1 e2
   have hob:v'.ownBlock=some W.heap.size:=by rw[e1];rfl
   intro k hk
   exact .inr (by rw[hob] at hk;injection hk with hk;omega)
def numO (n:Int):Int × Int:=if n < -1073741824∨1073741823<n then (3,0) else (0,n)
def truO (b:Bool):Int × Int:=if b then (1,1) else (1,0)
def prmV (p u v:Int):Int × Int:=
 if p=0 then numO (u+v) else if p=1 then numO (u-v) else if p=2 then numO (u*v)
 else if p=3 then (if v=0 then (3,1) else numO (u.tdiv v)) else if p=4 then truO (decide (u=v)) else truO (decide (u<v))
open Go.RowKit
def plainC (kd a b c nm:Int) (s1 s2 s3 s4:List UInt8):Bool:=
 if kd=0 then decide (a=0∧b=0∧c=0∧s2=[]∧s3=[]∧s4=[])
 else if kd=1∨kd=2 then decide (a=0∧b=0∧c=0∧s1=[]∧s2=[]∧s3=[]∧s4=[])
 else if kd=3 then decide (b=0∧c=0∧nm=0∧s1=[]∧s3=[]∧s4=[])
 else if kd=4 then decide (c=0∧nm=0∧s1=[]∧s2=[]∧s3=[]∧s4=[])
 else if kd=5 then decide (c=0∧nm=0∧s1=[]∧s3=[]∧s4=[])
 else if kd=6 then decide (c=0∧nm=0∧s1=[]∧s4=[])
 else if kd=7 then decide (nm=0∧s1=[]∧s2=[]∧s3=[]∧s4=[])
 else if kd=8 then decide (c=0∧s1=[]∧s2=[]∧s3=[]∧s4=[])
 else if kd=9 then decide (b=0∧c=0∧s2=[]∧s3=[]∧s4=[])
 else decide (kd=10)
theorem plain_c (kd a b c nm:Int) (s1 s2 s3 s4:ByteArray):plainB kd a b c nm s1 s2 s3 s4=plainC kd a b c nm s1.data.toList s2.data.toList s3.data.toList s4.data.toList:=by
 unfold plainB plainC;simp only[ByteArray.toList_eq]
def resC (l:List ByteArray):Bool:=l.all fun s=>s.data.toList.isEmpty
theorem res_c (l:List ByteArray):resB l=resC l:=by unfold resB resC;simp only[ByteArray.toList_eq]
def okC (named:Bool) (t:Nd):Bool:=plainC t.k t.a t.b t.c t.n t.nm.data.toList t.x.data.toList t.y.data.toList t.z.data.toList && decide (0≤t.p) && decide (t.p≤4096) && numB t.k t.n && (if named then namedB t.k t.n (namesL t.k t.nm t.x t.y t.z) else resC (namesL t.k t.nm t.x t.y t.z))
theorem ok_c (named:Bool) (t:Nd):okNd (okNm named) t=okC named t:=by
 unfold okNd okNm okC;rw[plain_c,res_c]
def treeC (named:Bool) (ts:List Nd):Bool:=decide (1≤ts.length∧ts.length≤512) && ts.all (okC named) && decide (bg (ksN ts) (ts.length-1)=0)
theorem tree_c (named:Bool) (ts:List Nd):treeV (okNm named) ts=treeC named ts:=by
 unfold treeV treeC;rw[show okNd (okNm named)=okC named from funext (ok_c named)]
def anyC (ts:List Nd):Bool:=treeC true ts || treeC false ts
theorem any_c (ts:List Nd):anyV ts=anyC ts:=by unfold anyV anyC;rw[tree_c,tree_c]
theorem nd_sz0 : ∀t∈([]:List Nd),NdSz t:=by intro t ht;cases ht
theorem narg0 (w:World) (c:Option Addr):NArg w c 0 []:=⟨rfl, .inl rfl⟩
theorem NArg.take {w:World} {a:Option Addr} {n:Nat} {ts:List Nd} (h:NArg w a n ts) (k:Nat) (hk:k≤n):NArg w a k (ts.take k):=by
 obtain⟨h1,h2⟩:=h
 refine⟨by simp;omega, ?_⟩
 rcases h2 with rfl|⟨b,off,h3,h4,h5⟩
 ·exact .inl (by simp)
 ·refine .inr ⟨b,off,h3,fun i hi=> ?_,h5⟩
  simp at hi
  have:=h4 i (by omega)
  have hik:i<k:=by omega
  rw[show (ts.take k).getD i nd0=ts.getD i nd0 from by rw[List.getD_eq_getElem?_getD,List.getElem?_take,if_pos hik, ← List.getD_eq_getElem?_getD]]
  exact this
theorem NArg.drop {w:World} {b off n:Nat} {ts:List Nd} (h:NArg w (some ⟨b,off,none⟩) n ts) (k:Nat) (hk:k≤n):NArg w (some ⟨b,off+k*10,none⟩) (n-k) (ts.drop k):=by
 obtain⟨h1,h2⟩:=h
 refine⟨by simp;omega, ?_⟩
 rcases h2 with rfl|⟨b',off',h3,h4,h5⟩
 ·exact .inl (by simp)
 ·injection h3 with h3;injection h3 with h6 h7 _;subst h6;subst h7
  refine .inr ⟨b,off+k*10,rfl,fun i hi=> ?_,h5⟩
  simp at hi
  have:=h4 (k+i) (by omega)
  rw[show (ts.drop k).getD i nd0=ts.getD (k+i) nd0 from by simp[List.getD_eq_getElem?_getD,List.getElem?_drop]]
  unfold NdAt at *
  rw[show off+k*10+i*10=off+(k+i)*10 by omega]
  exact this
open Go.RowKit
inductive PT
 | var (nm:ByteArray)|int (n:Int)|bol (n:Int)
 | fn (x:ByteArray) (a:PT)|app (a b:PT)|lt (x:ByteArray) (a b:PT)|rc (x y:ByteArray) (a b:PT)
 | cd (a b c:PT)|pr (n:Int) (a b:PT)|ac (nm:ByteArray) (a:PT)|hn (nm x y z:ByteArray) (a b c:PT)
def PT.sz:PT→Nat
 | .var _=>1 | .int _=>1 | .bol _=>1
 | .fn _ a=>a.sz+1 | .app a b=>a.sz+b.sz+1 | .lt _ a b=>a.sz+b.sz+1 | .rc _ _ a b=>a.sz+b.sz+1
 | .cd a b c=>a.sz+b.sz+c.sz+1 | .pr _ a b=>a.sz+b.sz+1 | .ac _ a=>a.sz+1 | .hn _ _ _ _ a b c=>a.sz+b.sz+c.sz+1
def PT.ok:PT→Prop
 | .var nm=>nmB nm.data.toList=true | .int n=>0≤n∧n≤1073741823 | .bol n=>n=0∨n=1
 | .fn x a=>nmB x.data.toList=true∧a.ok | .app a b=>a.ok∧b.ok | .lt x a b=>nmB x.data.toList=true∧a.ok∧b.ok
 | .rc x y a b=>(nmB x.data.toList=true∧nmB y.data.toList=true)∧a.ok∧b.ok
 | .cd a b c=>a.ok∧b.ok∧c.ok | .pr n a b=>(0≤n∧n≤5)∧a.ok∧b.ok | .ac nm a=>nmB nm.data.toList=true∧a.ok
 | .hn nm x y z a b c=>(nmB nm.data.toList=true∧nmB x.data.toList=true∧nmB y.data.toList=true∧nmB z.data.toList=true)∧a.ok∧b.ok∧c.ok
def PT.At (ts:List Nd):PT→Nat→Prop
 | .var nm,i=> ∃p,ts.getD i nd0=⟨0,0,0,0,0,nm,⟨#[]⟩,⟨#[]⟩,⟨#[]⟩,p⟩
 | .int n,i=> ∃p,ts.getD i nd0=⟨1,0,0,0,n,⟨#[]⟩,⟨#[]⟩,⟨#[]⟩,⟨#[]⟩,p⟩
 | .bol n,i=> ∃p,ts.getD i nd0=⟨2,0,0,0,n,⟨#[]⟩,⟨#[]⟩,⟨#[]⟩,⟨#[]⟩,p⟩
 | .fn x a,i=> ∃(j:Nat) (p:Int),i=j+1∧ts.getD i nd0=⟨3,j,0,0,0,⟨#[]⟩,x,⟨#[]⟩,⟨#[]⟩,p⟩∧a.At ts j
 | .app a b,i=> ∃(j k:Nat) (p:Int),i=k+1∧k=j+b.sz∧ts.getD i nd0=⟨4,j,k,0,0,⟨#[]⟩,⟨#[]⟩,⟨#[]⟩,⟨#[]⟩,p⟩∧a.At ts j∧b.At ts k
 | .lt x a b,i=> ∃(j k:Nat) (p:Int),i=k+1∧k=j+b.sz∧ts.getD i nd0=⟨5,j,k,0,0,⟨#[]⟩,x,⟨#[]⟩,⟨#[]⟩,p⟩∧a.At ts j∧b.At ts k
 | .rc x y a b,i=> ∃(j k:Nat) (p:Int),i=k+1∧k=j+b.sz∧ts.getD i nd0=⟨6,j,k,0,0,⟨#[]⟩,x,y,⟨#[]⟩,p⟩∧a.At ts j∧b.At ts k
 | .cd a b c,i=> ∃(j k m:Nat) (p:Int),i=m+1∧m=k+c.sz∧k=j+b.sz∧ts.getD i nd0=⟨7,j,k,m,0,⟨#[]⟩,⟨#[]⟩,⟨#[]⟩,⟨#[]⟩,p⟩∧a.At ts j∧b.At ts k∧c.At ts m
 | .pr n a b,i=> ∃(j k:Nat) (p:Int),i=k+1∧k=j+b.sz∧ts.getD i nd0=⟨8,j,k,0,n,⟨#[]⟩,⟨#[]⟩,⟨#[]⟩,⟨#[]⟩,p⟩∧a.At ts j∧b.At ts k
 | .ac nm a,i=> ∃(j:Nat) (p:Int),i=j+1∧ts.getD i nd0=⟨9,j,0,0,0,nm,⟨#[]⟩,⟨#[]⟩,⟨#[]⟩,p⟩∧a.At ts j
 | .hn nm x y z a b c,i=> ∃(j k m:Nat) (p:Int),i=m+1∧m=k+c.sz∧k=j+b.sz∧ts.getD i nd0=⟨10,j,k,m,0,nm,x,y,z,p⟩∧a.At ts j∧b.At ts k∧c.At ts m
theorem PT.At.sz {ts:List Nd} : ∀ {T:PT} {i:Nat},T.At ts i→T.sz≤i+1
 | .var _,i,_=>by simp[PT.sz]
 | .int _,i,_=>by simp[PT.sz]
 | .bol _,i,_=>by simp[PT.sz]
 | .fn x a,i,h=>by obtain⟨j,p,rfl,_,ha⟩:=h;have:=ha.sz;simp only[PT.sz];omega
 | .app a b,i,h=>by obtain⟨j,k,p,rfl,rfl,_,ha,hb⟩:=h;have:=ha.sz;simp only[PT.sz];omega
 | .lt x a b,i,h=>by obtain⟨j,k,p,rfl,rfl,_,ha,hb⟩:=h;have:=ha.sz;simp only[PT.sz];omega
 | .rc x y a b,i,h=>by obtain⟨j,k,p,rfl,rfl,_,ha,hb⟩:=h;have:=ha.sz;simp only[PT.sz];omega
 | .cd a b c,i,h=>by obtain⟨j,k,m,p,rfl,rfl,rfl,_,ha,hb⟩:=h;have:=ha.sz;simp only[PT.sz];omega
 | .pr n a b,i,h=>by obtain⟨j,k,p,rfl,rfl,_,ha,hb⟩:=h;have:=ha.sz;simp only[PT.sz];omega
 | .ac nm a,i,h=>by obtain⟨j,p,rfl,_,ha⟩:=h;have:=ha.sz;simp only[PT.sz];omega
 | .hn nm x y z a b c,i,h=>by obtain⟨j,k,m,p,rfl,rfl,rfl,_,ha,hb⟩:=h;have:=ha.sz;simp only[PT.sz];omega
def PT.atm:PT→Bool
 | .var _=>true | .int _=>true | .bol _=>true | .hn _ _ _ _ _ _ _=>true|_=>false
end Go.Proofs.YthpcbgljbpmafaaGreatDoor
