/- Operations in memory; whether two are the same; SameOps. -/
import Derived.Test.YthpcbgljbpmafaaGreatDoorW5
import Derived.Test.YthpcbgljbpmafaaGreatDoorW10
import Derived.Test.YthpcbgljbpmafaaGreatDoorW11
import Derived.Laws.AppendOwn
set_option maxRecDepth 100000
set_option maxHeartbeats 8000000
namespace Go.Proofs.YthpcbgljbpmafaaGreatDoor
open Go.RowKit
set_option linter.unusedVariables false
set_option linter.unusedSimpArgs false
structure Or where
 (nm:ByteArray) (f t:Int)
def or0:Or:=⟨⟨#[]⟩,0,0⟩
def OrAt (w:World) (b off:Nat) (t:Or) (i:Nat):Prop:=
 w.cell? ⟨b,off+i*3,none⟩=some (.string t.nm)∧w.cell? ⟨b,off+i*3+1,none⟩=some (.int .i64 t.f)∧w.cell? ⟨b,off+i*3+2,none⟩=some (.int .i64 t.t)
theorem OrAt.below {B:Nat} {w w':World} {b off i:Nat} {t:Or} (h:OrAt w b off t i) (hb:Below B w w') (hB:b<B):OrAt w' b off t i:=by
 unfold OrAt at *
 have e : ∀o,w'.cell? ⟨b,o,none⟩=w.cell? ⟨b,o,none⟩:=fun o=>hb.cell (p:=⟨b,o,none⟩) hB
 simp only[e];exact h
def OrSl (w:World) (b off:Nat) (ts:List Or):Prop:= ∀i,i<ts.length→OrAt w b off (ts.getD i or0) i
theorem OrSl.below {B:Nat} {w w':World} {b off:Nat} {ts:List Or} (h:OrSl w b off ts) (hb:Below B w w') (hB:b<B):OrSl w' b off ts:=
 fun i hi=>(h i hi).below hb hB
def OrSz (t:Or):Prop:=t.nm.size≤1125899906842624
def OArg (w:World) (a:Option Addr) (n:Nat) (ts:List Or):Prop:=n=ts.length∧(ts=[] ∨ ∃b off,a=some ⟨b,off,none⟩∧OrSl w b off ts∧b<w.heap.size)
theorem OArg.below {w w':World} {a:Option Addr} {n:Nat} {ts:List Or} (h:OArg w a n ts) (hb:Below w.heap.size w w'):OArg w' a n ts:=by
 obtain⟨h1,h|⟨b,off,h2,h3,h4⟩⟩:=h
 ·exact⟨h1, .inl h⟩
 ·exact⟨h1, .inr ⟨b,off,h2,h3.below hb h4,by have:=hb.size;omega⟩⟩
def orQ (x0:ByteArray) (x1 x2:Int) (y0:ByteArray) (y1 y2:Int):Bool:=x0.toList==y0.toList && (x1==y1 && x2==y2)
theorem or_in (x0:ByteArray) (x1 x2:Int) (y0:ByteArray) (y1 y2:Int) (w:World) :
  (Op.equalIn 10000 54 (.agg #[.string x0, .int .i64 x1, .int .i64 x2]) (.agg #[.string y0, .int .i64 y1, .int .i64 y2])).run Tryz.prog w= .ok (orQ x0 x1 x2 y0 y1 y2) w:=by
 have he : ∀(a b:Int) (W:World),(Op.equalIn 9999 3 (.int .i64 a) (.int .i64 b)).run Tryz.prog W= .ok (a==b) W:=fun a b W=>run_equalIn_int W 9998 3 .i64 .i64 a b Tryz.underlying3
 have hs : ∀(a b:ByteArray) (W:World),(Op.equalIn 9999 9 (.string a) (.string b)).run Tryz.prog W= .ok (a.toList==b.toList) W:=fun a b W=>run_equalIn_string W 9998 9 a b Tryz.underlying9
 have hst:Tryz.prog.stoodInHeld 54=false:=by kernel_rfl
 have p0 : ∀(z0:ByteArray) (z1 z2:Int) (W:World),(part 9 #[.string z0, .int .i64 z1, .int .i64 z2] 0).run Tryz.prog W= .ok (.string z0) W:=fun _ _ _ _=>by kernel_rfl
 have p1 : ∀(z0:ByteArray) (z1 z2:Int) (W:World),(part 3 #[.string z0, .int .i64 z1, .int .i64 z2] 1).run Tryz.prog W= .ok (.int .i64 z1) W:=fun _ _ _ _=>by kernel_rfl
 have p2 : ∀(z0:ByteArray) (z1 z2:Int) (W:World),(part 3 #[.string z0, .int .i64 z1, .int .i64 z2] 2).run Tryz.prog W= .ok (.int .i64 z2) W:=fun _ _ _ _=>by kernel_rfl
 rw[show (10000:Nat)=9999+1 from rfl]
 unfold Op.equalIn
 unfold orQ
 have hpr : ∀W:World,(program).run Tryz.prog W= .ok Tryz.prog W:=fun _=>by kernel_rfl
 cases h0:(x0.toList==y0.toList)
 ·simp[run_underlying Tryz.underlying54,Sem.run_bind,hpr,hst,Result.andThen,he,hs,p0,p1,p2,h0]
 cases h1:(x1==y1)
 ·simp[run_underlying Tryz.underlying54,Sem.run_bind,hpr,hst,Result.andThen,he,hs,p0,p1,p2,h0,h1]
 cases h2:(x2==y2)
 ·simp[run_underlying Tryz.underlying54,Sem.run_bind,hpr,hst,Result.andThen,he,hs,p0,p1,p2,h0,h1,h2]
 simp[run_underlying Tryz.underlying54,Sem.run_bind,hpr,hst,Result.andThen,he,hs,p0,p1,p2,h0,h1,h2]
def orE (t u:Or):Bool:=orQ t.nm t.f t.t u.nm u.f u.t
def allRO (f:Or→Or→Bool) (l m:List Or) (n:Nat):Bool:=(List.range n).all fun j=>f (l.getD j or0) (m.getD j or0)
def sameVO (f:Or→Or→Bool) (l m:List Or):Bool:=decide (l.length=m.length) && allRO f l m l.length
theorem allRO_succ (f:Or→Or→Bool) (l m:List Or) (j:Nat):allRO f l m (j+1)=(allRO f l m j && f (l.getD j or0) (m.getD j or0)):=by
 unfold allRO
 rw[List.range_succ,List.all_append];simp
theorem allRO_stop {f:Or→Or→Bool} {l m:List Or} {j n:Nat} (hj:j<n) (h:f (l.getD j or0) (m.getD j or0)=false):allRO f l m n=false:=by
 unfold allRO
 rw[List.all_eq_false]
 exact⟨j,List.mem_range.2 hj,by rw[h];simp⟩
theorem sameOps_nil (a1 a2:Option Addr) (c1 c2:Nat) (w:World) :
  Calls Tryz.prog 26 #[.slice a1 0 c1, .slice a2 0 c2] w fun e w'=>e= .returned (.bool true)∧Below w.heap.size w w':=by
 go_enter Tryz.func26,Tryz.ntmps26
 go_wp2_with fail
 go_loop [5] (fun i=>i= .int .i64 0) (fun _=>0)
 case atStart=>rfl
 case round=>
  obtain rfl:=hrel
  go_wp2_with fail
  go_ret
  exact⟨rfl,Below.refl _ _⟩
theorem sameOps_len (a1 a2:Option Addr) (n1 n2 c1 c2:Nat) (w:World) (h:n1≠n2) :
  Calls Tryz.prog 26 #[.slice a1 n1 c1, .slice a2 n2 c2] w fun e w'=>e= .returned (.bool false)∧Below w.heap.size w w':=by
 have h1:((n1:Int)==(n2:Int))=false:=by rw[beq_eq_false_iff_ne];omega
 have h2:((n1:Int) != (n2:Int))=true:=by rw[bne_iff_ne];omega
 have h3:(n1==n2)=false:=by simpa using h
 have h4:(n1 != n2)=true:=by simpa using h
 clear h
 go_enter Tryz.func26,Tryz.ntmps26
 go_wp2_with fail
 go_ret
 exact⟨rfl,Below.refl _ _⟩
theorem sameOps_sl (b off cp b' off' cp':Nat) (l m:List Or) (w:World) (h:Hid (OrSl w b off l)) (h':Hid (OrSl w b' off' m)) (hbs:b<w.heap.size) (hbs':b'<w.heap.size) (hlm:l.length=m.length) (hl:l.length≤140737488351232) :
  Calls Tryz.prog 26 #[.slice (some ⟨b,off,none⟩) l.length cp, .slice (some ⟨b',off',none⟩) l.length cp'] w fun e w'=>e= .returned (.bool (allRO orE l m l.length))∧Below w.heap.size w w':=by
 obtain⟨A,hA⟩ : ∃x,allRO orE l m l.length=x:=⟨_,rfl⟩
 rw[hA]
 have hA':=bH hA
 have hlm':=bH hlm
 clear hA hlm
 go_enter Tryz.func26,Tryz.ntmps26
 go_wp2_with fail
 go_loopw [5] (fun i wr=> ∃j:Nat,j≤l.length∧i= .int .i64 j∧Below w.heap.size w wr∧Hid (allRO orE l m j=true)) (fun i _=>l.length-(intOf i).toNat)
 case atStart=>exact⟨0,by omega,rfl,Below.refl _ _,bH rfl⟩
 case round=>
  obtain⟨j,hj,rfl,hbw,hall⟩:=hrel
  by_cases hlt:j<l.length
  ·have hT:=(h.out j hlt).below hbw hbs
   have hU:=(h'.out j (by rw[← hlm'.out];exact hlt)).below hbw hbs'
   have hsuc:=bH (allRO_succ orE l m j)
   have hstop:=bH (allRO_stop (f:=orE) (l:=l) (m:=m) hlt)
   generalize l.getD j or0=t at hT hsuc hstop
   generalize m.getD j or0=u at hU hsuc hstop
   obtain⟨bq,hq⟩ : ∃x,orE t u=x:=⟨_,rfl⟩
   rw[hq] at hsuc hstop
   have hq:=(show orQ t.nm t.f t.t u.nm u.f u.t=bq from hq)
   have hws:=hbw.size
   have hbr:b<wr.heap.size:=by omega
   have hbr2:b'<wr.heap.size:=by omega
   have hndq:=fun x0 x1 x2 y0 y1 y2 W=>or_in x0 x1 x2 y0 y1 y2 W
   obtain⟨e0,e1,e2⟩:=hT
   obtain⟨d0,d1,d2⟩:=hU
   have hlt':(j:Int)<(l.length:Int):=by omega
   have hj0:(0:Int)≤(j:Int):=by omega
   cases bq
   ·have hf:Hid (A=false):=bH (by rw[← hA'.out];exact hstop.out rfl)
    clear hstop hsuc
    go_wp2_with fail
    go_quiet (fail)
    go_wp2_with fail
    go_ret
    exact⟨ret_b hf.out.symm,bZ⟩
   ·have hf:Hid (allRO orE l m (j+1)=true):=bH (by rw[hsuc.out,hall.out];rfl)
    clear hstop hsuc
    go_wp2_with fail
    go_quiet (fail)
    go_wp2_with fail
    go_roundw
    case rel=>exact⟨j+1,by omega,by go_num,bZ,hf⟩
    case measure=>simp[intOf];omega
  ·have hf:Hid (A=true):=bH (by rw[← hA'.out,show l.length=j by omega];exact hall.out)
   go_wp2_with fail
   go_ret
   exact⟨ret_b hf.out.symm,hbw⟩
theorem sameOps_any (a1 a2:Option Addr) (n1 n2 c1 c2:Nat) (l m:List Or) (w:World) (h:Hid (OArg w a1 n1 l)) (h':Hid (OArg w a2 n2 m)) (hl:n1≤140737488351232) :
  Calls Tryz.prog 26 #[.slice a1 n1 c1, .slice a2 n2 c2] w fun e w'=>e= .returned (.bool (sameVO orE l m))∧Below w.heap.size w w':=by
 obtain⟨h1,h2⟩:=h.out
 obtain⟨h3,h4⟩:=h'.out
 by_cases hn:n1=n2
 ·subst hn
  by_cases h0:n1=0
  ·obtain rfl:l=[]:=List.eq_nil_of_length_eq_zero (by omega)
   obtain rfl:m=[]:=List.eq_nil_of_length_eq_zero (by omega)
   subst h0
   exact sameOps_nil a1 a2 c1 c2 w
  ·obtain⟨b,off,rfl,h5,h6⟩ : ∃b off,a1=some ⟨b,off,none⟩∧OrSl w b off l∧b<w.heap.size:=by
    rcases h2 with rfl|h2
    ·simp at h1;omega
    ·exact h2
   obtain⟨b',off',rfl,h7,h8⟩ : ∃b off,a2=some ⟨b,off,none⟩∧OrSl w b off m∧b<w.heap.size:=by
    rcases h4 with rfl|h4
    ·simp at h3;omega
    ·exact h4
   subst h1
   have:sameVO orE l m=allRO orE l m l.length:=by unfold sameVO;rw[decide_eq_true h3];rfl
   rw[this]
   exact sameOps_sl b off c1 b' off' c2 l m w (bH h5) (bH h7) h6 h8 h3 hl
 ·have:sameVO orE l m=false:=by unfold sameVO;rw[decide_eq_false (by omega)];rfl
  rw[this]
  exact sameOps_len a1 a2 n1 n2 c1 c2 w hn
open Go.RowKit
theorem infoOr:(Tryz.prog.info? 54).map (fun i=>(i.zero,i.size,i.bytes))=some (some (.agg #[.string ByteArray.empty, .int .i64 0, .int .i64 0]),3,32):=by kernel_rfl
def orL1 (t:Or):List Value:=[.string t.nm, .int .i64 t.f, .int .i64 t.t]
def orL (l:List Or):List Value:=l.flatMap orL1
theorem orL_len (l:List Or):(orL l).length=l.length*3:=by
 induction l with
 | nil=>rfl
 | cons t l ih=>simp only[orL,List.flatMap_cons,List.length_append,List.length_cons] at *;rw[ih];simp[orL1];omega
theorem orL_app (l m:List Or):orL (l++m)=orL l++orL m:=by simp[orL]
theorem orL_get : ∀(l:List Or) (i k:Nat),k<3→(orL l)[i*3+k]? = (l[i]?).bind fun t=>(orL1 t)[k]?
 | [],i,k,_=>by simp[orL]
 | t :: l,0,k,hk=>by
  simp only[orL,List.flatMap_cons,Nat.zero_mul,Nat.zero_add]
  rw[List.getElem?_append_left (by simp[orL1];omega)];rfl
 | t :: l,i+1,k,hk=>by
  have h:=orL_get l i k hk
  simp only[orL,List.flatMap_cons] at *
  rw[List.getElem?_append_right (by simp[orL1];omega),show (i+1)*3+k-(orL1 t).length=i*3+k by simp[orL1];omega,h]
  simp
theorem orL_one (l:List Or) : ∀u∈orL l,u.oneCell'=true:=by
 intro u hu
 unfold orL at hu
 rw[List.mem_flatMap] at hu
 obtain⟨t,_,ht⟩:=hu
 unfold orL1 at ht
 simp only[List.mem_cons,List.not_mem_nil,or_false] at ht
 rcases ht with rfl|rfl|rfl<;>rfl
theorem orSl_of {w:World} {g off:Nat} {l:List Or} (h : ∀j u,(orL l)[j]? = some u→w.cell? ⟨g,off+j,none⟩=some u):OrSl w g off l:=by
 intro i hi
 have hg:l[i]? = some (l.getD i or0):=by rw[List.getD_eq_getElem?_getD,List.getElem?_eq_getElem hi];rfl
 have k0:=h (i*3+0) (.string (l.getD i or0).nm) (by rw[orL_get l i 0 (by omega),hg];rfl)
 have k1:=h (i*3+1) (.int .i64 (l.getD i or0).f) (by rw[orL_get l i 1 (by omega),hg];rfl)
 have k2:=h (i*3+2) (.int .i64 (l.getD i or0).t) (by rw[orL_get l i 2 (by omega),hg];rfl)
 exact⟨k0,k1,k2⟩
theorem orSl_get {w:World} {g off:Nat} {l:List Or} (h:OrSl w g off l) : ∀j u,(orL l)[j]? = some u→w.cell? ⟨g,off+j,none⟩=some u:=by
 intro j u hj
 have hjj:j=j / 3*3+j % 3:=by omega
 have hm:j % 3<3:=by omega
 generalize j / 3=i at hjj
 generalize j % 3=k at hjj hm
 subst hjj
 rw[orL_get l i k hm] at hj
 cases hg:l[i]? with
 | none=>rw[hg] at hj;cases hj
 | some t=>
  rw[hg] at hj
  have hi:i<l.length:=(List.getElem?_eq_some_iff.1 hg).1
  have hT:=h i hi
  have ht:l.getD i or0=t:=by rw[List.getD_eq_getElem?_getD,hg];rfl
  rw[ht] at hT
  obtain⟨e0,e1,e2⟩:=hT
  rw[show off+(i*3+k)=off+i*3+k by omega]
  match k,hm with
  | 0,_=>simp[orL1] at hj;subst hj;exact e0
  | 1,_=>simp[orL1] at hj;subst hj;exact e1
  | 2,_=>simp[orL1] at hj;subst hj;exact e2
def OwnO (B:Nat) (w:World) (v:Value) (l:List Or):Prop:=w.ownsRow B 54 3 v l.length (orL l)
theorem OwnO.nil (B:Nat) (w:World):OwnO B w (.slice none 0 0) []:=⟨rfl, .inl ⟨rfl,rfl⟩⟩
theorem OwnO.below {B:Nat} {w w1:World} {v:Value} {l:List Or} (h:OwnO B w v l) (hb:Below w.heap.size w w1):OwnO B w1 v l:=owns_below h hb
theorem OwnO.fresh (w:World):OwnO w.heap.size (w.alloc (.cells #[] 54)) (.slice (some ⟨w.heap.size,0,none⟩) 0 0) []:=
 ⟨rfl, .inr ⟨w.heap.size,0, #[],rfl,Nat.le_refl _,by show (w.heap.push _)[w.heap.size]? = _;simp,Nat.le_refl _,by decide,rfl,rfl⟩⟩
theorem OwnO.cases {B:Nat} {w:World} {v:Value} {l:List Or} (h:OwnO B w v l):(v= .slice none 0 0∧l=[]) ∨ ∃g c,v= .slice (some ⟨g,0,none⟩) l.length c∧B≤g∧g<w.heap.size∧l.length≤c∧OrSl w g 0 l∧ ∀o,w.frozen? ⟨g,o,none⟩=false:=by
 have hh:=h
 rcases h.2 with ⟨rfl,h0⟩|⟨g,cap,cur,rfl,hb,hg,hc,hm,hsz,htk⟩
 ·exact .inl ⟨rfl,List.eq_nil_of_length_eq_zero h0⟩
 ·refine .inr ⟨g,cap,rfl,hb,(Array.getElem?_eq_some_iff.1 hg).1,hc,orSl_of fun j u hj=> ?_,fun o=>World.ownsRow.frozenAt hh o⟩
  have:=World.ownsRow.cells (show w.ownsRow B 54 3 (.slice (some ⟨g,0,none⟩) l.length cap) l.length (orL l) from hh) rfl j u hj
  by_cases hj0:j=0
  ·subst hj0;simpa [Addr.add] using this
  ·simpa [Addr.add,hj0] using this
theorem OwnO.arg {B:Nat} {w:World} {a:Option Addr} {n c:Nat} {l:List Or} (h:OwnO B w (.slice a n c) l):OArg w a n l:=by
 rcases h.cases with ⟨h1,rfl⟩|⟨g,c,h1,_,h3,_,h5,_⟩
 ·injection h1 with _ h1 _;subst h1;exact⟨rfl, .inl rfl⟩
 ·injection h1 with h0 h1 _;subst h0;subst h1;exact⟨rfl, .inr ⟨g,0,rfl,h5,h3⟩⟩
theorem op_or {ops:Array Oper} {rest:List Oper} {o:Oper} {a:Act} {Q:Exit→Act→World→Prop} (hgd:o.guard=none) (s x:Operand) (W:World) (B:Nat) (hB:B≤W.heap.size) (ov:Value) (l ys:List Or) (arr:Array Value)
  (ho:o.op= .call { callee:= .builtin .append,args:= #[s,x],argTypes:= #[22,22] })
  (hs:a.eval s=ov) (m:Nat) (hm:m=ys.length) (hx:a.eval x= .slice (some ⟨W.heap.size,0,none⟩) m m) (harr:arr.toList=orL ys) (hown:OwnO B W ov l) (hlen:(l.length+ys.length)*32≤140737488355328)
  (h : ∀v' w',OwnO B w' v' (l++ys)→Below B W w'→(v'= .slice none 0 0→ys=[])→wpList Tryz.prog ops Q rest (a.put o.dst v') w') :
  wpList Tryz.prog ops Q (o :: rest) a (W.alloc (.cells arr 54)):=by
 subst hm
 obtain⟨i0,hi,hz0,hz1,hz2⟩:=info_parts infoOr
 refine wpList_append_own _ hgd s x 22 ho B 54 i0 (.agg #[.string ByteArray.empty, .int .i64 0, .int .i64 0]) 3 32 Tryz.underlying22 hi hz0 hz1 hz2 rfl (by decide) ov l.length (orL l) hs (World.ownsRow.alloc hown _) ⟨W.heap.size,0,none⟩ ys.length ys.length (orL ys) hx (orL_len ys) ?_ (orL_one ys) (by unfold maxLen;omega) (by omega) (by simp;omega) ?_
 ·intro j u hj
  have e:(⟨W.heap.size,0,none⟩:Addr).add j=⟨W.heap.size,j,none⟩:=by simp[Addr.add];try omega
  rw[e,World.cell?_alloc_at _ _ _ _ rfl, ← hj, ← harr,Array.getElem?_toList]
 ·intro v' w' hown' hgr hnil
  refine h v' w' (by unfold OwnO;rw[orL_app,List.length_append];exact hown') ?_ (fun e=>List.eq_nil_of_length_eq_zero (hnil.1 e).2)
  have hsz:=hgr.size
  simp at hsz
  refine⟨hgr.os,hgr.tape,hgr.output,by omega,fun k hk=> ?_⟩
  rw[hgr.block k (by simp;omega) ?_]
  ·exact Below.heap_alloc W _ k (by omega)
  ·intro e
   rcases hown.2 with ⟨rfl,_⟩|⟨g,cap,cur,rfl,hg,_⟩
   ·simp[Value.ownBlock] at e
   ·simp[Value.ownBlock] at e;omega
theorem CopyOps_nil (a:Option Addr) (c:Nat) (w:World) :
  Calls Tryz.prog 33 #[.slice a 0 c] w fun e w'=> ∃v,e= .returned v∧OwnO w.heap.size w' v []∧Below w.heap.size w w':=by
 obtain⟨i0,hi,hz0,hz1,hz2⟩:=info_parts infoOr
 have hown0:=bH (OwnO.fresh w)
 cases a with
 | some ad=>
  go_enter Tryz.func33,Tryz.ntmps33
  go_wp2_with (at_builtin;refine wpList_append_own _ rfl (.tmp 3) (.tmp 4) 22 rfl w.heap.size 54 i0 (.agg #[.string ByteArray.empty, .int .i64 0, .int .i64 0]) 3 32 Tryz.underlying22 hi hz0 hz1 hz2 rfl (by decide) _ 0 [] rfl hown0.out ad 0 c [] rfl rfl (by intro j u hj;simp at hj) (by intro u hu;simp at hu) (by unfold maxLen;omega) (by omega) (by simp) ?_)
  intro v' w1 hown1 hgr _
  have hbel:Below w.heap.size w w1:=((Below.refl _ _).alloc (Nat.le_refl _) _).grown hgr (by simp) (by intro k hk;simp[Value.ownBlock] at hk;omega)
  have hown1':=bH hown1;clear hown1 hgr
  go_wp2_with fail
  go_ret
  exact⟨v',rfl,hown1'.out,hbel⟩
 | none=>
 go_enter Tryz.func33,Tryz.ntmps33
 go_wp2_with fail
 go_ret
 exact⟨_,rfl,hown0.out,bZ⟩
theorem CopyOps_sl (g off cp:Nat) (l:List Or) (w:World) (h:Hid (OrSl w g off l)) (hg:g<w.heap.size) (hl:l.length*32≤140737488351232) :
  Calls Tryz.prog 33 #[.slice (some ⟨g,off,none⟩) l.length cp] w fun e w'=> ∃v,e= .returned v∧OwnO w.heap.size w' v l∧Below w.heap.size w w':=by
 obtain⟨i0,hi,hz0,hz1,hz2⟩:=info_parts infoOr
 have hown0':=bH (OwnO.fresh w)
 have hnews:Hid (∀j u,(orL l)[j]? = some u→(w.alloc (.cells #[] 54)).cell? ((⟨g,off,none⟩:Addr).add j)=some u):=bH (by
  intro j u hj
  have e:(⟨g,off,none⟩:Addr).add j=⟨g,off+j,none⟩:=by simp[Addr.add];try omega
  rw[e,World.cell?_alloc_past _ _ _ hg]
  exact orSl_get h.out j u hj)
 go_enter Tryz.func33,Tryz.ntmps33
 go_wp2_with (at_builtin;refine wpList_append_own _ rfl (.tmp 3) (.tmp 4) 22 rfl w.heap.size 54 i0 (.agg #[.string ByteArray.empty, .int .i64 0, .int .i64 0]) 3 32 Tryz.underlying22 hi hz0 hz1 hz2 rfl (by decide) _ 0 [] rfl hown0'.out ⟨g,off,none⟩ l.length cp (orL l) rfl (orL_len l) hnews.out (orL_one l) (by unfold maxLen;omega) (by omega) (by simp) ?_)
 intro v' w1 hown1 hgr _
 have hbel:Below w.heap.size w w1:=((Below.refl _ _).alloc (Nat.le_refl _) _).grown hgr (by simp) (by intro k hk;simp[Value.ownBlock] at hk;omega)
 (try rw[Nat.zero_add,List.nil_append] at hown1)
 have hown1':=bH hown1;clear hown1 hgr
 go_wp2_with fail
 go_ret
 exact⟨v',rfl,hown1'.out,hbel⟩
theorem CopyOps_any (a:Option Addr) (n c:Nat) (l:List Or) (w:World) (h:Hid (OArg w a n l)) (hl:n*32≤140737488351232) :
  Calls Tryz.prog 33 #[.slice a n c] w fun e w'=> ∃v,e= .returned v∧OwnO w.heap.size w' v l∧Below w.heap.size w w':=by
 obtain⟨rfl,rfl|⟨b,off,rfl,h1,h2⟩⟩:=h.out
 ·exact CopyOps_nil a c w
 ·exact CopyOps_sl b off c l w (bH h1) h2 hl
theorem or_to (a:Option Addr) (m c n:Nat) (h:n≤c) (W:World):(Instr.slice 22 (.slice a m c) none (some (.int .i64 n)) none).run Tryz.prog W= .ok (.slice a n c) W:=by
 have hs : ∀W:World,(sizeOf 54).run Tryz.prog W= .ok 3 W:=fun _=>by kernel_rfl
 have he:Tryz.prog.elem 22=54:=by kernel_rfl
 rw[run_slice_h W 22 a m c (by rw[he];exact Tryz.underlying22) .i64 (n:Int) (by omega) (by omega),he,hs]
 cases a<;>simp[Result.andThen,sliced,Addr.add]
def orMk:Or:=⟨⟨#[]⟩,0,77777⟩
def OwnO.Lent (B:Nat) (w:World) (g n c:Nat) (l:List Or):Prop:=n=l.length∧n+2≤c∧B≤g∧OwnO B w (.slice (some ⟨g,0,none⟩) (n+2) c) (l++[orMk,orMk])
def OwnO.LentPost (l:List Or) (w:World) (n:Nat) (e:Ending) (w':World):Prop:= ∃g c,e= .returned (.slice (some ⟨g,0,none⟩) n c)∧OwnO.Lent w.heap.size w' g n c l∧Below w.heap.size w w'
theorem LendOps_any (a:Option Addr) (n c:Nat) (l:List Or) (w:World) (h:Hid (OArg w a n l)) (hl:n*32≤140737488351232) :
  Calls Tryz.prog 19 #[.slice a n c] w (OwnO.LentPost l w n):=by
 have hn:=bH h.out.1
 have kC:=bH (CopyOps_any a n c l w h (by omega))
 go_enter Tryz.func19,Tryz.ntmps19
 go_wp2_with fail
 refine kC.out.mono ?_
 rintro e w1 ⟨v1,rfl,ho1,hb1⟩
 have ho1':=bH ho1
 have hB1:=bH hb1
 clear ho1 hb1
 go_wp2_with (at_builtin;refine op_or rfl (.tmp 5) (.tmp 8) w1 w.heap.size hB1.out.size _ l [orMk,orMk] _ rfl rfl 2 rfl rfl rfl ho1'.out (by have:=hn.out;simp;omega) ?_;intro v' w2 hown2 hb2 hnn)
 have hbel:=bH (hB1.out.trans hb2)
 obtain⟨g,c2,rfl,hg1,hg2,hg3,_,_⟩ : ∃g c2,v'= .slice (some ⟨g,0,none⟩) (l++[orMk,orMk]).length c2∧w.heap.size≤g∧g<w2.heap.size∧(l++[orMk,orMk]).length≤c2∧OrSl w2 g 0 (l++[orMk,orMk])∧ ∀o,w2.frozen? ⟨g,o,none⟩=false:=by
  rcases hown2.cases with ⟨h1,_⟩|h1
  ·exact absurd (hnn h1) (by simp)
  ·exact h1
 have hlen:(l++[orMk,orMk]).length=n+2:=by rw[List.length_append,hn.out];rfl
 rw[hlen] at hown2 hg3 ⊢
 have hown2':=bH hown2
 clear hown2 hb2 hnn hlen
 have hnc:=fun (W:World)=>or_to (some ⟨g,0,none⟩) (n+2) c2 n (by omega) W
 go_wp2_with fail
 rw[hnc]
 clear hnc
 go_wp2_with fail
 go_ret
 exact⟨g,c2,rfl,⟨hn.out,hg3,hg1,hown2'.out⟩,hbel.out⟩
theorem OwnO.Lent.arg {B:Nat} {w:World} {g n c:Nat} {l:List Or} (h:OwnO.Lent B w g n c l):OArg w (some ⟨g,0,none⟩) n l:=by
 obtain⟨h1,h2,h3,h4⟩:=h
 refine⟨h1, .inr ⟨g,0,rfl,fun i hi=> ?_, ?_⟩⟩
 ·rcases h4.cases with ⟨h5,_⟩|⟨g',c',h5,_,_,_,h6,_⟩
  ·cases h5
  ·injection h5 with h5 _ _;injection h5 with h5;injection h5 with h5 _ _;subst h5
   have:=h6 i (by simp;omega)
   rwa [show (l++[orMk,orMk]).getD i or0=l.getD i or0 from by simp[List.getElem?_append_left hi]] at this
 ·rcases h4.cases with ⟨h5,_⟩|⟨g',c',h5,_,h7,_,h6,_⟩
  ·cases h5
  ·injection h5 with h5 _ _;injection h5 with h5;injection h5 with h5 _ _;subst h5;exact h7
theorem OwnO.Lent.marks {B:Nat} {w:World} {g n c:Nat} {l:List Or} (h:OwnO.Lent B w g n c l):OrAt w g 0 orMk n∧OrAt w g 0 orMk (n+1)∧g<w.heap.size:=by
 obtain⟨h1,h2,h3,h4⟩:=h
 rcases h4.cases with ⟨h5,_⟩|⟨g',c',h5,_,h7,_,h6,_⟩
 ·cases h5
 ·injection h5 with h5 _ _;injection h5 with h5;injection h5 with h5 _ _;subst h5
  subst h1
  refine⟨?_, ?_,h7⟩
  ·have:=h6 l.length (by simp)
   rwa [show (l++[orMk,orMk]).getD l.length or0=orMk from by simp] at this
  ·have:=h6 (l.length+1) (by simp)
   rwa [show (l++[orMk,orMk]).getD (l.length+1) or0=orMk from by simp] at this
theorem OwnO.Lent.below {B:Nat} {w w':World} {g n c:Nat} {l:List Or} (h:OwnO.Lent B w g n c l) (hb:Below w.heap.size w w'):OwnO.Lent B w' g n c l:=⟨h.1,h.2.1,h.2.2.1,h.2.2.2.below hb⟩
theorem bgK_mem (g:Nat→Int) (hg : ∀j,g j≤j) : ∀(cs:List Int) (k:Int),0≤bgK g cs k→ ∀c∈cs,0≤c∧c<k∧0≤g c.toNat:=by
 intro cs
 induction cs with
 | nil=>intro k _ c hc;cases hc
 | cons d cs ih=>
  intro k h c hc
  unfold bgK at h
  by_cases h1:d=k-1∧1≤k
  ·rw[if_pos h1] at h
   by_cases h2:g (k-1).toNat<0
   ·rw[if_pos h2] at h;omega
   ·rw[if_neg h2] at h
    rcases List.mem_cons.1 hc with rfl|hc
    ·obtain⟨h3,h4⟩:=h1
     refine⟨by omega,by omega, ?_⟩
     rw[h3];omega
    ·obtain⟨a,b,e⟩:=ih _ h c hc
     have:=hg (k-1).toNat
     exact⟨a,by omega,e⟩
  ·rw[if_neg h1] at h;omega
theorem kid_ok (ks:Nat→List Int) (i:Nat) (h:0≤bg ks i) : ∀c∈ks i,0≤c∧c<i∧0≤bg ks c.toNat:=by
 rw[bg_eq] at h
 intro c hc
 exact bgK_mem (bg ks) (bg_le ks) _ _ h c (by simpa using hc)
def mxL (g:Nat→Int):List Int→Int→Int
 | [],d=>d
 | c :: cs,d=>mxL g cs (max d (g c.toNat))
def dpF (ks:Nat→List Int):Nat→Nat→Int
 | 0,_=>0
 | f+1,i=>mxL (dpF ks f) (ks i) 0+1
def dp (ks:Nat→List Int) (i:Nat):Int:=dpF ks (i+1) i
theorem mxL_congr (g h:Nat→Int) : ∀(cs:List Int) (d:Int),(∀c∈cs,g c.toNat=h c.toNat)→mxL g cs d=mxL h cs d:=by
 intro cs
 induction cs with
 | nil=>intro d _;rfl
 | cons c cs ih=>
  intro d hk
  unfold mxL
  rw[hk c (by simp)]
  exact ih _ (fun e he=>hk e (by simp[he]))
theorem dpF_fuel (ks:Nat→List Int) : ∀(f i g:Nat),0≤bg ks i→i<f→i<g→dpF ks f i=dpF ks g i:=by
 intro f
 induction f with
 | zero=>intro i g _ h;omega
 | succ f ih=>
  intro i g h0 h1 h2
  cases g with
  | zero=>omega
  | succ g=>
   unfold dpF
   rw[mxL_congr _ _ _ _ (fun c hc=>by
    obtain⟨a,b,e⟩:=kid_ok ks i h0 c hc
    exact ih c.toNat g e (by omega) (by omega))]
theorem dp_eq (ks:Nat→List Int) (i:Nat) (h:0≤bg ks i):dp ks i=mxL (dp ks) (ks i) 0+1:=by
 conv=>lhs;unfold dp dpF
 rw[mxL_congr (dpF ks i) (dp ks) _ _ (fun c hc=>by
  obtain⟨a,b,e⟩:=kid_ok ks i h c hc
  show dpF ks i c.toNat=dpF ks (c.toNat+1) c.toNat
  exact dpF_fuel ks i c.toNat (c.toNat+1) e (by omega) (by omega))]
theorem mxL_bd (g:Nat→Int) : ∀(cs:List Int) (d m:Int),0≤d→d≤m→(∀c∈cs,0≤g c.toNat∧g c.toNat≤m)→0≤mxL g cs d∧mxL g cs d≤m:=by
 intro cs
 induction cs with
 | nil=>intro d m h0 h1 _;exact⟨h0,h1⟩
 | cons c cs ih=>
  intro d m h0 h1 hk
  unfold mxL
  have:=hk c (by simp)
  exact ih _ m (by omega) (by omega) (fun e he=>hk e (by simp[he]))
theorem dp_bd (ks:Nat→List Int) : ∀(n i:Nat),i<n→0≤bg ks i→1≤dp ks i∧dp ks i≤i+1:=by
 intro n
 induction n with
 | zero=>intro i h;omega
 | succ n ih=>
  intro i hi h0
  rw[dp_eq ks i h0]
  have:=mxL_bd (dp ks) (ks i) 0 i (by omega) (by omega) (fun c hc=>by
   obtain⟨a,b,e⟩:=kid_ok ks i h0 c hc
   have:=ih c.toNat (by omega) e
   omega)
  omega
open Go.RowKit
theorem chL (ts:List Nd) (i:Nat):kidV (ksN ts i)= .agg #[.int .i64 (ksN ts i).length, .int .i64 ((ksN ts i).getD 0 0), .int .i64 ((ksN ts i).getD 1 0), .int .i64 ((ksN ts i).getD 2 0)]:=rfl
open Go.RowKit
theorem drop_getD (l:List Int) (j:Nat) (h:j<l.length):l.drop j=l.getD j 0 :: l.drop (j+1):=by
 rw[List.drop_eq_getElem_cons h];simp[h]
theorem getI_mem {l:List Int} {j:Nat} (hj:j<l.length):l.getD j 0∈l:=by
 rw[List.getD_eq_getElem?_getD,List.getElem?_eq_getElem hj];exact List.getElem_mem hj
theorem kcell (g:Nat) (w:World) (n:Nat) (l:List Int) (hl:l.length=n) (h:w.cell? ⟨g,1,none⟩=some (.int .i64 (l.getD 0 0))∧w.cell? ⟨g,2,none⟩=some (.int .i64 (l.getD 1 0))∧w.cell? ⟨g,3,none⟩=some (.int .i64 (l.getD 2 0))) :
  ∀j,j<3→w.cell? ⟨g,1+j,none⟩=some (.int .i64 (l.getD j 0)):=by
 intro j hj
 have:j=0∨j=1∨j=2:=by omega
 rcases this with rfl|rfl|rfl
 ·exact h.1
 ·exact h.2.1
 ·exact h.2.2
theorem sl3_0 (g:Nat) (W:World):(Instr.sliceAt 121 (.pointer (some ⟨g,1,none⟩)) none (some (.int .i64 ((0:Nat):Int))) none).run Tryz.prog W= .ok (.slice (some ⟨g,1,none⟩) 0 3) W:=by kernel_rfl
theorem sl3_1 (g:Nat) (W:World):(Instr.sliceAt 121 (.pointer (some ⟨g,1,none⟩)) none (some (.int .i64 ((1:Nat):Int))) none).run Tryz.prog W= .ok (.slice (some ⟨g,1,none⟩) 1 3) W:=by kernel_rfl
theorem sl3_2 (g:Nat) (W:World):(Instr.sliceAt 121 (.pointer (some ⟨g,1,none⟩)) none (some (.int .i64 ((2:Nat):Int))) none).run Tryz.prog W= .ok (.slice (some ⟨g,1,none⟩) 2 3) W:=by kernel_rfl
theorem sl3_3 (g:Nat) (W:World):(Instr.sliceAt 121 (.pointer (some ⟨g,1,none⟩)) none (some (.int .i64 ((3:Nat):Int))) none).run Tryz.prog W= .ok (.slice (some ⟨g,1,none⟩) 3 3) W:=by kernel_rfl
theorem sl3 (g:Nat) (n:Nat) (h:n≤3) (W:World):(Instr.sliceAt 121 (.pointer (some ⟨g,1,none⟩)) none (some (.int .i64 n)) none).run Tryz.prog W= .ok (.slice (some ⟨g,1,none⟩) n 3) W:=by
 have:n=0∨n=1∨n=2∨n=3:=by omega
 rcases this with rfl|rfl|rfl|rfl
 ·exact sl3_0 g W
 ·exact sl3_1 g W
 ·exact sl3_2 g W
 ·exact sl3_3 g W
theorem tdepth_any (b off cp:Nat) (ts:List Nd) (hl:ts.length≤512) : ∀(n at_:Nat) (w:World),at_<n→at_<ts.length→0≤bg (ksN ts) at_→Hid (NdSl w b off ts)→b<w.heap.size→
  Calls Tryz.prog 58 #[.slice (some ⟨b,off,none⟩) ts.length cp, .int .i64 at_] w fun e w'=>e= .returned (.int .i64 (dp (ksN ts) at_))∧Below w.heap.size w w':=by
 intro n
 induction n with
 | zero=>intro at_ w h;omega
 | succ n ih=>
  intro at_ w hn hat h0 h hbs
  have hT:=h.out at_ hat
  have kC:=bH fun (W:World)=>tchildren_any (ts.getD at_ nd0).k (ts.getD at_ nd0).a (ts.getD at_ nd0).b (ts.getD at_ nd0).c (ts.getD at_ nd0).n (ts.getD at_ nd0).p (ts.getD at_ nd0).nm (ts.getD at_ nd0).x (ts.getD at_ nd0).y (ts.getD at_ nd0).z W
  have hks:kidsL (ts.getD at_ nd0).k (ts.getD at_ nd0).a (ts.getD at_ nd0).b (ts.getD at_ nd0).c=ksN ts at_:=rfl
  rw[hks,chL] at kC
  clear hks
  have hkid:=bH fun (c:Int) (hc:c∈ksN ts at_)=>(show 0≤c∧c<at_∧0≤bg (ksN ts) c.toNat∧1≤dp (ksN ts) c.toNat∧dp (ksN ts) c.toNat≤c+1 from by
   obtain⟨a1,a2,a3⟩:=kid_ok (ksN ts) at_ h0 c hc
   have:=dp_bd (ksN ts) (c.toNat+1) c.toNat (by omega) a3
   refine⟨a1,a2,a3,this.1,by omega⟩)
  have hdp:=bH (dp_eq (ksN ts) at_ h0)
  have hk3:(ksN ts at_).length≤3:=kidsL_len _ _ _ _
  obtain⟨R,hR⟩ : ∃r,dp (ksN ts) at_=r:=⟨_,rfl⟩
  rw[hR] at hdp ⊢
  clear hR h0
  generalize ksN ts at_=l at kC hkid hdp hk3
  generalize ts.getD at_ nd0=t at hT kC
  obtain⟨e0,e1,e2,e3,e4,e5,e6,e7,e8,e9⟩:=hT
  go_enter Tryz.func58,Tryz.ntmps58
  go_wp2_with fail
  refine(kC.out _).mono ?_
  rintro e w1 ⟨rfl,hb1⟩
  have hB1:=bH (belT (show Below w.heap.size w w from Below.refl _ _) hb1)
  have hsz1:=hb1.size
  clear hb1 kC e0 e1 e2 e3 e4 e5 e6 e7 e8 e9
  have hat512:(at_:Int)≤512:=by omega
  obtain⟨x0,hx0⟩ : ∃x,l.getD 0 0=x:=⟨_,rfl⟩
  obtain⟨x1,hx1⟩ : ∃x,l.getD 1 0=x:=⟨_,rfl⟩
  obtain⟨x2,hx2⟩ : ∃x,l.getD 2 0=x:=⟨_,rfl⟩
  rw[hx0,hx1,hx2]
  have hx0':=bH hx0;have hx1':=bH hx1;have hx2':=bH hx2
  clear hx0 hx1 hx2
  have hsl:=fun (W:World)=>sl3 w1.heap.size l.length hk3 W
  go_wp2_with fail
  clear hsl
  go_loopw [5,19] (fun d i wr=> ∃(j:Nat) (D:Int),j≤l.length∧i= .int .i64 j∧d= .int .i64 D∧0≤D∧D≤at_∧Below w.heap.size w wr∧w1.heap.size<wr.heap.size∧Hid (mxL (dp (ksN ts)) (l.drop j) D+1=R)∧wr.cell? ⟨w1.heap.size,1,none⟩=some (.int .i64 x0)∧wr.cell? ⟨w1.heap.size,2,none⟩=some (.int .i64 x1)∧wr.cell? ⟨w1.heap.size,3,none⟩=some (.int .i64 x2)) (fun _ i _=>l.length-(intOf i).toNat)
  case atStart=>exact⟨0,0,by omega,rfl,rfl,by omega,by omega,by have:=hB1.out;exact bZ,by simp,bH hdp.out.symm,by simp,by simp,by simp⟩
  case round=>
   obtain⟨j,D,hj,rfl,rfl,hD0,hD1,hbw,hwr,hmx,c1,c2,c3⟩:=hrel
   by_cases hlt:j<l.length
   ·obtain⟨k0,k1,k2,k3,k4⟩:=hkid.out _ (getI_mem hlt)
    have hdr:=bH (drop_getD l j hlt)
    have hc:=kcell w1.heap.size wr _ l rfl (by rw[hx0'.out,hx1'.out,hx2'.out];exact⟨c1,c2,c3⟩) j (by omega)
    obtain⟨y,hy⟩:=Int.eq_ofNat_of_zero_le k0
    rw[hy] at hdr hc k1 k2 k3 k4
    clear hy k0
    have k2':=bH k2;clear k2
    rw[Int.toNat_natCast] at k2' k3 k4
    obtain⟨d,hd⟩ : ∃d,dp (ksN ts) y=d:=⟨_,rfl⟩
    have hI:=bH fun (W:World)=>ih y W (by omega) (by omega) k2'.out
    rw[hd] at k3 k4 hI
    have hmx2:Hid (mxL (dp (ksN ts)) (l.drop (j+1)) (max D d)+1=R):=bH (by
     have:=hmx.out
     rw[hdr.out] at this
     unfold mxL at this
     rw[Int.toNat_natCast,hd] at this
     exact this)
    have c123:=bH (And.intro c1 (And.intro c2 c3))
    clear hd hmx c1 c2 c3
    go_wp2_with fail
    refine(hI.out _ (bH (h.out.below hbw hbs)) (by omega)).mono ?_
    rintro e w2 ⟨rfl,hb2⟩
    have hbw2:=bH (belT hbw hb2)
    have c1:=carry hb2 hwr c123.out.1
    have c2:=carry hb2 hwr c123.out.2.1
    have c3:=carry hb2 hwr c123.out.2.2
    have hwr2:w1.heap.size<w2.heap.size:=by have:=hb2.size;omega
    clear hb2 hc
    by_cases hm:D<d
    ·have hm2:Hid (max D d=d):=bH (by omega)
     go_wp2_with fail
     all_goals
      go_roundw
      case rel=>exact⟨j+1,d,by omega,by go_num,rfl,by omega,by omega,hbw2.out,hwr2,bH (by rw[← hm2.out];exact hmx2.out),c1,c2,c3⟩
      case measure=>simp[intOf];omega
    ·have hm2:Hid (max D d=D):=bH (by omega)
     go_wp2_with fail
     all_goals
      go_roundw
      case rel=>exact⟨j+1,D,by omega,by go_num,rfl,by omega,by omega,hbw2.out,hwr2,bH (by rw[← hm2.out];exact hmx2.out),c1,c2,c3⟩
      case measure=>simp[intOf];omega
   ·have hv:Hid (D+1=R):=bH (by have:=hmx.out;rw[List.drop_eq_nil_of_le (by omega)] at this;exact this)
    go_wp2_with fail
    go_ret
    exact⟨ret_ii0 hv.out,hbw⟩
open Go.RowKit
theorem kidsI_len (k a b c:Int):kidsI k=(kidsL k a b c).length∨(kidsI k= -1∧kidsL k a b c=[]):=by
 unfold kidsI kidsL
 by_cases h0:k=0∨k=1∨k=2
 ·rw[if_pos h0,if_neg (by omega),if_neg (by omega),if_neg (by omega)];exact .inl rfl
 rw[if_neg h0]
 (repeat' split)<;>first|exact .inl rfl|exact .inr ⟨rfl,rfl⟩
theorem kidsL_get (k a b c:Int):(1≤(kidsL k a b c).length→(kidsL k a b c).getD 0 0=a)∧(2≤(kidsL k a b c).length→(kidsL k a b c).getD 1 0=b)∧(3≤(kidsL k a b c).length→(kidsL k a b c).getD 2 0=c):=by
 unfold kidsL
 (repeat' split)<;>refine⟨fun h=> ?_,fun h=> ?_,fun h=> ?_⟩<;>first|rfl|(simp at h)
theorem rbegin_any (b off cp:Nat) (ts:List Nd) (hl:ts.length≤140737488351232) : ∀(n at_:Nat) (w:World),at_<n→at_<ts.length→Hid (NdSl w b off ts)→b<w.heap.size→
  Calls Tryz.prog 65 #[.slice (some ⟨b,off,none⟩) ts.length cp, .int .i64 at_] w fun e w'=>e= .returned (.int .i64 (bg (ksN ts) at_))∧Below w.heap.size w w':=by
 intro n
 induction n with
 | zero=>intro at_ w h;omega
 | succ n ih=>
  intro at_ w hn hat h hbs
  have hT:=h.out at_ hat
  have kK:=bH fun (W:World)=>kids_any (ts.getD at_ nd0).k W
  have hke:=kidsI_len (ts.getD at_ nd0).k (ts.getD at_ nd0).a (ts.getD at_ nd0).b (ts.getD at_ nd0).c
  have hkg:=bH (kidsL_get (ts.getD at_ nd0).k (ts.getD at_ nd0).a (ts.getD at_ nd0).b (ts.getD at_ nd0).c)
  have hks:kidsL (ts.getD at_ nd0).k (ts.getD at_ nd0).a (ts.getD at_ nd0).b (ts.getD at_ nd0).c=ksN ts at_:=rfl
  rw[hks] at hke hkg
  clear hks
  have hbe:=bH (bg_eq (ksN ts) at_)
  have hk3:(ksN ts at_).length≤3:=kidsL_len _ _ _ _
  obtain⟨R,hR⟩ : ∃r,bg (ksN ts) at_=r:=⟨_,rfl⟩
  rw[hR] at hbe ⊢
  clear hR
  generalize ksN ts at_=l at hke hkg hbe hk3
  generalize ts.getD at_ nd0=t at hT kK hke hkg
  generalize kidsI t.k=kc at kK hke
  obtain⟨e0,e1,e2,e3,e4,e5,e6,e7,e8,e9⟩:=hT
  go_enter Tryz.func65,Tryz.ntmps65
  go_wp2_with fail
  refine(kK.out _).mono ?_
  rintro e w1 ⟨rfl,hb1⟩
  have hB1:=bH (belT (show Below w.heap.size w w from Below.refl _ _) hb1)
  have hsz1:=hb1.size
  have hke':=bH hke
  have hE:=bH (And.intro (carry hb1 hbs e1) (And.intro (carry hb1 hbs e2) (carry hb1 hbs e3)))
  clear hb1 kK e0 e1 e2 e3 e4 e5 e6 e7 e8 e9 hke
  go_wp2_with fail
  go_loopw [5,6] (fun kv cv wr=> ∃(k m:Nat) (c:Int),m≤l.length∧kv= .int .i64 k∧cv= .int .i64 c∧Hid (c=m∨(c= -1∧m=0))∧k≤at_∧Below w.heap.size w wr∧Hid (bgK (bg (ksN ts)) (l.take m).reverse k=R)) (fun _ cv _=>(intOf cv+1).toNat)
  case atStart=>
   refine⟨at_,l.length,kc,by omega,rfl,rfl,bH ?_,by omega,by have:=hB1.out;exact bZ,bH ?_⟩
   ·rcases hke'.out with h|⟨h,h2⟩
    ·exact .inl h
    ·exact .inr ⟨h,by rw[h2];rfl⟩
   ·rw[List.take_length];exact hbe.out.symm
  case round=>
   obtain⟨k,m,c,hm,rfl,rfl,hc,hk,hbw,hbk⟩:=hrel
   by_cases hm0:m=0
   ·have hv:Hid ((k:Int)=R):=bH (by have:=hbk.out;rw[hm0] at this;exact this)
    have hc0 : ¬ (0:Int)<c:=by rcases hc.out with h|h<;>omega
    go_wp2_with fail
    go_ret
    exact⟨ret_ii0 hv.out,hbw⟩
   ·have hcm:c=m:=by rcases hc.out with h|h<;>omega
    subst hcm
    have hrev:=bH (take_rev l m (by omega) hm)
    have hx:(m=1∧l.getD (m-1) 0=t.a)∨(m=2∧l.getD (m-1) 0=t.b)∨(m=3∧l.getD (m-1) 0=t.c):=by
     have:m=1∨m=2∨m=3:=by omega
     rcases this with h1|h1|h1
     ·exact .inl ⟨h1,by rw[h1];exact hkg.out.1 (by omega)⟩
     ·exact .inr (.inl ⟨h1,by rw[h1];exact hkg.out.2.1 (by omega)⟩)
     ·exact .inr (.inr ⟨h1,by rw[h1];exact hkg.out.2.2 (by omega)⟩)
    obtain⟨y,hy⟩ : ∃y,l.getD (m-1) 0=y:=⟨_,rfl⟩
    rw[hy] at hx hrev
    clear hy
    have e1:wr.cell? ⟨b,off+at_*10+1,none⟩=some (.int .i64 t.a):=by rw[hbw.cell (p:=⟨b,_,none⟩) hbs, ← hB1.out.cell (p:=⟨b,_,none⟩) hbs];exact hE.out.1
    have e2:wr.cell? ⟨b,off+at_*10+2,none⟩=some (.int .i64 t.b):=by rw[hbw.cell (p:=⟨b,_,none⟩) hbs, ← hB1.out.cell (p:=⟨b,_,none⟩) hbs];exact hE.out.2.1
    have e3:wr.cell? ⟨b,off+at_*10+3,none⟩=some (.int .i64 t.c):=by rw[hbw.cell (p:=⟨b,_,none⟩) hbs, ← hB1.out.cell (p:=⟨b,_,none⟩) hbs];exact hE.out.2.2
    by_cases hbad : ¬ (y=(k:Int)-1∧(1:Int)≤k)
    ·have hv:Hid (R= -1):=bH (by rw[← hbk.out,hrev.out];unfold bgK;rw[if_neg hbad])
     have hd2 : ¬ y=(k:Int)-1 ∨ ¬ (1:Int)≤k:=by omega
     by_cases hy1:y=(k:Int)-1
     ·have hk1:(k:Int)<1:=by omega
      have hb1:(y==(k:Int)-1)=true:=by simpa using hy1
      have hb2:(y != (k:Int)-1)=false:=by simpa using hy1
      have hy1':=bH hy1
      clear hy1 hbad hd2
      rcases hx with ⟨rfl,hx⟩|⟨rfl,hx⟩|⟨rfl,hx⟩
      all_goals
       subst hx
       go_wp2_with fail
       go_ret
       exact⟨ret_ii0 hv.out.symm,hbw⟩
     ·have hb1:(y==(k:Int)-1)=false:=by simpa using hy1
      have hb2:(y != (k:Int)-1)=true:=by simpa using hy1
      clear hy1 hbad hd2
      rcases hx with ⟨rfl,hx⟩|⟨rfl,hx⟩|⟨rfl,hx⟩
      all_goals
       subst hx
       go_wp2_with fail
       go_ret
       exact⟨ret_ii0 hv.out.symm,hbw⟩
    ·have hgood:y=(k:Int)-1∧(1:Int)≤k:=by omega
     obtain⟨q,rfl⟩ : ∃q,k=q+1:=⟨k-1,by omega⟩
     have hyq:y=q:=by omega
     subst hyq
     obtain⟨gq,hgq⟩ : ∃z,bg (ksN ts) q=z:=⟨_,rfl⟩
     have hI:=bH fun (W:World)=>ih q W (by omega) (by omega)
     have hle:=bg_le (ksN ts) q
     rw[hgq] at hI hle
     have hbk2:Hid ((if gq<0 then -1 else bgK (bg (ksN ts)) (l.take (m-1)).reverse gq)=R):=bH (by
      have:=hbk.out
      rw[hrev.out] at this
      conv at this=>lhs;unfold bgK
      rw[if_pos (by omega),show (((q+1:Nat):Int)-1).toNat=q from by omega,hgq] at this
      exact this)
     clear hgq hgood hbad hbk
     rcases hx with ⟨rfl,hx⟩|⟨rfl,hx⟩|⟨rfl,hx⟩
     all_goals
      simp only[← hx] at e1 e2 e3
      clear hx
      go_wp2_with fail
      refine(hI.out _ (bH (h.out.below hbw hbs)) (by have:=hbw.size;omega)).mono ?_
      rintro e w2 ⟨rfl,hb2⟩
      have hbw2:=bH (belT hbw hb2)
      clear hb2
      by_cases hneg:gq<0
      ·have hv:Hid (R= -1):=bH (by rw[← hbk2.out,if_pos hneg])
       go_wp2_with fail
       go_ret
       exact⟨ret_ii0 hv.out.symm,hbw2.out⟩
      ·obtain⟨g,rfl⟩:=Int.eq_ofNat_of_zero_le (by omega:0≤gq)
       have hv:=bH (show bgK (bg (ksN ts)) (l.take _).reverse g=R from by have:=hbk2.out;rw[if_neg hneg] at this;exact this)
       go_wp2_with fail
       go_roundw
       case rel=>exact⟨g,_,_,by omega,rfl,rfl,bH (.inl (by first|rfl|omega)),by omega,hbw2.out,hv⟩
       case measure=>simp[intOf]
open Go.RowKit
end Go.Proofs.YthpcbgljbpmafaaGreatDoor
