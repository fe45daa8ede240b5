/- Names: contracts of tree.isName and of the reference's NameMay. -/
import Derived.Test.YthpcbgljbpmafaaGreatDoorW8
import Derived.Test.YthpcbgljbpmafaaGreatDoorW9
set_option maxRecDepth 100000
set_option maxHeartbeats 8000000
namespace Go.Proofs.YthpcbgljbpmafaaGreatDoor
open Go.RowKit
set_option linter.unusedVariables false
set_option linter.unusedSimpArgs false
theorem nmR_err {L:List Tk} {p e:Int} {s:ByteArray} (he:e≠0):nmR (L,p,e) s=false:=by
 unfold nmR
 simp only[]
 split
 ·rw[beq_eq_false_iff_ne.2 he];rfl
 ·rfl
theorem nmR_len {L:List Tk} {p e:Int} {s:ByteArray} (h:L.length≠1):nmR (L,p,e) s=false:=by
 match L,h with
 | [],_=>rfl
 | [t],h=>exact absurd rfl h
 | _ :: _ :: _,_=>rfl
theorem list_dec (x s:ByteArray):(x.toList==s.toList)=decide (x=s):=by
 by_cases h:x=s
 ·subst h;simp
 ·rw[decide_eq_false h]
  refine beq_eq_false_iff_ne.2 fun e=>h (ba_ext ?_)
  rw[← ByteArray.toList_eq, ← ByteArray.toList_eq];exact e
theorem isName_any (s:ByteArray) (w:World) (hs:s.size≤1125899906842624) (hg:errTy w) :
  Calls Tryz.prog 77 #[.string s] w fun e w'=>e= .returned (.bool (nmB s.data.toList))∧Below w.heap.size w w':=by
 have hres:=nm_iff s
 have hbd:=lexR_bd s
 have hlen:=lexR_len s
 have kT:=bH fun (W:World) (h:errTy W)=>tokens_any s W (by omega) h
 generalize lexR s=R at hres hbd hlen kT
 obtain⟨L,pl,er⟩:=R
 generalize nmB s.data.toList=NB at hres
 simp only[] at hbd hlen
 have hg':=bH hg
 have h0l:=hgl hg
 clear hg
 go_enter Tryz.func77,Tryz.ntmps77
 go_wp2_with fail
 refine(kT.out _ hg'.out).mono ?_
 rintro e w1 ⟨v1,rfl,ho1,hb1⟩
 have hB1:=bH hb1
 have ho1':=bH ho1
 clear hb1 ho1
 simp only[] at ho1'
 by_cases he:er=0
 case neg=>
  have hnb:NB=false:=by rw[← hres];exact nmR_err he
  have heb:(er==0)=false:=by simpa using he
  subst hnb
  clear hres he ho1'
  go_wp2_with fail
  go_ret
  exact⟨rfl,hB1.out⟩
 subst he
 rcases OwnK.cases ho1'.out with ⟨rfl,hL⟩|⟨g,c,rfl,hg0,hgs,hsl,hfz⟩
 ·have hnb:NB=false:=by rw[← hres];exact nmR_len (by rw[hL];simp)
  subst hnb
  clear hres ho1'
  go_wp2_with fail
  go_ret
  exact⟨rfl,hB1.out⟩
 by_cases h1:L.length=1
 case neg=>
  have hnb:NB=false:=by rw[← hres];exact nmR_len h1
  have h1b:((L.length:Int)==1)=false:=by simp;omega
  subst hnb
  clear hres ho1' hsl hfz
  go_wp2_with fail
  go_ret
  exact⟨rfl,hB1.out⟩
 obtain⟨t,rfl⟩ : ∃t,L=[t]:=List.length_eq_one_iff.1 h1
 obtain⟨e0,e1,e2,e3⟩:=hsl 0 (by simp)
 simp only[List.getD_cons_zero,Nat.zero_mul,Nat.add_zero,Nat.zero_add] at e0 e1 e2 e3
 obtain⟨kd,tx,nm,a⟩:=t
 have e0:w1.cell? ⟨g,0,none⟩=some (.int .i64 kd):=e0
 have e1:w1.cell? ⟨g,1,none⟩=some (.string (bs tx)):=e1
 have hnb:NB=((kd==0) && decide (bs tx=s)):=by rw[← hres];rfl
 generalize bs tx=x at e1 hnb
 clear hres ho1' hsl hfz e2 e3 hlen
 by_cases hk:kd=0
 case neg=>
  have hkb:(kd==0)=false:=by simpa using hk
  rw[hkb,Bool.false_and] at hnb
  subst hnb
  clear hk
  go_wp2_with fail
  go_ret
  exact⟨rfl,hB1.out⟩
 subst hk
 have hnb:NB=decide (x=s):=by rw[hnb];rfl
 have hnb':=bH hnb
 clear hnb
 go_wp2_with fail
 go_ret
 exact⟨ret_bb (by rw[hnb'.out];exact list_dec x s),hB1.out⟩
theorem nameMay_any (s:ByteArray) (w:World) (hs:s.size≤1125899906842624) :
  Calls Tryz.prog 61 #[.string s] w fun e w'=>e= .returned (.bool (nmB s.data.toList))∧Below w.heap.size w w':=by
 have hsz:=len_list s
 have kL:=bH fun (W:World)=>letters_any s W hs
 have kK:=bH fun (W:World)=>rkeyword_any s W hs
 have hnb:Hid (nmB s.data.toList=(decide (s.size≤16) && letB s.data.toList && !kwB s.data.toList)):=bH (by unfold nmB;rw[hsz])
 generalize nmB s.data.toList=NB at hnb
 generalize letB s.data.toList=lb at kL hnb
 generalize kwB s.data.toList=kb at kK hnb
 clear hsz
 by_cases hl:(s.size:Int)≤16
 case neg=>
  have h2:NB=false:=by rw[hnb.out,decide_eq_false (by omega)];rfl
  subst h2
  go_enter Tryz.func61,Tryz.ntmps61
  go_wp2_with fail
  go_ret
  exact⟨rfl,Below.refl _ _⟩
 have h2:NB=(lb && !kb):=by rw[hnb.out,decide_eq_true (by omega)];rfl
 subst h2
 cases lb
 ·go_enter Tryz.func61,Tryz.ntmps61
  go_wp2_with ((go_at_call 83;refine(kL.out _).mono ?_;rintro e w' ⟨rfl,rfl⟩))
  go_ret
  exact⟨rfl,Below.refl _ _⟩
 ·cases kb
  all_goals
   go_enter Tryz.func61,Tryz.ntmps61
   go_wp2_with (first|((go_at_call 83;refine(kL.out _).mono ?_;rintro e w' ⟨rfl,rfl⟩))|((go_at_call 84;refine(kK.out _).mono ?_;rintro e w' ⟨rfl,rfl⟩)))
   go_ret
   exact⟨rfl,Below.refl _ _⟩
open Go.RowKit
def namesL (kd:Int) (s1 s2 s3 s4:ByteArray):List ByteArray:=if kd=0∨kd=9 then [s1] else if kd=3∨kd=5 then [s2] else if kd=6 then [s2,s3] else if kd=10 then [s1,s2,s3,s4] else []
def StrSl (w:World) (v:Value) (l:List ByteArray):Prop:=(l=[]∧v= .slice none 0 0) ∨ ∃g,v= .slice (some ⟨g,0,none⟩) l.length l.length∧g<w.heap.size∧ ∀i,i<l.length→w.cell? ⟨g,i,none⟩=some (.string (l.getD i ⟨#[]⟩))
def NmsPost (l:List ByteArray) (w:World) (e:Ending) (w':World):Prop:= ∃v,e= .returned v∧StrSl w' v l∧Below w.heap.size w w'
theorem nms_fin {w W:World} {l:List ByteArray} {n:Nat} {T:TypeId} {arr:Array Value} (hb:Below w.heap.size w W) (ha:arr=(l.map Value.string).toArray) (hn:n=l.length) {g:Nat} (hg:g=W.heap.size:=by simp) :
  NmsPost l w (.returned (.slice (some ⟨g,0,none⟩) n n)) (W.alloc (.cells arr T)):=by
 subst ha;subst hn;subst hg
 refine⟨_,rfl, .inr ⟨W.heap.size,rfl,by simp,fun i hi=> ?_⟩,hb.alloc hb.size _⟩
 rw[World.cell?_alloc_at _ _ _ _ rfl]
 simp[List.getD_eq_getElem?_getD,List.getElem?_eq_getElem hi]
theorem names_any (kd a b c nm at_:Int) (s1 s2 s3 s4:ByteArray) (w:World) :
  Calls Tryz.prog 101 #[.agg #[.int .i64 kd, .int .i64 a, .int .i64 b, .int .i64 c, .int .i64 nm, .string s1, .string s2, .string s3, .string s4, .int .i64 at_]] w (NmsPost (namesL kd s1 s2 s3 s4) w):=by
 have hk:(kd=0∨kd=9)∨(kd=3∨kd=5)∨kd=6∨kd=10∨(kd≠0∧kd≠9∧kd≠3∧kd≠5∧kd≠6∧kd≠10):=by omega
 rcases hk with hk|hk|rfl|rfl|⟨h0,h9,h3,h5,h6,h10⟩
 ·have hkl:namesL kd s1 s2 s3 s4=[s1]:=by unfold namesL;rw[if_pos hk]
  rw[hkl]
  clear hkl
  rcases hk with rfl|rfl
  all_goals
   go_enter Tryz.func101,Tryz.ntmps101
   go_wp2_with fail
   go_ret
   exact nms_fin (bZ) rfl rfl
 ·have hkl:namesL kd s1 s2 s3 s4=[s2]:=by unfold namesL;rw[if_neg (by omega),if_pos hk]
  rw[hkl]
  clear hkl
  rcases hk with rfl|rfl
  all_goals
   go_enter Tryz.func101,Tryz.ntmps101
   go_wp2_with fail
   go_ret
   exact nms_fin (bZ) rfl rfl
 ·rw[show namesL 6 s1 s2 s3 s4=[s2,s3] from rfl]
  go_enter Tryz.func101,Tryz.ntmps101
  go_wp2_with fail
  go_ret
  exact nms_fin (bZ) rfl rfl
 ·rw[show namesL 10 s1 s2 s3 s4=[s1,s2,s3,s4] from rfl]
  go_enter Tryz.func101,Tryz.ntmps101
  go_wp2_with fail
  go_ret
  exact nms_fin (bZ) rfl rfl
 ·have hkl:namesL kd s1 s2 s3 s4=[]:=by unfold namesL;rw[if_neg (by omega),if_neg (by omega),if_neg (by omega),if_neg (by omega)]
  rw[hkl]
  have b0:(kd==0)=false:=beq_eq_false_iff_ne.2 h0
  have b9:(kd==9)=false:=beq_eq_false_iff_ne.2 h9
  have b3:(kd==3)=false:=beq_eq_false_iff_ne.2 h3
  have b5:(kd==5)=false:=beq_eq_false_iff_ne.2 h5
  have b6:(kd==6)=false:=beq_eq_false_iff_ne.2 h6
  have b10:(kd==10)=false:=beq_eq_false_iff_ne.2 h10
  clear hkl h0 h9 h3 h5 h6 h10
  go_enter Tryz.func101,Tryz.ntmps101
  go_wp2_with fail
  go_ret
  exact⟨_,rfl, .inl ⟨rfl,rfl⟩,bZ⟩
open Go.RowKit
theorem names_mem {kd:Int} {s1 s2 s3 s4 x:ByteArray} (h:x∈namesL kd s1 s2 s3 s4):x=s1∨x=s2∨x=s3∨x=s4:=by
 unfold namesL at h
 (repeat' split at h)<;>simp at h<;>(try (rcases h with rfl|rfl|rfl|rfl<;>simp))<;>(try (rcases h with rfl|rfl<;>simp))<;>(try (subst h;simp))
theorem names_len (kd:Int) (s1 s2 s3 s4:ByteArray):(namesL kd s1 s2 s3 s4).length≤4:=by
 unfold namesL;(repeat' split)<;>simp
def namedB (kd nm:Int) (l:List ByteArray):Bool:=(if kd=0∨kd=9∨kd=10 then decide (nm=0) else true) && l.all fun s=>nmB s.data.toList
def resB (l:List ByteArray):Bool:=l.all fun s=>s.toList.isEmpty
theorem all_take {f:ByteArray→Bool} {l:List ByteArray} {j:Nat} (hj:j<l.length) (h:(l.take j).all f=true):(l.take (j+1)).all f=f (l.getD j ⟨#[]⟩):=by
 rw[List.take_succ_eq_append_getElem hj,List.all_append,h,Bool.true_and,List.getD_eq_getElem?_getD,List.getElem?_eq_getElem hj]
 simp
theorem all_stop {f:ByteArray→Bool} {l:List ByteArray} {j:Nat} (hj:j<l.length) (h:f (l.getD j ⟨#[]⟩)=false):l.all f=false:=by
 rw[List.all_eq_false]
 exact⟨l[j],List.getElem_mem hj,by rw[List.getD_eq_getElem?_getD,List.getElem?_eq_getElem hj] at h;simpa using h⟩
theorem getD_mem {l:List ByteArray} {j:Nat} (hj:j<l.length):l.getD j ⟨#[]⟩∈l:=by
 rw[List.getD_eq_getElem?_getD,List.getElem?_eq_getElem hj];exact List.getElem_mem hj
theorem named_any (kd a b c nm at_:Int) (s1 s2 s3 s4:ByteArray) (w:World) (hz:s1.size≤1125899906842624∧s2.size≤1125899906842624∧s3.size≤1125899906842624∧s4.size≤1125899906842624) (hg:errTy w) :
  Calls Tryz.prog 76 #[.agg #[.int .i64 kd, .int .i64 a, .int .i64 b, .int .i64 c, .int .i64 nm, .string s1, .string s2, .string s3, .string s4, .int .i64 at_]] w fun e w'=>e= .returned (.bool (namedB kd nm (namesL kd s1 s2 s3 s4)))∧Below w.heap.size w w':=by
 have hsz:Hid (∀x∈namesL kd s1 s2 s3 s4,x.size≤1125899906842624):=bH fun x hx=>by
  rcases names_mem hx with rfl|rfl|rfl|rfl
  ·exact hz.1
  ·exact hz.2.1
  ·exact hz.2.2.1
  ·exact hz.2.2.2
 have kN:=bH fun (W:World)=>names_any kd a b c nm at_ s1 s2 s3 s4 W
 have hl4:=names_len kd s1 s2 s3 s4
 generalize namesL kd s1 s2 s3 s4=l at hsz kN hl4
 obtain⟨NB,hNB⟩ : ∃y,namedB kd nm l=y:=⟨_,rfl⟩
 rw[hNB]
 have hg':=bH hg
 have h0l:=hgl hg
 clear hz hg
 by_cases hA:(kd=0∨kd=9∨kd=10)∧nm≠0
 ·obtain⟨hk,hn⟩:=hA
  have h2:NB=false:=by rw[← hNB];unfold namedB;rw[if_pos hk,decide_eq_false hn];rfl
  have hnb:(nm==0)=false:=by simpa using hn
  have hnb2:(nm != 0)=true:=by simpa using hn
  subst h2
  clear hNB
  rcases hk with rfl|rfl|rfl
  all_goals
   go_enter Tryz.func76,Tryz.ntmps76
   go_wp2_with fail
   go_ret
   exact⟨rfl,bZ⟩
 have hNB':Hid (NB=l.all fun s=>nmB s.data.toList):=bH (by
  rw[← hNB];unfold namedB
  by_cases hk:kd=0∨kd=9∨kd=10
  ·rw[if_pos hk,decide_eq_true (by omega)];rfl
  ·rw[if_neg hk];rfl)
 clear hNB
 have hcase:(kd=0∧nm=0)∨(kd=9∧nm=0)∨(kd=10∧nm=0)∨(kd≠0∧kd≠9∧kd≠10):=by omega
 clear hA
 obtain⟨b0,hb0⟩ : ∃x,(kd==0)=x:=⟨_,rfl⟩
 rcases hcase with ⟨rfl,rfl⟩|⟨rfl,rfl⟩|⟨rfl,rfl⟩|⟨h0,h9,h10⟩
 case' inr.inr.inr=>
  have e0:(kd==0)=false:=beq_eq_false_iff_ne.2 h0
  have e9:(kd==9)=false:=beq_eq_false_iff_ne.2 h9
  have e10:(kd==10)=false:=beq_eq_false_iff_ne.2 h10
  clear h0 h9 h10
 all_goals
  clear hb0
  go_enter Tryz.func76,Tryz.ntmps76
  go_wp2_with fail
  refine(kN.out _).mono ?_
  rintro e w1 ⟨v1,rfl,hsl,hb1⟩
  have hB1:Hid (Below w.heap.size w w1):=bH (belT (bZ) hb1)
  clear hb1
  rcases hsl with ⟨rfl,rfl⟩|⟨g,rfl,hgs,hcx⟩
  ·have h2:NB=true:=hNB'.out
   subst h2
   go_wp2_with fail
   go_loopw [17] (fun i wr=>i= .int .i64 0∧wr=w1) (fun _ _=>0)
   case atStart=>exact⟨rfl,rfl⟩
   case round=>
    obtain⟨rfl,rfl⟩:=hrel
    go_wp2_with fail
    go_ret
    exact⟨rfl,hB1.out⟩
  ·have hcx':=bH hcx
   have hg1:=bH (errTy_below hg'.out hB1.out)
   clear hcx
   go_wp2_with fail
   go_loopw [17] (fun i wr=> ∃j:Nat,j≤l.length∧i= .int .i64 j∧Below w1.heap.size w1 wr∧Hid ((l.take j).all (fun s=>nmB s.data.toList)=true)) (fun i _=>l.length-(intOf i).toNat)
   case atStart=>exact⟨0,by omega,rfl,Below.refl _ _,bH (by simp)⟩
   case round=>
    obtain⟨j,hj,rfl,hbw,hall⟩:=hrel
    have hws:=hbw.size
    by_cases hlt:j<l.length
    ·have hc:=carry hbw hgs (hcx'.out j hlt)
     have htk:=bH (all_take hlt hall.out)
     have hst:=bH (all_stop (f:=fun s=>nmB s.data.toList) hlt)
     have kI:=bH fun (W:World) (h:errTy W)=>isName_any (l.getD j ⟨#[]⟩) W (hsz.out _ (getD_mem hlt)) h
     have hgw:=bH (errTy_below hg1.out hbw)
     generalize l.getD j ⟨#[]⟩=x at hc htk hst kI
     have hlt':(j:Int)<(l.length:Int):=by omega
     have hj0:(0:Int)≤(j:Int):=by omega
     obtain⟨nx,hnx⟩ : ∃y,nmB x.data.toList=y:=⟨_,rfl⟩
     rw[hnx] at kI
     have hnx':=bH hnx
     clear hnx
     go_wp2_with fail
     refine(kI.out _ hgw.out).mono ?_
     rintro e w2 ⟨rfl,hb2⟩
     have hb2':Below w1.heap.size w1 w2:=hbw.trans (hb2.mono hws)
     clear hb2 hc
     cases nx
     ·go_wp2_with fail
      go_ret
      exact⟨ret_bb (by rw[hNB'.out];exact(hst.out hnx'.out).symm),belT hB1.out hb2'⟩
     ·go_wp2_with fail
      go_roundw
      case rel=>exact⟨j+1,by omega,by go_num,hb2',bH (by rw[htk.out];exact hnx'.out)⟩
      case measure=>simp[intOf];omega
    ·have hjl:j=l.length:=by omega
     have h2:NB=true:=by rw[hNB'.out, ← hall.out,hjl,List.take_length]
     subst h2
     go_wp2_with fail
     go_ret
     exact⟨rfl,belT hB1.out hbw⟩
theorem resolved_any (kd a b c nm at_:Int) (s1 s2 s3 s4:ByteArray) (w:World) :
  Calls Tryz.prog 79 #[.agg #[.int .i64 kd, .int .i64 a, .int .i64 b, .int .i64 c, .int .i64 nm, .string s1, .string s2, .string s3, .string s4, .int .i64 at_]] w fun e w'=>e= .returned (.bool (resB (namesL kd s1 s2 s3 s4)))∧Below w.heap.size w w':=by
 have kN:=bH fun (W:World)=>names_any kd a b c nm at_ s1 s2 s3 s4 W
 have hl4:=names_len kd s1 s2 s3 s4
 generalize namesL kd s1 s2 s3 s4=l at kN hl4
 obtain⟨NB,hNB⟩ : ∃y,resB l=y:=⟨_,rfl⟩
 rw[hNB]
 have hNB':Hid (NB=l.all fun s=>s.toList.isEmpty):=bH (by rw[← hNB];rfl)
 clear hNB
 go_enter Tryz.func79,Tryz.ntmps79
 go_wp2_with fail
 refine(kN.out _).mono ?_
 rintro e w1 ⟨v1,rfl,hsl,hb1⟩
 have hB1:Hid (Below w.heap.size w w1):=bH (belT (bZ) hb1)
 clear hb1
 rcases hsl with ⟨rfl,rfl⟩|⟨g,rfl,hgs,hcx⟩
 ·have h2:NB=true:=hNB'.out
  subst h2
  go_wp2_with fail
  go_loopw [8] (fun i wr=>i= .int .i64 0∧wr=w1) (fun _ _=>0)
  case atStart=>exact⟨rfl,rfl⟩
  case round=>
   obtain⟨rfl,rfl⟩:=hrel
   go_wp2_with fail
   go_ret
   exact⟨rfl,hB1.out⟩
 ·have hcx':=bH hcx
  clear hcx
  go_wp2_with fail
  go_loopw [8] (fun i wr=> ∃j:Nat,j≤l.length∧i= .int .i64 j∧wr=w1∧Hid ((l.take j).all (fun s=>s.toList.isEmpty)=true)) (fun i _=>l.length-(intOf i).toNat)
  case atStart=>exact⟨0,by omega,rfl,rfl,bH (by simp)⟩
  case round=>
   obtain⟨j,hj,rfl,rfl,hall⟩:=hrel
   by_cases hlt:j<l.length
   ·have hc:=hcx'.out j hlt
    have htk:=bH (all_take hlt hall.out)
    have hst:=bH (all_stop (f:=fun s=>s.toList.isEmpty) hlt)
    generalize l.getD j ⟨#[]⟩=x at hc htk hst
    have hlt':(j:Int)<(l.length:Int):=by omega
    have hj0:(0:Int)≤(j:Int):=by omega
    cases hx:x.toList with
    | nil=>
     have t1:(x.toList==[])=true:=by rw[hx];rfl
     have t2:x.toList.isEmpty=true:=by rw[hx];rfl
     clear hx
     go_wp2_with fail
     go_roundw
     case rel=>exact⟨j+1,by omega,by go_num,by trivial,bH (by rw[htk.out];exact t2)⟩
     case measure=>simp[intOf];omega
    | cons y r=>
     have t1:(x.toList==[])=false:=by rw[hx];rfl
     have t2:x.toList.isEmpty=false:=by rw[hx];rfl
     clear hx
     go_wp2_with fail
     go_ret
     exact⟨ret_bb (by rw[hNB'.out];exact(hst.out t2).symm),hB1.out⟩
   ·have hjl:j=l.length:=by omega
    have h2:NB=true:=by rw[hNB'.out, ← hall.out,hjl,List.take_length]
    subst h2
    go_wp2_with fail
    go_ret
    exact⟨rfl,hB1.out⟩
open Go.RowKit
end Go.Proofs.YthpcbgljbpmafaaGreatDoor
