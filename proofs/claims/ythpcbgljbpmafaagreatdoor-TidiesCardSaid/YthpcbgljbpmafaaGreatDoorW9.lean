/- Plain facts on what lex.Tokens tells: bounds. -/
import Derived.Test.YthpcbgljbpmafaaGreatDoorW1
import Derived.Test.YthpcbgljbpmafaaGreatDoorW3
import Derived.Test.YthpcbgljbpmafaaGreatDoorW5
import Derived.Test.YthpcbgljbpmafaaGreatDoorW6
import Derived.Test.YthpcbgljbpmafaaGreatDoorW7
import Derived.Lib.ItoaNum
import Derived.Laws.AppendOwn
import Derived.Test.YthpcbgljbpmafaaGreatDoorChecked
import Derived.Laws.Strings
import Derived.Maps.OwnSet
import Derived.StringKeys
import Derived.Laws.OwnMore
import Derived.Laws.AppendOwnNone
set_option maxRecDepth 100000
set_option maxHeartbeats 8000000
namespace Go.Proofs.YthpcbgljbpmafaaGreatDoor
open Go.RowKit
set_option linter.unusedVariables false
set_option linter.unusedSimpArgs false
theorem firstF_er (l:List UInt8):0≤(firstF l).2.2∧(firstF l).2.2≤202:=by
 match l with
 | []=>simp[firstF]
 | c :: t=>simp only[firstF];(repeat' split)<;>simp
theorem lx_er : ∀(f:Nat) (l:List UInt8) (p:Nat) (acc:List Tk),0≤(lx f l p acc).2.2∧(lx f l p acc).2.2≤202
 | 0,_,_,_=>by simp[lx]
 | f+1,l,p,acc=>by
  unfold lx
  simp only[]
  split
  ·simp
  ·split
   ·exact lx_er f _ _ _
   ·exact firstF_er _
theorem lx_len : ∀(f:Nat) (l:List UInt8) (p:Nat) (acc:List Tk),(lx f l p acc).1.length≤acc.length+l.length
 | 0,_,_,_=>by simp[lx]
 | f+1,l,p,acc=>by
  unfold lx
  simp only[]
  split
  ·simp
  ·rename_i hm
   split
   ·rename_i he
    have hp:=firstF_pos hm he
    refine Nat.le_trans (lx_len f _ _ _) ?_
    simp only[List.length_append,List.length_drop,List.length_cons,List.length_nil] at hp ⊢
    omega
   ·simp
theorem lexR_bd (s:ByteArray):0≤(lexR s).2.2∧(lexR s).2.2≤202:=by
 unfold lexR
 split
 ·simp
 ·split
  ·simp
  ·exact lx_er _ _ _ _
theorem lexR_len (s:ByteArray):(lexR s).1.length≤4096:=by
 unfold lexR
 split
 ·simp
 ·split
  ·simp
  ·have:=lx_len (s.data.toList.length+1) s.data.toList 0 []
   rw[len_list] at this
   unfold lxAt
   rw[len_list]
   simp at this
   omega
theorem OwnK.cases {B:Nat} {w:World} {v:Value} {l:List Tk} (h:OwnK B w v l):(v= .slice none 0 0∧l=[]) ∨ ∃g c,v= .slice (some ⟨g,0,none⟩) l.length c∧B≤g∧g<w.heap.size∧TkSl w g 0 l∧ ∀o,w.frozen? ⟨g,o,none⟩=false:=by
 have hr:=h.rd
 rcases h.2 with ⟨rfl,h0⟩|⟨g,cap,cur,rfl,hb,hg,hc,hm,hsz,htk⟩
 ·exact .inl ⟨rfl,List.eq_nil_of_length_eq_zero h0⟩
 ·refine .inr ⟨g,cap,rfl,hb,(Array.getElem?_eq_some_iff.1 hg).1, ?_,fun o=>World.ownsRow.frozenAt h o⟩
  rcases hr with ⟨rfl,_⟩|⟨g',c',he,_,hs⟩
  ·intro i hi;simp at hi
  ·injection he with he _ _
   injection he with he
   injection he with he _ _
   subst he
   exact hs
open Go.RowKit
theorem widF_asc {s:ByteArray} {k:Nat} (h:k<s.size) (hb:bAt s k<128):widF s k=1:=by
 have h0:=(bAt_bd s k).1
 have hl:leadF (bAt s k)=1:=by unfold leadF;(repeat' split)<;>omega
 unfold widF
 rw[hl,decide_eq_true (by omega:(k:Int)+1≤s.size)]
 rfl
theorem va_asc (s:ByteArray) (h : ∀k,k<s.size→bAt s k<128):vaV s=(0,true):=by
 rw[vaV_eq]
 have : ∀d k,s.size-k=d→vaAt s k=(0,true):=by
  intro d
  induction d with
  | zero=>intro k hk;exact vaAt_end (by omega)
  | succ d ih=>
   intro k hk
   have hw:=widF_asc (by omega:k<s.size) (h k (by omega))
   rw[vaAt_step (by omega) (by rw[hw];decide),hw]
   exact ih (k+1) (by omega)
 exact this _ 0 rfl
theorem bAt_mem (l:List UInt8) (h:l.all (fun b=>decide (b.toNat<128))=true) (k:Nat) (hk:k<(bs l).size):bAt (bs l) k<128:=by
 unfold bAt
 rw[bs_list]
 have hk':k<l.length:=hk
 rw[List.getElem?_eq_getElem hk']
 rw[List.all_eq_true] at h
 have:=h l[k] (List.getElem_mem _)
 simp at this
 show ((l[k].toNat:Nat):Int)<128
 omega
def asc (l:List UInt8):Bool:=l.all (fun b=>decide (b.toNat<128))
theorem lexR_asc {l:List UInt8} (h:asc l=true) (hl:l.length≤4096):lexR (bs l)=lxAt l 0 []:=by
 unfold lexR
 rw[if_neg (by rw[bs_size];omega),va_asc _ (bAt_mem l h)]
 rfl
theorem runN_app {l r:List UInt8} (h:l.all isN=true):runN (l++r)=l.length+runN r:=by
 induction l with
 | nil=>simp
 | cons c l ih=>
  rw[List.all_cons,Bool.and_eq_true] at h
  rw[List.cons_append,runN_yes h.1,ih h.2,List.length_cons];omega
open Go.RowKit
def nmB (l:List UInt8):Bool:=decide (l.length≤16) && letB l && !kwB l
def nmR (R:List Tk × Int × Int) (s:ByteArray):Bool:=match R.1 with
 | [t]=>(R.2.2==0) && (t.kind==0) && decide (bs t.text=s)
 | _=>false
theorem isN_asc {c:UInt8} (h:isN c=true):decide (c.toNat<128)=true:=by
 unfold isN isL isD at h;simp at h ⊢;omega
theorem asc_isN {l:List UInt8} (h:l.all isN=true):asc l=true:=by
 unfold asc
 rw[List.all_eq_true] at h ⊢
 exact fun x hx=>isN_asc (h x hx)
theorem letB_all {l:List UInt8} (h:letB l=true):l.all isN=true∧l≠[]:=by
 cases l with
 | nil=>simp[letB] at h
 | cons c t=>
  rw[letB_cons,Bool.and_eq_true] at h
  exact⟨by rw[List.all_cons,isL_isN h.1,h.2];rfl,by simp⟩
theorem runN_whole {l:List UInt8} (h:l.all isN=true):runN l=l.length:=by
 have:=runN_app (r:=[]) h
 rw[List.append_nil,runN_nil] at this;omega
theorem skip_let {c:UInt8} {t:List UInt8} (h:isL c=true):skipF false (c :: t)=0:=by
 unfold isL at h
 simp at h
 rw[skipF_cons,if_neg (by omega),if_neg (by omega),if_neg (by omega)];rfl
theorem lexR_name {s:ByteArray} (h:nmB s.data.toList=true):lexR s=([⟨0,s.data.toList,0,0⟩],0,0):=by
 unfold nmB at h
 simp only[Bool.and_eq_true,decide_eq_true_eq,Bool.not_eq_true'] at h
 obtain⟨⟨hl,hb⟩,hk⟩:=h
 obtain⟨ha,hne⟩:=letB_all hb
 have hsb:bs s.data.toList=s:=ba_ext rfl
 have h1:=lexR_asc (asc_isN ha) (by omega)
 rw[hsb] at h1
 rw[h1]
 generalize s.data.toList=l at hl hb hk ha hne
 match l,hne with
 | c :: t,_=>
  rw[letB_cons,Bool.and_eq_true] at hb
  have hr:=runN_whole ha
  have hf:firstF (c :: t)=(⟨0,c :: t,0,0⟩,(c :: t).length,0):=by
   simp only[firstF]
   rw[if_pos hb.1,hr,List.take_length,hk]
   simp only[Bool.false_eq_true,if_false]
   rw[if_neg (by omega)]
  rw[lxAt_more (skip_let hb.1) (by simp) hf,List.drop_length,lxAt_nil]
  rfl
theorem tw_all (l:List UInt8) : ∀x∈l.takeWhile isN,isN x=true:=by
 induction l with
 | nil=>intro x hx;simp at hx
 | cons c t ih=>
  intro x hx
  cases h:isN c
  ·rw[List.takeWhile_cons_of_neg (by rw[h];simp)] at hx;simp at hx
  ·rw[List.takeWhile_cons_of_pos h] at hx
   rcases List.mem_cons.1 hx with rfl|hx
   ·exact h
   ·exact ih x hx
theorem firstF_kind0 {m:List UInt8} {t:Tk} {n:Nat} (hne:m≠[]) (hf:firstF m=(t,n,0)) (hk:t.kind=0):letB t.text=true∧kwB t.text=false∧t.text.length≤16∧t.text=m.take n:=by
 match m,hne with
 | c :: r,_=>
  simp only[firstF] at hf
  by_cases hl:isL c=true
  ·rw[if_pos hl] at hf
   split at hf
   ·injection hf with h1 h2;subst h1;simp at hk
   ·rename_i hkw
    split at hf
    ·injection hf with h1 h2;injection h2 with h2 h3;simp at h3
    ·rename_i hlen
     injection hf with h1 h2;injection h2 with h2 h3
     subst h1
     subst h2
     have hr:=runN_le (c :: r)
     have hlet:letB ((c :: r).take (runN (c :: r)))=true:=by
      rw[runN_take]
      rw[List.takeWhile_cons_of_pos (isL_isN hl),letB_cons,hl,Bool.true_and,List.all_eq_true]
      intro x hx
      exact tw_all r x hx
     refine⟨hlet,by simpa using hkw,by simpa using hlen, ?_⟩
     show (c :: r).take (runN (c :: r))=(c :: r).take ((c :: r).take (runN (c :: r))).length
     rw[List.length_take,Nat.min_eq_left hr]
  ·rw[if_neg hl] at hf
   by_cases hd:isD c=true
   ·rw[if_pos hd] at hf
    split at hf
    ·injection hf with h1 h2;subst h1;simp at hk
    ·injection hf with h1 h2;injection h2 with h2 h3;simp at h3
   ·rw[if_neg hd] at hf
    split at hf
    ·injection hf with h1 h2;injection h2 with h2 h3;simp at h3
    ·injection hf with h1 h2;subst h1;simp at hk
theorem lx_pre : ∀(f:Nat) (l:List UInt8) (p:Nat) (acc:List Tk),(lx f l p acc).2.2=0→l.length<f→ ∃r,(lx f l p acc).1=acc++r∧ ∀t∈r,t.kind=0→letB t.text=true∧kwB t.text=false∧t.text.length≤16
 | 0,_,_,_,_,h=>by omega
 | f+1,l,p,acc,he,hl=>by
  unfold lx at he ⊢
  simp only[] at he ⊢
  by_cases hm:l.drop (skipF false l)=[]
  ·rw[if_pos hm];exact⟨[],by simp,by simp⟩
  ·rw[if_neg hm] at he ⊢
   by_cases h0:(firstF (l.drop (skipF false l))).2.2=0
   ·rw[if_pos h0] at he ⊢
    have hp:=firstF_pos hm h0
    obtain⟨r,h1,h2⟩:=lx_pre f _ _ _ he (by simp only[List.length_drop] at hp ⊢;omega)
    refine⟨_,by rw[h1,List.append_assoc], ?_⟩
    intro t ht hk
    rcases List.mem_append.1 ht with h|h
    ·simp only[List.mem_cons,List.not_mem_nil,or_false] at h
     subst h
     obtain⟨⟨t1,n,er⟩,hq⟩ : ∃q,firstF (l.drop (skipF false l))=q:=⟨_,rfl⟩
     rw[hq] at h0 hk ⊢
     obtain rfl:er=0:=h0
     obtain⟨a1,a2,a3,_⟩:=firstF_kind0 hm hq hk
     exact⟨a1,a2,a3⟩
    ·exact h2 t h hk
   ·rw[if_neg h0] at he;exact absurd he h0
theorem nm_iff (s:ByteArray):nmR (lexR s) s=nmB s.data.toList:=by
 cases hb:nmB s.data.toList
 ·unfold nmR
  split
  ·rename_i t ht
   cases hc:((lexR s).2.2==0) && (t.kind==0) && decide (bs t.text=s)
   ·rfl
   ·exfalso
    simp only[Bool.and_eq_true,beq_iff_eq,decide_eq_true_eq] at hc
    obtain⟨⟨h1,h2⟩,h3⟩:=hc
    have hl:t.text=s.data.toList:=by rw[← h3];rfl
    have hlr : ∃r,(lexR s).1=r∧ ∀t∈r,t.kind=0→letB t.text=true∧kwB t.text=false∧t.text.length≤16:=by
     unfold lexR at h1 ⊢
     split at h1
     ·simp at h1
     ·split at h1
      ·simp at h1
      ·rename_i h5 h6
       rw[if_neg h5,if_neg h6]
       obtain⟨r,h7,h8⟩:=lx_pre _ _ _ _ h1 (Nat.lt_succ_self _)
       exact⟨r,by rw[lxAt,h7];rfl,h8⟩
    obtain⟨r,h7,h8⟩:=hlr
    rw[ht] at h7
    subst h7
    obtain⟨q1,q2,q3⟩:=h8 t (by simp) h2
    rw[hl] at q1 q2 q3
    unfold nmB at hb
    rw[q1,q2,decide_eq_true q3] at hb
    cases hb
  ·rfl
 ·rw[lexR_name hb]
  unfold nmR
  simp only[]
  rw[decide_eq_true (show bs s.data.toList=s from ba_ext rfl)]
  rfl
open Go.RowKit
theorem below_alc (w:World) (o:Obj):Below w.heap.size w (w.alloc o):=(Below.refl _ _).alloc (Nat.le_refl _) _
theorem belA {w W:World} (o:Obj) (h:Below w.heap.size w W):Below w.heap.size w (W.alloc o):=h.alloc h.size _
theorem setS {W:World} {p:Addr} {v u:Value} (h:W.cell? p=some u):(W.setCell p v).cell? p=some v:=by
 rw[World.cell?_setCell_same _ _ _ h]
theorem setO {W:World} {p q:Addr} {v u:Value} (h:W.cell? p=some u) (hne:q≠p):(W.setCell q v).cell? p=some u:=(World.cell?_setCell_other _ _ _ _ hne).trans h
structure Bar (S:Nat→Prop) (w w':World):Prop where
 os:w'.os=w.os
 tape:w'.tape=w.tape
 output:w'.output=w.output
 size:w.heap.size≤w'.heap.size
 block : ∀k,k<w.heap.size→ ¬ S k→w'.heap[k]? = w.heap[k]?
theorem Bar.refl (S:Nat→Prop) (w:World):Bar S w w:=⟨rfl,rfl,rfl,Nat.le_refl _,fun _ _ _=>rfl⟩
theorem Bar.trans {S S':Nat→Prop} {w w1 w2:World} (h:Bar S w w1) (h':Bar S' w1 w2) (hs : ∀k,k<w.heap.size→S' k→S k):Bar S w w2:=
 ⟨h'.os.trans h.os,h'.tape.trans h.tape,h'.output.trans h.output,Nat.le_trans h.size h'.size,fun k hk hn=>(h'.block k (Nat.lt_of_lt_of_le hk h.size) (fun hc=>hn (hs k hk hc))).trans (h.block k hk hn)⟩
theorem Bar.of_below {S:Nat→Prop} {w w':World} (h:Below w.heap.size w w'):Bar S w w':=⟨h.os,h.tape,h.output,h.size,fun k hk _=>h.block k hk⟩
theorem Bar.next {S:Nat→Prop} {w w1 w2:World} (h:Bar S w w1) (h':Below w1.heap.size w1 w2):Bar S w w2:=h.trans (Bar.of_below (S:=S) h') fun _ _ hs=>hs
theorem Bar.below {S:Nat→Prop} {B:Nat} {w w':World} (h:Bar S w w') (hB:B≤w.heap.size) (hS : ∀k,S k→B≤k):Below B w w':=
 ⟨h.os,h.tape,h.output,h.size,fun k hk=>h.block k (by omega) (fun hs=>by have:=hS k hs;omega)⟩
theorem Bar.set {S:Nat→Prop} {w:World} (p:Addr) (v:Value) (hp:S p.block):Bar S w (w.setCell p v):=
 ⟨rfl,rfl,rfl,by simp[World.setCell],fun k _ hn=>Below.heap_setCell w p v k (fun e=>hn (e▸hp))⟩
theorem Bar.cell {S:Nat→Prop} {w w':World} {a:Addr} {v:Value} (h:Bar S w w') (hc:w.cell? a=some v) (hn : ¬ S a.block):w'.cell? a=some v:=
 (World.cell?_of_block (h.block a.block (World.block_lt_of_cell? w a hc) hn)).trans hc
theorem Bar.frozen {S:Nat→Prop} {w w':World} {a:Addr} (h:Bar S w w') (hl:a.block<w.heap.size) (hn : ¬ S a.block):w'.frozen? a=w.frozen? a:=
 World.frozen?_of_block (h.block a.block hl hn)
theorem Bar.own {S:Nat→Prop} {w w':World} {base:Nat} {e:TypeId} {size:Nat} {v:Value} {n:Nat} {xs:List Value} (h:Bar S w w') (ho:w.ownsRow base e size v n xs) (hn : ∀k,v.ownBlock=some k→ ¬ S k):w'.ownsRow base e size v n xs:=by
 refine⟨ho.1, ?_⟩
 rcases ho.2 with h0|⟨g,cap,cur,rfl,hb,hgg,rest⟩
 ·exact .inl h0
 ·exact .inr ⟨g,cap,cur,rfl,hb,(h.block g (Array.getElem?_eq_some_iff.1 hgg).1 (hn g rfl)).trans hgg,rest⟩
theorem own_lt {w:World} {B:Nat} {e:TypeId} {s:Nat} {v:Value} {n:Nat} {xs:List Value} (h:w.ownsRow B e s v n xs) : ∀k,v.ownBlock=some k→B≤k∧k<w.heap.size:=h.lt
theorem ba_of {s u:ByteArray} (h:s.data.toList=u.data.toList):s=u:=by
 obtain⟨x⟩:=s;obtain⟨y⟩:=u
 exact congrArg ByteArray.mk (Array.ext' h)
def eqS (s u:ByteArray):Bool:=s.toList==u.toList
theorem eqS_iff {s u:ByteArray}:eqS s u=true↔s=u:=by
 unfold eqS
 rw[beq_iff_eq,ByteArray.toList_eq,ByteArray.toList_eq]
 exact⟨ba_of,fun e=>by rw[e]⟩
def inS (l:List ByteArray) (s:ByteArray):Bool:=l.any fun u=>eqS u s
theorem inS_iff {l:List ByteArray} {s:ByteArray}:inS l s=true↔s∈l:=by
 unfold inS
 rw[List.any_eq_true]
 exact⟨fun ⟨u,h1,h2⟩=>by rw[← eqS_iff.1 h2];exact h1,fun h=>⟨s,h,eqS_iff.2 rfl⟩⟩
theorem inS_no {l:List ByteArray} {s:ByteArray}:inS l s=false↔s ∉ l:=by
 rw[← inS_iff];cases inS l s<;>simp
open Go.RowKit Go.Maps Go.WideMaps
theorem lawS:Keyed Tryz.prog 9:=string_keyed Tryz.underlying9
def heldR (v:Value):Option (DataW Value × List MemPlace):=some (.held v,[])
theorem wfS {s:ByteArray} (h:s.size≤1125899906842624):keyOf Tryz.prog 9 (.string s)=some (.string s.data.toList):=
 keyOf_string_mk Tryz.underlying9 (by unfold maxLen;omega)
def OpMap (w:World) (bm:Nat) (l:List ByteArray):Prop:=
 ∃D:DataW Value,w.ownsMap Tryz.prog 9 heldR bm l.length D∧Maps.size D≤l.length∧(Maps.size D=l.length↔l.Nodup)∧
  ∀s:ByteArray,Maps.has D (.string s.data.toList)=inS l s∧(s∈l→ ∃i:Nat,l[i]? = some s∧ ∀z,D.atKey (.string s.data.toList) z= .held (.int .i64 i))
theorem OpMap.lt {w:World} {bm:Nat} {l:List ByteArray} (h:OpMap w bm l):bm<w.heap.size:=by obtain⟨D,h1,_⟩:=h;exact h1.lt
theorem OpMap.bar {S:Nat→Prop} {w w':World} {bm:Nat} {l:List ByteArray} (h:OpMap w bm l) (hb:Bar S w w') (hn : ¬ S bm):OpMap w' bm l:=by
 have hl:=h.lt
 obtain⟨D,⟨es,clock,h1,h3⟩,h2⟩:=h
 exact⟨D,⟨es,clock,(hb.block bm hl hn).trans h1,h3⟩,h2⟩
theorem OpMap.below {w w':World} {bm:Nat} {l:List ByteArray} (h:OpMap w bm l) (hb:Below w.heap.size w w'):OpMap w' bm l:=h.bar (Bar.of_below (S:=fun _=>False) hb) id
theorem opMap_made (w:World):OpMap (w.alloc (.map #[] 0)) w.heap.size []:=
 ⟨.map [],World.ownsMap_made w _ _ _,Nat.le_refl _,by simp[Maps.size],fun s=>⟨rfl,fun h=>by cases h⟩⟩
theorem op_put {w:World} {bm:Nat} {l:List ByteArray} (h:OpMap w bm l) (s:ByteArray) (hs:s.size≤1125899906842624) (hn:l.length≤1000000) :
  ∃w',(Instr.mapUpdate 66 (.map (some bm)) (.string s) (.int .i64 (l.length:Nat))).run Tryz.prog w= .ok () w'∧OpMap w' bm (l++[s])∧Bar (fun k=>k=bm) w w':=by
 obtain⟨D,h1,h2,h2',h3⟩:=h
 have hT:=h1.tidy lawS
 obtain⟨w',hr,h4,h5⟩:=h1.update (val:= .int .i64 (l.length:Nat)) lawS Tryz.underlying66 (by unfold maxLen;omega) (wfS hs) (d:= .held (.int .i64 (l.length:Nat))) (ps:=[]) rfl
 have hb:Bar (fun k=>k=bm) w w':=⟨h5.os,h5.tape,h5.output,h5.size,fun k hk hn=>h5.block k hk (fun e=>hn (Option.some.inj e))⟩
 have hhas:=(h3 s).1
 refine⟨w',hr,⟨_,by rw[List.length_append];exact h4, ?_, ?_,fun u=> ?_⟩,hb⟩
 ·rw[Maps.size_put hT,List.length_append];simp only[List.length_cons,List.length_nil];split<;>omega
 ·rw[Maps.size_put hT,hhas,List.length_append,List.nodup_append]
  rcases Classical.em (s∈l) with hm|hm
  ·rw[inS_iff.2 hm]
   simp only[if_true,List.length_cons,List.length_nil]
   constructor
   ·intro e;omega
   ·intro e;exact absurd rfl (e.2.2 s hm s (List.mem_singleton.2 rfl))
  ·rw[inS_no.2 hm]
   simp only[Bool.false_eq_true,if_false,List.length_cons,List.length_nil]
   constructor
   ·intro e
    refine⟨h2'.1 (by omega),(by simp),fun a ha b hb=> ?_⟩
    rw[List.mem_singleton.1 hb];exact fun e=>hm (e▸ha)
   ·intro e;rw[h2'.2 e.1]
 ·rcases Classical.em (u=s) with hu|hu
  ·subst hu
   refine⟨(has_put_same hT.isMap (by trivial) _).trans (inS_iff.2 (by simp)).symm,fun _=>⟨l.length,by simp,fun z=> ?_⟩⟩
   rw[atKey_put_same hT.isMap (by trivial)]
  ·have hne:(Lit.string u.data.toList)≠(Lit.string s.data.toList):=fun e=>hu (ba_of (by injection e))
   obtain⟨h6,h7⟩:=h3 u
   refine⟨(has_put_other hne _).trans (h6.trans ?_),fun hx=> ?_⟩
   ·rw[Bool.eq_iff_iff,inS_iff,inS_iff];simp[hu]
   ·have hx:u∈l:=by simpa [hu] using hx
    obtain⟨i,hi,hat⟩:=h7 hx
    refine⟨i, ?_,fun z=> ?_⟩
    ·rw[List.getElem?_append_left (List.getElem?_eq_some_iff.1 hi).1];exact hi
    ·rw[atKey_put_other hne];exact hat z
open Go.RowKit
theorem infoSt:(Tryz.prog.info? 9).map (fun i=>(i.zero,i.size,i.bytes))=some (some (.string ByteArray.empty),1,16):=by kernel_rfl
def stL (l:List ByteArray):List Value:=l.map Value.string
theorem stL_len (l:List ByteArray):(stL l).length=l.length*1:=by simp[stL]
theorem stL_app (l m:List ByteArray):stL (l++m)=stL l++stL m:=by simp[stL]
theorem stL_one (l:List ByteArray) : ∀u∈stL l,u.oneCell'=true:=by
 intro u hu
 obtain⟨s,_,rfl⟩:=List.mem_map.1 hu
 rfl
def StSl (w:World) (b off:Nat) (l:List ByteArray):Prop:= ∀i,i<l.length→w.cell? ⟨b,off+i,none⟩=some (.string (l.getD i ⟨#[]⟩))
def StArg (w:World) (a:Option Addr) (n:Nat) (l:List ByteArray):Prop:=n=l.length∧(l=[] ∨ ∃b off,a=some ⟨b,off,none⟩∧StSl w b off l∧b<w.heap.size)
theorem StArg.below {w w':World} {a:Option Addr} {n:Nat} {l:List ByteArray} (h:StArg w a n l) (hb:Below w.heap.size w w'):StArg w' a n l:=by
 obtain⟨h1,h2|⟨b,off,h2,h3,h4⟩⟩:=h
 ·exact⟨h1, .inl h2⟩
 ·exact⟨h1, .inr ⟨b,off,h2,fun i hi=>by rw[hb.cell (p:=⟨b,off+i,none⟩) h4];exact h3 i hi,by have:=hb.size;omega⟩⟩
theorem stL_get (l:List ByteArray) (j:Nat):(stL l)[j]? = (l[j]?).map Value.string:=by simp[stL]
theorem stArg_lit (w:World) (arr:Array Value) (T:TypeId) (g n:Nat) (l:List ByteArray) (hg:g=w.heap.size) (hn:n=l.length) (h:arr.toList=stL l):StArg (w.alloc (.cells arr T)) (some ⟨g,0,none⟩) n l:=by
 subst hg
 refine⟨hn, .inr ⟨_,0,rfl,fun i hi=> ?_,by simp⟩⟩
 rw[World.cell?_alloc_at _ _ _ _ rfl,Nat.zero_add, ← Array.getElem?_toList,h,stL_get,List.getD_eq_getElem?_getD,List.getElem?_eq_getElem hi]
 rfl
theorem StSl.get {w:World} {b off:Nat} {l:List ByteArray} (h:StSl w b off l) : ∀j u,(stL l)[j]? = some u→w.cell? ((⟨b,off,none⟩:Addr).add j)=some u:=by
 intro j u hj
 rw[stL_get] at hj
 cases hq:l[j]? with
 | none=>rw[hq] at hj;cases hj
 | some s=>
  rw[hq] at hj;injection hj with hj;subst hj
  have hl:=(List.getElem?_eq_some_iff.1 hq).1
  have:=h j hl
  rw[List.getD_eq_getElem?_getD,hq] at this
  by_cases hj0:j=0
  ·subst hj0;simpa [Addr.add] using this
  ·simpa [Addr.add,hj0] using this
def OwnS (B:Nat) (w:World) (v:Value) (l:List ByteArray):Prop:=w.ownsRow B 9 1 v l.length (stL l)
theorem OwnS.nil (B:Nat) (w:World):OwnS B w (.slice none 0 0) []:=⟨rfl, .inl ⟨rfl,rfl⟩⟩
theorem OwnS.sl {B:Nat} {w:World} {v:Value} {l:List ByteArray} (h:OwnS B w v l) : ∃a c,v= .slice a l.length c:=by
 rcases h.2 with ⟨h1,h0⟩|⟨g,cap,cur,h1,_⟩
 ·exact⟨none,0,by rw[h1,h0]⟩
 ·exact⟨_,_,h1⟩
theorem OwnS.arg {B:Nat} {w:World} {a:Option Addr} {n c:Nat} {l:List ByteArray} (h:OwnS B w (.slice a n c) l):StArg w a n l:=by
 have hh:=h
 rcases h.2 with ⟨h1,h0⟩|⟨g,cap,cur,h1,hb,hg,hc,hm,hsz,htk⟩
 ·injection h1 with _ h1 _;exact⟨by omega, .inl (List.eq_nil_of_length_eq_zero h0)⟩
 ·injection h1 with h0 h1 _
  subst h0
  refine⟨h1, .inr ⟨g,0,rfl,fun i hi=> ?_,(Array.getElem?_eq_some_iff.1 hg).1⟩⟩
  have:=World.ownsRow.cells (show w.ownsRow B 9 1 (.slice (some ⟨g,0,none⟩) n c) l.length (stL l) from hh) rfl i (.string (l.getD i ⟨#[]⟩)) (by rw[stL_get,List.getD_eq_getElem?_getD,List.getElem?_eq_getElem hi];rfl)
  by_cases hj0:i=0
  ·subst hj0;simpa [Addr.add] using this
  ·simpa [Addr.add,hj0] using this
theorem OwnS.of_block {B:Nat} {w w':World} {v:Value} {l:List ByteArray} (h:OwnS B w v l) (hb : ∀g,v.ownBlock=some g→w'.heap[g]? = w.heap[g]?):OwnS B w' v l:=by
 refine⟨h.1, ?_⟩
 rcases h.2 with h2|⟨g,cap,cur,h1,h2,h3,h4⟩
 ·exact .inl h2
 ·exact .inr ⟨g,cap,cur,h1,h2,by rw[hb g (by rw[h1];rfl)];exact h3,h4⟩
def Goes (v:Value) (n:Nat) (v':Value):Prop:=v= .slice none 0 0 ∨ ∃g cap,v= .slice (some ⟨g,0,none⟩) n cap∧(v'.ownBlock≠some g ∨ ∃n',v'= .slice (some ⟨g,0,none⟩) n' cap)
theorem OwnS.back {B B':Nat} {w w':World} {v v':Value} {l ys:List ByteArray} (hg:Goes v l.length v') (h:OwnS B w v l) (h':OwnS B' w' v' (l++ys)) (hb : ∀g,v.ownBlock=some g→v'.ownBlock≠some g→w'.heap[g]? = w.heap[g]?):OwnS B w' v l:=by
 rcases hg with rfl|⟨g,cap,rfl,hne|⟨n',rfl⟩⟩
 ·refine⟨h.1, .inl ⟨rfl, ?_⟩⟩
  rcases h.2 with ⟨_,h0⟩|⟨g,cap,cur,h1,_⟩
  ·exact h0
  ·cases h1
 ·exact h.of_block fun k hk=>by
   have e:g=k:=by injection hk
   subst e
   exact hb g rfl hne
 ·rcases h.2 with ⟨h1,_⟩|⟨g1,cap1,cur,h1,hB,_,hc,hm,_,_⟩
  ·cases h1
  ·injection h1 with e1 _ e2;injection e1 with e1;injection e1 with e1 _ _;subst e1;subst e2
   rcases h'.2 with ⟨h2,_⟩|⟨g2,cap2,cur2,h2,_,hg2,_,_,hs2,ht2⟩
   ·cases h2
   ·injection h2 with e1 _ e2;injection e1 with e1;injection e1 with e1 _ _;subst e1;subst e2
    refine⟨h.1, .inr ⟨g,cap,cur2,rfl,hB,hg2,hc,hm,hs2, ?_⟩⟩
    have:=congrArg (List.take (l.length*1)) ht2
    rw[List.take_take,stL_app,List.length_append,show min (l.length*1) ((l.length+ys.length)*1)=l.length*1 by omega, ← stL_len,List.take_left] at this
    rw[← stL_len];exact this
theorem run_appS {W:World} (B:Nat) (hB:B≤W.heap.size) (ty:TypeId) (v:Value) (l:List ByteArray) (hown:OwnS B W v l) (a:Option Addr) (m c:Nat) (ys:List ByteArray) (hx:StArg W a m ys) (hn:a=none→c=0) (hlen:l.length+ys.length≤1000000) :
  ∃v' w',(Builtin.append_ #[37,37] ty #[v, .slice a m c]).run Tryz.prog W= .ok v' w'∧OwnS B w' v' (l++ys)∧OwnS B w' v l∧Bar (fun k=>v.ownBlock=some k) W w'∧Goes v l.length v'∧(∀g,v'.ownBlock=some g→v.ownBlock=some g∨W.heap.size≤g):=by
 obtain⟨i0,hi,hz0,hz1,hz2⟩:=info_parts infoSt
 obtain⟨hm,hx⟩:=hx
 cases a with
 | none=>
  have hys:ys=[]:=by
   rcases hx with h|⟨b,off,h,_⟩
   ·exact h
   ·cases h
  subst hys
  have hm0:m=0:=hm
  subst hm0
  obtain rfl:=hn rfl
  refine⟨v,W,run_append_owned_none (P:=Tryz.prog) (w:=W) B 37 ty 9 i0 1 Tryz.underlying37 hi v l.length (stL l) hown,by rw[List.append_nil];exact hown,hown,Bar.refl _ _, ?_,fun g h=> .inl h⟩
  rcases hown.2 with ⟨h1,_⟩|⟨g,cap,cur,h1,_⟩
  ·exact .inl h1
  ·exact .inr ⟨g,cap,h1, .inr ⟨_,h1⟩⟩
 | some ad=>
  have hnews : ∀j u,(stL ys)[j]? = some u→W.cell? (ad.add j)=some u:=by
   rcases hx with h|⟨b,off,h,hs,_⟩
   ·subst h;intro j u hj;simp[stL] at hj
   ·injection h with h;subst h;exact hs.get
  obtain⟨v',w',hr,h1,h2,h3⟩:=run_append_own (P:=Tryz.prog) (w:=W) B 37 ty 9 i0 (.string ByteArray.empty) 1 16 Tryz.underlying37 hi hz0 hz1 hz2 rfl (by decide) v l.length (stL l) hown ad m c (stL ys) (by rw[stL_len,hm]) hnews (stL_one ys) (by unfold maxLen;omega) (by omega) hB
  have h1':OwnS B w' v' (l++ys):=by unfold OwnS;rw[stL_app,List.length_append, ← hm];exact h1
  have hbar:Bar (fun k=>v.ownBlock=some k) W w':=⟨h2.os,h2.tape,h2.output,h2.size,fun k hk hn=>h2.block k hk (fun e=>hn e.symm)⟩
  rcases hown.2 with ⟨e1,e0⟩|⟨g,cap,cur,e1,hBg,hg,hc,hcm,hcs,htk⟩
  ·have hl0:l=[]:=List.eq_nil_of_length_eq_zero e0
   subst hl0;subst e1
   refine⟨v',w',hr,h1',OwnS.nil _ _,hbar, .inl rfl,fun k hk=> ?_⟩
   by_cases h0:m=0
   ·have:=h3.2 ⟨rfl,h0⟩;rw[this] at hk;cases hk
   ·have hr2:=run_append_nil (P:=Tryz.prog) W 37 ty 9 i0 (.string ByteArray.empty) Tryz.underlying37 hi hz0 ad m c (stL ys) (by rw[stL_len,hm,hz1]) hnews (by omega) (by omega) (by rw[hz2];omega)
    rw[hr] at hr2
    injection hr2 with e1 e2
    subst e1
    have hk:W.heap.size=k:=Option.some.inj hk
    exact .inr (by omega)
  ·subst e1
   by_cases hroom:l.length+m≤cap
   ·have hfit:l.length*i0.size+(stL ys).length≤cur.size:=by rw[hz1,hcs,stL_len];omega
    have hr2:=run_append_room (P:=Tryz.prog) W 37 ty 9 i0 Tryz.underlying37 hi g l.length cap cur hg ad m c (stL ys) (by rw[stL_len,hm,hz1]) hnews (stL_one ys) hroom hfit
    rw[hr] at hr2
    injection hr2 with e1 e2
    have hgo:Goes (.slice (some ⟨g,0,none⟩) l.length cap) l.length v':= .inr ⟨g,cap,rfl, .inr ⟨_,e1⟩⟩
    refine⟨v',w',hr,h1',OwnS.back hgo hown h1' (fun k hk hne=>absurd (by rw[e1];exact hk) hne),hbar,hgo,fun k hk=> .inl (by rw[e1] at hk;exact hk)⟩
   ·have hr2:=run_append_grow (P:=Tryz.prog) W 37 ty 9 i0 (.string ByteArray.empty) Tryz.underlying37 hi hz0 ⟨g,0,none⟩ l.length cap (stL l) (by rw[stL_len,hz1]) (fun j u hj=>World.ownsRow.cells (show W.ownsRow B 9 1 (.slice (some ⟨g,0,none⟩) l.length cap) l.length (stL l) from hown) rfl j u hj) ad m c (stL ys) (by rw[stL_len,hm,hz1]) hnews (by omega) (by omega) (by rw[hz2];exact growslice_fits (by omega) (by omega))
    rw[hr] at hr2
    injection hr2 with e1 e2
    have hgl:g<W.heap.size:=(Array.getElem?_eq_some_iff.1 hg).1
    have hob:v'.ownBlock=some W.heap.size:=by rw[e1];rfl
    have hgo:Goes (.slice (some ⟨g,0,none⟩) l.length cap) l.length v':= .inr ⟨g,cap,rfl, .inl (by rw[hob];intro e;injection e with e;omega)⟩
    have hgk:w'.heap[g]? = W.heap[g]? := by rw[e2];exact heap_alloc_old W.drew _ (show g<W.drew.heap.size from hgl)
    refine⟨v',w',hr,h1',hown.of_block (fun k hk=>by
     have e:g=k:=by injection hk
     subst e;exact hgk),hbar,hgo,fun k hk=> .inr (by rw[hob] at hk;injection hk with hk;omega)⟩
theorem op_st {ops:Array Oper} {rest:List Oper} {o:Oper} {a:Act} {Q:Exit→Act→World→Prop} (hgd:o.guard=none) (s x:Operand) (W:World) (B:Nat) (hB:B≤W.heap.size) (v:Value) (l:List ByteArray)
  (ho:o.op= .call { callee:= .builtin .append,args:= #[s,x],argTypes:= #[37,37] })
  (hs:a.eval s=v) (ad:Option Addr) (m c:Nat) (ys:List ByteArray) (hx:a.eval x= .slice ad m c) (hxs:StArg W ad m ys) (hn:ad=none→c=0) (hown:OwnS B W v l) (hlen:l.length+ys.length≤1000000)
  (h : ∀v' w',OwnS B w' v' (l++ys)→OwnS B w' v l→Bar (fun k=>v.ownBlock=some k) W w'→Goes v l.length v'→(∀g,v'.ownBlock=some g→v.ownBlock=some g∨W.heap.size≤g)→wpList Tryz.prog ops Q rest (a.put o.dst v') w') :
  wpList Tryz.prog ops Q (o :: rest) a W:=by
 refine wpList_plain hgd fun K hK=> ?_
 obtain⟨v',w',hr,h1,h2,h3,h4,h5⟩:=run_appS B hB o.type v l hown ad m c ys hxs hn hlen
 unfold Oper.wp execOp
 simp only[ho,resolve,invoke,builtin,Sem.run_bind,Sem.run_pure,Result.andThen_ok,List.map_toArray,List.map_cons,List.map_nil,hs,hx,hr]
 exact hK _ _ (h v' w' h1 h2 h3 h4 h5)
def Seg (g:Nat→Int):Int→List Int→Int→Prop
 | b,[],e=>b=e
 | b,c :: cs,e=>0≤c∧g c.toNat=b∧Seg g (c+1) cs e
theorem seg_snoc {g:Nat→Int} : ∀ {cs:List Int} {b e c:Int},Seg g b cs e→0≤c→g c.toNat=e→Seg g b (cs++[c]) (c+1)
 | [],b,e,c,h,h0,h1=>by
  have h:b=e:=h
  exact⟨h0,by rw[h1,h],rfl⟩
 | d :: cs,b,e,c,h,h0,h1=>⟨h.1,h.2.1,seg_snoc h.2.2 h0 h1⟩
theorem seg_of {g:Nat→Int} : ∀(rs:List Int) (k:Int),0≤bgK g rs k→Seg g (bgK g rs k) rs.reverse k
 | [],k,_=>rfl
 | c :: rs,k,h=>by
  unfold bgK at h ⊢
  by_cases h1:c=k-1∧1≤k
  ·rw[if_pos h1] at h ⊢
   by_cases h2:g (k-1).toNat<0
   ·rw[if_pos h2] at h;omega
   ·rw[if_neg h2] at h ⊢
    rw[List.reverse_cons]
    have:=seg_snoc (c:=c) (seg_of rs _ h) (by omega) (by rw[h1.1])
    rwa [show c+1=k by omega] at this
  ·rw[if_neg h1] at h;omega
theorem seg_bg (ks:Nat→List Int) (i:Nat) (h:0≤bg ks i):Seg (bg ks) (bg ks i) (ks i) i:=by
 have hh:=h
 rw[bg_eq] at hh
 have:=seg_of _ _ hh
 rw[← bg_eq,List.reverse_reverse] at this
 exact this
theorem seg_le {g:Nat→Int} (hg : ∀j,g j≤j) : ∀ {cs:List Int} {b e:Int},Seg g b cs e→b≤e
 | [],b,e,h=>by have h:b=e:=h;omega
 | c :: cs,b,e,h=>by
  obtain⟨h0,h1,h2⟩:=h
  have:=seg_le hg h2
  have:=hg c.toNat
  omega
theorem seg_mem {g:Nat→Int} (hg : ∀j,g j≤j) : ∀ {cs:List Int} {b e:Int},Seg g b cs e→ ∀c∈cs,0≤c∧b≤g c.toNat∧c<e
 | [],b,e,h,c,hc=>by cases hc
 | d :: cs,b,e,h,c,hc=>by
  obtain⟨h0,h1,h2⟩:=h
  have h3:=seg_le hg h2
  have h4:=hg d.toNat
  rcases List.mem_cons.1 hc with rfl|hc
  ·omega
  ·have:=seg_mem hg h2 c hc
   omega
open Go.RowKit
def sh (N:Nat) (t:Tk):Tk:=⟨t.kind,t.text,t.num,t.at_+N⟩
end Go.Proofs.YthpcbgljbpmafaaGreatDoor
