/- Plain lists of bytes: blanks, runs, words, numbers, signs, tokens. -/
import Derived.Test.YthpcbgljbpmafaaGreatDoorW1
import Derived.Lib.Hide
import Derived.IntWalk
import Derived.Outline
import Derived.BigQuiet
import Derived.Deep.QuietTactic
import Derived.RegionTactic
import Derived.BigRegion
import Derived.WalkSmall
import Derived.WalkLawsBesides
import Derived.Laws.AppendOwn
set_option maxRecDepth 100000
set_option maxHeartbeats 8000000
namespace Go.Proofs.YthpcbgljbpmafaaGreatDoor
set_option linter.unusedVariables false
set_option linter.unusedSimpArgs false
def isL (b:UInt8):Bool:=decide (97≤(b.toNat:Int)) && decide ((b.toNat:Int)≤122)
def isD (b:UInt8):Bool:=decide (48≤(b.toNat:Int)) && decide ((b.toNat:Int)≤57)
def isN (b:UInt8):Bool:=isL b || isD b || ((b.toNat:Int)==95)
def runN (l:List UInt8):Nat:=(l.takeWhile isN).length
theorem runN_nil:runN []=0:=rfl
theorem runN_yes {c:UInt8} {l:List UInt8} (h:isN c=true):runN (c :: l)=runN l+1:=by simp[runN,List.takeWhile,h]
theorem runN_no {c:UInt8} {l:List UInt8} (h:isN c=false):runN (c :: l)=0:=by simp[runN,List.takeWhile,h]
theorem runN_le (l:List UInt8):runN l≤l.length:=by
 induction l with
 | nil=>simp[runN]
 | cons c l ih=>cases h:isN c<;>simp[runN_yes,runN_no,h]<;>omega
theorem runN_take (l:List UInt8):l.take (runN l)=l.takeWhile isN:=by
 induction l with
 | nil=>rfl
 | cons c l ih=>cases h:isN c<;>simp[runN_yes,runN_no,h,List.takeWhile,ih]
def skipF:Bool→List UInt8→Nat
 | _,[]=>0
 | r,c :: t=>if (c.toNat:Int)=10 then skipF false t+1 else if (c.toNat:Int)=32∨(c.toNat:Int)=9 then skipF r t+1 else if (c.toNat:Int)=35 then skipF true t+1 else if r then skipF r t+1 else 0
theorem skipF_cons (r:Bool) (c:UInt8) (t:List UInt8):skipF r (c :: t)=if (c.toNat:Int)=10 then skipF false t+1 else if (c.toNat:Int)=32∨(c.toNat:Int)=9 then skipF r t+1 else if (c.toNat:Int)=35 then skipF true t+1 else if r then skipF r t+1 else 0:=rfl
theorem skipF_le : ∀(l:List UInt8) (r:Bool),skipF r l≤l.length
 | [],_=>by simp[skipF]
 | c :: t,r=>by
  have h1:=skipF_le t false
  have h2:=skipF_le t r
  have h3:=skipF_le t true
  unfold skipF
  simp only[List.length_cons]
  (repeat' split)<;>omega
def remF (l:List UInt8):Nat:=(l.takeWhile fun c=>(c.toNat:Int) != 10).length
theorem remF_le (l:List UInt8):remF l≤l.length:=by
 unfold remF
 induction l with
 | nil=>simp
 | cons c l ih=>simp only[List.takeWhile];split<;>simp<;>omega
theorem remF_yes {c:UInt8} {l:List UInt8} (h:(c.toNat:Int)≠10):remF (c :: l)=remF l+1:=by
 have:((c.toNat:Int) != 10)=true:=by simpa using h
 simp[remF,List.takeWhile,this]
theorem remF_no {c:UInt8} {l:List UInt8} (h:(c.toNat:Int)=10):remF (c :: l)=0:=by
 have:((c.toNat:Int) != 10)=false:=by simpa using h
 simp[remF,List.takeWhile,this]
theorem skip_rem : ∀l:List UInt8,skipF true l=remF l+skipF false (l.drop (remF l))
 | []=>rfl
 | c :: t=>by
  by_cases h:(c.toNat:Int)=10
  ·rw[remF_no h];simp[skipF,h]
  ·rw[remF_yes h,List.drop_succ_cons]
   have ih:=skip_rem t
   rw[Nat.add_right_comm, ← ih]
   simp[skipF,h]
def valF (l:List UInt8):Nat:=l.foldl (fun n c=>n*10+(c.toNat-48)) 0
theorem valF_snoc (l:List UInt8) (c:UInt8):valF (l++[c])=valF l*10+(c.toNat-48):=by simp[valF]
theorem fold_mono (l:List UInt8) : ∀n:Nat,n≤l.foldl (fun n c=>n*10+(c.toNat-48)) n:=by
 induction l with
 | nil=>intro n;exact Nat.le_refl n
 | cons c l ih=>intro n;exact Nat.le_trans (show n≤n*10+(c.toNat-48) by omega) (ih _)
theorem valF_take (l:List UInt8) (k:Nat):valF (l.take k)≤valF l:=by
 have h:l.take k++l.drop k=l:=List.take_append_drop k l
 calc valF (l.take k)≤(l.drop k).foldl (fun n c=>n*10+(c.toNat-48)) (valF (l.take k)):=fold_mono _ _
  _=valF l:=by unfold valF;rw[← List.foldl_append,h]
def numOk (l:List UInt8):Bool:=l.all isD && (l==[48] || !(l.head? == some 48)) && decide (valF l≤1073741823)
def kwL:List (List UInt8):=[[102,117,110],[108,101,116],[114,101,99],[105,110],[105,102],[116,104,101,110],[101,108,115,101],[104,97,110,100,108,101],[119,105,116,104],[114,101,116,117,114,110],[101,110,100],[100,111],[111,112],[116,114,117,101],[102,97,108,115,101],[105,110,116],[98,111,111,108]]
def kwB (l:List UInt8):Bool:=kwL.contains l
def signL:List UInt8:=[40,41,61,43,45,42,47,60,59,58]
def signF:List UInt8→Nat
 | []=>0
 | [c]=>if signL.contains c then 1 else 0
 | c :: d :: _=>if (c=45∧d=62)∨(c=61∧d=61) then 2 else if signL.contains c then 1 else 0
theorem signF_le (l:List UInt8):signF l≤l.length∧signF l≤2:=by
 match l with
 | []=>simp[signF]
 | [c]=>simp only[signF,List.length_cons];split<;>simp
 | c :: d :: t=>simp only[signF,List.length_cons];(repeat' split)<;>simp
structure Tk where
 kind:Int
 text:List UInt8
 num:Int
 at_:Int
 deriving DecidableEq
def firstF (l:List UInt8):Tk × Nat × Int:=
 match l with
 | []=>(⟨0,[],0,0⟩,0,0)
 | c :: t=>
  if isL c then
   let x:=(c :: t).take (runN (c :: t))
   if kwB x then (⟨2,x,0,0⟩,x.length,0) else if x.length > 16 then (⟨0,[],0,0⟩,x.length,201) else (⟨0,x,0,0⟩,x.length,0)
  else if isD c then
   let x:=(c :: t).take (runN (c :: t))
   if numOk x then (⟨1,[],(valF x:Int),0⟩,x.length,0) else (⟨1,[],0,0⟩,x.length,202)
  else
   let x:=(c :: t).take (signF (c :: t))
   if x=[] then (⟨0,[],0,0⟩,0,201) else (⟨3,x,0,0⟩,x.length,0)
theorem isL_isN {c:UInt8} (h:isL c=true):isN c=true:=by simp[isN,h]
theorem isD_isN {c:UInt8} (h:isD c=true):isN c=true:=by simp[isN,h]
theorem firstF_pos {l:List UInt8} (h:l≠[]) (he:(firstF l).2.2=0):0<(firstF l).2.1∧(firstF l).2.1≤l.length:=by
 match l,h with
 | c :: t,_=>
  have hr:=runN_le (c :: t)
  have hs:=(signF_le (c :: t)).1
  simp only[firstF] at he ⊢
  by_cases hl:isL c=true
  ·have hr1:=runN_yes (l:=t) (isL_isN hl)
   simp only[hl,if_true] at he ⊢
   have hx:((c :: t).take (runN (c :: t))).length=runN (c :: t):=by rw[List.length_take];omega
   split at he
   ·rename_i h1;simp only[h1,if_true,hx];omega
   ·split at he
    ·simp at he
    ·rename_i h1 h2;rw[if_neg h1,if_neg h2];show 0<((c :: t).take (runN (c :: t))).length∧((c :: t).take (runN (c :: t))).length≤_;rw[hx];omega
  ·by_cases hd:isD c=true
   ·have hr1:=runN_yes (l:=t) (isD_isN hd)
    have hx:((c :: t).take (runN (c :: t))).length=runN (c :: t):=by rw[List.length_take];omega
    simp only[hl,hd,if_true] at he ⊢
    simp only[Bool.false_eq_true,if_false] at he ⊢
    split at he
    ·rename_i h1;simp only[h1,if_true,hx];omega
    ·simp at he
   ·have hx:((c :: t).take (signF (c :: t))).length=signF (c :: t):=by rw[List.length_take];omega
    simp only[hl,hd] at he ⊢
    simp only[Bool.false_eq_true,if_false] at he ⊢
    split at he
    ·simp at he
    ·rename_i h1
     rw[if_neg h1]
     have:(c :: t).take (signF (c :: t))≠[]:=h1
     have h0:0<signF (c :: t):=by
      rcases Nat.eq_zero_or_pos (signF (c :: t)) with h0|h0
      ·rw[h0] at this;simp at this
      ·exact h0
     simp only[hx];omega
def lx:Nat→List UInt8→Nat→List Tk→List Tk × Int × Int
 | 0,_,_,_=>([],0,0)
 | f+1,l,p,acc=>
  let k:=skipF false l
  let m:=l.drop k
  if m=[] then (acc,0,0) else
   let r:=firstF m
   if r.2.2=0 then lx f (m.drop r.2.1) (p+k+r.2.1) (acc++[⟨r.1.kind,r.1.text,r.1.num,((p+k:Nat):Int)⟩]) else ([],((p+k:Nat):Int),r.2.2)
theorem lx_fuel : ∀(f g:Nat) (l:List UInt8) (p:Nat) (acc:List Tk),l.length<f→l.length<g→lx f l p acc=lx g l p acc
 | 0,_,l,_,_,h,_=>by omega
 | _+1,0,l,_,_,_,h=>by omega
 | f+1,g+1,l,p,acc,hf,hg=>by
  unfold lx
  simp only[]
  by_cases hm:l.drop (skipF false l)=[]
  ·rw[if_pos hm,if_pos hm]
  ·rw[if_neg hm,if_neg hm]
   by_cases he:(firstF (l.drop (skipF false l))).2.2=0
   ·rw[if_pos he,if_pos he]
    have hp:=firstF_pos hm he
    have:(l.drop (skipF false l)).length≤l.length:=by rw[List.length_drop];omega
    apply lx_fuel<;>rw[List.length_drop]<;>omega
   ·rw[if_neg he,if_neg he]
def lxAt (l:List UInt8) (p:Nat) (acc:List Tk):List Tk × Int × Int:=lx (l.length+1) l p acc
theorem lxAt_end {l:List UInt8} {p:Nat} {acc:List Tk} (h:l.drop (skipF false l)=[]):lxAt l p acc=(acc,0,0):=by
 unfold lxAt lx;simp only[];rw[if_pos h]
theorem lxAt_bad {l:List UInt8} {p:Nat} {acc:List Tk} (h:l.drop (skipF false l)≠[]) (he:(firstF (l.drop (skipF false l))).2.2≠0):lxAt l p acc=([],((p+skipF false l:Nat):Int),(firstF (l.drop (skipF false l))).2.2):=by
 unfold lxAt lx;simp only[];rw[if_neg h,if_neg he]
theorem lxAt_step {l:List UInt8} {p:Nat} {acc:List Tk} {t:Tk} {n:Nat} (h:l.drop (skipF false l)≠[]) (hf:firstF (l.drop (skipF false l))=(t,n,0)) :
  lxAt l p acc=lxAt ((l.drop (skipF false l)).drop n) (p+skipF false l+n) (acc++[⟨t.kind,t.text,t.num,((p+skipF false l:Nat):Int)⟩]):=by
 have he:(firstF (l.drop (skipF false l))).2.2=0:=by rw[hf]
 have hp:=firstF_pos h he
 have hl:(l.drop (skipF false l)).length≤l.length:=by rw[List.length_drop];omega
 rw[hf] at hp
 simp only[] at hp
 conv=>lhs;unfold lxAt lx
 simp only[]
 rw[if_neg h,if_pos he,hf]
 unfold lxAt
 have hln:((l.drop (skipF false l)).drop n).length<l.length:=by rw[List.length_drop];omega
 exact lx_fuel _ _ _ _ _ hln (Nat.lt_succ_self _)
theorem skip_drop {l:List UInt8} (j:Nat) (h:skipF false l=j+skipF false (l.drop j)) (p:Nat) (acc:List Tk):lxAt l p acc=lxAt (l.drop j) (p+j) acc:=by
 unfold lxAt
 rw[lx_fuel (l.length+1) ((l.drop j).length+1+l.length) l p acc (by omega) (by omega),lx_fuel ((l.drop j).length+1) ((l.drop j).length+1+l.length) (l.drop j) (p+j) acc (by omega) (by omega)]
 rw[show (l.drop j).length+1+l.length=((l.drop j).length+l.length)+1 by omega]
 unfold lx
 have hd:(l.drop j).drop (skipF false (l.drop j))=l.drop (skipF false l):=by rw[List.drop_drop,h]
 simp only[hd]
 rw[h,Nat.add_assoc p j]
theorem lxAt_blank {c:UInt8} {l:List UInt8} {p:Nat} {acc:List Tk} (h:(c.toNat:Int)=10∨(c.toNat:Int)=32∨(c.toNat:Int)=9):lxAt (c :: l) p acc=lxAt l (p+1) acc:=by
 have:=skip_drop (l:=c :: l) 1 (by simp only[skipF,List.drop_succ_cons,List.drop_zero];rcases h with h|h|h<;>simp[h,Nat.add_comm]) p acc
 simpa using this
theorem lxAt_remark {c:UInt8} {l:List UInt8} {p:Nat} {acc:List Tk} (h:(c.toNat:Int)=35):lxAt (c :: l) p acc=lxAt ((c :: l).drop (remF (c :: l))) (p+remF (c :: l)) acc:=by
 refine skip_drop (l:=c :: l) _ ?_ p acc
 rw[remF_yes (by omega),List.drop_succ_cons]
 have:=skip_rem l
 simp only[skipF]
 simp[h,this]
 omega
theorem lxAt_nil {p:Nat} {acc:List Tk}:lxAt [] p acc=(acc,0,0):=lxAt_end rfl
theorem skip_idem : ∀(l:List UInt8) (r:Bool),skipF false (l.drop (skipF r l))=0
 | [],r=>by simp[skipF]
 | c :: t,r=>by
  rw[skipF_cons]
  by_cases h1:(c.toNat:Int)=10
  ·rw[if_pos h1,List.drop_succ_cons];exact skip_idem t false
  rw[if_neg h1]
  by_cases h2:(c.toNat:Int)=32∨(c.toNat:Int)=9
  ·rw[if_pos h2,List.drop_succ_cons];exact skip_idem t r
  rw[if_neg h2]
  by_cases h3:(c.toNat:Int)=35
  ·rw[if_pos h3,List.drop_succ_cons];exact skip_idem t true
  rw[if_neg h3]
  cases r
  ·simp only[Bool.false_eq_true,if_false,List.drop_zero]
   rw[skipF_cons,if_neg h1,if_neg h2,if_neg h3];rfl
  ·rw[if_pos rfl,List.drop_succ_cons];exact skip_idem t true
theorem lxAt_skip (l:List UInt8) (p:Nat) (acc:List Tk):lxAt (l.drop (skipF false l)) (p+skipF false l) acc=lxAt l p acc:=
 (skip_drop (skipF false l) (by rw[skip_idem];rfl) p acc).symm
theorem lxAt_err {l:List UInt8} {p:Nat} {acc:List Tk} {t:Tk} {n:Nat} {e:Int} (h0:skipF false l=0) (h:l≠[]) (hf:firstF l=(t,n,e)) (he:e≠0):lxAt l p acc=([],(p:Int),e):=by
 have:=lxAt_bad (l:=l) (p:=p) (acc:=acc) (by rw[h0];exact h) (by rw[h0,List.drop_zero,hf];exact he)
 rw[h0,List.drop_zero,hf] at this
 exact this
theorem lxAt_more {l:List UInt8} {p:Nat} {acc:List Tk} {t:Tk} {n:Nat} (h0:skipF false l=0) (h:l≠[]) (hf:firstF l=(t,n,0)):lxAt l p acc=lxAt (l.drop n) (p+n) (acc++[⟨t.kind,t.text,t.num,(p:Int)⟩]):=by
 have:=lxAt_step (l:=l) (p:=p) (acc:=acc) (t:=t) (n:=n) (by rw[h0];exact h) (by rw[h0,List.drop_zero];exact hf)
 rw[h0,List.drop_zero] at this
 exact this
open Go.RowKit
theorem bcell {W w1:World} (hb:Below W.heap.size W w1):(∀b o,b<W.heap.size→w1.cell? ⟨b,o,none⟩=W.cell? ⟨b,o,none⟩)∧(∀b o,b<W.heap.size→w1.frozen? ⟨b,o,none⟩=W.frozen? ⟨b,o,none⟩):=
 ⟨fun b o h=>hb.cell (p:=⟨b,o,none⟩) h,fun b o h=>hb.frozen (p:=⟨b,o,none⟩) h⟩
theorem belT {a b c:World} (h:Below a.heap.size a b) (k:Below b.heap.size b c):Below a.heap.size a c:=h.trans (k.mono h.size)
theorem carry {W W1:World} {g o:Nat} {v:Value} (hb:Below W.heap.size W W1) (hg:g<W.heap.size) (h:W.cell? ⟨g,o,none⟩=some v):W1.cell? ⟨g,o,none⟩=some v:=by
 rw[hb.cell (p:=⟨g,o,none⟩) hg];exact h
theorem ret_b {a b:Bool} (h:a=b):Ending.returned (.bool a)= .returned (.bool b):=by rw[h]
theorem drop_cons (s:ByteArray) (k:Nat) (h:k<s.size):s.data.toList.drop k=s[k] :: s.data.toList.drop (k+1):=by
 have h':k<s.data.toList.length:=by simpa using h
 rw[List.drop_eq_getElem_cons h']
 rfl
theorem drop_end (s:ByteArray) (k:Nat) (h:s.size≤k):s.data.toList.drop k=[]:=by
 apply List.drop_eq_nil_of_le
 simpa using h
theorem ext_list (s:ByteArray) (a b:Nat):(s.extract a b).data.toList=(s.data.toList.drop a).take (b-a):=by
 rw[ByteArray.data_extract,Array.toList_extract,List.extract_eq_take_drop]
theorem len_list (s:ByteArray):s.data.toList.length=s.size:=by simp
theorem ba_ext {a b:ByteArray} (h:a.data.toList=b.data.toList):a=b:=by
 obtain⟨x⟩:=a;obtain⟨y⟩:=b
 exact congrArg ByteArray.mk (Array.ext' h)
def bs (l:List UInt8):ByteArray:=⟨l.toArray⟩
theorem bs_of (s:ByteArray):bs s.data.toList=s:=rfl
theorem bs_list (l:List UInt8):(bs l).data.toList=l:=rfl
theorem bs_size (l:List UInt8):(bs l).size=l.length:=rfl
theorem isLetter_any (c:UInt8) (w:World) :
  Calls Tryz.prog 120 #[.int .u8 (c.toNat:Int)] w fun e w'=>e= .returned (.bool (isL c))∧w=w':=by
 go_enter Tryz.func120,Tryz.ntmps120
 go_wp2_with fail
 all_goals go_ret
 all_goals exact⟨ret_b (by unfold isL;(first|rfl|(rw[Bool.eq_iff_iff];simp;omega))),rfl⟩
theorem isDigit_any (c:UInt8) (w:World) :
  Calls Tryz.prog 123 #[.int .u8 (c.toNat:Int)] w fun e w'=>e= .returned (.bool (isD c))∧w=w':=by
 go_enter Tryz.func123,Tryz.ntmps123
 go_wp2_with fail
 all_goals go_ret
 all_goals exact⟨ret_b (by unfold isD;(first|rfl|(rw[Bool.eq_iff_iff];simp;omega))),rfl⟩
theorem rfirst_any (c:UInt8) (w:World) :
  Calls Tryz.prog 90 #[.int .u8 (c.toNat:Int)] w fun e w'=>e= .returned (.bool (isL c))∧w=w':=by
 go_enter Tryz.func90,Tryz.ntmps90
 go_wp2_with fail
 all_goals go_ret
 all_goals exact⟨ret_b (by unfold isL;(first|rfl|(rw[Bool.eq_iff_iff];simp;omega))),rfl⟩
theorem rdigit_any (c:UInt8) (w:World) :
  Calls Tryz.prog 91 #[.int .u8 (c.toNat:Int)] w fun e w'=>e= .returned (.bool (isD c))∧w=w':=by
 go_enter Tryz.func91,Tryz.ntmps91
 go_wp2_with fail
 all_goals go_ret
 all_goals exact⟨ret_b (by unfold isD;(first|rfl|(rw[Bool.eq_iff_iff];simp;omega))),rfl⟩
theorem rlater_any (c:UInt8) (w:World) :
  Calls Tryz.prog 89 #[.int .u8 (c.toNat:Int)] w fun e w'=>e= .returned (.bool (isN c))∧w=w':=by
 cases hl:isL c<;>cases hd:isD c<;>cases hu:((c.toNat:Int)==95)
 all_goals
  have hx:=bH (show isN c=_ from by unfold isN;rw[hl,hd,hu])
  go_enter Tryz.func89,Tryz.ntmps89
  go_wp2_with (first|((go_at_call 90;refine(rfirst_any _ _).mono ?_;rintro e w' ⟨rfl,rfl⟩))|((go_at_call 91;refine(rdigit_any _ _).mono ?_;rintro e w' ⟨rfl,rfl⟩)))
  go_ret
  exact⟨ret_b (by rw[hx.out];rfl),rfl⟩
end Go.Proofs.YthpcbgljbpmafaaGreatDoor
