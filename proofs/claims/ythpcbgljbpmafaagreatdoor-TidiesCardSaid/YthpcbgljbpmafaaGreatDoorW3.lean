/- Contracts of package lex: run, sign, blanks, Keyword. -/
import Derived.Test.YthpcbgljbpmafaaGreatDoorW2
import Derived.Lib.ConvBytes
import Derived.Lib.AtoiErrMem
set_option maxRecDepth 100000
set_option maxHeartbeats 8000000
namespace Go.Proofs.YthpcbgljbpmafaaGreatDoor
open Go.RowKit
set_option linter.unusedVariables false
set_option linter.unusedSimpArgs false
theorem run_any (s:ByteArray) (w:World) (hs:s.size≤1125899906842624) :
    Calls Tryz.prog 121 #[.string s] w fun e w'=>e= .returned (.int .i64 (runN s.data.toList))∧w=w':=by
  go_enter Tryz.func121,Tryz.ntmps121
  go_wp2_with fail
  go_loop [3] (fun n=> ∃k:Nat,k≤s.size∧n= .int .i64 k∧Hid (runN s.data.toList=k+runN (s.data.toList.drop k))) (fun n=>s.size-(intOf n).toNat)
  case atStart=>exact⟨0,Nat.zero_le _,rfl,bH (by simp)⟩
  case round=>
    obtain⟨k,hk,rfl,hr⟩:=hrel
    by_cases hlt:k<s.size
    · have hd:=bH (drop_cons s k hlt)
      have hyes:isN s[k]=true→runN s.data.toList=(k+1:Nat)+runN (s.data.toList.drop (k+1)):=fun h=>by
        rw[hr.out,hd.out,runN_yes h];omega
      have hno:isN s[k]=false→runN s.data.toList=k:=fun h=>by
        rw[hr.out,hd.out,runN_no h];omega
      have hyes':=bH hyes;have hno':=bH hno
      clear hyes hno
      cases hl:isL s[k]<;>cases hdg:isD s[k]<;>cases hu:((s[k].toNat:Int)==95)
      all_goals
        go_wp2_with (first|((go_at_call 120;refine(isLetter_any _ _).mono ?_;rintro e w' ⟨rfl,rfl⟩))|((go_at_call 123;refine(isDigit_any _ _).mono ?_;rintro e w' ⟨rfl,rfl⟩)))
        first
          | (go_ret
             exact⟨ret_i (by rw[hno'.out (by unfold isN;rw[hl,hdg,hu];rfl)]),rfl⟩)
          | (go_round
             case rel=>exact⟨k+1,by omega,by go_num,bH (hyes'.out (by unfold isN;rw[hl,hdg,hu];rfl))⟩
             case measure=>simp[intOf];omega)
    · have he:=bH (drop_end s k (by omega))
      go_wp2_with fail
      go_ret
      exact⟨ret_i (by rw[hr.out,he.out,runN_nil];simp),rfl⟩
open Go.RowKit
theorem blanks_any (s:ByteArray) (p:Nat) (w:World) (hs:s.size≤1125899906842624) (hp:p≤s.size) :
  Calls Tryz.prog 112 #[.string s, .int .i64 p] w fun e w'=>e= .returned (.int .i64 ((p+skipF false (s.data.toList.drop p):Nat):Int))∧w=w':=by
 go_enter Tryz.func112,Tryz.ntmps112
 go_wp2_with fail
 go_loop [1,5] (fun j r=> ∃(k:Nat) (rb:Bool),k≤s.size∧j= .int .i64 k∧r= .bool rb∧Hid (p+skipF false (s.data.toList.drop p)=k+skipF rb (s.data.toList.drop k))) (fun j _=>s.size-(intOf j).toNat)
 case atStart=>exact⟨p,false,hp,rfl,rfl,bH rfl⟩
 case round=>
  obtain⟨k,rb,hk,rfl,rfl,hr⟩:=hrel
  by_cases hlt:k<s.size
  ·have hd:=bH (drop_cons s k hlt)
   have hsk:=hr.out
   rw[hd.out,skipF_cons] at hsk
   have hsk':=bH hsk
   clear hsk
   by_cases h1:(s[k].toNat:Int)=10
   ·have b1:((s[k].toNat:Int)==10)=true:=by simpa using h1
    have h1':=bH h1;clear h1
    go_wp2_with fail
    go_round
    case rel=>exact⟨k+1,_,by omega,by go_num,rfl,bH (by rw[hsk'.out,if_pos h1'.out];omega)⟩
    case measure=>simp[intOf];omega
   have b1:((s[k].toNat:Int)==10)=false:=by simpa using h1
   by_cases h2:(s[k].toNat:Int)=32
   ·have b2:((s[k].toNat:Int)==32)=true:=by simpa using h2
    have h1':=bH h1;have h2':=bH h2;clear h1 h2
    go_wp2_with fail
    go_round
    case rel=>exact⟨k+1,rb,by omega,by go_num,rfl,bH (by rw[hsk'.out,if_neg h1'.out,if_pos (.inl h2'.out)];omega)⟩
    case measure=>simp[intOf];omega
   have b2:((s[k].toNat:Int)==32)=false:=by simpa using h2
   by_cases h3:(s[k].toNat:Int)=9
   ·have b3:((s[k].toNat:Int)==9)=true:=by simpa using h3
    have h1':=bH h1;have h3':=bH h3;clear h1 h2 h3
    go_wp2_with fail
    go_round
    case rel=>exact⟨k+1,rb,by omega,by go_num,rfl,bH (by rw[hsk'.out,if_neg h1'.out,if_pos (.inr h3'.out)];omega)⟩
    case measure=>simp[intOf];omega
   have b3:((s[k].toNat:Int)==9)=false:=by simpa using h3
   by_cases h4:(s[k].toNat:Int)=35
   ·have b4:((s[k].toNat:Int)==35)=true:=by simpa using h4
    have hh:=bH (show ¬ ((s[k].toNat:Int)=10)∧ ¬ ((s[k].toNat:Int)=32∨(s[k].toNat:Int)=9)∧(s[k].toNat:Int)=35 from ⟨h1,by omega,h4⟩);clear h1 h2 h3 h4
    go_wp2_with fail
    go_round
    case rel=>exact⟨k+1,_,by omega,by go_num,rfl,bH (by rw[hsk'.out,if_neg hh.out.1,if_neg hh.out.2.1,if_pos hh.out.2.2];omega)⟩
    case measure=>simp[intOf];omega
   have b4:((s[k].toNat:Int)==35)=false:=by simpa using h4
   have hh:=bH (show ¬ ((s[k].toNat:Int)=10)∧ ¬ ((s[k].toNat:Int)=32∨(s[k].toNat:Int)=9)∧ ¬ ((s[k].toNat:Int)=35) from ⟨h1,by omega,h4⟩);clear h1 h2 h3 h4
   cases rb
   ·go_wp2_with fail
    go_ret
    exact⟨ret_i (by have:=hsk'.out;rw[if_neg hh.out.1,if_neg hh.out.2.1,if_neg hh.out.2.2] at this;simp at this;omega),rfl⟩
   ·go_wp2_with fail
    go_round
    case rel=>exact⟨k+1,_,by omega,by go_num,rfl,bH (by rw[hsk'.out,if_neg hh.out.1,if_neg hh.out.2.1,if_neg hh.out.2.2];simp;omega)⟩
    case measure=>simp[intOf];omega
  ·have he:=bH (drop_end s k (by omega))
   go_wp2_with fail
   go_ret
   exact⟨ret_i (by have:=hr.out;rw[he.out] at this;simp[skipF] at this;omega),rfl⟩
theorem kwB_eq (l:List UInt8):kwB l=(l==[102,117,110] || (l==[108,101,116] || (l==[114,101,99] || (l==[105,110] || (l==[105,102] || (l==[116,104,101,110] || (l==[101,108,115,101] || (l==[104,97,110,100,108,101] || (l==[119,105,116,104] || (l==[114,101,116,117,114,110] || (l==[101,110,100] || (l==[100,111] || (l==[111,112] || (l==[116,114,117,101] || (l==[102,97,108,115,101] || (l==[105,110,116] || (l==[98,111,111,108] || false))))))))))))))))):=by
 simp only[kwB,kwL,List.contains_cons,List.contains_nil]
theorem keyword_any (s:ByteArray) (w:World) :
  Calls Tryz.prog 131 #[.string s] w fun e w'=>e= .returned (.bool (kwB s.data.toList))∧w=w':=by
 have hk:=bH (kwB_eq s.data.toList)
 have ht:=bH (ByteArray.toList_eq s)
 go_enter Tryz.func131,Tryz.ntmps131
 go_wp2_with fail
 all_goals go_ret
 all_goals exact⟨ret_b (by rw[hk.out, ← ht.out];clear hk ht;simp_all),rfl⟩
theorem u8_eq (c:UInt8) (k:Nat) (hk:k<256):(c==UInt8.ofNat k)=((c.toNat:Int)==(k:Int)):=by
 rw[Bool.eq_iff_iff]
 simp only[beq_iff_eq]
 constructor
 ·intro h;subst h;simp[Nat.mod_eq_of_lt hk]
 ·intro h
  have:c.toNat=k:=by omega
  rw[← this];simp
theorem sg_eq (c:UInt8):signL.contains c=((c.toNat:Int)==40 || ((c.toNat:Int)==41 || ((c.toNat:Int)==61 || ((c.toNat:Int)==43 || ((c.toNat:Int)==45 || ((c.toNat:Int)==42 || ((c.toNat:Int)==47 || ((c.toNat:Int)==60 || ((c.toNat:Int)==59 || ((c.toNat:Int)==58 || false)))))))))):=by
 simp only[signL,List.contains_cons,List.contains_nil,show (c==40)=((c.toNat:Int)==40) from u8_eq c 40 (by decide),show (c==41)=((c.toNat:Int)==41) from u8_eq c 41 (by decide),show (c==61)=((c.toNat:Int)==61) from u8_eq c 61 (by decide),show (c==43)=((c.toNat:Int)==43) from u8_eq c 43 (by decide),show (c==45)=((c.toNat:Int)==45) from u8_eq c 45 (by decide),show (c==42)=((c.toNat:Int)==42) from u8_eq c 42 (by decide),show (c==47)=((c.toNat:Int)==47) from u8_eq c 47 (by decide),show (c==60)=((c.toNat:Int)==60) from u8_eq c 60 (by decide),show (c==59)=((c.toNat:Int)==59) from u8_eq c 59 (by decide),show (c==58)=((c.toNat:Int)==58) from u8_eq c 58 (by decide)]
theorem sgn_of (s:ByteArray) (hp:0<s.size):signF s.data.toList=if decide (1<s.size) && ((s.extract 0 2).toList==[45,62] || (s.extract 0 2).toList==[61,61]) then 2 else if signL.contains s[0] then 1 else 0:=by
 have e0:=drop_cons s 0 hp
 rw[List.drop_zero] at e0
 by_cases h1:1<s.size
 ·have e1:=drop_cons s 1 h1
  have e2:(s.extract 0 2).toList=[s[0],s[1]]:=by
   rw[ByteArray.toList_eq,ext_list,List.drop_zero,e0,e1];rfl
  rw[e0,e1,e2]
  simp only[signF]
  by_cases hc:(s[0]=45∧s[1]=62)∨(s[0]=61∧s[1]=61)
  ·rw[if_pos hc,if_pos]
   simp[h1,hc]
  ·rw[not_or] at hc
   have hx:(decide (1<s.size) && ([s[0],s[1]]==[45,62] || [s[0],s[1]]==[61,61]))=false:=by
    simp[h1]
    exact⟨fun a b=>hc.1 ⟨a,b⟩,fun a b=>hc.2 ⟨a,b⟩⟩
   rw[if_neg (by rw[not_or];exact hc),hx]
   rfl
 ·rw[e0,drop_end s 1 (by omega),if_neg (by simp;omega)]
  rfl
theorem sign_any2 (s:ByteArray) (w:World) (hs:s.size≤1125899906842624) (hp:0<s.size) :
  Calls Tryz.prog 125 #[.string s] w fun e w'=>e= .returned (.int .i64 (signF s.data.toList))∧w=w':=by
 have hk:=bH (sgn_of s hp)
 have hk2:=bH (sg_eq s[0])
 by_cases h1:1<s.size
 ·cases hA:((s.extract 0 2).toList==[45,62])<;>cases hB:((s.extract 0 2).toList==[61,61])
  all_goals
   have h2:(2:Int)≤s.size:=by omega
   go_enter Tryz.func125,Tryz.ntmps125
   go_wp2_with fail
   all_goals go_ret
   all_goals exact⟨ret_i (by rw[hk.out,hk2.out];clear hk hk2;simp_all),rfl⟩
 ·have hk3:=bH (show signF s.data.toList=if signL.contains s[0] then 1 else 0 by rw[sgn_of s hp,decide_eq_false h1];rfl)
  clear hk
  go_enter Tryz.func125,Tryz.ntmps125
  go_wp2_with fail
  all_goals go_ret
  all_goals exact⟨ret_i (by rw[hk3.out,hk2.out];clear hk3 hk2;simp_all),rfl⟩
open Go.RowKit
def tkV (t:Tk):Value:= .agg #[.int .i64 t.kind, .string (bs t.text), .int .i64 t.num, .int .i64 t.at_]
def erV (e:Int):Value:=if e=0 then .nilIface else .iface 27 (.int .i64 e)
def wordF (l:List UInt8):Tk × Int:=if kwB l then (⟨2,l,0,0⟩,0) else if l.length > 16 then (⟨0,[],0,0⟩,201) else (⟨0,l,0,0⟩,0)
theorem wordF_kw {l:List UInt8} (h:kwB l=true):wordF l=(⟨2,l,0,0⟩,0):=by unfold wordF;rw[if_pos h]
theorem wordF_long {l:List UInt8} (h:kwB l=false) (h2:16<l.length):wordF l=(⟨0,[],0,0⟩,201):=by unfold wordF;rw[h];simp;omega
theorem wordF_name {l:List UInt8} (h:kwB l=false) (h2:l.length≤16):wordF l=(⟨0,l,0,0⟩,0):=by unfold wordF;rw[h];simp;omega
theorem word_any (s:ByteArray) (w:World) (hs:s.size≤1125899906842624) :
  Calls Tryz.prog 122 #[.string s] w fun e w'=>e= .returned (.tuple #[tkV (wordF s.data.toList).1,erV (wordF s.data.toList).2])∧Below w.heap.size w w':=by
 cases hk:kwB s.data.toList
 ·by_cases hl:16<s.size
  ·have hf:=bH (wordF_long hk (by rw[len_list];exact hl))
   have hk':=bH hk;clear hk
   go_enter Tryz.func122,Tryz.ntmps122
   go_wp2_with fail
   refine(keyword_any _ _).mono ?_
   rintro e w' ⟨rfl,rfl⟩
   rw[hk'.out]
   go_wp2_with fail
   exact bodyPost_ret (v:= .tuple #[tkV ⟨0,[],0,0⟩,erV 201]) (by simp[results,Tryz.results122,go_sem,tkV,erV,bs]) rfl ⟨by rw[hf.out],bZ⟩
  ·have hf:=bH (wordF_name hk (by rw[len_list];omega))
   have hk':=bH hk;clear hk
   go_enter Tryz.func122,Tryz.ntmps122
   go_wp2_with fail
   refine(keyword_any _ _).mono ?_
   rintro e w' ⟨rfl,rfl⟩
   rw[hk'.out]
   go_wp2_with fail
   exact bodyPost_ret (v:= .tuple #[tkV ⟨0,s.data.toList,0,0⟩,erV 0]) (by simp[results,Tryz.results122,go_sem,tkV,erV,bs_of]) rfl ⟨by rw[hf.out],bZ⟩
 ·have hf:=bH (wordF_kw hk)
  have hk':=bH hk;clear hk
  go_enter Tryz.func122,Tryz.ntmps122
  go_wp2_with fail
  refine(keyword_any _ _).mono ?_
  rintro e w' ⟨rfl,rfl⟩
  rw[hk'.out]
  go_wp2_with fail
  exact bodyPost_ret (v:= .tuple #[tkV ⟨2,s.data.toList,0,0⟩,erV 0]) (by simp[results,Tryz.results122,go_sem,tkV,erV,bs_of]) rfl ⟨by rw[hf.out],bZ⟩
def numV (l:List UInt8):Int:=if numOk l then (valF l:Int) else 0
def numE (l:List UInt8):Int:=if numOk l then 0 else 202
theorem num_no {l:List UInt8} (h:numOk l=false):numV l=0∧numE l=202:=by unfold numV numE;rw[h];exact⟨rfl,rfl⟩
theorem num_yes {l:List UInt8} (h:numOk l=true):numV l=valF l∧numE l=0:=by unfold numV numE;rw[h];exact⟨rfl,rfl⟩
def leadZ (l:List UInt8):Bool:=l==[48] || !(l.head? == some 48)
theorem numOk_eq (l:List UInt8):numOk l=(l.all isD && leadZ l && decide (valF l≤1073741823)):=rfl
theorem all_not {l:List UInt8} {k:Nat} (h:k<l.length) (hd:isD l[k]=false):l.all isD=false:=by
 rw[List.all_eq_false];exact⟨l[k],List.getElem_mem _,by rw[hd];decide⟩
theorem all_snoc (s:ByteArray) (k:Nat) (h:k<s.size):s.data.toList.take (k+1)=s.data.toList.take k++[s[k]]:=by
 rw[List.take_succ_eq_append_getElem (by simpa using h)];rfl
theorem ret_ie {a b:Int} {v u:Value} (h:a=b) (h2:v=u):Ending.returned (.tuple #[.int .i64 a,v])= .returned (.tuple #[.int .i64 b,u]):=by rw[h,h2]
theorem isD_bd {c:UInt8} (h:isD c=true):48≤(c.toNat:Int)∧(c.toNat:Int)≤57:=by unfold isD at h;simpa using h
theorem number_any (s:ByteArray) (w:World) (hs:s.size≤1125899906842624) (hp:0<s.size) :
  Calls Tryz.prog 124 #[.string s] w fun e w'=>e= .returned (.tuple #[.int .i64 (numV s.data.toList),erV (numE s.data.toList)])∧Below w.heap.size w w':=by
 have e0:=drop_cons s 0 hp
 rw[List.drop_zero] at e0
 have hlz:leadZ s.data.toList= !((s[0].toNat:Int)==48 && !(s.toList==[48])):=by
  unfold leadZ
  rw[ByteArray.toList_eq,show (some (48:UInt8))=some (UInt8.ofNat 48) from rfl]
  have h0:s.data.toList.head? = some s[0]:=by rw[e0];rfl
  rw[h0,show ((some s[0]==some (UInt8.ofNat 48))=(s[0]==UInt8.ofNat 48)) from rfl,u8_eq s[0] 48 (by decide)]
  show (s.data.toList==[UInt8.ofNat 48] || !((s[0].toNat:Int)==48))= !((s[0].toNat:Int)==48 && !(s.data.toList==[UInt8.ofNat 48]))
  generalize (s.data.toList==[UInt8.ofNat 48])=x
  generalize ((s[0].toNat:Int)==48)=y
  cases x<;>cases y<;>rfl
 have hlz':=bH hlz
 have hok:=bH (numOk_eq s.data.toList)
 clear e0 hlz
 cases hA:((s[0].toNat:Int)==48)<;>cases hB:(s.toList==[48])
 case true.false=>
  have hn:=bH (num_no (l:=s.data.toList) (by rw[hok.out,hlz'.out,hA,hB];simp))
  go_enter Tryz.func124,Tryz.ntmps124
  go_wp2_with fail
  go_ret2
  exact⟨ret_ie hn.out.1.symm (by rw[hn.out.2];rfl),bZ⟩
 all_goals
  have hlt:=bH (show leadZ s.data.toList=true by rw[hlz'.out,hA,hB];rfl)
  have hcv:=Lib.run_convert_string_bytes (P:=Tryz.prog) w 9 186 5 s (u:= .string) Tryz.underlying9 Tryz.underlying186 Tryz.underlying5
  have hcell:Hid (∀k (hk:k<s.size),(Lib.bytesWorld w 5 s).cell? ⟨w.heap.size,k,none⟩=some (.int .u8 (s[k].toNat:Int))):=bH fun k hk=>by
   rw[Lib.bytesWorld_cell w _ s k hk]
   have:s.data.toList.getD k 0=s[k]:=by
    have h':k<s.data.toList.length:=by simpa using hk
    rw[List.getD_eq_getElem?_getD,List.getElem?_eq_getElem h'];rfl
   rw[this]
  have hbw:=Lib.bytesWorld_below w 5 s
  generalize Lib.bytesWorld w 5 s=W1 at hcv hcell hbw
  clear hlz'
  go_enter Tryz.func124,Tryz.ntmps124
  go_wp2_with fail
  clear hA hB hcv
  go_loop [4,18] (fun n i=> ∃k:Nat,k≤s.size∧i= .int .i64 k∧n= .int .i64 (valF (s.data.toList.take k))∧Hid ((s.data.toList.take k).all isD=true)∧valF (s.data.toList.take k)≤1073741823) (fun _ i=>s.size-(intOf i).toNat)
  case atStart=>exact⟨0,Nat.zero_le _,rfl,rfl,bH rfl,by simp[valF]⟩
  case round=>
   obtain⟨k,hk,rfl,rfl,hall,hv⟩:=hrel
   by_cases hlt2:k<s.size
   ·have hc:=hcell.out k hlt2
    have hsn:=all_snoc s k hlt2
    have hv2:Hid (valF (s.data.toList.take (k+1))=valF (s.data.toList.take k)*10+(s[k].toNat-48)):=bH (by rw[hsn,valF_snoc])
    have ha2:Hid ((s.data.toList.take (k+1)).all isD=((s.data.toList.take k).all isD && isD s[k])):=bH (by rw[hsn];simp)
    have hgk:Hid (isD s[k]=false→s.data.toList.all isD=false):=bH fun h=>all_not (k:=k) (by simpa using hlt2) h
    have hle:=bH (valF_take s.data.toList (k+1))
    clear hsn
    cases hd:isD s[k]
    ·have hn:=bH (num_no (l:=s.data.toList) (by rw[hok.out,hgk.out hd];rfl))
     go_wp2_with (go_at_call 123;refine(isDigit_any _ _).mono ?_;rintro e w' ⟨rfl,rfl⟩)
     go_ret2
     exact⟨ret_ie hn.out.1.symm (by rw[hn.out.2];rfl),bZ⟩
    ·have hbd:=isD_bd hd
     by_cases hm:(valF (s.data.toList.take k):Int)*10+((s[k].toNat:Int)-48)≤1073741823
     ·go_wp2_with (go_at_call 123;refine(isDigit_any _ _).mono ?_;rintro e w' ⟨rfl,rfl⟩)
      go_round
      case rel=>exact⟨k+1,by omega,by go_num,by rw[hv2.out];congr 1;omega,bH (by rw[ha2.out,hall.out,hd];rfl),by rw[hv2.out];omega⟩
      case measure=>simp[intOf];omega
     ·have hn:=bH (num_no (l:=s.data.toList) (by rw[hok.out,decide_eq_false (by have:=hle.out;rw[hv2.out] at this;omega)];simp))
      go_wp2_with (go_at_call 123;refine(isDigit_any _ _).mono ?_;rintro e w' ⟨rfl,rfl⟩)
      go_ret2
      exact⟨ret_ie hn.out.1.symm (by rw[hn.out.2];rfl),bZ⟩
   ·have ht:s.data.toList.take k=s.data.toList:=List.take_of_length_le (by simp;omega)
    rw[ht] at hv ⊢
    have ht2:=hall.out
    rw[ht] at ht2
    have hn:=bH (num_yes (l:=s.data.toList) (by rw[hok.out,ht2,hlt.out,decide_eq_true hv];rfl))
    clear ht ht2
    go_wp2_with fail
    go_ret2
    exact⟨ret_ie hn.out.1.symm (by rw[hn.out.2];rfl),bZ⟩
open Go.RowKit
theorem bs_take (s:ByteArray) (n:Nat):(s.extract 0 n).data.toList=s.data.toList.take n:=by
 rw[ext_list,List.drop_zero,Nat.sub_zero]
theorem bs_size_take (s:ByteArray) (n:Nat) (h:n≤s.size):(s.extract 0 n).size=n:=by simp;omega
theorem first_L {c:UInt8} {t:List UInt8} (h:isL c=true):firstF (c :: t)=((wordF ((c :: t).take (runN (c :: t)))).1,((c :: t).take (runN (c :: t))).length,(wordF ((c :: t).take (runN (c :: t)))).2):=by
 simp only[firstF,h,if_true,wordF]
 (repeat' split)<;>rfl
theorem first_D {c:UInt8} {t:List UInt8} (h:isL c=false) (h2:isD c=true):firstF (c :: t)=(⟨1,[],numV ((c :: t).take (runN (c :: t))),0⟩,((c :: t).take (runN (c :: t))).length,numE ((c :: t).take (runN (c :: t)))):=by
 simp only[firstF,h,h2,if_true,numV,numE]
 simp only[Bool.false_eq_true,if_false]
 (repeat' split)<;>rfl
theorem first_S {c:UInt8} {t:List UInt8} (h:isL c=false) (h2:isD c=false) (h3:signF (c :: t)≠0):firstF (c :: t)=(⟨3,(c :: t).take (signF (c :: t)),0,0⟩,((c :: t).take (signF (c :: t))).length,0):=by
 simp only[firstF,h,h2]
 simp only[Bool.false_eq_true,if_false]
 rw[if_neg]
 intro hx
 have:=congrArg List.length hx
 have hl:=(signF_le (c :: t)).1
 rw[List.length_take] at this
 simp only[List.length_nil] at this
 omega
theorem first_N {c:UInt8} {t:List UInt8} (h:isL c=false) (h2:isD c=false) (h3:signF (c :: t)=0):firstF (c :: t)=(⟨0,[],0,0⟩,0,201):=by
 simp only[firstF,h,h2,h3]
 simp
theorem run_pos {c:UInt8} {t:List UInt8} (h:isN c=true):0<runN (c :: t):=by rw[runN_yes h];omega
def FirstPost (l:List UInt8) (w:World) (e:Ending) (w':World):Prop:=e= .returned (.tuple #[tkV (firstF l).1, .int .i64 ((firstF l).2.1:Int),erV (firstF l).2.2])∧Below w.heap.size w w'
theorem first_any (s:ByteArray) (w:World) (hs:s.size≤1125899906842624) (hp:0<s.size) :
  Calls Tryz.prog 113 #[.string s] w (FirstPost s.data.toList w):=by
 have e0:=drop_cons s 0 hp
 rw[List.drop_zero] at e0
 have hrl:((runN s.data.toList:Nat):Int)≤s.size:=by have:=runN_le s.data.toList;rw[len_list] at this;omega
 have hsl:((signF s.data.toList:Nat):Int)≤s.size:=by have:=(signF_le s.data.toList).1;rw[len_list] at this;omega
 cases hl:isL s[0]
 ·cases hd:isD s[0]
  ·by_cases h0:signF s.data.toList=0
   ·have hf:Hid (firstF s.data.toList=(⟨0,[],0,0⟩,0,201)):=bH (by rw[e0] at h0 ⊢;exact first_N hl hd h0)
    have hx:s.extract 0 0=⟨#[]⟩:=by apply ba_ext;simp
    have h0':=bH h0
    clear e0 h0
    go_enter Tryz.func113,Tryz.ntmps113
    go_wp2_with (first|((go_at_call 120;refine(isLetter_any _ _).mono ?_;rintro e w' ⟨rfl,rfl⟩))|((go_at_call 123;refine(isDigit_any _ _).mono ?_;rintro e w' ⟨rfl,rfl⟩)))
    refine(sign_any2 _ _ hs hp).mono ?_
    rintro e w' ⟨rfl,rfl⟩
    rw[h0'.out]
    go_wp2_with fail
    exact bodyPost_ret (v:= .tuple #[tkV ⟨0,[],0,0⟩, .int .i64 0,erV 201]) (by simp[results,Tryz.results113,go_sem,tkV,erV,bs]) rfl ⟨by rw[hf.out];rfl,bZ⟩
   ·obtain⟨n,hn⟩ : ∃n,signF s.data.toList=n:=⟨_,rfl⟩
    have hf:Hid (firstF s.data.toList=(⟨3,s.data.toList.take n,0,0⟩,(s.data.toList.take n).length,0)):=bH (by rw[← hn];rw[e0] at h0 ⊢;exact first_S hl hd h0)
    rw[hn] at hsl h0
    obtain⟨x,hx⟩ : ∃x,s.extract 0 n=x:=⟨_,rfl⟩
    have hxl:=bH (show s.data.toList.take n=x.data.toList by rw[← hx,bs_take])
    have hxs:=bH (show x.size=n by rw[← hx];exact bs_size_take s n (by omega))
    have hxe:(x.toList==[])=false:=by
     rw[ByteArray.toList_eq]
     cases hx2:x.data.toList with
     | nil=>have:=hxs.out;rw[← len_list,hx2] at this;simp at this;omega
     | cons _ _=>rfl
    have hxe2:x.toList.isEmpty=false:=by cases hy:x.toList with|nil=>rw[hy] at hxe;cases hxe|cons _ _=>rfl
    have hn':=bH hn
    clear e0 hn hrl
    go_enter Tryz.func113,Tryz.ntmps113
    go_wp2_with (first|((go_at_call 120;refine(isLetter_any _ _).mono ?_;rintro e w' ⟨rfl,rfl⟩))|((go_at_call 123;refine(isDigit_any _ _).mono ?_;rintro e w' ⟨rfl,rfl⟩)))
    refine(sign_any2 _ _ hs hp).mono ?_
    rintro e w' ⟨rfl,rfl⟩
    rw[hn'.out]
    go_wp2_with fail
    exact bodyPost_ret (v:= .tuple #[tkV ⟨3,x.data.toList,0,0⟩, .int .i64 x.size,erV 0]) (by simp[results,Tryz.results113,go_sem,tkV,erV,bs_of]) rfl ⟨by rw[hf.out,hxl.out,len_list],bZ⟩
  ·obtain⟨n,hn⟩ : ∃n,runN s.data.toList=n:=⟨_,rfl⟩
   have hf:Hid (firstF s.data.toList=(⟨1,[],numV (s.data.toList.take n),0⟩,(s.data.toList.take n).length,numE (s.data.toList.take n))):=bH (by rw[← hn,e0];exact first_D hl hd)
   have hn0:0<n:=by rw[← hn,e0];exact run_pos (isD_isN hd)
   rw[hn] at hrl
   obtain⟨x,hx⟩ : ∃x,s.extract 0 n=x:=⟨_,rfl⟩
   have hxl:=bH (show s.data.toList.take n=x.data.toList by rw[← hx,bs_take])
   have hxs:=bH (show x.size=n by rw[← hx];exact bs_size_take s n (by omega))
   have hn':=bH hn
   have hnum:=bH fun (W:World)=>number_any x W (by rw[hxs.out];omega) (by rw[hxs.out];omega)
   obtain⟨nv,hnv⟩ : ∃v,numV x.data.toList=v:=⟨_,rfl⟩
   obtain⟨ne,hne⟩ : ∃v,numE x.data.toList=v:=⟨_,rfl⟩
   have hnv':=bH hnv;have hne':=bH hne
   clear e0 hn hsl hnv hne
   go_enter Tryz.func113,Tryz.ntmps113
   go_wp2_with (first|((go_at_call 120;refine(isLetter_any _ _).mono ?_;rintro e w' ⟨rfl,rfl⟩))|((go_at_call 123;refine(isDigit_any _ _).mono ?_;rintro e w' ⟨rfl,rfl⟩)))
   refine(run_any _ _ hs).mono ?_
   rintro e w' ⟨rfl,rfl⟩
   rw[hn'.out]
   go_wp2_with fail
   refine(hnum.out _).mono ?_
   rintro e w1 ⟨rfl,hb1⟩
   rw[hnv'.out,hne'.out]
   obtain⟨hc1,hf1⟩:=bcell hb1
   have hz1:w.heap.size<w1.heap.size:=by have:=hb1.size;simp at this;omega
   have q0:w1.cell? ⟨w.heap.size,0,none⟩=some (.int .i64 0):=by rw[hc1 _ _ (by simp)];simp
   have q1:w1.cell? ⟨w.heap.size,1,none⟩=some (.string ⟨#[]⟩):=by rw[hc1 _ _ (by simp)];simp
   have q2:w1.cell? ⟨w.heap.size,2,none⟩=some (.int .i64 0):=by rw[hc1 _ _ (by simp)];simp
   have q3:w1.cell? ⟨w.heap.size,3,none⟩=some (.int .i64 0):=by rw[hc1 _ _ (by simp)];simp
   have f0:w1.frozen? ⟨w.heap.size,0,none⟩=false:=by rw[hf1 _ _ (by simp)];simp
   have f1:w1.frozen? ⟨w.heap.size,1,none⟩=false:=by rw[hf1 _ _ (by simp)];simp
   have f2:w1.frozen? ⟨w.heap.size,2,none⟩=false:=by rw[hf1 _ _ (by simp)];simp
   have f3:w1.frozen? ⟨w.heap.size,3,none⟩=false:=by rw[hf1 _ _ (by simp)];simp
   have hB1:Below w.heap.size w w1:=belT (bZ) hb1
   clear hc1 hf1 hb1
   go_wp2_with fail
   exact bodyPost_ret (v:= .tuple #[tkV ⟨1,[],nv,0⟩, .int .i64 x.size,erV ne]) (by simp[results,Tryz.results113,go_sem,tkV,bs, *]) rfl ⟨by rw[hf.out,hxl.out,len_list,hnv'.out,hne'.out],bZ⟩
 ·obtain⟨n,hn⟩ : ∃n,runN s.data.toList=n:=⟨_,rfl⟩
  have hf:Hid (firstF s.data.toList=((wordF (s.data.toList.take n)).1,(s.data.toList.take n).length,(wordF (s.data.toList.take n)).2)):=bH (by rw[← hn,e0];exact first_L hl)
  rw[hn] at hrl
  obtain⟨x,hx⟩ : ∃x,s.extract 0 n=x:=⟨_,rfl⟩
  have hxl:=bH (show s.data.toList.take n=x.data.toList by rw[← hx,bs_take])
  have hxs:=bH (show x.size=n by rw[← hx];exact bs_size_take s n (by omega))
  have hn':=bH hn
  have hnum:=bH fun (W:World)=>word_any x W (by rw[hxs.out];omega)
  obtain⟨tk,htk⟩ : ∃v,(wordF x.data.toList).1=v:=⟨_,rfl⟩
  obtain⟨ne,hne⟩ : ∃v,(wordF x.data.toList).2=v:=⟨_,rfl⟩
  have htk':=bH htk;have hne':=bH hne
  clear e0 hn hsl htk hne
  go_enter Tryz.func113,Tryz.ntmps113
  go_wp2_with (first|((go_at_call 120;refine(isLetter_any _ _).mono ?_;rintro e w' ⟨rfl,rfl⟩))|((go_at_call 123;refine(isDigit_any _ _).mono ?_;rintro e w' ⟨rfl,rfl⟩)))
  refine(run_any _ _ hs).mono ?_
  rintro e w' ⟨rfl,rfl⟩
  rw[hn'.out]
  go_wp2_with fail
  refine(hnum.out _).mono ?_
  rintro e w1 ⟨rfl,hb1⟩
  rw[htk'.out,hne'.out]
  obtain⟨hc1,hf1⟩:=bcell hb1
  have hz1:w.heap.size<w1.heap.size:=by have:=hb1.size;simp at this;omega
  have q0:w1.cell? ⟨w.heap.size,0,none⟩=some (.int .i64 0):=by rw[hc1 _ _ (by simp)];simp
  have q1:w1.cell? ⟨w.heap.size,1,none⟩=some (.string ⟨#[]⟩):=by rw[hc1 _ _ (by simp)];simp
  have q2:w1.cell? ⟨w.heap.size,2,none⟩=some (.int .i64 0):=by rw[hc1 _ _ (by simp)];simp
  have q3:w1.cell? ⟨w.heap.size,3,none⟩=some (.int .i64 0):=by rw[hc1 _ _ (by simp)];simp
  have f0:w1.frozen? ⟨w.heap.size,0,none⟩=false:=by rw[hf1 _ _ (by simp)];simp
  have f1:w1.frozen? ⟨w.heap.size,1,none⟩=false:=by rw[hf1 _ _ (by simp)];simp
  have f2:w1.frozen? ⟨w.heap.size,2,none⟩=false:=by rw[hf1 _ _ (by simp)];simp
  have f3:w1.frozen? ⟨w.heap.size,3,none⟩=false:=by rw[hf1 _ _ (by simp)];simp
  have hB1:Below w.heap.size w w1:=belT (bZ) hb1
  clear hc1 hf1 hb1
  unfold tkV
  go_wp2_with fail
  exact bodyPost_ret (v:= .tuple #[tkV tk, .int .i64 x.size,erV ne]) (by simp[results,Tryz.results113,go_sem,tkV, *]) rfl ⟨by rw[hf.out,hxl.out,len_list,htk'.out,hne'.out],bZ⟩
open Go.RowKit
theorem infoK:(Tryz.prog.info? 114).map (fun i=>(i.zero,i.size,i.bytes))=some (some (.agg #[.int .i64 0, .string ByteArray.empty, .int .i64 0, .int .i64 0]),4,40):=by kernel_rfl
def tk4 (t:Tk):List Value:=[.int .i64 t.kind, .string (bs t.text), .int .i64 t.num, .int .i64 t.at_]
def tkL (l:List Tk):List Value:=l.flatMap tk4
theorem tkL_snoc (l:List Tk) (t:Tk):tkL (l++[t])=tkL l++tk4 t:=by simp[tkL]
def OwnK (B:Nat) (w:World) (v:Value) (l:List Tk):Prop:=w.ownsRow B 114 4 v l.length (tkL l)
theorem ownK_nil (B:Nat) (w:World):OwnK B w (.slice none 0 0) []:=⟨rfl, .inl ⟨rfl,rfl⟩⟩
theorem owns_below {w w1:World} {base:Nat} {e:TypeId} {size:Nat} {v:Value} {n:Nat} {xs:List Value} (h:w.ownsRow base e size v n xs) (hb:Below w.heap.size w w1):w1.ownsRow base e size v n xs:=by
 refine⟨h.1, ?_⟩
 rcases h.2 with h|⟨g,cap,cur,h1,h2,h3,h4⟩
 ·exact .inl h
 ·refine .inr ⟨g,cap,cur,h1,h2, ?_,h4⟩
  have hg:g<w.heap.size:=by
   rcases Nat.lt_or_ge g w.heap.size with h|h
   ·exact h
   ·rw[Array.getElem?_eq_none h] at h3;cases h3
  rw[hb.block g hg];exact h3
theorem ownK_below {B:Nat} {w w1:World} {v:Value} {l:List Tk} (h:OwnK B w v l) (hb:Below w.heap.size w w1):OwnK B w1 v l:=owns_below h hb
theorem op_tk {ops:Array Oper} {rest:List Oper} {o:Oper} {a:Act} {Q:Exit→Act→World→Prop} (hgd:o.guard=none) (s x:Operand) (W:World) (B:Nat) (hB:B≤W.heap.size) (ov:Value) (l:List Tk) (y:Tk)
  (ho:o.op= .call { callee:= .builtin .append,args:= #[s,x],argTypes:= #[79,79] })
  (hs:a.eval s=ov) (hx:a.eval x= .slice (some ⟨W.heap.size,0,none⟩) 1 1) (hown:OwnK B W ov l) (hlen:l.length≤5000)
  (h : ∀v' w',OwnK B w' v' (l++[y])→Below B W w'→wpList Tryz.prog ops Q rest (a.put o.dst v') w') :
  wpList Tryz.prog ops Q (o :: rest) a (W.alloc (.cells #[.int .i64 y.kind, .string (bs y.text), .int .i64 y.num, .int .i64 y.at_] 114)):=by
 obtain⟨i0,hi,hz0,hz1,hz2⟩:=info_parts infoK
 refine wpList_append_own _ hgd s x 79 ho B 114 i0 (.agg #[.int .i64 0, .string ByteArray.empty, .int .i64 0, .int .i64 0]) 4 40 Tryz.underlying79 hi hz0 hz1 hz2 rfl (by decide) ov l.length (tkL l) hs (World.ownsRow.alloc hown _) ⟨W.heap.size,0,none⟩ 1 1 (tk4 y) hx rfl ?_ ?_ (by unfold maxLen;omega) (by omega) (by simp;omega) ?_
 ·intro j u hj
  match j,hj with
  | 0,hj=>simp[tk4] at hj;subst hj;show (W.alloc _).cell? ⟨W.heap.size,0,none⟩=_;simp
  | 1,hj=>simp[tk4] at hj;subst hj;show (W.alloc _).cell? ⟨W.heap.size,1,none⟩=_;simp
  | 2,hj=>simp[tk4] at hj;subst hj;show (W.alloc _).cell? ⟨W.heap.size,2,none⟩=_;simp
  | 3,hj=>simp[tk4] at hj;subst hj;show (W.alloc _).cell? ⟨W.heap.size,3,none⟩=_;simp
  | j+4,hj=>simp[tk4] at hj
 ·intro u hu;simp[tk4] at hu;rcases hu with rfl|rfl|rfl|rfl<;>rfl
 ·intro v' w' hown' hgr _
  refine h v' w' (by unfold OwnK;rw[tkL_snoc,List.length_append];exact hown') ?_
  have hsz:=hgr.size
  simp at hsz
  refine⟨hgr.os,hgr.tape,hgr.output,by omega,fun k hk=> ?_⟩
  rw[hgr.block k (by simp;omega) ?_]
  ·exact Below.heap_alloc W _ k (by omega)
  ·intro e
   rcases hown.2 with ⟨rfl,_⟩|⟨g,cap,cur,rfl,hg,_⟩
   ·simp[Value.ownBlock] at e
   ·simp[Value.ownBlock] at e;omega
def lexR (s:ByteArray):List Tk × Int × Int:=if 4096<s.size then ([],0,200) else if (vaV s).2=false then ([],(vaV s).1,200) else lxAt s.data.toList 0 []
def ScanPost (R : List Tk × Int × Int) (w : World) (e : Ending) (w' : World) : Prop :=
  Below w.heap.size w w' ∧
  ((R.2.2 = 0 ∧ R.2.1 = 0 ∧ ∃ v, e = .returned (.tuple #[v, .nilIface]) ∧ OwnK w.heap.size w' v R.1) ∨
   (R.1 = [] ∧ R.2.2 ≠ 0 ∧ ∃ g, w.heap.size ≤ g ∧ g < w'.heap.size ∧ e = .returned (.tuple #[.slice none 0 0, .iface 144 (.pointer (some ⟨g, 0, none⟩))]) ∧
      w'.cell? ⟨g, 0, none⟩ = some (.int .i64 R.2.1) ∧ w'.cell? ⟨g, 1, none⟩ = some (.iface 27 (.int .i64 R.2.2))))
theorem scan_bad {w W:World} {at_ er:Int} {R:List Tk × Int × Int} (hR:R=([],at_,er)) (he:er≠0) (hb:Below w.heap.size w W) (T:TypeId) {g:Nat} (hg:g=W.heap.size:=by first|rfl|simp) :
  ScanPost R w (.returned (.tuple #[.slice none 0 0, .iface 144 (.pointer (some ⟨g,0,none⟩))])) (W.alloc (.cells #[.int .i64 at_, .iface 27 (.int .i64 er)] T)):=by
 subst hR
 subst hg
 exact⟨hb.alloc hb.size _, .inr ⟨rfl,he,W.heap.size,hb.size,by simp,rfl,by simp,by simp⟩⟩
theorem scan_ok {w W:World} {v:Value} {l:List Tk} {R:List Tk × Int × Int} (hR:R=(l,0,0)) (hb:Below w.heap.size w W) (ho:OwnK w.heap.size W v l):ScanPost R w (.returned (.tuple #[v, .nilIface])) W:=by
 subst hR
 exact⟨hb, .inl ⟨rfl,rfl,v,rfl,ho⟩⟩
theorem scan_any (s:ByteArray) (w:World) (hs:s.size≤1125899906842624) :
  Calls Tryz.prog 107 #[.string s] w (ScanPost (lexR s) w):=by
 by_cases hl:4096<s.size
 ·have hR:=bH (show lexR s=([],0,200) by unfold lexR;rw[if_pos hl])
  go_enter Tryz.func107,Tryz.ntmps107
  go_wp2_with fail
  go_ret2
  exact scan_bad hR.out (by decide) (Below.refl _ _) _
 have hl':s.size≤4096:=by omega
 cases hv:(vaV s).2
 ·have hR:=bH (show lexR s=([],(vaV s).1,200) by unfold lexR;rw[if_neg hl,if_pos hv])
  have hv':=bH hv;clear hv
  obtain⟨vp,hvp⟩ : ∃x,(vaV s).1=x:=⟨_,rfl⟩
  have hvp':=bH hvp;clear hvp
  go_enter Tryz.func107,Tryz.ntmps107
  go_wp2_with fail
  refine(valid_any _ _ hs).mono ?_
  rintro e w' ⟨rfl,rfl⟩
  rw[hv'.out,hvp'.out]
  go_wp2_with fail
  go_ret2
  exact scan_bad (by rw[hR.out,hvp'.out]) (by decide) (Below.refl _ _) _
 have hR:Hid (lexR s=lxAt s.data.toList 0 []):=bH (by unfold lexR;rw[if_neg hl,hv];rfl)
 have hv':=bH hv;clear hv hl
 obtain⟨vp,hvp⟩ : ∃x,(vaV s).1=x:=⟨_,rfl⟩
 have hvp':=bH hvp;clear hvp
 have hb0:=bH fun (W:World)=>blanks_any s 0 W hs (Nat.zero_le _)
 have hsk:=skipF_le s.data.toList false
 rw[len_list] at hsk
 go_enter Tryz.func107,Tryz.ntmps107
 go_wp2_with fail
 refine(valid_any _ _ hs).mono ?_
 rintro e w' ⟨rfl,rfl⟩
 rw[hv'.out,hvp'.out]
 go_wp2_with fail
 refine(hb0.out _).mono ?_
 rintro e w' ⟨rfl,rfl⟩
 rw[List.drop_zero,Nat.zero_add]
 go_wp2_with fail
 go_loopw [6,7] (fun tv i wr=> ∃(p:Nat) (acc:List Tk),p≤s.size∧acc.length≤p∧i= .int .i64 p∧Below w.heap.size w wr∧Hid (OwnK w.heap.size wr tv acc∧skipF false (s.data.toList.drop p)=0∧lxAt (s.data.toList.drop p) p acc=lxAt s.data.toList 0 [])) (fun _ i _=>s.size-(intOf i).toNat)
 case atStart=>exact⟨skipF false s.data.toList,[],by omega,by simp,rfl,Below.refl _ _,bH ⟨ownK_nil _ _,skip_idem _ _,by have:=lxAt_skip s.data.toList 0 [];rw[Nat.zero_add] at this;exact this⟩⟩
 case round=>
  obtain⟨p,acc,hp,hacc,rfl,hbw,hinv⟩:=hrel
  have hws:=hbw.size
  by_cases hlt:p<s.size
  ·obtain⟨x,hx⟩ : ∃x,s.extract p s.size=x:=⟨_,rfl⟩
   have hxl:s.data.toList.drop p=x.data.toList:=by rw[← hx,ext_list,List.take_of_length_le (by simp)]
   have hxs:x.size=s.size-p:=by rw[← hx];simp
   have hne:x.data.toList≠[]:=by intro h;have:=congrArg List.length h;rw[len_list,hxs] at this;simp at this;omega
   obtain⟨r,hr⟩ : ∃r,firstF x.data.toList=r:=⟨_,rfl⟩
   obtain⟨⟨kd,tx,nm,a0⟩,n,er⟩:=r
   have hfst:Hid (∀W:World,Calls Tryz.prog 113 #[.string x] W fun e w'=>e= .returned (.tuple #[.agg #[.int .i64 kd, .string (bs tx), .int .i64 nm, .int .i64 a0], .int .i64 n,erV er])∧Below W.heap.size W w'):=bH fun W=>
    (first_any x W (by omega) (by omega)).mono fun e w' h=>by unfold FirstPost at h;rw[hr] at h;exact h
   have hinv':=hinv.out
   rw[hxl] at hinv'
   have hskn:=hinv'.2.1
   have hinv2:=bH hinv'.2.2
   have hxl':=bH hxl;have hxs':=bH hxs
   by_cases he:er=0
   ·subst he
    have hpos:=firstF_pos hne (by rw[hr])
    rw[hr] at hpos
    have hmore:=bH (lxAt_more (p:=p) (acc:=acc) hskn hne hr)
    have hn1:0<n:=hpos.1
    have hn2:p+n≤s.size:=by have:=hpos.2;rw[len_list,hxs] at this;simp at this;omega
    have hb2:=bH fun (W:World)=>blanks_any s (p+n) W hs hn2
    have hsk2:=skipF_le (s.data.toList.drop (p+n)) false
    rw[List.length_drop,len_list] at hsk2
    obtain⟨k2,hk2⟩ : ∃k,p+n+skipF false (s.data.toList.drop (p+n))=k:=⟨_,rfl⟩
    have hk2':=bH hk2
    have hk2s:k2≤s.size:=by omega
    have hk2n:p+n≤k2:=by omega
    clear hpos hinv' hskn hxl hxs hsk2 hk2 hne hsk hr
    go_wp2_with fail
    refine(hfst.out _).mono ?_
    rintro e w1 ⟨rfl,hb1⟩
    have hown1:Hid (OwnK w.heap.size w1 _ acc):=bH (ownK_below hinv.out.1 hb1)
    have hB1:Below w.heap.size w w1:=hbw.trans (hb1.mono hws)
    have hw1s:=hB1.size
    clear hb1
    rw[show erV 0= .nilIface from rfl]
    go_wp2_with (at_builtin;refine op_tk rfl (.tmp 56) (.tmp 58) (w1.alloc (.cells #[.int .i64 kd, .string (bs tx), .int .i64 nm, .int .i64 p] 114)) w.heap.size (by simp;omega) _ acc ⟨kd,tx,nm,p⟩ rfl rfl (by show Value.slice (some ⟨w1.heap.size+1,0,none⟩) 1 1=_;simp) (World.ownsRow.alloc hown1.out _) (by omega) ?_;intro v' w2 hown2 hb3)
    have hB2:Below w.heap.size w w2:=(hB1.alloc hw1s _).trans hb3
    have hown2':=bH hown2
    clear hown2 hb3 hown1 hinv
    go_wp2_with fail
    rw[show (p:Int)+(n:Int)=((p+n:Nat):Int) by omega]
    refine(hb2.out _).mono ?_
    rintro e w' ⟨rfl,rfl⟩
    rw[hk2'.out]
    go_wp2_with fail
    go_roundw
    case rel=>
     refine⟨k2,acc++[⟨kd,tx,nm,p⟩],hk2s,by simp;omega,rfl,hB2,bH ⟨hown2'.out, ?_, ?_⟩⟩
     ·rw[← hk2'.out, ← List.drop_drop];exact skip_idem _ _
     ·rw[← hinv2.out,hmore.out, ← hxl'.out,List.drop_drop, ← hk2'.out, ← List.drop_drop];exact lxAt_skip _ _ _
    case measure=>simp[intOf];omega
   ·have herr:=bH (lxAt_err (p:=p) (acc:=acc) hskn hne hr he)
    have he2:Hid (erV er= .iface 27 (.int .i64 er)):=bH (by unfold erV;rw[if_neg he])
    have he':=bH he
    clear hinv' hskn hxl hxs hne hsk hr he
    go_wp2_with fail
    refine(hfst.out _).mono ?_
    rintro e w1 ⟨rfl,hb1⟩
    have hB1:Below w.heap.size w w1:=hbw.trans (hb1.mono hws)
    have hw1s:=hB1.size
    clear hb1
    rw[he2.out]
    go_wp2_with fail
    go_ret2
    exact scan_bad (R:=lexR s) (at_:=p) (by rw[hR.out, ← hinv2.out,herr.out]) he'.out (bZ) _
  ·have hps:p=s.size:=by omega
   have hinv':=hinv.out
   rw[drop_end s p (by omega),lxAt_nil] at hinv'
   have hinv2:=bH hinv'
   clear hinv' hps
   go_wp2_with fail
   go_ret2
   exact scan_ok (by rw[hR.out, ← hinv2.out.2.2]) hbw hinv2.out.1
end Go.Proofs.YthpcbgljbpmafaaGreatDoor
