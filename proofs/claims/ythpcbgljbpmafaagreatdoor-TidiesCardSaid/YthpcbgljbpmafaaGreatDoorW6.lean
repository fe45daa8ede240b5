/- Contracts of the reference of layer 2: Valid, letters, Keyword, sign, number. -/
import Derived.Test.YthpcbgljbpmafaaGreatDoorW5
import Derived.Laws.DeepStrings4
set_option maxRecDepth 100000
set_option maxHeartbeats 8000000
namespace Go.Proofs.YthpcbgljbpmafaaGreatDoor
open Go.RowKit
set_option linter.unusedVariables false
set_option linter.unusedSimpArgs false
theorem rvalid_any (s:ByteArray) (w:World) (hs:s.size≤1125899906842624) :
  Calls Tryz.prog 67 #[.string s] w fun e w'=>e= .returned (.tuple #[.int .i64 (vaV s).1, .bool (vaV s).2])∧w=w':=by
 go_enter Tryz.func67,Tryz.ntmps67
 go_wp2_with fail
 go_loop [4] (fun i=> ∃k:Nat,k≤s.size∧i= .int .i64 k∧Hid (vaAt s k=vaV s)) (fun i=>s.size-(intOf i).toNat)
 case atStart=>exact⟨0,by omega,rfl,bH (vaV_eq s).symm⟩
 case round=>
  obtain⟨k,hk,rfl,hv⟩:=hrel
  by_cases hlt:k<s.size
  ·go_wp2_with fail
   refine(rwidth_any _ _ _ hs (by omega) (by omega)).mono ?_
   rintro e w' ⟨rfl,rfl⟩
   rw[wd_in hlt]
   have hw:=widF_bd s k
   by_cases hz:widF s k=0
   ·have hz3:(widF s k==0)=true:=by simpa using hz
    have hz':=bH hz;clear hz hw
    go_wp2
    go_ret2
    exact⟨ret_ib (by rw[← hv.out,vaAt_bad hlt hz'.out]),rfl⟩
   ·have hz3:(widF s k==0)=false:=by simpa using hz
    obtain⟨n,hn⟩:=Int.eq_ofNat_of_zero_le hw.1
    have hst:=bH (vaAt_step hlt hz)
    rw[hn] at hw hz3 hst ⊢
    have hn1:1≤n:=by omega
    have hn':=bH hn;clear hn hz
    go_wp2
    go_round
    case rel=>exact⟨k+n,by omega,by go_num,bH (by rw[← hv.out,hst.out];simp)⟩
    case measure=>simp[intOf];omega
  ·go_wp2
   go_ret2
   exact⟨ret_ib (by rw[← hv.out,vaAt_end (by omega)]),rfl⟩
def letB:List UInt8→Bool
 | []=>false
 | c :: t=>isL c && t.all isN
theorem letB_cons (c:UInt8) (t:List UInt8):letB (c :: t)=(isL c && t.all isN):=rfl
theorem letters_any (s:ByteArray) (w:World) (hs:s.size≤1125899906842624) :
  Calls Tryz.prog 83 #[.string s] w fun e w'=>e= .returned (.bool (letB s.data.toList))∧w=w':=by
 have htl:=bH (ByteArray.toList_eq s)
 by_cases hp:0<s.size
 ·have e0:=drop_cons s 0 hp
  rw[List.drop_zero] at e0
  have hlb:letB s.data.toList=(isL s[0] && (s.data.toList.drop 1).all isN):=by
   conv=>lhs;rw[e0]
   rfl
  have hne:s.toList.isEmpty=false:=by rw[ByteArray.toList_eq,e0];rfl
  have hne2:(s.toList==[])=false:=by rw[ByteArray.toList_eq,e0];rfl
  have hlb':=bH hlb
  clear e0 hlb
  cases hl:isL s[0]
  ·go_enter Tryz.func83,Tryz.ntmps83
   go_wp2_with (go_at_call 90;refine(rfirst_any _ _).mono ?_;rintro e w' ⟨rfl,rfl⟩)
   go_ret
   exact⟨ret_b (by rw[hlb'.out,hl];rfl),rfl⟩
  ·go_enter Tryz.func83,Tryz.ntmps83
   go_wp2_with (go_at_call 90;refine(rfirst_any _ _).mono ?_;rintro e w' ⟨rfl,rfl⟩)
   go_loop [3] (fun i=> ∃k:Nat,1≤k∧k≤s.size∧i= .int .i64 k∧Hid ((s.data.toList.drop 1).all isN=(s.data.toList.drop k).all isN)) (fun i=>s.size-(intOf i).toNat)
   case atStart=>exact⟨1,by omega,by omega,rfl,bH rfl⟩
   case round=>
    obtain⟨k,hk1,hk,rfl,hr⟩:=hrel
    by_cases hlt:k<s.size
    ·have hd:=bH (drop_cons s k hlt)
     cases hn:isN s[k]
     ·go_wp2_with (go_at_call 89;refine(rlater_any _ _).mono ?_;rintro e w' ⟨rfl,rfl⟩)
      go_ret
      exact⟨ret_b (by rw[hlb'.out,hr.out,hd.out];simp[hn]),rfl⟩
     ·go_wp2_with (go_at_call 89;refine(rlater_any _ _).mono ?_;rintro e w' ⟨rfl,rfl⟩)
      go_round
      case rel=>exact⟨k+1,by omega,by omega,by go_num,bH (by rw[hr.out,hd.out];simp[hn])⟩
      case measure=>simp[intOf];omega
    ·have he:=bH (drop_end s k (by omega))
     go_wp2_with fail
     go_ret
     exact⟨ret_b (by rw[hlb'.out,hr.out,he.out,hl];rfl),rfl⟩
 ·have h0:s.data.toList=[]:=by have:=drop_end s 0 (by omega);rwa [List.drop_zero] at this
  have hne:s.toList=[]:=by rw[ByteArray.toList_eq,h0]
  have hne2:s.toList.isEmpty=true:=by rw[hne];rfl
  have hne3:(s.toList==[])=true:=by rw[hne];rfl
  have h0':=bH h0
  clear h0 hne
  go_enter Tryz.func83,Tryz.ntmps83
  go_wp2_with fail
  go_ret
  exact⟨ret_b (by rw[h0'.out];rfl),rfl⟩
def wds:List UInt8:=[32,102,117,110,32,108,101,116,32,114,101,99,32,105,110,32,105,102,32,116,104,101,110,32,101,108,115,101,32,104,97,110,100,108,101,32,119,105,116,104,32,114,101,116,117,114,110,32,101,110,100,32,100,111,32,111,112,32,116,114,117,101,32,102,97,108,115,101,32,105,110,116,32,98,111,111,108,32]
theorem wds_in : ∀i<78, ∀n<78,i+n+2≤78→(wds.drop i).take (n+2)=32 :: ((wds.drop (i+1)).take n++[32])→letB ((wds.drop (i+1)).take n)=true→kwB ((wds.drop (i+1)).take n)=true:=by decide +kernel
theorem wds_has : ∀k∈kwL,letB k=true∧ ∃i<78,i+k.length+2≤78∧(wds.drop i).take (k.length+2)=32 :: (k++[32]):=by decide +kernel
theorem kw_let {l:List UInt8} (h:kwB l=true):letB l=true∧ ∃i<78,i+l.length+2≤78∧(wds.drop i).take (l.length+2)=32 :: (l++[32]):=wds_has l (by unfold kwB at h;exact List.contains_iff_mem.1 h)
theorem kw_hit {l:List UInt8} {i:Nat} (hl:letB l=true) (hi:i+l.length+2≤78) (h:(wds.drop i).take (l.length+2)=32 :: (l++[32])):kwB l=true:=by
 have e:(wds.drop (i+1)).take l.length=l:=by
  have h1:(wds.drop i).drop 1=wds.drop (i+1):=by rw[List.drop_drop]
  have h2:=congrArg (fun x=>(x.drop 1).take l.length) h
  simp only[List.drop_succ_cons,List.drop_zero] at h2
  rw[List.take_left'  rfl] at h2
  rw[List.drop_take,h1,List.take_take] at h2
  rw[show min l.length (l.length+2-1)=l.length by omega] at h2
  exact h2
 have:=wds_in i (by omega) l.length (by omega) hi (by rw[e];exact h) (by rw[e];exact hl)
 rw[e] at this;exact this
theorem wd_list (s:ByteArray):((⟨#[32]⟩:ByteArray)++s++⟨#[32]⟩).data.toList=32 :: (s.data.toList++[32]):=by
 simp
theorem rkeyword_any (s:ByteArray) (w:World) (hs:s.size≤1125899906842624) :
  Calls Tryz.prog 84 #[.string s] w fun e w'=>e= .returned (.bool (kwB s.data.toList))∧w=w':=by
 cases hl:letB s.data.toList
 ·have hk:kwB s.data.toList=false:=by
   cases h:kwB s.data.toList
   ·rfl
   ·rw[(kw_let h).1] at hl;cases hl
  have hl':=bH hl;have hk':=bH hk
  clear hl hk
  go_enter Tryz.func84,Tryz.ntmps84
  go_wp2_with fail
  refine(letters_any _ _ hs).mono ?_
  rintro e w' ⟨rfl,rfl⟩
  rw[hl'.out]
  go_wp2_with fail
  go_ret
  exact⟨ret_b hk'.out.symm,rfl⟩
 ·have hl':=bH hl
  clear hl
  obtain⟨t,ht⟩ : ∃t,(⟨#[32]⟩:ByteArray)++s++⟨#[32]⟩=t:=⟨_,rfl⟩
  have htl:=bH (show t.data.toList=32 :: (s.data.toList++[32]) by rw[← ht];exact wd_list s)
  have hts:=bH (show t.size=s.size+2 by rw[← len_list t,htl.out];simp)
  have hsz:t.size≤1125899906842626:=by rw[hts.out];omega
  go_enter Tryz.func84,Tryz.ntmps84
  go_wp2_with fail
  refine(letters_any _ _ hs).mono ?_
  rintro e w' ⟨rfl,rfl⟩
  rw[hl'.out]
  go_wp2_with fail
  go_loop [4] (fun i=> ∃k:Nat,k≤78∧i= .int .i64 k∧Hid (∀j,j<k→j+s.data.toList.length+2≤78→(wds.drop j).take (s.data.toList.length+2)≠32 :: (s.data.toList++[32]))) (fun i=>78-(intOf i).toNat)
  case atStart=>exact⟨0,by omega,rfl,bH fun j hj=>by omega⟩
  case round=>
   obtain⟨k,hk,rfl,hno⟩:=hrel
   by_cases hlt:(k:Int)+(t.size:Int)≤78
   ·obtain⟨x,hx⟩ : ∃x,(⟨#[32,102,117,110,32,108,101,116,32,114,101,99,32,105,110,32,105,102,32,116,104,101,110,32,101,108,115,101,32,104,97,110,100,108,101,32,119,105,116,104,32,114,101,116,117,114,110,32,101,110,100,32,100,111,32,111,112,32,116,114,117,101,32,102,97,108,115,101,32,105,110,116,32,98,111,111,108,32]⟩:ByteArray).extract k (k+t.size)=x:=⟨_,rfl⟩
    have hsl:(Instr.slice 9 (.string ⟨#[32,102,117,110,32,108,101,116,32,114,101,99,32,105,110,32,105,102,32,116,104,101,110,32,101,108,115,101,32,104,97,110,100,108,101,32,119,105,116,104,32,114,101,116,117,114,110,32,101,110,100,32,100,111,32,111,112,32,116,114,117,101,32,102,97,108,115,101,32,105,110,116,32,98,111,111,108,32]⟩) (some (.int .i64 (k:Int))) (some (.int .i64 ((k:Int)+(t.size:Int)))) none).run Tryz.prog w= .ok (.string x) w:=by
     rw[run_slice_string_if (h:=Tryz.underlying9),if_pos (by refine⟨by omega, ?_⟩;show (k:Int)+(t.size:Int)≤78;exact hlt),if_pos (by omega), ← hx]
     rw[show ((k:Int)).toNat=k by omega,show ((k:Int)+(t.size:Int)).toNat=k+t.size by omega]
    have hxl:=bH (show x.toList=(wds.drop k).take (s.data.toList.length+2) by
     rw[ByteArray.toList_eq, ← hx,ext_list,hts.out,len_list,show k+(s.size+2)-k=s.size+2 by omega];rfl)
    have htl2:=bH (show t.toList=32 :: (s.data.toList++[32]) by rw[ByteArray.toList_eq];exact htl.out)
    have hlen:=bH (show k+s.data.toList.length+2≤78 by rw[len_list];have:=hts.out;omega)
    clear hx
    cases hE:(x.toList==t.toList)
    ·have hE':Hid (x.toList≠t.toList):=bH (by simpa using hE)
     go_wp2_with fail
     go_round
     case rel=>
      refine⟨k+1,by have:=hlen.out;omega,by go_num,bH fun j hj hj2=> ?_⟩
      by_cases hjk:j=k
      ·subst hjk;rw[← hxl.out, ← htl2.out];exact hE'.out
      ·exact hno.out j (by omega) hj2
     case measure=>have:=hlen.out;simp[intOf];omega
    ·have hE':Hid (x.toList=t.toList):=bH (by simpa using hE)
     have hk2:=bH (kw_hit hl'.out hlen.out (by rw[← hxl.out, ← htl2.out];exact hE'.out))
     go_wp2_with fail
     go_ret
     exact⟨ret_b hk2.out.symm,rfl⟩
   ·have hkf:Hid (kwB s.data.toList=false):=bH (by
     cases h:kwB s.data.toList
     ·rfl
     ·obtain⟨_,i,hi,hi2,hi3⟩:=kw_let h
      rw[len_list] at hi2
      have:=hts.out
      exact absurd hi3 (hno.out i (by omega) (by rw[len_list];omega)))
    go_wp2_with fail
    go_ret
    exact⟨ret_b hkf.out.symm,rfl⟩
def sgB (c:UInt8):Bool:=signL.contains c
theorem sg_dec (c:UInt8):sgB c=decide ((c.toNat:Int)=40∨(c.toNat:Int)=41∨(c.toNat:Int)=61∨(c.toNat:Int)=43∨(c.toNat:Int)=45∨(c.toNat:Int)=42∨(c.toNat:Int)=47∨(c.toNat:Int)=60∨(c.toNat:Int)=59∨(c.toNat:Int)=58):=by
 unfold sgB;rw[sg_eq,Bool.eq_iff_iff];simp
theorem rsign_any (c:UInt8) (w:World) :
  Calls Tryz.prog 93 #[.int .u8 (c.toNat:Int)] w fun e w'=>e= .returned (.bool (sgB c))∧w=w':=by
 have hk2:=bH (sg_dec c)
 have q0:(((⟨#[40,41,61,43,45,42,47,60,59,58]⟩:ByteArray)[0]'(by decide)).toNat:Int)=40:=rfl
 have q1:(((⟨#[40,41,61,43,45,42,47,60,59,58]⟩:ByteArray)[1]'(by decide)).toNat:Int)=41:=rfl
 have q2:(((⟨#[40,41,61,43,45,42,47,60,59,58]⟩:ByteArray)[2]'(by decide)).toNat:Int)=61:=rfl
 have q3:(((⟨#[40,41,61,43,45,42,47,60,59,58]⟩:ByteArray)[3]'(by decide)).toNat:Int)=43:=rfl
 have q4:(((⟨#[40,41,61,43,45,42,47,60,59,58]⟩:ByteArray)[4]'(by decide)).toNat:Int)=45:=rfl
 have q5:(((⟨#[40,41,61,43,45,42,47,60,59,58]⟩:ByteArray)[5]'(by decide)).toNat:Int)=42:=rfl
 have q6:(((⟨#[40,41,61,43,45,42,47,60,59,58]⟩:ByteArray)[6]'(by decide)).toNat:Int)=47:=rfl
 have q7:(((⟨#[40,41,61,43,45,42,47,60,59,58]⟩:ByteArray)[7]'(by decide)).toNat:Int)=60:=rfl
 have q8:(((⟨#[40,41,61,43,45,42,47,60,59,58]⟩:ByteArray)[8]'(by decide)).toNat:Int)=59:=rfl
 have q9:(((⟨#[40,41,61,43,45,42,47,60,59,58]⟩:ByteArray)[9]'(by decide)).toNat:Int)=58:=rfl
 go_enter Tryz.func93,Tryz.ntmps93
 go_wp2_with fail
 go_loop [3] (fun i=> ∃k:Nat,k≤10∧i= .int .i64 k∧Hid ((0<k→(c.toNat:Int)≠40)∧(1<k→(c.toNat:Int)≠41)∧(2<k→(c.toNat:Int)≠61)∧(3<k→(c.toNat:Int)≠43)∧(4<k→(c.toNat:Int)≠45)∧(5<k→(c.toNat:Int)≠42)∧(6<k→(c.toNat:Int)≠47)∧(7<k→(c.toNat:Int)≠60)∧(8<k→(c.toNat:Int)≠59)∧(9<k→(c.toNat:Int)≠58))) (fun i=>10-(intOf i).toNat)
 case atStart=>exact⟨0,by omega,rfl,bH (by omega)⟩
 case round=>
  obtain⟨k,hk,rfl,hno⟩:=hrel
  have hcs:k=0∨k=1∨k=2∨k=3∨k=4∨k=5∨k=6∨k=7∨k=8∨k=9∨k=10:=(by omega);rcases hcs with rfl|rfl|rfl|rfl|rfl|rfl|rfl|rfl|rfl|rfl|rfl
  ·cases hE:((40:Int)==(c.toNat:Int))
   ·have hE':Hid ((c.toNat:Int)≠40):=bH (by have:=beq_eq_false_iff_ne.1 hE;omega)
    go_wp2_with fail
    go_round
    case rel=>exact⟨1,by omega,rfl,bH (by have h1:=hno.out;have h2:=hE'.out;omega)⟩
    case measure=>simp[intOf]
   ·have hE':Hid ((c.toNat:Int)=40):=bH (by have:=beq_iff_eq.1 hE;omega)
    go_wp2_with fail
    go_ret
    exact⟨ret_b (by rw[hk2.out];exact(decide_eq_true (by have h2:=hE'.out;omega)).symm),rfl⟩
  ·cases hE:((41:Int)==(c.toNat:Int))
   ·have hE':Hid ((c.toNat:Int)≠41):=bH (by have:=beq_eq_false_iff_ne.1 hE;omega)
    go_wp2_with fail
    go_round
    case rel=>exact⟨2,by omega,rfl,bH (by have h1:=hno.out;have h2:=hE'.out;omega)⟩
    case measure=>simp[intOf]
   ·have hE':Hid ((c.toNat:Int)=41):=bH (by have:=beq_iff_eq.1 hE;omega)
    go_wp2_with fail
    go_ret
    exact⟨ret_b (by rw[hk2.out];exact(decide_eq_true (by have h2:=hE'.out;omega)).symm),rfl⟩
  ·cases hE:((61:Int)==(c.toNat:Int))
   ·have hE':Hid ((c.toNat:Int)≠61):=bH (by have:=beq_eq_false_iff_ne.1 hE;omega)
    go_wp2_with fail
    go_round
    case rel=>exact⟨3,by omega,rfl,bH (by have h1:=hno.out;have h2:=hE'.out;omega)⟩
    case measure=>simp[intOf]
   ·have hE':Hid ((c.toNat:Int)=61):=bH (by have:=beq_iff_eq.1 hE;omega)
    go_wp2_with fail
    go_ret
    exact⟨ret_b (by rw[hk2.out];exact(decide_eq_true (by have h2:=hE'.out;omega)).symm),rfl⟩
  ·cases hE:((43:Int)==(c.toNat:Int))
   ·have hE':Hid ((c.toNat:Int)≠43):=bH (by have:=beq_eq_false_iff_ne.1 hE;omega)
    go_wp2_with fail
    go_round
    case rel=>exact⟨4,by omega,rfl,bH (by have h1:=hno.out;have h2:=hE'.out;omega)⟩
    case measure=>simp[intOf]
   ·have hE':Hid ((c.toNat:Int)=43):=bH (by have:=beq_iff_eq.1 hE;omega)
    go_wp2_with fail
    go_ret
    exact⟨ret_b (by rw[hk2.out];exact(decide_eq_true (by have h2:=hE'.out;omega)).symm),rfl⟩
  ·cases hE:((45:Int)==(c.toNat:Int))
   ·have hE':Hid ((c.toNat:Int)≠45):=bH (by have:=beq_eq_false_iff_ne.1 hE;omega)
    go_wp2_with fail
    go_round
    case rel=>exact⟨5,by omega,rfl,bH (by have h1:=hno.out;have h2:=hE'.out;omega)⟩
    case measure=>simp[intOf]
   ·have hE':Hid ((c.toNat:Int)=45):=bH (by have:=beq_iff_eq.1 hE;omega)
    go_wp2_with fail
    go_ret
    exact⟨ret_b (by rw[hk2.out];exact(decide_eq_true (by have h2:=hE'.out;omega)).symm),rfl⟩
  ·cases hE:((42:Int)==(c.toNat:Int))
   ·have hE':Hid ((c.toNat:Int)≠42):=bH (by have:=beq_eq_false_iff_ne.1 hE;omega)
    go_wp2_with fail
    go_round
    case rel=>exact⟨6,by omega,rfl,bH (by have h1:=hno.out;have h2:=hE'.out;omega)⟩
    case measure=>simp[intOf]
   ·have hE':Hid ((c.toNat:Int)=42):=bH (by have:=beq_iff_eq.1 hE;omega)
    go_wp2_with fail
    go_ret
    exact⟨ret_b (by rw[hk2.out];exact(decide_eq_true (by have h2:=hE'.out;omega)).symm),rfl⟩
  ·cases hE:((47:Int)==(c.toNat:Int))
   ·have hE':Hid ((c.toNat:Int)≠47):=bH (by have:=beq_eq_false_iff_ne.1 hE;omega)
    go_wp2_with fail
    go_round
    case rel=>exact⟨7,by omega,rfl,bH (by have h1:=hno.out;have h2:=hE'.out;omega)⟩
    case measure=>simp[intOf]
   ·have hE':Hid ((c.toNat:Int)=47):=bH (by have:=beq_iff_eq.1 hE;omega)
    go_wp2_with fail
    go_ret
    exact⟨ret_b (by rw[hk2.out];exact(decide_eq_true (by have h2:=hE'.out;omega)).symm),rfl⟩
  ·cases hE:((60:Int)==(c.toNat:Int))
   ·have hE':Hid ((c.toNat:Int)≠60):=bH (by have:=beq_eq_false_iff_ne.1 hE;omega)
    go_wp2_with fail
    go_round
    case rel=>exact⟨8,by omega,rfl,bH (by have h1:=hno.out;have h2:=hE'.out;omega)⟩
    case measure=>simp[intOf]
   ·have hE':Hid ((c.toNat:Int)=60):=bH (by have:=beq_iff_eq.1 hE;omega)
    go_wp2_with fail
    go_ret
    exact⟨ret_b (by rw[hk2.out];exact(decide_eq_true (by have h2:=hE'.out;omega)).symm),rfl⟩
  ·cases hE:((59:Int)==(c.toNat:Int))
   ·have hE':Hid ((c.toNat:Int)≠59):=bH (by have:=beq_eq_false_iff_ne.1 hE;omega)
    go_wp2_with fail
    go_round
    case rel=>exact⟨9,by omega,rfl,bH (by have h1:=hno.out;have h2:=hE'.out;omega)⟩
    case measure=>simp[intOf]
   ·have hE':Hid ((c.toNat:Int)=59):=bH (by have:=beq_iff_eq.1 hE;omega)
    go_wp2_with fail
    go_ret
    exact⟨ret_b (by rw[hk2.out];exact(decide_eq_true (by have h2:=hE'.out;omega)).symm),rfl⟩
  ·cases hE:((58:Int)==(c.toNat:Int))
   ·have hE':Hid ((c.toNat:Int)≠58):=bH (by have:=beq_eq_false_iff_ne.1 hE;omega)
    go_wp2_with fail
    go_round
    case rel=>exact⟨10,by omega,rfl,bH (by have h1:=hno.out;have h2:=hE'.out;omega)⟩
    case measure=>simp[intOf]
   ·have hE':Hid ((c.toNat:Int)=58):=bH (by have:=beq_iff_eq.1 hE;omega)
    go_wp2_with fail
    go_ret
    exact⟨ret_b (by rw[hk2.out];exact(decide_eq_true (by have h2:=hE'.out;omega)).symm),rfl⟩
  ·go_wp2_with fail
   go_ret
   exact⟨ret_b (by rw[hk2.out];exact(decide_eq_false (by have h1:=hno.out;omega)).symm),rfl⟩
end Go.Proofs.YthpcbgljbpmafaaGreatDoor
