/- Contracts of package source's small functions: lead, second. Conditions: a byte. -/
import Derived.Test.YthpcbgljbpmafaaGreatDoorW0
import Derived.Test.YthpcbgljbpmafaaGreatDoorChecked
import Derived.WalkKit
import Derived.ProofKit
import Derived.Below
import Derived.Lib.Hide
import Derived.Outline
import Derived.Lib.Strings
import Derived.Deep.DeepCutAuto
import Derived.Deep.CutBlock
set_option maxRecDepth 100000
set_option maxHeartbeats 8000000
namespace Go.Proofs.YthpcbgljbpmafaaGreatDoor
open Go.RowKit
set_option linter.unusedVariables false
set_option linter.unusedSimpArgs false
def leadF (b:Int):Int:=if 245≤b then 0 else if 240≤b then 4 else if 224≤b then 3 else if 194≤b then 2 else if b<128 then 1 else 0
def lowF (b:Int):Int:=if b=224 then 160 else if b=240 then 144 else 128
def highF (b:Int):Int:=if b=237 then 159 else if b=244 then 143 else 191
theorem ret_i {k:IntKind} {a b:Int} (h:a=b):Ending.returned (.int k a)= .returned (.int k b):=by rw[h]
theorem ret_ii {k:IntKind} {a b c d:Int} (h:a=b) (h':c=d):Ending.returned (.tuple #[.int k a, .int k c])= .returned (.tuple #[.int k b, .int k d]):=by rw[h,h']
theorem lead_any (b:Int) (w:World) (h0:0≤b) (h1:b≤255) :
  Calls Tryz.prog 129 #[.int .u8 b] w fun e w'=>e= .returned (.int .i64 (leadF b))∧w=w':=by
 go_enter Tryz.func129,Tryz.ntmps129
 go_wp2
 all_goals go_ret
 all_goals exact⟨ret_i (by unfold leadF;(try simp only[beq_iff_eq,beq_eq_false_iff_ne,bne_iff_ne,decide_eq_true_eq,decide_eq_false_iff_not] at *);(repeat' split)<;>omega),rfl⟩
theorem second_any (b:Int) (w:World) (h0:0≤b) (h1:b≤255) :
  Calls Tryz.prog 130 #[.int .u8 b] w fun e w'=>e= .returned (.tuple #[.int .u8 (lowF b), .int .u8 (highF b)])∧w=w':=by
 go_enter Tryz.func130,Tryz.ntmps130
 go_wp2
 all_goals go_ret2
 all_goals exact⟨ret_ii (by unfold lowF;(try simp only[beq_iff_eq,beq_eq_false_iff_ne,bne_iff_ne,decide_eq_true_eq,decide_eq_false_iff_not] at *);(repeat' split)<;>omega) (by unfold highF;(try simp only[beq_iff_eq,beq_eq_false_iff_ne,bne_iff_ne,decide_eq_true_eq,decide_eq_false_iff_not] at *);(repeat' split)<;>omega),rfl⟩
open Go.RowKit
def bAt (s:ByteArray) (i:Nat):Int:=((s.data.toList[i]?.getD 0).toNat:Int)
def okB (s:ByteArray) (at_ j:Nat):Bool:=
 if j=1 then decide (lowF (bAt s at_)≤bAt s (at_+1)) && decide (bAt s (at_+1)≤highF (bAt s at_))
 else decide (128≤bAt s (at_+j)) && decide (bAt s (at_+j)≤191)
def allB (s:ByteArray) (at_ k:Nat):Bool:=(List.range k).all fun j=>j==0 || okB s at_ j
def widF (s:ByteArray) (at_:Nat):Int:=
 if decide ((at_:Int)+leadF (bAt s at_)≤s.size) && allB s at_ (leadF (bAt s at_)).toNat then leadF (bAt s at_) else 0
theorem bAt_lt (s:ByteArray) (i:Nat) (h:i<s.size):bAt s i=(s[i].toNat:Int):=by
 unfold bAt
 have h':i<s.data.toList.length:=by simpa using h
 rw[List.getElem?_eq_getElem h']
 rfl
theorem bAt_bd (s:ByteArray) (i:Nat):0≤bAt s i∧bAt s i≤255:=by
 unfold bAt
 have:=(s.data.toList[i]?.getD 0).toNat_lt
 omega
theorem leadF_bd (b:Int):0≤leadF b∧leadF b≤4:=by unfold leadF;(repeat' split)<;>omega
theorem allB_succ (s:ByteArray) (a k:Nat) (h:1≤k):allB s a (k+1)=(allB s a k && okB s a k):=by
 unfold allB
 rw[List.range_succ,List.all_append]
 have:(k==0)=false:=by simp;omega
 simp[this]
theorem allB_le (s:ByteArray) (a k m:Nat) (h:k≤m) (hm:allB s a m=true):allB s a k=true:=by
 unfold allB at *
 rw[List.all_eq_true] at *
 intro x hx
 exact hm x (by rw[List.mem_range] at *;omega)
theorem allB_no (s:ByteArray) (a k m:Nat) (h1:1≤k) (h:k<m) (hk:okB s a k=false):allB s a m=false:=by
 cases hm:allB s a m
 ·rfl
 ·have:=allB_le s a (k+1) m (by omega) hm
  rw[allB_succ s a k h1,hk] at this
  simp at this
theorem sign_any (s:ByteArray) (w:World) (hs:s.size≤1125899906842624) (hp:0<s.size) :
  Calls Tryz.prog 119 #[.string s] w fun e w'=>e= .returned (.int .i64 (widF s 0))∧w=w':=by
 have hb0:=bAt_bd s 0
 have hl:=leadF_bd (bAt s 0)
 go_enter Tryz.func119,Tryz.ntmps119
 go_wp2_with fail
 rw[← bAt_lt s 0 hp]
 refine(lead_any _ _ hb0.1 hb0.2).mono ?_
 rintro e w' ⟨rfl,rfl⟩
 by_cases hc:(s.size:Int)<leadF (bAt s 0)
 ·go_wp2
  go_ret
  exact⟨ret_i (by unfold widF;rw[if_neg];simp;omega),rfl⟩
 ·go_wp2_with fail
  rw[← bAt_lt s 0 hp]
  refine(second_any _ _ hb0.1 hb0.2).mono ?_
  rintro e w' ⟨rfl,rfl⟩
  go_wp2_with fail
  go_loop [4,5,6] (fun lo hi i=> ∃(k:Nat) (l h:Int),1≤k∧(k=1∨(k:Int)≤leadF (bAt s 0))∧i= .int .i64 k∧Hid (allB s 0 k=true)∧Hid (okB s 0 k=(decide (l≤bAt s k) && decide (bAt s k≤h)))∧lo= .int .u8 l∧hi= .int .u8 h) (fun _ _ i=>(5-intOf i).toNat)
  case atStart=>exact⟨1,_,_,by omega, .inl rfl,rfl,bH rfl,bH (by simp[okB]),rfl,rfl⟩
  case round=>
   obtain⟨k,l,h,hk1,hk2,rfl,hall,hok,rfl,rfl⟩:=hrel
   by_cases hlt:(k:Int)<leadF (bAt s 0)
   ·have hks:k<s.size:=by omega
    have hsz:=bH (bAt_lt s k hks)
    go_wp2
    ·go_ret
     refine⟨ret_i ?_,rfl⟩
     have hno:okB s 0 k=false:=by rw[hok.out,hsz.out];simp;omega
     unfold widF
     rw[allB_no s 0 k _ hk1 (by omega) hno]
     simp
    ·go_round
     case rel=>
      have hyes:okB s 0 k=true:=by rw[hok.out,hsz.out];simp;omega
      exact⟨k+1,128,191,by omega, .inr (by omega),by go_num,bH (by rw[allB_succ s 0 k hk1,hall.out,hyes];rfl),bH (by unfold okB;rw[if_neg (by omega)];simp),rfl,rfl⟩
     case measure=>simp[intOf];omega
    ·go_ret
     refine⟨ret_i ?_,rfl⟩
     have hno:okB s 0 k=false:=by rw[hok.out,hsz.out];simp;omega
     unfold widF
     rw[allB_no s 0 k _ hk1 (by omega) hno]
     simp
   ·go_wp2
    go_ret
    refine⟨ret_i ?_,rfl⟩
    unfold widF
    have:(leadF (bAt s 0)).toNat≤k:=by omega
    rw[if_pos]
    rw[allB_le s 0 _ k this hall.out]
    simp;omega
open Go.RowKit
theorem bAt_ext (s:ByteArray) (a i:Nat):bAt (s.extract a s.size) i=bAt s (a+i):=by
 unfold bAt
 have:(s.extract a s.size).data.toList=s.data.toList.drop a:=by
  rw[Lib.extract_data,Lib.size_eq]
  exact List.take_of_length_le (by simp)
 rw[this,List.getElem?_drop]
theorem widF_ext (s:ByteArray) (a:Nat) (h:a≤s.size):widF (s.extract a s.size) 0=widF s a:=by
 have h1:bAt (s.extract a s.size) 0=bAt s a:=by rw[bAt_ext];rfl
 have h2 : ∀j,okB (s.extract a s.size) 0 j=okB s a j:=by
  intro j;unfold okB;simp only[bAt_ext,Nat.zero_add,Nat.add_zero]
 have h3:allB (s.extract a s.size) 0=allB s a:=by funext k;unfold allB;simp only[h2]
 have h4:(s.extract a s.size).size=s.size-a:=by simp
 unfold widF
 rw[h1,h3,h4]
 have:decide (((0:Nat):Int)+leadF (bAt s a)≤((s.size-a:Nat):Int))=decide ((a:Int)+leadF (bAt s a)≤(s.size:Int)):=by
  rw[decide_eq_decide];omega
 rw[this]
theorem widF_bd (s:ByteArray) (a:Nat):0≤widF s a∧widF s a≤4∧(0<widF s a→(a:Int)+widF s a≤s.size):=by
 unfold widF
 have:=leadF_bd (bAt s a)
 by_cases h:(decide ((a:Int)+leadF (bAt s a)≤s.size) && allB s a (leadF (bAt s a)).toNat)=true
 ·rw[if_pos h]
  simp only[Bool.and_eq_true,decide_eq_true_eq] at h
  omega
 ·rw[if_neg h];omega
def wdV (s:ByteArray) (at_:Int):Int:=if 0≤at_∧at_<s.size then widF s at_.toNat else 0
def wdE (s:ByteArray) (at_:Int):Int:=if 0<wdV s at_ then 0 else 100
theorem wd_out {s:ByteArray} {at_:Int} (h : ¬ (0≤at_∧at_<s.size)):0=wdV s at_∧100=wdE s at_:=by
 have:wdV s at_=0:=by unfold wdV;rw[if_neg h]
 exact⟨this.symm,by unfold wdE;rw[this];rfl⟩
theorem wd_in {s:ByteArray} {n:Nat} (h:n<s.size):wdV s (n:Int)=widF s n:=by
 unfold wdV;rw[if_pos (by omega),Int.toNat_natCast]
open Go.RowKit
def vaF (s:ByteArray):Nat→Nat→Int × Bool
 | 0,_=>(0,true)
 | f+1,at_=>if at_<s.size then (if widF s at_=0 then ((at_:Int),false) else vaF s f (at_+(widF s at_).toNat)) else (0,true)
def vaV (s:ByteArray):Int × Bool:=vaF s (s.size+1) 0
def vaAt (s:ByteArray) (k:Nat):Int × Bool:=vaF s (s.size-k+1) k
theorem vaF_fuel (s:ByteArray) : ∀(f g k:Nat),s.size<f+k→s.size<g+k→vaF s f k=vaF s g k:=by
 intro f
 induction f with
 | zero=>
  intro g k h1 h2
  cases g with
  | zero=>rfl
  | succ g=>unfold vaF;rw[if_neg (by omega)]
 | succ f ih=>
  intro g k h1 h2
  cases g with
  | zero=>unfold vaF;rw[if_neg (by omega)]
  | succ g=>
   unfold vaF
   by_cases hk:k<s.size
   ·rw[if_pos hk,if_pos hk]
    by_cases hz:widF s k=0
    ·rw[if_pos hz,if_pos hz]
    ·rw[if_neg hz,if_neg hz]
     have:=widF_bd s k
     exact ih g _ (by omega) (by omega)
   ·rw[if_neg hk,if_neg hk]
theorem vaAt_end {s:ByteArray} {k:Nat} (h:s.size≤k):vaAt s k=(0,true):=by
 unfold vaAt vaF;rw[if_neg (by omega)]
theorem vaAt_bad {s:ByteArray} {k:Nat} (h:k<s.size) (hz:widF s k=0):vaAt s k=((k:Int),false):=by
 unfold vaAt vaF;rw[if_pos h,if_pos hz]
theorem vaAt_step {s:ByteArray} {k:Nat} (h:k<s.size) (hz:widF s k≠0):vaAt s k=vaAt s (k+(widF s k).toNat):=by
 have hb:=widF_bd s k
 conv=>lhs;unfold vaAt vaF;rw[if_pos h,if_neg hz]
 unfold vaAt
 exact vaF_fuel s _ _ _ (by omega) (by omega)
theorem vaV_eq (s:ByteArray):vaV s=vaAt s 0:=by unfold vaV vaAt;simp
theorem ret_ib {k:IntKind} {a b:Int} {c d:Bool} (h:(a,c)=(b,d)):Ending.returned (.tuple #[.int k a, .bool c])= .returned (.tuple #[.int k b, .bool d]):=by
 cases h;rfl
theorem valid_any (s:ByteArray) (w:World) (hs:s.size≤1125899906842624) :
  Calls Tryz.prog 111 #[.string s] w fun e w'=>e= .returned (.tuple #[.int .i64 (vaV s).1, .bool (vaV s).2])∧w=w':=by
 go_enter Tryz.func111,Tryz.ntmps111
 go_wp2_with fail
 go_loop [4] (fun i=> ∃k:Nat,k≤s.size∧i= .int .i64 k∧Hid (vaAt s k=vaV s)) (fun i=>s.size-(intOf i).toNat)
 case atStart=>exact⟨0,by omega,rfl,bH (vaV_eq s).symm⟩
 case round=>
  obtain⟨k,hk,rfl,hv⟩:=hrel
  by_cases hlt:k<s.size
  ·have he':=bH (show (s.extract k s.size).size=s.size-k by simp)
   go_wp2_with fail
   refine(sign_any _ _ (by rw[he'.out];omega) (by rw[he'.out];omega)).mono ?_
   rintro e w' ⟨rfl,rfl⟩
   rw[widF_ext s k (by omega)]
   have hw:=widF_bd s k
   by_cases hz:widF s k=0
   ·have hz3:(widF s k==0)=true:=by simpa using hz
    have hz':=bH hz;clear hz hw
    go_wp2
    go_ret2
    exact⟨ret_ib (by rw[← hv.out,vaAt_bad hlt hz'.out]),rfl⟩
   ·have hz3:(widF s k==0)=false:=by simpa using hz
    obtain⟨n,hn⟩:=Int.eq_ofNat_of_zero_le hw.1
    have hst:=bH (vaAt_step hlt hz)
    rw[hn] at hw hz3 hst ⊢
    have hn1:1≤n:=by omega
    have hn':=bH hn;clear hn hz
    go_wp2
    go_round
    case rel=>exact⟨k+n,by omega,by go_num,bH (by rw[← hv.out,hst.out];simp)⟩
    case measure=>simp[intOf];omega
  ·go_wp2
   go_ret2
   exact⟨ret_ib (by rw[← hv.out,vaAt_end (by omega)]),rfl⟩
theorem num_any (e:Int) (w:World) (h0:0≤e) (h1:e≤9223372036854775807) :
  Calls Tryz.prog 11 #[.int .i64 e] w fun r w'=>r= .returned (.int .i64 e)∧w=w':=by
 go_enter Tryz.func11,Tryz.ntmps11
 go_wp2
 go_ret
 exact⟨rfl,rfl⟩
theorem rwidth_any (s:ByteArray) (at_:Int) (w:World) (hs:s.size≤1125899906842624) (ha : -9223372036854775808≤at_) (hb:at_≤9223372036854775807) :
  Calls Tryz.prog 88 #[.string s, .int .i64 at_] w fun e w'=>e= .returned (.int .i64 (wdV s at_))∧w=w':=by
 by_cases h0:at_<0
 ·go_enter Tryz.func88,Tryz.ntmps88
  go_wp2
  go_ret
  exact⟨ret_i (wd_out (by omega)).1,rfl⟩
 ·by_cases h1:(s.size:Int)≤at_
  ·go_enter Tryz.func88,Tryz.ntmps88
   go_wp2
   go_ret
   exact⟨ret_i (wd_out (by omega)).1,rfl⟩
  ·obtain⟨n,rfl⟩:=Int.eq_ofNat_of_zero_le (by omega:0≤at_)
   have hn:n<s.size:=by omega
   have hbn:(s[n].toNat:Int)=bAt s n:=(bAt_lt s n hn).symm
   have hb0:=bAt_bd s n
   go_enter Tryz.func88,Tryz.ntmps88
   by_cases hl0:leadF (bAt s n)=0
   ·have hv:wdV s (n:Int)=0:=by rw[wd_in hn];unfold widF;rw[hl0];simp
    have hv':=bH hv
    have hc:(128≤bAt s n∧bAt s n<194)∨245≤bAt s n:=by
     unfold leadF at hl0;(repeat split at hl0)<;>omega
    clear hv hl0
    go_wp2_with fail
    all_goals (go_ret;exact⟨ret_i hv'.out.symm,rfl⟩)
   ·go_upto_block 0 with fail
    go_cut [6,7,8] (fun k lo hi wx=>k= .int .i64 (leadF (bAt s n))∧lo= .int .u8 (lowF (bAt s n))∧hi= .int .u8 (highF (bAt s n))∧2≤leadF (bAt s n)∧wx=w)
    case first=>
     have hl1:Hid (wdV s (n:Int)=1 ∨ ¬ bAt s n<128):=by
      by_cases hlt:bAt s n<128
      ·refine .inl ?_
       have hl:leadF (bAt s n)=1:=by unfold leadF;(repeat' split)<;>omega
       rw[wd_in hn];unfold widF;rw[hl]
       rw[if_pos]
       have:allB s n (1:Int).toNat=true:=by simp[allB]
       rw[this];simp;omega
      ·exact .inr hlt
     go_wp2_with fail
     ·go_ret
      exact⟨ret_i (by rcases hl1.out with h|h<;>omega),rfl⟩
     all_goals first
      | (go_meet;exact⟨by congr 1;unfold leadF;(try simp only[beq_iff_eq,beq_eq_false_iff_ne,bne_iff_ne,decide_eq_true_eq,decide_eq_false_iff_not] at *);(repeat' split)<;>omega,by congr 1;unfold lowF;(try simp only[beq_iff_eq,beq_eq_false_iff_ne,bne_iff_ne,decide_eq_true_eq,decide_eq_false_iff_not] at *);(repeat' split)<;>omega,by congr 1;unfold highF;(try simp only[beq_iff_eq,beq_eq_false_iff_ne,bne_iff_ne,decide_eq_true_eq,decide_eq_false_iff_not] at *);(repeat' split)<;>omega,by unfold leadF;(try simp only[beq_iff_eq,beq_eq_false_iff_ne,bne_iff_ne,decide_eq_true_eq,decide_eq_false_iff_not] at *);(repeat' split)<;>omega,rfl⟩)
      | (exfalso;apply hl0;unfold leadF;(try simp only[beq_iff_eq,beq_eq_false_iff_ne,bne_iff_ne,decide_eq_true_eq,decide_eq_false_iff_not] at *);(repeat' split)<;>omega)
    case rest=>
     obtain⟨rfl,rfl,rfl,hk2,rfl⟩:=hcut
     clear hl0
     have hlb:=leadF_bd (bAt s n)
     have hno : ∀k:Nat,1≤k→(k:Int)<leadF (bAt s n)→okB s n k=false→0=wdV s (n:Int):=by
      intro k h1 h2 h3
      rw[wd_in hn];unfold widF
      rw[allB_no s n k _ h1 (by omega) h3];simp
     have hno':=bH hno;clear hno
     by_cases hsz:(s.size:Int)<n+leadF (bAt s n)
     ·go_wp2_with fail
      go_ret
      exact⟨ret_i (by rw[wd_in hn];unfold widF;rw[if_neg];simp;omega),rfl⟩
     ·have hn1:n+1<s.size:=by omega
      have hb1:(s[n+1].toNat:Int)=bAt s (n+1):=(bAt_lt s (n+1) hn1).symm
      have ho:Hid (okB s n 1=(decide (lowF (bAt s n)≤bAt s (n+1)) && decide (bAt s (n+1)≤highF (bAt s n)))):=bH (by simp[okB])
      by_cases hlo:bAt s (n+1)<lowF (bAt s n)
      ·go_wp2_with fail
       go_ret
       exact⟨ret_i (hno'.out 1 (by omega) (by omega) (by rw[ho.out];simp;omega)),rfl⟩
      ·by_cases hhi:highF (bAt s n)<bAt s (n+1)
       ·go_wp2_with fail
        go_ret
        exact⟨ret_i (hno'.out 1 (by omega) (by omega) (by rw[ho.out];simp;omega)),rfl⟩
       ·have hall:Hid (allB s n 2=true):=bH (by
         rw[allB_succ s n 1 (by omega),ho.out]
         have:allB s n 1=true:=by simp[allB]
         rw[this];simp;omega)
        go_wp2_with fail
        go_loop [9] (fun i=> ∃k:Nat,2≤k∧(k:Int)≤leadF (bAt s n)∧i= .int .i64 k∧Hid (allB s n k=true)) (fun i=>(5-intOf i).toNat)
        case atStart=>exact⟨2,by omega,by omega,rfl,hall⟩
        case round=>
         obtain⟨k,hk2',hkl,rfl,hal⟩:=hrel
         by_cases hlt:(k:Int)<leadF (bAt s n)
         ·have hnk:n+k<s.size:=by omega
          have hbk:(s[n+k].toNat:Int)=bAt s (n+k):=(bAt_lt s (n+k) hnk).symm
          have hok:Hid (okB s n k=(decide (128≤bAt s (n+k)) && decide (bAt s (n+k)≤191))):=bH (by unfold okB;rw[if_neg (by omega)])
          by_cases hx:bAt s (n+k)<128
          ·go_wp2_with fail
           go_ret
           exact⟨ret_i (hno'.out k (by omega) (by omega) (by rw[hok.out];simp;omega)),rfl⟩
          ·by_cases hy:191<bAt s (n+k)
           ·go_wp2_with fail
            go_ret
            exact⟨ret_i (hno'.out k (by omega) (by omega) (by rw[hok.out];simp;omega)),rfl⟩
           ·go_wp2_with fail
            go_round
            case rel=>exact⟨k+1,by omega,by omega,by go_num,bH (by rw[allB_succ s n k (by omega),hal.out,hok.out];simp;omega)⟩
            case measure=>simp[intOf];omega
         ·go_wp2_with fail
          go_ret
          exact⟨ret_i (by
           rw[wd_in hn];unfold widF
           rw[allB_le s n _ k (by omega) hal.out,if_pos]
           simp;omega),rfl⟩
end Go.Proofs.YthpcbgljbpmafaaGreatDoor
