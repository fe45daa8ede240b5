/- Contracts of the reference of layer 2: number, token. -/
import Derived.Test.YthpcbgljbpmafaaGreatDoorW6
set_option maxRecDepth 100000
set_option maxHeartbeats 8000000
namespace Go.Proofs.YthpcbgljbpmafaaGreatDoor
open Go.RowKit
set_option linter.unusedVariables false
set_option linter.unusedSimpArgs false
theorem fold_lo (l:List UInt8) : ∀n:Nat,n*10 ^ l.length≤l.foldl (fun n c=>n*10+(c.toNat-48)) n:=by
 induction l with
 | nil=>intro n;simp
 | cons c l ih=>
  intro n
  refine Nat.le_trans ?_ (ih _)
  rw[List.length_cons,Nat.pow_succ, ← Nat.mul_assoc,Nat.mul_right_comm]
  exact Nat.mul_le_mul_right _ (show n*10≤n*10+(c.toNat-48) by omega)
theorem fold_hi (l:List UInt8) (h:l.all isD=true) : ∀n:Nat,l.foldl (fun n c=>n*10+(c.toNat-48)) n<(n+1)*10 ^ l.length:=by
 induction l with
 | nil=>intro n;simp
 | cons c l ih=>
  intro n
  rw[List.all_cons,Bool.and_eq_true] at h
  have hb:=isD_bd h.1
  refine Nat.lt_of_lt_of_le (ih h.2 _) ?_
  rw[List.length_cons,Nat.pow_succ,show (n+1)*(10 ^ l.length*10)=((n+1)*10)*10 ^ l.length by rw[Nat.mul_comm (10 ^ l.length) 10,Nat.mul_assoc]]
  exact Nat.mul_le_mul_right _ (show n*10+(c.toNat-48)+1≤(n+1)*10 by omega)
theorem valF_hi {l:List UInt8} (h:l.all isD=true):valF l<10 ^ l.length:=by
 have:=fold_hi l h 0;simpa [valF] using this
theorem numOk_len {l:List UInt8} (h:numOk l=true):l.length≤10:=by
 rw[numOk_eq,Bool.and_eq_true,Bool.and_eq_true] at h
 obtain⟨⟨h1,h2⟩,h3⟩:=h
 match l,h1,h2,h3 with
 | [],_,_,_=>simp
 | [c],_,_,_=>simp
 | c :: d :: t,h1,h2,h3=>
  have h3:=of_decide_eq_true h3
  have hc:c≠48:=by
   intro e;subst e;simp[leadZ] at h2
  rw[List.all_cons,Bool.and_eq_true] at h1
  have hb:=isD_bd h1.1
  have hc2:c.toNat≠48:=fun e=>hc (by rw[show (48:UInt8)=UInt8.ofNat 48 from rfl, ← e];simp)
  have hlo:=fold_lo (d :: t) (c.toNat-48)
  have hv:valF (c :: d :: t)=(d :: t).foldl (fun n c=>n*10+(c.toNat-48)) (c.toNat-48):=by simp[valF]
  rw[← hv] at hlo
  by_cases hlen:(c :: d :: t).length≤10
  ·exact hlen
  ·have h10:10 ^ 10≤10 ^ (d :: t).length:=Nat.pow_le_pow_right (by omega) (by simp at hlen ⊢;omega)
   have:1*10 ^ (d :: t).length≤(c.toNat-48)*10 ^ (d :: t).length:=Nat.mul_le_mul_right _ (by omega)
   omega
def RNumPost (l:List UInt8) (w:World) (e:Ending) (w':World):Prop:= ∃x:Int,e= .returned (.tuple #[.int .i64 x, .bool (numOk l)])∧(numOk l=true→x=valF l)∧w=w'
theorem rnum_no {l:List UInt8} {w:World} (h:numOk l=false) (x:Int):RNumPost l w (.returned (.tuple #[.int .i64 x, .bool false])) w:=⟨x,by rw[h],fun hh=>(by rw[h] at hh;cases hh),rfl⟩
theorem rnum_fin {l:List UInt8} {w:World} {b:Bool} (h:numOk l=b) {x:Int} (hx:x=valF l):RNumPost l w (.returned (.tuple #[.int .i64 x, .bool b])) w:=⟨x,by rw[h],fun _=>hx,rfl⟩
theorem rnumber_any (s:ByteArray) (w:World) (hs:s.size≤1125899906842624) (hp:0<s.size) :
  Calls Tryz.prog 92 #[.string s] w (RNumPost s.data.toList w):=by
 have e0:=drop_cons s 0 hp
 rw[List.drop_zero] at e0
 have hok:=bH (numOk_eq s.data.toList)
 by_cases h10:10<s.size
 ·have hn:Hid (numOk s.data.toList=false):=bH (by
   cases h:numOk s.data.toList
   ·rfl
   ·have:=numOk_len h;rw[len_list] at this;omega)
  clear e0
  go_enter Tryz.func92,Tryz.ntmps92
  go_wp2_with fail
  go_ret2
  exact rnum_no hn.out 0
 have hz:leadZ s.data.toList= !(decide (1<s.size) && ((s[0].toNat:Int)==48)):=by
  rw[show ((s[0].toNat:Int)==48)=(s[0]==UInt8.ofNat 48) from (u8_eq s[0] 48 (by decide)).symm]
  by_cases h1:1<s.size
  ·have e1:=drop_cons s 1 h1
   rw[e0,e1]
   simp[leadZ,h1]
  ·rw[e0,drop_end s 1 (by omega)]
   simp[leadZ,h1]
 have hz':=bH hz
 clear e0 hz
 by_cases h1:1<s.size
 case neg=>
  have hlz:=bH (show leadZ s.data.toList=true by rw[hz'.out,decide_eq_false h1];rfl)
  clear hz'
  go_enter Tryz.func92,Tryz.ntmps92
  go_wp2_with fail
  go_loop [4,5] (fun n i=> ∃k:Nat,k≤s.size∧i= .int .i64 k∧n= .int .i64 (valF (s.data.toList.take k))∧Hid ((s.data.toList.take k).all isD=true)∧valF (s.data.toList.take k)≤10000000000) (fun _ i=>s.size-(intOf i).toNat)
  case atStart=>exact⟨0,Nat.zero_le _,rfl,rfl,bH rfl,by simp[valF]⟩
  case round=>
   obtain⟨k,hk,rfl,rfl,hall,hv⟩:=hrel
   by_cases hlt2:k<s.size
   ·have hsn:=all_snoc s k hlt2
    have hv2:Hid (valF (s.data.toList.take (k+1))=valF (s.data.toList.take k)*10+(s[k].toNat-48)):=bH (by rw[hsn,valF_snoc])
    have ha2:Hid ((s.data.toList.take (k+1)).all isD=((s.data.toList.take k).all isD && isD s[k])):=bH (by rw[hsn];simp)
    have hgk:Hid (isD s[k]=false→s.data.toList.all isD=false):=bH fun h=>all_not (k:=k) (by simpa using hlt2) h
    clear hsn
    cases hd:isD s[k]
    ·have hn:=bH (show numOk s.data.toList=false by rw[hok.out,hgk.out hd];rfl)
     go_wp2_with (go_at_call 91;refine(rdigit_any _ _).mono ?_;rintro e w' ⟨rfl,rfl⟩)
     go_ret2
     exact rnum_no hn.out 0
    ·have hbd:=isD_bd hd
     have hv3:Hid (valF (s.data.toList.take (k+1))≤10000000000):=bH (by
      have h1:=valF_hi (l:=s.data.toList.take (k+1)) (by rw[ha2.out,hall.out,hd];rfl)
      have h2:(s.data.toList.take (k+1)).length≤10:=by rw[List.length_take,len_list];omega
      have h3:10 ^ (s.data.toList.take (k+1)).length≤10 ^ 10:=Nat.pow_le_pow_right (by omega) h2
      omega)
     go_wp2_with (go_at_call 91;refine(rdigit_any _ _).mono ?_;rintro e w' ⟨rfl,rfl⟩)
     go_round
     case rel=>exact⟨k+1,by omega,by go_num,by rw[hv2.out];congr 1;omega,bH (by rw[ha2.out,hall.out,hd];rfl),hv3.out⟩
     case measure=>simp[intOf];omega
   ·have ht:s.data.toList.take k=s.data.toList:=List.take_of_length_le (by simp;omega)
    rw[ht] at hv ⊢
    have ht2:=hall.out
    rw[ht] at ht2
    obtain⟨vv,hvv⟩ : ∃x,valF s.data.toList=x:=⟨_,rfl⟩
    rw[hvv] at hv ⊢
    have hvv':=bH hvv
    clear hvv
    by_cases hm:vv≤1073741823
    ·have hn:=bH (show numOk s.data.toList=true by rw[hok.out,ht2,hlz.out,hvv'.out,decide_eq_true hm];rfl)
     have hm2:decide ((vv:Int)≤1073741823)=true:=decide_eq_true (by omega)
     clear ht ht2
     go_wp2_with fail
     go_ret2
     exact rnum_fin (b:=true) hn.out (by rw[hvv'.out])
    ·have hn:=bH (show numOk s.data.toList=false by rw[hok.out,ht2,hlz.out,hvv'.out,decide_eq_false hm];rfl)
     have hm2:decide ((vv:Int)≤1073741823)=false:=decide_eq_false (by omega)
     clear ht ht2
     go_wp2_with fail
     go_ret2
     exact rnum_fin (b:=false) hn.out (by rw[hvv'.out])
 cases hA:((s[0].toNat:Int)==48)
 ·have hlz:=bH (show leadZ s.data.toList=true by rw[hz'.out,hA];simp)
  clear hz'
  go_enter Tryz.func92,Tryz.ntmps92
  go_wp2_with fail
  clear hA
  go_loop [4,5] (fun n i=> ∃k:Nat,k≤s.size∧i= .int .i64 k∧n= .int .i64 (valF (s.data.toList.take k))∧Hid ((s.data.toList.take k).all isD=true)∧valF (s.data.toList.take k)≤10000000000) (fun _ i=>s.size-(intOf i).toNat)
  case atStart=>exact⟨0,Nat.zero_le _,rfl,rfl,bH rfl,by simp[valF]⟩
  case round=>
   obtain⟨k,hk,rfl,rfl,hall,hv⟩:=hrel
   by_cases hlt2:k<s.size
   ·have hsn:=all_snoc s k hlt2
    have hv2:Hid (valF (s.data.toList.take (k+1))=valF (s.data.toList.take k)*10+(s[k].toNat-48)):=bH (by rw[hsn,valF_snoc])
    have ha2:Hid ((s.data.toList.take (k+1)).all isD=((s.data.toList.take k).all isD && isD s[k])):=bH (by rw[hsn];simp)
    have hgk:Hid (isD s[k]=false→s.data.toList.all isD=false):=bH fun h=>all_not (k:=k) (by simpa using hlt2) h
    clear hsn
    cases hd:isD s[k]
    ·have hn:=bH (show numOk s.data.toList=false by rw[hok.out,hgk.out hd];rfl)
     go_wp2_with (go_at_call 91;refine(rdigit_any _ _).mono ?_;rintro e w' ⟨rfl,rfl⟩)
     go_ret2
     exact rnum_no hn.out 0
    ·have hbd:=isD_bd hd
     have hv3:Hid (valF (s.data.toList.take (k+1))≤10000000000):=bH (by
      have h1:=valF_hi (l:=s.data.toList.take (k+1)) (by rw[ha2.out,hall.out,hd];rfl)
      have h2:(s.data.toList.take (k+1)).length≤10:=by rw[List.length_take,len_list];omega
      have h3:10 ^ (s.data.toList.take (k+1)).length≤10 ^ 10:=Nat.pow_le_pow_right (by omega) h2
      omega)
     go_wp2_with (go_at_call 91;refine(rdigit_any _ _).mono ?_;rintro e w' ⟨rfl,rfl⟩)
     go_round
     case rel=>exact⟨k+1,by omega,by go_num,by rw[hv2.out];congr 1;omega,bH (by rw[ha2.out,hall.out,hd];rfl),hv3.out⟩
     case measure=>simp[intOf];omega
   ·have ht:s.data.toList.take k=s.data.toList:=List.take_of_length_le (by simp;omega)
    rw[ht] at hv ⊢
    have ht2:=hall.out
    rw[ht] at ht2
    obtain⟨vv,hvv⟩ : ∃x,valF s.data.toList=x:=⟨_,rfl⟩
    rw[hvv] at hv ⊢
    have hvv':=bH hvv
    clear hvv
    by_cases hm:vv≤1073741823
    ·have hn:=bH (show numOk s.data.toList=true by rw[hok.out,ht2,hlz.out,hvv'.out,decide_eq_true hm];rfl)
     have hm2:decide ((vv:Int)≤1073741823)=true:=decide_eq_true (by omega)
     clear ht ht2
     go_wp2_with fail
     go_ret2
     exact rnum_fin (b:=true) hn.out (by rw[hvv'.out])
    ·have hn:=bH (show numOk s.data.toList=false by rw[hok.out,ht2,hlz.out,hvv'.out,decide_eq_false hm];rfl)
     have hm2:decide ((vv:Int)≤1073741823)=false:=decide_eq_false (by omega)
     clear ht ht2
     go_wp2_with fail
     go_ret2
     exact rnum_fin (b:=false) hn.out (by rw[hvv'.out])
 ·have hn:Hid (numOk s.data.toList=false):=bH (by rw[hok.out,hz'.out,hA,decide_eq_true h1];simp)
  go_enter Tryz.func92,Tryz.ntmps92
  go_wp2_with fail
  go_ret2
  exact rnum_no hn.out 0
open Go.RowKit
def rtF (l:List UInt8) (p:Nat):Tk × Int × Int:=if (firstF l).2.2=0 then (⟨(firstF l).1.kind,(firstF l).1.text,(firstF l).1.num,p⟩,((p+(firstF l).2.1:Nat):Int),0) else (tk0,0,(firstF l).2.2)
theorem rt_ok {l:List UInt8} {p:Nat} {t:Tk} {n:Nat} (h:firstF l=(t,n,0)):rtF l p=(⟨t.kind,t.text,t.num,p⟩,((p+n:Nat):Int),0):=by unfold rtF;rw[h];rfl
theorem rt_bad {l:List UInt8} {p:Nat} {t:Tk} {n:Nat} {e:Int} (h:firstF l=(t,n,e)) (he:e≠0):rtF l p=(tk0,0,e):=by unfold rtF;rw[h];exact if_neg he
def RTok (R:Tk × Int × Int) (w:World) (e:Ending) (w':World):Prop:=e= .returned (.tuple #[tkV R.1, .int .i64 R.2.1, .int .i64 R.2.2])∧Below w.heap.size w w'
theorem ext_take (s:ByteArray) (p n:Nat):(s.extract p (p+n)).data.toList=(s.data.toList.drop p).take n:=by
 rw[ext_list,show p+n-p=n by omega]
theorem ext_size (s:ByteArray) (p n:Nat) (h:p+n≤s.size):(s.extract p (p+n)).size=n:=by simp;omega
theorem token_any (s:ByteArray) (p:Nat) (w:World) (hs:s.size≤1125899906842624) (hp:p<s.size) :
  Calls Tryz.prog 68 #[.string s, .int .i64 p] w (RTok (rtF (s.data.toList.drop p) p) w):=by
 have e0:=drop_cons s p hp
 obtain⟨n,hn⟩ : ∃n,runN (s.data.toList.drop p)=n:=⟨_,rfl⟩
 have hnl:p+n≤s.size:=by have:=runN_le (s.data.toList.drop p);rw[List.length_drop,len_list,hn] at this;omega
 obtain⟨x,hx⟩ : ∃x,s.extract p (p+n)=x:=⟨_,rfl⟩
 have hxl:=bH (show (s.data.toList.drop p).take n=x.data.toList by rw[← hx,ext_take])
 have hxs:=bH (show x.size=n by rw[← hx];exact ext_size s p n hnl)
 have hn':=bH hn
 obtain⟨R,hR⟩ : ∃R,rtF (s.data.toList.drop p) p=R:=⟨_,rfl⟩
 rw[hR]
 cases hl:isL s[p]
 ·cases hd:isD s[p]
  ·-- a sign
   by_cases h1:p+1<s.size
   ·have e1:=drop_cons s (p+1) h1
    obtain⟨y,hy⟩ : ∃y,s.extract p (p+2)=y:=⟨_,rfl⟩
    have hyl:y.data.toList=[s[p],s[p+1]]:=by rw[← hy,ext_take,e0,e1];rfl
    obtain⟨z,hz⟩ : ∃z,s.extract p (p+1)=z:=⟨_,rfl⟩
    have hzl:z.data.toList=[s[p]]:=by rw[← hz,ext_take,e0];rfl
    have hy2:y.toList=[s[p],s[p+1]]:=by rw[ByteArray.toList_eq,hyl]
    have hsg:signF (s.data.toList.drop p)=if (y.toList==[45,62] || y.toList==[61,61]) then 2 else if sgB s[p] then 1 else 0:=by
     rw[e0,e1,hy2]
     simp only[signF]
     by_cases hc:(s[p]=45∧s[p+1]=62)∨(s[p]=61∧s[p+1]=61)
     ·rw[if_pos hc,if_pos];simp[hc]
     ·rw[not_or] at hc
      have hf:([s[p],s[p+1]]==[45,62] || [s[p],s[p+1]]==[61,61])=false:=by
       simp
       exact⟨fun a b=>hc.1 ⟨a,b⟩,fun a b=>hc.2 ⟨a,b⟩⟩
      rw[if_neg (by rw[not_or];exact hc),hf];rfl
    have h2:(p:Int)+2≤(s.size:Int):=by omega
    cases hA:(y.toList==[45,62])<;>cases hB:(y.toList==[61,61])
    case false.false=>
     cases hG:sgB s[p]
     ·have hf:Hid (R=(tk0,0,201)):=bH (by rw[← hR];refine rt_bad (n:=0) (t:=⟨0,[],0,0⟩) ?_ (by decide);rw[hA,hB,hG] at hsg;rw[e0] at hsg ⊢;exact first_N hl hd hsg)
      clear e0 hn hR
      (try clear hsg);(try clear e1);(try clear hyl hy2);(try clear hzl);(try clear hfF);(try clear hk);(try clear hok)
      go_enter Tryz.func68,Tryz.ntmps68
      go_wp2_with fail
      go_loop [7] (fun i=> ∃k:Nat,p≤k∧k≤p+n∧i= .int .i64 k∧Hid (p+n=k+runN (s.data.toList.drop k))) (fun i=>s.size-(intOf i).toNat)
      case atStart=>exact⟨p,Nat.le_refl _,by omega,rfl,bH (by rw[hn'.out])⟩
      case round=>
       obtain⟨k,hkp,hkn,rfl,hI⟩:=hrel
       by_cases hlt:k<s.size
       ·have hdk:=bH (drop_cons s k hlt)
        cases hlk:isN s[k]
        ·obtain rfl:k=p+n:=by have:=hI.out;rw[hdk.out,runN_no hlk] at this;omega
         clear hI hdk
         go_wp2_with ((go_at_call 89;refine(rlater_any _ _).mono ?_;rintro e w' ⟨rfl,rfl⟩))
         clear hlk
         go_wp2_with (first|((go_at_call 90;refine(rfirst_any _ _).mono ?_;rintro e w' ⟨rfl,rfl⟩))|((go_at_call 91;refine(rdigit_any _ _).mono ?_;rintro e w' ⟨rfl,rfl⟩)))
         refine(rsign_any _ _).mono ?_
         rintro e w' ⟨rfl,rfl⟩
         rw[hG]
         go_wp2_with fail
         exact bodyPost_ret (v:= .tuple #[tkV tk0, .int .i64 0, .int .i64 201]) (by simp[results,Tryz.results68,go_sem,tkV,tk0,bs]) rfl ⟨by rw[hf.out],bZ⟩
        ·have hI2:=bH (show p+n=(k+1)+runN (s.data.toList.drop (k+1)) by have:=hI.out;rw[hdk.out,runN_yes hlk] at this;omega)
         have hk1:k+1≤p+n:=by have:=hI2.out;omega
         go_wp2_with ((go_at_call 89;refine(rlater_any _ _).mono ?_;rintro e w' ⟨rfl,rfl⟩))
         go_round
         case rel=>exact⟨k+1,by omega,hk1,by go_num,hI2⟩
         case measure=>simp[intOf];omega
       ·obtain rfl:k=p+n:=by have:=hI.out;rw[drop_end s k (by omega),runN_nil] at this;omega
        clear hI
        go_wp2_with fail
        go_wp2_with (first|((go_at_call 90;refine(rfirst_any _ _).mono ?_;rintro e w' ⟨rfl,rfl⟩))|((go_at_call 91;refine(rdigit_any _ _).mono ?_;rintro e w' ⟨rfl,rfl⟩)))
        refine(rsign_any _ _).mono ?_
        rintro e w' ⟨rfl,rfl⟩
        rw[hG]
        go_wp2_with fail
        exact bodyPost_ret (v:= .tuple #[tkV tk0, .int .i64 0, .int .i64 201]) (by simp[results,Tryz.results68,go_sem,tkV,tk0,bs]) rfl ⟨by rw[hf.out],bZ⟩
     ·have hf:Hid (R=(⟨3,z.data.toList,0,p⟩,((p+1:Nat):Int),0)):=bH (by rw[← hR];refine(rt_ok (t:=⟨3,z.data.toList,0,0⟩) (n:=1) ?_);rw[hA,hB,hG] at hsg;rw[e0] at hsg ⊢;rw[first_S hl hd (by rw[hsg];decide),hsg,hzl];rfl)
      clear e0 hn hR
      (try clear hsg);(try clear e1);(try clear hyl hy2);(try clear hzl);(try clear hfF);(try clear hk);(try clear hok)
      go_enter Tryz.func68,Tryz.ntmps68
      go_wp2_with fail
      go_loop [7] (fun i=> ∃k:Nat,p≤k∧k≤p+n∧i= .int .i64 k∧Hid (p+n=k+runN (s.data.toList.drop k))) (fun i=>s.size-(intOf i).toNat)
      case atStart=>exact⟨p,Nat.le_refl _,by omega,rfl,bH (by rw[hn'.out])⟩
      case round=>
       obtain⟨k,hkp,hkn,rfl,hI⟩:=hrel
       by_cases hlt:k<s.size
       ·have hdk:=bH (drop_cons s k hlt)
        cases hlk:isN s[k]
        ·obtain rfl:k=p+n:=by have:=hI.out;rw[hdk.out,runN_no hlk] at this;omega
         clear hI hdk
         go_wp2_with ((go_at_call 89;refine(rlater_any _ _).mono ?_;rintro e w' ⟨rfl,rfl⟩))
         clear hlk
         go_wp2_with (first|((go_at_call 90;refine(rfirst_any _ _).mono ?_;rintro e w' ⟨rfl,rfl⟩))|((go_at_call 91;refine(rdigit_any _ _).mono ?_;rintro e w' ⟨rfl,rfl⟩)))
         refine(rsign_any _ _).mono ?_
         rintro e w' ⟨rfl,rfl⟩
         rw[hG]
         go_wp2_with fail
         exact bodyPost_ret (v:= .tuple #[tkV ⟨3,z.data.toList,0,p⟩, .int .i64 ((p+1:Nat):Int), .int .i64 0]) (by simp[results,Tryz.results68,go_sem,tkV,bs_of]) rfl ⟨by rw[hf.out],bZ⟩
        ·have hI2:=bH (show p+n=(k+1)+runN (s.data.toList.drop (k+1)) by have:=hI.out;rw[hdk.out,runN_yes hlk] at this;omega)
         have hk1:k+1≤p+n:=by have:=hI2.out;omega
         go_wp2_with ((go_at_call 89;refine(rlater_any _ _).mono ?_;rintro e w' ⟨rfl,rfl⟩))
         go_round
         case rel=>exact⟨k+1,by omega,hk1,by go_num,hI2⟩
         case measure=>simp[intOf];omega
       ·obtain rfl:k=p+n:=by have:=hI.out;rw[drop_end s k (by omega),runN_nil] at this;omega
        clear hI
        go_wp2_with fail
        go_wp2_with (first|((go_at_call 90;refine(rfirst_any _ _).mono ?_;rintro e w' ⟨rfl,rfl⟩))|((go_at_call 91;refine(rdigit_any _ _).mono ?_;rintro e w' ⟨rfl,rfl⟩)))
        refine(rsign_any _ _).mono ?_
        rintro e w' ⟨rfl,rfl⟩
        rw[hG]
        go_wp2_with fail
        exact bodyPost_ret (v:= .tuple #[tkV ⟨3,z.data.toList,0,p⟩, .int .i64 ((p+1:Nat):Int), .int .i64 0]) (by simp[results,Tryz.results68,go_sem,tkV,bs_of]) rfl ⟨by rw[hf.out],bZ⟩
    all_goals
     have hf:Hid (R=(⟨3,y.data.toList,0,p⟩,((p+2:Nat):Int),0)):=bH (by rw[← hR];refine(rt_ok (t:=⟨3,y.data.toList,0,0⟩) (n:=2) ?_);rw[hA,hB] at hsg;rw[e0] at hsg ⊢;rw[first_S hl hd (by rw[hsg];simp),hsg,hyl,e1];rfl)
     clear e0 hn hR
     (try clear hsg);(try clear e1);(try clear hyl hy2);(try clear hzl);(try clear hfF);(try clear hk);(try clear hok)
     go_enter Tryz.func68,Tryz.ntmps68
     go_wp2_with fail
     go_loop [7] (fun i=> ∃k:Nat,p≤k∧k≤p+n∧i= .int .i64 k∧Hid (p+n=k+runN (s.data.toList.drop k))) (fun i=>s.size-(intOf i).toNat)
     case atStart=>exact⟨p,Nat.le_refl _,by omega,rfl,bH (by rw[hn'.out])⟩
     case round=>
      obtain⟨k,hkp,hkn,rfl,hI⟩:=hrel
      by_cases hlt:k<s.size
      ·have hdk:=bH (drop_cons s k hlt)
       cases hlk:isN s[k]
       ·obtain rfl:k=p+n:=by have:=hI.out;rw[hdk.out,runN_no hlk] at this;omega
        clear hI hdk
        go_wp2_with ((go_at_call 89;refine(rlater_any _ _).mono ?_;rintro e w' ⟨rfl,rfl⟩))
        clear hlk
        go_wp2_with (first|((go_at_call 90;refine(rfirst_any _ _).mono ?_;rintro e w' ⟨rfl,rfl⟩))|((go_at_call 91;refine(rdigit_any _ _).mono ?_;rintro e w' ⟨rfl,rfl⟩)))
        exact bodyPost_ret (v:= .tuple #[tkV ⟨3,y.data.toList,0,p⟩, .int .i64 ((p+2:Nat):Int), .int .i64 0]) (by simp[results,Tryz.results68,go_sem,tkV,bs_of]) rfl ⟨by rw[hf.out],bZ⟩
       ·have hI2:=bH (show p+n=(k+1)+runN (s.data.toList.drop (k+1)) by have:=hI.out;rw[hdk.out,runN_yes hlk] at this;omega)
        have hk1:k+1≤p+n:=by have:=hI2.out;omega
        go_wp2_with ((go_at_call 89;refine(rlater_any _ _).mono ?_;rintro e w' ⟨rfl,rfl⟩))
        go_round
        case rel=>exact⟨k+1,by omega,hk1,by go_num,hI2⟩
        case measure=>simp[intOf];omega
      ·obtain rfl:k=p+n:=by have:=hI.out;rw[drop_end s k (by omega),runN_nil] at this;omega
       clear hI
       go_wp2_with fail
       go_wp2_with (first|((go_at_call 90;refine(rfirst_any _ _).mono ?_;rintro e w' ⟨rfl,rfl⟩))|((go_at_call 91;refine(rdigit_any _ _).mono ?_;rintro e w' ⟨rfl,rfl⟩)))
       exact bodyPost_ret (v:= .tuple #[tkV ⟨3,y.data.toList,0,p⟩, .int .i64 ((p+2:Nat):Int), .int .i64 0]) (by simp[results,Tryz.results68,go_sem,tkV,bs_of]) rfl ⟨by rw[hf.out],bZ⟩
   ·have e1:=drop_end s (p+1) (by omega)
    obtain⟨z,hz⟩ : ∃z,s.extract p (p+1)=z:=⟨_,rfl⟩
    have hzl:z.data.toList=[s[p]]:=by rw[← hz,ext_take,e0];rfl
    have hsg:signF (s.data.toList.drop p)=if sgB s[p] then 1 else 0:=by rw[e0,e1];rfl
    cases hG:sgB s[p]
    ·have hf:Hid (R=(tk0,0,201)):=bH (by rw[← hR];refine rt_bad (n:=0) (t:=⟨0,[],0,0⟩) ?_ (by decide);rw[hG] at hsg;rw[e0] at hsg ⊢;exact first_N hl hd hsg)
     clear e0 hn hR
     (try clear hsg);(try clear e1);(try clear hyl hy2);(try clear hzl);(try clear hfF);(try clear hk);(try clear hok)
     go_enter Tryz.func68,Tryz.ntmps68
     go_wp2_with fail
     go_loop [7] (fun i=> ∃k:Nat,p≤k∧k≤p+n∧i= .int .i64 k∧Hid (p+n=k+runN (s.data.toList.drop k))) (fun i=>s.size-(intOf i).toNat)
     case atStart=>exact⟨p,Nat.le_refl _,by omega,rfl,bH (by rw[hn'.out])⟩
     case round=>
      obtain⟨k,hkp,hkn,rfl,hI⟩:=hrel
      by_cases hlt:k<s.size
      ·have hdk:=bH (drop_cons s k hlt)
       cases hlk:isN s[k]
       ·obtain rfl:k=p+n:=by have:=hI.out;rw[hdk.out,runN_no hlk] at this;omega
        clear hI hdk
        go_wp2_with ((go_at_call 89;refine(rlater_any _ _).mono ?_;rintro e w' ⟨rfl,rfl⟩))
        clear hlk
        go_wp2_with (first|((go_at_call 90;refine(rfirst_any _ _).mono ?_;rintro e w' ⟨rfl,rfl⟩))|((go_at_call 91;refine(rdigit_any _ _).mono ?_;rintro e w' ⟨rfl,rfl⟩)))
        refine(rsign_any _ _).mono ?_
        rintro e w' ⟨rfl,rfl⟩
        rw[hG]
        go_wp2_with fail
        exact bodyPost_ret (v:= .tuple #[tkV tk0, .int .i64 0, .int .i64 201]) (by simp[results,Tryz.results68,go_sem,tkV,tk0,bs]) rfl ⟨by rw[hf.out],bZ⟩
       ·have hI2:=bH (show p+n=(k+1)+runN (s.data.toList.drop (k+1)) by have:=hI.out;rw[hdk.out,runN_yes hlk] at this;omega)
        have hk1:k+1≤p+n:=by have:=hI2.out;omega
        go_wp2_with ((go_at_call 89;refine(rlater_any _ _).mono ?_;rintro e w' ⟨rfl,rfl⟩))
        go_round
        case rel=>exact⟨k+1,by omega,hk1,by go_num,hI2⟩
        case measure=>simp[intOf];omega
      ·obtain rfl:k=p+n:=by have:=hI.out;rw[drop_end s k (by omega),runN_nil] at this;omega
       clear hI
       go_wp2_with fail
       go_wp2_with (first|((go_at_call 90;refine(rfirst_any _ _).mono ?_;rintro e w' ⟨rfl,rfl⟩))|((go_at_call 91;refine(rdigit_any _ _).mono ?_;rintro e w' ⟨rfl,rfl⟩)))
       refine(rsign_any _ _).mono ?_
       rintro e w' ⟨rfl,rfl⟩
       rw[hG]
       go_wp2_with fail
       exact bodyPost_ret (v:= .tuple #[tkV tk0, .int .i64 0, .int .i64 201]) (by simp[results,Tryz.results68,go_sem,tkV,tk0,bs]) rfl ⟨by rw[hf.out],bZ⟩
    ·have hf:Hid (R=(⟨3,z.data.toList,0,p⟩,((p+1:Nat):Int),0)):=bH (by rw[← hR];refine(rt_ok (t:=⟨3,z.data.toList,0,0⟩) (n:=1) ?_);rw[hG] at hsg;rw[e0] at hsg ⊢;rw[first_S hl hd (by rw[hsg];decide),hsg,hzl];rfl)
     clear e0 hn hR
     (try clear hsg);(try clear e1);(try clear hyl hy2);(try clear hzl);(try clear hfF);(try clear hk);(try clear hok)
     go_enter Tryz.func68,Tryz.ntmps68
     go_wp2_with fail
     go_loop [7] (fun i=> ∃k:Nat,p≤k∧k≤p+n∧i= .int .i64 k∧Hid (p+n=k+runN (s.data.toList.drop k))) (fun i=>s.size-(intOf i).toNat)
     case atStart=>exact⟨p,Nat.le_refl _,by omega,rfl,bH (by rw[hn'.out])⟩
     case round=>
      obtain⟨k,hkp,hkn,rfl,hI⟩:=hrel
      by_cases hlt:k<s.size
      ·have hdk:=bH (drop_cons s k hlt)
       cases hlk:isN s[k]
       ·obtain rfl:k=p+n:=by have:=hI.out;rw[hdk.out,runN_no hlk] at this;omega
        clear hI hdk
        go_wp2_with ((go_at_call 89;refine(rlater_any _ _).mono ?_;rintro e w' ⟨rfl,rfl⟩))
        clear hlk
        go_wp2_with (first|((go_at_call 90;refine(rfirst_any _ _).mono ?_;rintro e w' ⟨rfl,rfl⟩))|((go_at_call 91;refine(rdigit_any _ _).mono ?_;rintro e w' ⟨rfl,rfl⟩)))
        refine(rsign_any _ _).mono ?_
        rintro e w' ⟨rfl,rfl⟩
        rw[hG]
        go_wp2_with fail
        exact bodyPost_ret (v:= .tuple #[tkV ⟨3,z.data.toList,0,p⟩, .int .i64 ((p+1:Nat):Int), .int .i64 0]) (by simp[results,Tryz.results68,go_sem,tkV,bs_of]) rfl ⟨by rw[hf.out],bZ⟩
       ·have hI2:=bH (show p+n=(k+1)+runN (s.data.toList.drop (k+1)) by have:=hI.out;rw[hdk.out,runN_yes hlk] at this;omega)
        have hk1:k+1≤p+n:=by have:=hI2.out;omega
        go_wp2_with ((go_at_call 89;refine(rlater_any _ _).mono ?_;rintro e w' ⟨rfl,rfl⟩))
        go_round
        case rel=>exact⟨k+1,by omega,hk1,by go_num,hI2⟩
        case measure=>simp[intOf];omega
      ·obtain rfl:k=p+n:=by have:=hI.out;rw[drop_end s k (by omega),runN_nil] at this;omega
       clear hI
       go_wp2_with fail
       go_wp2_with (first|((go_at_call 90;refine(rfirst_any _ _).mono ?_;rintro e w' ⟨rfl,rfl⟩))|((go_at_call 91;refine(rdigit_any _ _).mono ?_;rintro e w' ⟨rfl,rfl⟩)))
       refine(rsign_any _ _).mono ?_
       rintro e w' ⟨rfl,rfl⟩
       rw[hG]
       go_wp2_with fail
       exact bodyPost_ret (v:= .tuple #[tkV ⟨3,z.data.toList,0,p⟩, .int .i64 ((p+1:Nat):Int), .int .i64 0]) (by simp[results,Tryz.results68,go_sem,tkV,bs_of]) rfl ⟨by rw[hf.out],bZ⟩
  ·-- a number
   have hn0:0<n:=by rw[← hn,e0];exact run_pos (isD_isN hd)
   have hfF:firstF (s.data.toList.drop p)=(⟨1,[],numV x.data.toList,0⟩,n,numE x.data.toList):=by
    have hx2:=hxl.out
    have hq:=hxs.out
    rw[← len_list] at hq
    rw[e0] at hx2 hn ⊢
    rw[first_D hl hd,hn,hx2,hq]
   cases hok:numOk x.data.toList
   ·have hf:Hid (R=(tk0,0,202)):=bH (by rw[← hR];exact rt_bad (by rw[hfF,(num_no hok).1,(num_no hok).2]) (by decide))
    have hok':=bH hok
    clear e0 hn hR
    (try clear hsg);(try clear e1);(try clear hyl hy2);(try clear hzl);(try clear hfF);(try clear hk);(try clear hok)
    go_enter Tryz.func68,Tryz.ntmps68
    go_wp2_with fail
    go_loop [7] (fun i=> ∃k:Nat,p≤k∧k≤p+n∧i= .int .i64 k∧Hid (p+n=k+runN (s.data.toList.drop k))) (fun i=>s.size-(intOf i).toNat)
    case atStart=>exact⟨p,Nat.le_refl _,by omega,rfl,bH (by rw[hn'.out])⟩
    case round=>
     obtain⟨k,hkp,hkn,rfl,hI⟩:=hrel
     by_cases hlt:k<s.size
     ·have hdk:=bH (drop_cons s k hlt)
      cases hlk:isN s[k]
      ·obtain rfl:k=p+n:=by have:=hI.out;rw[hdk.out,runN_no hlk] at this;omega
       clear hI hdk
       go_wp2_with ((go_at_call 89;refine(rlater_any _ _).mono ?_;rintro e w' ⟨rfl,rfl⟩))
       clear hlk
       go_wp2_with (first|((go_at_call 90;refine(rfirst_any _ _).mono ?_;rintro e w' ⟨rfl,rfl⟩))|((go_at_call 91;refine(rdigit_any _ _).mono ?_;rintro e w' ⟨rfl,rfl⟩)))
       refine(rnumber_any _ _ (by rw[hxs.out];omega) (by rw[hxs.out];omega)).mono ?_
       rintro e w' ⟨xv,rfl,_,rfl⟩
       rw[hok'.out]
       go_wp2_with fail
       exact bodyPost_ret (v:= .tuple #[tkV tk0, .int .i64 0, .int .i64 202]) (by simp[results,Tryz.results68,go_sem,tkV,tk0,bs]) rfl ⟨by rw[hf.out],bZ⟩
      ·have hI2:=bH (show p+n=(k+1)+runN (s.data.toList.drop (k+1)) by have:=hI.out;rw[hdk.out,runN_yes hlk] at this;omega)
       have hk1:k+1≤p+n:=by have:=hI2.out;omega
       go_wp2_with ((go_at_call 89;refine(rlater_any _ _).mono ?_;rintro e w' ⟨rfl,rfl⟩))
       go_round
       case rel=>exact⟨k+1,by omega,hk1,by go_num,hI2⟩
       case measure=>simp[intOf];omega
     ·obtain rfl:k=p+n:=by have:=hI.out;rw[drop_end s k (by omega),runN_nil] at this;omega
      clear hI
      go_wp2_with fail
      go_wp2_with (first|((go_at_call 90;refine(rfirst_any _ _).mono ?_;rintro e w' ⟨rfl,rfl⟩))|((go_at_call 91;refine(rdigit_any _ _).mono ?_;rintro e w' ⟨rfl,rfl⟩)))
      refine(rnumber_any _ _ (by rw[hxs.out];omega) (by rw[hxs.out];omega)).mono ?_
      rintro e w' ⟨xv,rfl,_,rfl⟩
      rw[hok'.out]
      go_wp2_with fail
      exact bodyPost_ret (v:= .tuple #[tkV tk0, .int .i64 0, .int .i64 202]) (by simp[results,Tryz.results68,go_sem,tkV,tk0,bs]) rfl ⟨by rw[hf.out],bZ⟩
   ·have hf:Hid (R=(⟨1,[],(valF x.data.toList:Int),p⟩,((p+n:Nat):Int),0)):=bH (by rw[← hR];exact rt_ok (t:=⟨1,[],(valF x.data.toList:Int),0⟩) (by rw[hfF,(num_yes hok).1,(num_yes hok).2]))
    have hok':=bH hok
    clear e0 hn hR
    (try clear hsg);(try clear e1);(try clear hyl hy2);(try clear hzl);(try clear hfF);(try clear hk);(try clear hok)
    go_enter Tryz.func68,Tryz.ntmps68
    go_wp2_with fail
    go_loop [7] (fun i=> ∃k:Nat,p≤k∧k≤p+n∧i= .int .i64 k∧Hid (p+n=k+runN (s.data.toList.drop k))) (fun i=>s.size-(intOf i).toNat)
    case atStart=>exact⟨p,Nat.le_refl _,by omega,rfl,bH (by rw[hn'.out])⟩
    case round=>
     obtain⟨k,hkp,hkn,rfl,hI⟩:=hrel
     by_cases hlt:k<s.size
     ·have hdk:=bH (drop_cons s k hlt)
      cases hlk:isN s[k]
      ·obtain rfl:k=p+n:=by have:=hI.out;rw[hdk.out,runN_no hlk] at this;omega
       clear hI hdk
       go_wp2_with ((go_at_call 89;refine(rlater_any _ _).mono ?_;rintro e w' ⟨rfl,rfl⟩))
       clear hlk
       go_wp2_with (first|((go_at_call 90;refine(rfirst_any _ _).mono ?_;rintro e w' ⟨rfl,rfl⟩))|((go_at_call 91;refine(rdigit_any _ _).mono ?_;rintro e w' ⟨rfl,rfl⟩)))
       refine(rnumber_any _ _ (by rw[hxs.out];omega) (by rw[hxs.out];omega)).mono ?_
       rintro e w' ⟨xv,rfl,hxv,rfl⟩
       have hxv':=bH (hxv hok'.out)
       clear hxv
       rw[hok'.out]
       go_wp2_with fail
       exact bodyPost_ret (v:= .tuple #[tkV ⟨1,[],xv,p⟩, .int .i64 ((p+n:Nat):Int), .int .i64 0]) (by simp[results,Tryz.results68,go_sem,tkV,bs]) rfl ⟨by rw[hf.out, ← hxv'.out],bZ⟩
      ·have hI2:=bH (show p+n=(k+1)+runN (s.data.toList.drop (k+1)) by have:=hI.out;rw[hdk.out,runN_yes hlk] at this;omega)
       have hk1:k+1≤p+n:=by have:=hI2.out;omega
       go_wp2_with ((go_at_call 89;refine(rlater_any _ _).mono ?_;rintro e w' ⟨rfl,rfl⟩))
       go_round
       case rel=>exact⟨k+1,by omega,hk1,by go_num,hI2⟩
       case measure=>simp[intOf];omega
     ·obtain rfl:k=p+n:=by have:=hI.out;rw[drop_end s k (by omega),runN_nil] at this;omega
      clear hI
      go_wp2_with fail
      go_wp2_with (first|((go_at_call 90;refine(rfirst_any _ _).mono ?_;rintro e w' ⟨rfl,rfl⟩))|((go_at_call 91;refine(rdigit_any _ _).mono ?_;rintro e w' ⟨rfl,rfl⟩)))
      refine(rnumber_any _ _ (by rw[hxs.out];omega) (by rw[hxs.out];omega)).mono ?_
      rintro e w' ⟨xv,rfl,hxv,rfl⟩
      have hxv':=bH (hxv hok'.out)
      clear hxv
      rw[hok'.out]
      go_wp2_with fail
      exact bodyPost_ret (v:= .tuple #[tkV ⟨1,[],xv,p⟩, .int .i64 ((p+n:Nat):Int), .int .i64 0]) (by simp[results,Tryz.results68,go_sem,tkV,bs]) rfl ⟨by rw[hf.out, ← hxv'.out],bZ⟩
 ·-- a word
  have hfF:firstF (s.data.toList.drop p)=((wordF x.data.toList).1,n,(wordF x.data.toList).2):=by
   have hx2:=hxl.out
   have hq:=hxs.out
   rw[← len_list] at hq
   rw[e0] at hx2 hn ⊢
   rw[first_L hl,hn,hx2,hq]
  have hkw:=bH fun (W:World)=>rkeyword_any x W (by rw[hxs.out];omega)
  cases hk:kwB x.data.toList
  ·by_cases h16:16<n
   ·have hf:Hid (R=(tk0,0,201)):=bH (by rw[← hR];exact rt_bad (by rw[hfF,wordF_long hk (by rw[len_list,hxs.out];exact h16)]) (by decide))
    have hk':=bH hk
    have hx16:(16:Int)<(x.size:Int):=by have:=hxs.out;omega
    clear e0 hn hR
    (try clear hsg);(try clear e1);(try clear hyl hy2);(try clear hzl);(try clear hfF);(try clear hk);(try clear hok)
    go_enter Tryz.func68,Tryz.ntmps68
    go_wp2_with fail
    go_loop [7] (fun i=> ∃k:Nat,p≤k∧k≤p+n∧i= .int .i64 k∧Hid (p+n=k+runN (s.data.toList.drop k))) (fun i=>s.size-(intOf i).toNat)
    case atStart=>exact⟨p,Nat.le_refl _,by omega,rfl,bH (by rw[hn'.out])⟩
    case round=>
     obtain⟨k,hkp,hkn,rfl,hI⟩:=hrel
     by_cases hlt:k<s.size
     ·have hdk:=bH (drop_cons s k hlt)
      cases hlk:isN s[k]
      ·obtain rfl:k=p+n:=by have:=hI.out;rw[hdk.out,runN_no hlk] at this;omega
       clear hI hdk
       go_wp2_with ((go_at_call 89;refine(rlater_any _ _).mono ?_;rintro e w' ⟨rfl,rfl⟩))
       clear hlk
       go_wp2_with (first|((go_at_call 90;refine(rfirst_any _ _).mono ?_;rintro e w' ⟨rfl,rfl⟩))|((go_at_call 91;refine(rdigit_any _ _).mono ?_;rintro e w' ⟨rfl,rfl⟩)))
       refine(hkw.out _).mono ?_
       rintro e w' ⟨rfl,rfl⟩
       rw[hk'.out]
       go_wp2_with fail
       exact bodyPost_ret (v:= .tuple #[tkV tk0, .int .i64 0, .int .i64 201]) (by simp[results,Tryz.results68,go_sem,tkV,tk0,bs]) rfl ⟨by rw[hf.out],bZ⟩
      ·have hI2:=bH (show p+n=(k+1)+runN (s.data.toList.drop (k+1)) by have:=hI.out;rw[hdk.out,runN_yes hlk] at this;omega)
       have hk1:k+1≤p+n:=by have:=hI2.out;omega
       go_wp2_with ((go_at_call 89;refine(rlater_any _ _).mono ?_;rintro e w' ⟨rfl,rfl⟩))
       go_round
       case rel=>exact⟨k+1,by omega,hk1,by go_num,hI2⟩
       case measure=>simp[intOf];omega
     ·obtain rfl:k=p+n:=by have:=hI.out;rw[drop_end s k (by omega),runN_nil] at this;omega
      clear hI
      go_wp2_with fail
      go_wp2_with (first|((go_at_call 90;refine(rfirst_any _ _).mono ?_;rintro e w' ⟨rfl,rfl⟩))|((go_at_call 91;refine(rdigit_any _ _).mono ?_;rintro e w' ⟨rfl,rfl⟩)))
      refine(hkw.out _).mono ?_
      rintro e w' ⟨rfl,rfl⟩
      rw[hk'.out]
      go_wp2_with fail
      exact bodyPost_ret (v:= .tuple #[tkV tk0, .int .i64 0, .int .i64 201]) (by simp[results,Tryz.results68,go_sem,tkV,tk0,bs]) rfl ⟨by rw[hf.out],bZ⟩
   ·have hf:Hid (R=(⟨0,x.data.toList,0,p⟩,((p+n:Nat):Int),0)):=bH (by rw[← hR];exact rt_ok (t:=⟨0,x.data.toList,0,0⟩) (by rw[hfF,wordF_name hk (by rw[len_list,hxs.out];omega)]))
    have hk':=bH hk
    have hx16:(x.size:Int)≤16:=by have:=hxs.out;omega
    clear e0 hn hR
    (try clear hsg);(try clear e1);(try clear hyl hy2);(try clear hzl);(try clear hfF);(try clear hk);(try clear hok)
    go_enter Tryz.func68,Tryz.ntmps68
    go_wp2_with fail
    go_loop [7] (fun i=> ∃k:Nat,p≤k∧k≤p+n∧i= .int .i64 k∧Hid (p+n=k+runN (s.data.toList.drop k))) (fun i=>s.size-(intOf i).toNat)
    case atStart=>exact⟨p,Nat.le_refl _,by omega,rfl,bH (by rw[hn'.out])⟩
    case round=>
     obtain⟨k,hkp,hkn,rfl,hI⟩:=hrel
     by_cases hlt:k<s.size
     ·have hdk:=bH (drop_cons s k hlt)
      cases hlk:isN s[k]
      ·obtain rfl:k=p+n:=by have:=hI.out;rw[hdk.out,runN_no hlk] at this;omega
       clear hI hdk
       go_wp2_with ((go_at_call 89;refine(rlater_any _ _).mono ?_;rintro e w' ⟨rfl,rfl⟩))
       clear hlk
       go_wp2_with (first|((go_at_call 90;refine(rfirst_any _ _).mono ?_;rintro e w' ⟨rfl,rfl⟩))|((go_at_call 91;refine(rdigit_any _ _).mono ?_;rintro e w' ⟨rfl,rfl⟩)))
       refine(hkw.out _).mono ?_
       rintro e w' ⟨rfl,rfl⟩
       rw[hk'.out]
       go_wp2_with fail
       exact bodyPost_ret (v:= .tuple #[tkV ⟨0,x.data.toList,0,p⟩, .int .i64 ((p+n:Nat):Int), .int .i64 0]) (by simp[results,Tryz.results68,go_sem,tkV,bs_of]) rfl ⟨by rw[hf.out],bZ⟩
      ·have hI2:=bH (show p+n=(k+1)+runN (s.data.toList.drop (k+1)) by have:=hI.out;rw[hdk.out,runN_yes hlk] at this;omega)
       have hk1:k+1≤p+n:=by have:=hI2.out;omega
       go_wp2_with ((go_at_call 89;refine(rlater_any _ _).mono ?_;rintro e w' ⟨rfl,rfl⟩))
       go_round
       case rel=>exact⟨k+1,by omega,hk1,by go_num,hI2⟩
       case measure=>simp[intOf];omega
     ·obtain rfl:k=p+n:=by have:=hI.out;rw[drop_end s k (by omega),runN_nil] at this;omega
      clear hI
      go_wp2_with fail
      go_wp2_with (first|((go_at_call 90;refine(rfirst_any _ _).mono ?_;rintro e w' ⟨rfl,rfl⟩))|((go_at_call 91;refine(rdigit_any _ _).mono ?_;rintro e w' ⟨rfl,rfl⟩)))
      refine(hkw.out _).mono ?_
      rintro e w' ⟨rfl,rfl⟩
      rw[hk'.out]
      go_wp2_with fail
      exact bodyPost_ret (v:= .tuple #[tkV ⟨0,x.data.toList,0,p⟩, .int .i64 ((p+n:Nat):Int), .int .i64 0]) (by simp[results,Tryz.results68,go_sem,tkV,bs_of]) rfl ⟨by rw[hf.out],bZ⟩
  ·have hf:Hid (R=(⟨2,x.data.toList,0,p⟩,((p+n:Nat):Int),0)):=bH (by rw[← hR];exact rt_ok (t:=⟨2,x.data.toList,0,0⟩) (by rw[hfF,wordF_kw hk]))
   have hk':=bH hk
   clear e0 hn hR
   (try clear hsg);(try clear e1);(try clear hyl hy2);(try clear hzl);(try clear hfF);(try clear hk);(try clear hok)
   go_enter Tryz.func68,Tryz.ntmps68
   go_wp2_with fail
   go_loop [7] (fun i=> ∃k:Nat,p≤k∧k≤p+n∧i= .int .i64 k∧Hid (p+n=k+runN (s.data.toList.drop k))) (fun i=>s.size-(intOf i).toNat)
   case atStart=>exact⟨p,Nat.le_refl _,by omega,rfl,bH (by rw[hn'.out])⟩
   case round=>
    obtain⟨k,hkp,hkn,rfl,hI⟩:=hrel
    by_cases hlt:k<s.size
    ·have hdk:=bH (drop_cons s k hlt)
     cases hlk:isN s[k]
     ·obtain rfl:k=p+n:=by have:=hI.out;rw[hdk.out,runN_no hlk] at this;omega
      clear hI hdk
      go_wp2_with ((go_at_call 89;refine(rlater_any _ _).mono ?_;rintro e w' ⟨rfl,rfl⟩))
      clear hlk
      go_wp2_with (first|((go_at_call 90;refine(rfirst_any _ _).mono ?_;rintro e w' ⟨rfl,rfl⟩))|((go_at_call 91;refine(rdigit_any _ _).mono ?_;rintro e w' ⟨rfl,rfl⟩)))
      refine(hkw.out _).mono ?_
      rintro e w' ⟨rfl,rfl⟩
      rw[hk'.out]
      go_wp2_with fail
      exact bodyPost_ret (v:= .tuple #[tkV ⟨2,x.data.toList,0,p⟩, .int .i64 ((p+n:Nat):Int), .int .i64 0]) (by simp[results,Tryz.results68,go_sem,tkV,bs_of]) rfl ⟨by rw[hf.out],bZ⟩
     ·have hI2:=bH (show p+n=(k+1)+runN (s.data.toList.drop (k+1)) by have:=hI.out;rw[hdk.out,runN_yes hlk] at this;omega)
      have hk1:k+1≤p+n:=by have:=hI2.out;omega
      go_wp2_with ((go_at_call 89;refine(rlater_any _ _).mono ?_;rintro e w' ⟨rfl,rfl⟩))
      go_round
      case rel=>exact⟨k+1,by omega,hk1,by go_num,hI2⟩
      case measure=>simp[intOf];omega
    ·obtain rfl:k=p+n:=by have:=hI.out;rw[drop_end s k (by omega),runN_nil] at this;omega
     clear hI
     go_wp2_with fail
     go_wp2_with (first|((go_at_call 90;refine(rfirst_any _ _).mono ?_;rintro e w' ⟨rfl,rfl⟩))|((go_at_call 91;refine(rdigit_any _ _).mono ?_;rintro e w' ⟨rfl,rfl⟩)))
     refine(hkw.out _).mono ?_
     rintro e w' ⟨rfl,rfl⟩
     rw[hk'.out]
     go_wp2_with fail
     exact bodyPost_ret (v:= .tuple #[tkV ⟨2,x.data.toList,0,p⟩, .int .i64 ((p+n:Nat):Int), .int .i64 0]) (by simp[results,Tryz.results68,go_sem,tkV,bs_of]) rfl ⟨by rw[hf.out],bZ⟩
open Go.RowKit
theorem rtok_ok {w W:World} {v:Value} {l:List Tk} {R:List Tk × Int × Int} (hR:R=(l,0,0)) (hb:Below w.heap.size w W) (ho:OwnK w.heap.size W v l):TokPost R w (.returned (.tuple #[v, .int .i64 0, .int .i64 0])) W:=by
 subst hR;exact⟨v,rfl,ho,hb⟩
theorem rtok_bad {w W:World} {a b:Int} {R:List Tk × Int × Int} (hR:R=([],a,b)) (hb:Below w.heap.size w W):TokPost R w (.returned (.tuple #[.slice none 0 0, .int .i64 a, .int .i64 b])) W:=by
 subst hR;exact⟨_,rfl,ownK_nil _ _,hb⟩
theorem first_drop {l:List UInt8} {t:Tk} {n:Nat} (h:l≠[]) (hf:firstF l=(t,n,0)):0<n∧n≤l.length:=by
 have:=firstF_pos h (by rw[hf]);rw[hf] at this;exact this
theorem rtokens_any (s:ByteArray) (w:World) (hs:s.size≤1125899906842624) :
  Calls Tryz.prog 46 #[.string s] w (TokPost (lexR s) w):=by
 by_cases hl:4096<s.size
 ·have hR:=bH (show lexR s=([],0,200) by unfold lexR;rw[if_pos hl])
  go_enter Tryz.func46,Tryz.ntmps46
  go_wp2_with fail
  go_ret3
  exact rtok_bad hR.out (Below.refl _ _)
 have hl':s.size≤4096:=by omega
 obtain⟨vp,hvp⟩ : ∃x,(vaV s).1=x:=⟨_,rfl⟩
 cases hv:(vaV s).2
 ·have hR:=bH (show lexR s=([],vp,200) by unfold lexR;rw[if_neg hl,if_pos hv,hvp])
  have hv':=bH hv;clear hv
  have hvp':=bH hvp;clear hvp
  go_enter Tryz.func46,Tryz.ntmps46
  go_wp2_with fail
  refine(rvalid_any _ _ hs).mono ?_
  rintro e w' ⟨rfl,rfl⟩
  rw[hv'.out,hvp'.out]
  go_wp2_with fail
  go_ret3
  exact rtok_bad hR.out (Below.refl _ _)
 obtain⟨R,hR0⟩ : ∃R,lexR s=R:=⟨_,rfl⟩
 have hR:Hid (lxAt s.data.toList 0 []=R):=bH (by rw[← hR0];unfold lexR;rw[if_neg hl,hv];rfl)
 rw[hR0]
 have hv':=bH hv
 have hvp':=bH hvp
 clear hv hl hvp hR0
 go_enter Tryz.func46,Tryz.ntmps46
 go_wp2_with fail
 refine(rvalid_any _ _ hs).mono ?_
 rintro e w' ⟨rfl,rfl⟩
 rw[hv'.out,hvp'.out]
 go_wp2_with fail
 go_loopw [7,8] (fun tv i wr=> ∃(p:Nat) (acc:List Tk),p≤s.size∧acc.length≤p∧i= .int .i64 p∧Below w.heap.size w wr∧Hid (OwnK w.heap.size wr tv acc∧lxAt (s.data.toList.drop p) p acc=R)) (fun _ i _=>s.size-(intOf i).toNat)
 case atStart=>exact⟨0,[],by omega,by simp,rfl,Below.refl _ _,bH ⟨ownK_nil _ _,by rw[List.drop_zero];exact hR.out⟩⟩
 case round=>
  obtain⟨p,acc,hp,hacc,rfl,hbw,hinv⟩:=hrel
  have hws:=hbw.size
  by_cases hlt:p<s.size
  ·have hd:=bH (drop_cons s p hlt)
   by_cases hb:(s[p].toNat:Int)=32∨(s[p].toNat:Int)=9∨(s[p].toNat:Int)=10
   ·have hstep:=bH (show lxAt (s.data.toList.drop (p+1)) (p+1) acc=R by rw[← hinv.out.2,hd.out];exact(lxAt_blank (by omega)).symm)
    rcases hb with hb|hb|hb
    ·have b1:((s[p].toNat:Int)==32)=true:=by simpa using hb
     clear hb
     go_wp2_with fail
     go_roundw
     case rel=>exact⟨p+1,acc,by omega,by omega,by go_num,hbw,bH ⟨hinv.out.1,hstep.out⟩⟩
     case measure=>simp[intOf];omega
    ·have b1:((s[p].toNat:Int)==32)=false:=by simp;omega
     have b2:((s[p].toNat:Int)==9)=true:=by simpa using hb
     clear hb
     go_wp2_with fail
     go_roundw
     case rel=>exact⟨p+1,acc,by omega,by omega,by go_num,hbw,bH ⟨hinv.out.1,hstep.out⟩⟩
     case measure=>simp[intOf];omega
    ·have b1:((s[p].toNat:Int)==32)=false:=by simp;omega
     have b2:((s[p].toNat:Int)==9)=false:=by simp;omega
     have b3:((s[p].toNat:Int)==10)=true:=by simpa using hb
     clear hb
     go_wp2_with fail
     go_roundw
     case rel=>exact⟨p+1,acc,by omega,by omega,by go_num,hbw,bH ⟨hinv.out.1,hstep.out⟩⟩
     case measure=>simp[intOf];omega
   have b1:((s[p].toNat:Int)==32)=false:=by simp;omega
   have b2:((s[p].toNat:Int)==9)=false:=by simp;omega
   have b3:((s[p].toNat:Int)==10)=false:=by simp;omega
   by_cases h4:(s[p].toNat:Int)=35
   ·have b4:((s[p].toNat:Int)==35)=true:=by simpa using h4
    obtain⟨m,hm⟩ : ∃m,remF (s.data.toList.drop p)=m:=⟨_,rfl⟩
    have hm0:0<m:=by rw[← hm,hd.out,remF_yes (by omega)];omega
    have hml:p+m≤s.size:=by have:=remF_le (s.data.toList.drop p);rw[List.length_drop,len_list,hm] at this;omega
    have hstep:=bH (show lxAt (s.data.toList.drop (p+m)) (p+m) acc=R by
     rw[← hinv.out.2]
     have:=lxAt_remark (c:=s[p]) (l:=s.data.toList.drop (p+1)) (p:=p) (acc:=acc) h4
     rw[← hd.out,hm,List.drop_drop] at this
     exact this.symm)
    have hm':=bH hm
    clear hm h4 hb
    go_wp2_with fail
    clear b1 b2 b3 b4
    go_loopw [8] (fun i wr2=> ∃k:Nat,p≤k∧k≤p+m∧i= .int .i64 k∧wr2=wr∧Hid (p+m=k+remF (s.data.toList.drop k))) (fun i _=>s.size-(intOf i).toNat)
    case atStart=>exact⟨p,Nat.le_refl _,by omega,rfl,rfl,bH (by rw[hm'.out])⟩
    case round=>
     obtain⟨k,hkp,hkm,rfl,rfl,hI⟩:=hrel
     by_cases hlt2:k<s.size
     ·have hdk:=bH (drop_cons s k hlt2)
      by_cases h10:(s[k].toNat:Int)=10
      ·obtain rfl:k=p+m:=by have:=hI.out;rw[hdk.out,remF_no h10] at this;omega
       have b5:((s[p+m].toNat:Int)==10)=true:=by simpa using h10
       clear h10 hI hdk
       go_wp2_with fail
       go_roundw
       case rel=>exact⟨p+m,acc,by omega,by omega,rfl,hbw,bH ⟨hinv.out.1,hstep.out⟩⟩
       case measure=>simp[intOf];omega
      ·have b5:((s[k].toNat:Int)==10)=false:=by simpa using h10
       have hI2:=bH (show p+m=(k+1)+remF (s.data.toList.drop (k+1)) by have:=hI.out;rw[hdk.out,remF_yes h10] at this;omega)
       have hk1:k+1≤p+m:=by have:=hI2.out;omega
       clear h10 hI hdk
       go_wp2_with fail
       go_roundw
       case rel=>exact⟨k+1,by omega,hk1,by go_num,by first|rfl|trivial,hI2⟩
       case measure=>simp[intOf];omega
     ·obtain rfl:k=p+m:=by have:=hI.out;rw[drop_end s k (by omega)] at this;simp[remF] at this;omega
      clear hI
      go_wp2_with fail
      go_roundw
      case rel=>exact⟨p+m,acc,by omega,by omega,rfl,hbw,bH ⟨hinv.out.1,hstep.out⟩⟩
      case measure=>simp[intOf];omega
   ·have b4:((s[p].toNat:Int)==35)=false:=by simpa using h4
    have hne:s.data.toList.drop p≠[]:=by rw[hd.out];simp
    obtain⟨r,hr⟩ : ∃r,firstF (s.data.toList.drop p)=r:=⟨_,rfl⟩
    obtain⟨⟨kd,tx,nm,a0⟩,n,er⟩:=r
    have hsk:skipF false (s.data.toList.drop p)=0:=by rw[hd.out,skipF_cons,if_neg (by omega),if_neg (by omega),if_neg h4];rfl
    by_cases he:er=0
    ·subst he
     have hpos:=first_drop hne hr
     rw[List.length_drop,len_list] at hpos
     obtain⟨hn1,hn2⟩:=hpos
     have htk:Hid (∀W:World,Calls Tryz.prog 68 #[.string s, .int .i64 p] W fun e w'=>e= .returned (.tuple #[.agg #[.int .i64 kd, .string (bs tx), .int .i64 nm, .int .i64 p], .int .i64 ((p+n:Nat):Int), .int .i64 0])∧Below W.heap.size W w'):=bH fun W=>
      (token_any s p W hs hlt).mono fun e w' h=>by unfold RTok at h;rw[rt_ok hr] at h;exact h
     have hstep:=bH (show lxAt (s.data.toList.drop (p+n)) (p+n) (acc++[⟨kd,tx,nm,p⟩])=R by
      rw[← hinv.out.2, ← List.drop_drop];exact(lxAt_more hsk hne hr).symm)
     clear hr hne hsk h4 hb
     go_wp2_with fail
     refine(htk.out _).mono ?_
     rintro e w1 ⟨rfl,hb1⟩
     have hown1:Hid (OwnK w.heap.size w1 _ acc):=bH (ownK_below hinv.out.1 hb1)
     have hB1:Below w.heap.size w w1:=hbw.trans (hb1.mono hws)
     have hw1s:=hB1.size
     clear hb1
     go_wp2_with (at_builtin;refine op_tk rfl (.tmp 42) (.tmp 44) (w1.alloc (.cells #[.int .i64 kd, .string (bs tx), .int .i64 nm, .int .i64 p] 114)) w.heap.size (by simp;omega) _ acc ⟨kd,tx,nm,p⟩ rfl rfl (by show Value.slice (some ⟨w1.heap.size+1,0,none⟩) 1 1=_;simp) (World.ownsRow.alloc hown1.out _) (by omega) ?_;intro v' w2 hown2 hb3)
     have hB2:Below w.heap.size w w2:=(hB1.alloc hw1s _).trans hb3
     have hown2':=bH hown2
     clear hown2 hb3 hown1 hinv
     go_wp2_with fail
     go_roundw
     case rel=>exact⟨p+n,acc++[⟨kd,tx,nm,p⟩],by omega,by simp;omega,rfl,hB2,bH ⟨hown2'.out,hstep.out⟩⟩
     case measure=>simp[intOf];omega
    ·have htk:Hid (∀W:World,Calls Tryz.prog 68 #[.string s, .int .i64 p] W fun e w'=>e= .returned (.tuple #[tkV tk0, .int .i64 0, .int .i64 er])∧Below W.heap.size W w'):=bH fun W=>
      (token_any s p W hs hlt).mono fun e w' h=>by unfold RTok at h;rw[rt_bad hr he] at h;exact h
     have hfin:=bH (show R=([],(p:Int),er) by rw[← hinv.out.2];exact lxAt_err hsk hne hr he)
     have heb:(er != 0)=true:=by simpa using he
     have heb2:(er==0)=false:=by simpa using he
     clear hr hne hsk h4 hb he
     go_wp2_with fail
     refine(htk.out _).mono ?_
     rintro e w1 ⟨rfl,hb1⟩
     have hB1:Below w.heap.size w w1:=hbw.trans (hb1.mono hws)
     have hw1s:=hB1.size
     clear hb1
     unfold tkV
     go_wp2_with fail
     go_ret3
     exact rtok_bad hfin.out (bZ)
  ·have hfin:=bH (show R=(acc,0,0) by rw[← hinv.out.2,drop_end s p (by omega)];exact lxAt_nil)
   go_wp2_with fail
   go_ret3
   exact rtok_ok hfin.out hbw hinv.out.1
end Go.Proofs.YthpcbgljbpmafaaGreatDoor
