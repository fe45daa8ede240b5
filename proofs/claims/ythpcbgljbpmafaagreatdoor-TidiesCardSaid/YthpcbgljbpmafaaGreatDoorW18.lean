/- Programs: tree.May, the reference's TreeMay. -/
import Derived.Test.YthpcbgljbpmafaaGreatDoorW15
import Derived.Test.YthpcbgljbpmafaaGreatDoorW16
import Derived.Deep.RegionHeld3
set_option maxRecDepth 100000
set_option maxHeartbeats 8000000
namespace Go.Proofs.YthpcbgljbpmafaaGreatDoor
open Go.RowKit
set_option linter.unusedVariables false
set_option linter.unusedSimpArgs false
def opOk (o:Or):Bool:=nmB o.nm.data.toList && baseB o.f && baseB o.t
def opsV (os:List Or):Bool:=decide (os.length≤4) && os.all opOk
def mayV (os:List Or) (ts:List Nd):Bool:=opsV os && treeV (okNm true) ts
theorem opsV_op {os:List Or} {j:Nat} (h:j<os.length) (hn:opOk (os.getD j or0)=false):opsV os=false:=by
 have:os.all opOk=false:=by
  cases hc:os.all opOk
  ·rfl
  ·rw[List.all_eq_true] at hc
   have:=hc (os.getD j or0) (by simp[h])
   rw[this] at hn;cases hn
 unfold opsV;rw[this];simp
theorem opsV_ok {os:List Or} (h1:os.length≤4) (h:os.all opOk=true):opsV os=true:=by unfold opsV;rw[h,decide_eq_true h1];rfl
theorem opsV_len {os:List Or} (h1:4<os.length):opsV os=false:=by unfold opsV;rw[decide_eq_false (by omega)];rfl
theorem getO_mem {ts:List Or} {j:Nat} (hj:j<ts.length):ts.getD j or0∈ts:=by
 rw[List.getD_eq_getElem?_getD,List.getElem?_eq_getElem hj];exact List.getElem_mem hj
theorem isBase_any (k:Int) (w:World):Calls Tryz.prog 78 #[.int .i64 k] w fun e w'=>e= .returned (.bool (baseB k))∧w=w':=by
 go_enter Tryz.func78,Tryz.ntmps78
 go_wp2_with fail
 all_goals
  go_ret
  exact⟨ret_bb (by unfold baseB;rw[Bool.eq_iff_iff];simp;try omega),rfl⟩
theorem basic_any (k:Int) (w:World):Calls Tryz.prog 62 #[.int .i64 k] w fun e w'=>e= .returned (.bool (baseB k))∧w=w':=by
 go_enter Tryz.func62,Tryz.ntmps62
 go_wp2_with fail
 all_goals
  go_ret
  exact⟨ret_bb (by unfold baseB;rw[Bool.eq_iff_iff];simp;try omega),rfl⟩
theorem allO_take {os:List Or} {j:Nat} (h:j<os.length) (h2:(os.take j).all opOk=true):(os.take (j+1)).all opOk=opOk (os.getD j or0):=by
 rw[List.take_succ_eq_append_getElem h,List.all_append,h2]
 simp[h]
theorem opsMay_any (a:Option Addr) (n c:Nat) (os:List Or) (w:World) (h:Hid (OArg w a n os)) (hsz:Hid (∀t∈os,OrSz t)) (hl:n≤140737488351232) :
  Calls Tryz.prog 41 #[.slice a n c] w fun e w'=>e= .returned (.bool (opsV os))∧Below w.heap.size w w':=by
 have hn:=h.out.1
 by_cases h4:4<n
 ·have hv:=bH (opsV_len (os:=os) (by omega))
  have h4':(4:Int)<(n:Int):=by omega
  clear hn
  go_enter Tryz.func41,Tryz.ntmps41
  go_wp2_with fail
  go_ret
  exact⟨ret_b hv.out.symm,bZ⟩
 have h4' : ¬ (4:Int)<(n:Int):=by omega
 obtain⟨V,hV⟩ : ∃v,opsV os=v:=⟨_,rfl⟩
 rw[hV]
 have hfin:Hid (∀j,j<n→opOk (os.getD j or0)=false→V=false):=bH fun j hj h=>by rw[← hV];exact opsV_op (by omega) h
 have hok:Hid (os.all opOk=true→V=true):=bH fun h=>by rw[← hV];exact opsV_ok (by omega) h
 have hat:Hid (∀j,j<n→ ∃b off,a=some ⟨b,off,none⟩∧OrAt w b off (os.getD j or0) j∧b<w.heap.size):=bH fun j hj=>by
  rcases h.out.2 with rfl|⟨b,off,h1,h2,h3⟩
  ·simp at hn;omega
  ·exact⟨b,off,h1,h2 j (by omega),h3⟩
 have hn':=bH hn
 clear hV hn
 go_enter Tryz.func41,Tryz.ntmps41
 go_wp2_with fail
 go_loopw [3] (fun i wr=> ∃j:Nat,j≤n∧i= .int .i64 j∧Below w.heap.size w wr∧Hid ((os.take j).all opOk=true)) (fun i _=>n-(intOf i).toNat)
 case atStart=>exact⟨0,by omega,rfl,bZ,bH rfl⟩
 case round=>
  obtain⟨j,hj,rfl,hbw,hall⟩:=hrel
  by_cases hlt:j<n
  ·obtain⟨b,off,rfl,hA,hbs⟩:=hat.out j hlt
   have hT:=hA.below hbw hbs
   have htk:=bH (allO_take (os:=os) (by rw[← hn'.out];exact hlt) hall.out)
   have hfj:=bH (hfin.out j hlt)
   have hsj:=bH (hsz.out _ (getO_mem (ts:=os) (j:=j) (by rw[← hn'.out];exact hlt)))
   generalize os.getD j or0=o at hT htk hfj hsj
   have kN:=bH fun (W:World)=>nameMay_any o.nm W hsj.out
   have hop:Hid (opOk o=(nmB o.nm.data.toList && baseB o.f && baseB o.t)):=bH rfl
   have k1:=bH fun (W:World)=>basic_any o.f W
   have k2:=bH fun (W:World)=>basic_any o.t W
   generalize nmB o.nm.data.toList=b0 at kN hop
   generalize baseB o.f=b1 at k1 hop
   generalize baseB o.t=b2 at k2 hop
   obtain⟨e0,e1,e2⟩:=hT
   have hbr:b<wr.heap.size:=by have:=hbw.size;omega
   have hlt':(j:Int)<(n:Int):=by omega
   have hj0:(0:Int)≤(j:Int):=by omega
   go_wp2_with fail
   refine(kN.out _).mono ?_
   rintro e w1 ⟨rfl,hb1⟩
   have hbw1:=bH (belT hbw hb1)
   have d1:=carry hb1 hbr e1
   have d2:=carry hb1 hbr e2
   clear hb1 e0 e1 e2
   cases b0
   ·have hf:=bH (hfj.out (by rw[hop.out];rfl))
    go_wp2_with fail
    go_ret
    exact⟨ret_b hf.out.symm,hbw1.out⟩
   go_wp2_with fail
   refine(k1.out _).mono ?_
   rintro e w2 ⟨rfl,rfl⟩
   cases b1
   ·have hf:=bH (hfj.out (by rw[hop.out];rfl))
    go_wp2_with fail
    go_ret
    exact⟨ret_b hf.out.symm,hbw1.out⟩
   go_wp2_with fail
   refine(k2.out _).mono ?_
   rintro e w2 ⟨rfl,rfl⟩
   cases b2
   ·have hf:=bH (hfj.out (by rw[hop.out];rfl))
    go_wp2_with fail
    go_ret
    exact⟨ret_b hf.out.symm,hbw1.out⟩
   go_wp2_with fail
   go_round
   case rel=>exact⟨j+1,by omega,by go_num,hbw1.out,bH (by rw[htk.out,hop.out];rfl)⟩
   case measure=>simp[intOf];omega
  ·have hv:=bH (hok.out (by have:=hall.out;rwa [List.take_of_length_le (by have:=hn'.out;omega)] at this))
   have hjn : ¬ (j:Int)<(n:Int):=by omega
   go_wp2_with fail
   go_ret
   exact⟨ret_b hv.out.symm,hbw⟩
theorem rMay_any (a a2:Option Addr) (n c n2 c2:Nat) (os:List Or) (ts:List Nd) (w:World) (h:Hid (OArg w a n os)) (hsz:Hid (∀t∈os,OrSz t)) (hl:n≤140737488351232) (h2:Hid (NArg w a2 n2 ts)) (hsz2:Hid (∀t∈ts,NdSz t)) (hl2:n2≤140737488351232) :
  Calls Tryz.prog 54 #[.agg #[.slice a n c, .slice a2 n2 c2]] w fun e w'=>e= .returned (.bool (mayV os ts))∧Below w.heap.size w w':=by
 have k1:=bH fun (W:World) (hW:Hid (OArg W a n os))=>opsMay_any a n c os W hW hsz hl
 have k2:=bH fun (W:World) (hW:Hid (NArg W a2 n2 ts))=>shaped_any true a2 n2 c2 ts W hW hsz2 hl2
 unfold mayV
 generalize opsV os=b1 at k1 ⊢
 generalize treeV (okNm true) ts=b2 at k2 ⊢
 go_enter Tryz.func54,Tryz.ntmps54
 go_wp2_with fail
 refine(k1.out _ (bH (h.out.below (bZ)))).mono ?_
 rintro e w1 ⟨rfl,hb1⟩
 have hB1:=bH (belT (show Below w.heap.size w _ from bZ) hb1)
 have q1:w1.cell? ⟨w.heap.size,1,none⟩=some (.slice a2 n2 c2):=carry hb1 (by simp) (by simp)
 clear hb1
 cases b1
 ·go_wp2_with fail
  go_ret
  exact⟨rfl,hB1.out⟩
 ·go_wp2_with fail
  refine(k2.out _ (bH (h2.out.below hB1.out))).mono ?_
  rintro e w2 ⟨rfl,hb2⟩
  have hB2:=bH (belT hB1.out hb2)
  clear hb2
  go_wp2_with fail
  go_ret
  exact⟨ret_b (by simp),hB2.out⟩
theorem tMay_any (a a2:Option Addr) (n c n2 c2:Nat) (os:List Or) (ts:List Nd) (w:World) (h:Hid (OArg w a n os)) (hsz:Hid (∀t∈os,OrSz t)) (hl:n≤140737488351232) (h2:Hid (NArg w a2 n2 ts)) (hsz2:Hid (∀t∈ts,NdSz t)) (hl2:n2≤140737488351232) (hg:Hid (errTy w)) :
  Calls Tryz.prog 56 #[.agg #[.slice a n c, .slice a2 n2 c2]] w fun e w'=>e= .returned (.bool (mayV os ts))∧Below w.heap.size w w':=by
 have hn:=h.out.1
 have k2:=bH fun (W:World) (hW:Hid (NArg W a2 n2 ts)) (hg:Hid (errTy W))=>isTreeN_any a2 n2 c2 ts W hW hsz2 hl2 hg
 by_cases h4:4<n
 ·have hv:Hid (mayV os ts=false):=bH (by unfold mayV;rw[opsV_len (by omega)];rfl)
  have h4':(4:Int)<(n:Int):=by omega
  clear hn
  go_enter Tryz.func56,Tryz.ntmps56
  go_wp2_with fail
  go_ret
  exact⟨ret_b hv.out.symm,bZ⟩
 have h4' : ¬ (4:Int)<(n:Int):=by omega
 cases hb:treeV (okNm true) ts
 ·have hv:Hid (mayV os ts=false):=bH (by unfold mayV;rw[hb,Bool.and_false])
  rw[hb] at k2
  clear hn hb
  go_enter Tryz.func56,Tryz.ntmps56
  go_wp2_with fail
  refine(k2.out _ (bH (h2.out.below (bZ))) (bH (errTy_below hg.out (bZ)))).mono ?_
  rintro e w1 ⟨rfl,hb1⟩
  have hB1:=bH (belT (show Below w.heap.size w _ from bZ) hb1)
  clear hb1
  go_wp2_with fail
  go_ret
  exact⟨ret_b hv.out.symm,hB1.out⟩
 obtain⟨V,hV⟩ : ∃v,mayV os ts=v:=⟨_,rfl⟩
 have hV2:opsV os=V:=by rw[← hV];unfold mayV;rw[hb,Bool.and_true]
 rw[hV]
 rw[hb] at k2
 have hfin:Hid (∀j,j<n→opOk (os.getD j or0)=false→V=false):=bH fun j hj h=>by rw[← hV2];exact opsV_op (by omega) h
 have hok:Hid (os.all opOk=true→V=true):=bH fun h=>by rw[← hV2];exact opsV_ok (by omega) h
 have hat:Hid (∀j,j<n→ ∃b off,a=some ⟨b,off,none⟩∧OrAt w b off (os.getD j or0) j∧b<w.heap.size):=bH fun j hj=>by
  rcases h.out.2 with rfl|⟨b,off,h1,h2,h3⟩
  ·simp at hn;omega
  ·exact⟨b,off,h1,h2 j (by omega),h3⟩
 have hn':=bH hn
 have h0l:=hgl hg.out
 clear hV hn hV2 hb
 go_enter Tryz.func56,Tryz.ntmps56
 go_wp2_with fail
 refine(k2.out _ (bH (h2.out.below (bZ))) (bH (errTy_below hg.out (bZ)))).mono ?_
 rintro e w1 ⟨rfl,hb1⟩
 have hB1:=bH (belT (show Below w.heap.size w _ from bZ) hb1)
 have q0:w1.cell? ⟨w.heap.size,0,none⟩=some (.slice a n c):=carry hb1 (by simp) (by simp)
 clear hb1
 go_wp2_with fail
 go_loopw [18] (fun i wr=> ∃j:Nat,j≤n∧i= .int .i64 j∧Below w.heap.size w wr∧Hid ((os.take j).all opOk=true)) (fun i _=>n-(intOf i).toNat)
 case atStart=>exact⟨0,by omega,rfl,hB1.out,bH rfl⟩
 case round=>
  obtain⟨j,hj,rfl,hbw,hall⟩:=hrel
  have hws:=hbw.size
  by_cases hlt:j<n
  ·obtain⟨b,off,rfl,hA,hbs⟩:=hat.out j hlt
   have hT:=hA.below hbw hbs
   have htk:=bH (allO_take (os:=os) (by rw[← hn'.out];exact hlt) hall.out)
   have hfj:=bH (hfin.out j hlt)
   have hsj:=bH (hsz.out _ (getO_mem (ts:=os) (j:=j) (by rw[← hn'.out];exact hlt)))
   generalize os.getD j or0=o at hT htk hfj hsj
   have kN:=bH fun (W:World) (h:errTy W)=>isName_any o.nm W hsj.out h
   have hop:Hid (opOk o=(nmB o.nm.data.toList && baseB o.f && baseB o.t)):=bH rfl
   have k1:=bH fun (W:World)=>isBase_any o.f W
   have k3:=bH fun (W:World)=>isBase_any o.t W
   generalize nmB o.nm.data.toList=b0 at kN hop
   generalize baseB o.f=b1 at k1 hop
   generalize baseB o.t=b2 at k3 hop
   obtain⟨e0,e1,e2⟩:=hT
   have hbr:b<wr.heap.size:=by omega
   have hlt':(j:Int)<(n:Int):=by omega
   have hj0:(0:Int)≤(j:Int):=by omega
   have hgr:=bH (errTy_below hg.out hbw)
   go_wp2_with fail
   refine(kN.out _ (errTy_below hgr.out (bZ))).mono ?_
   rintro e w2 ⟨rfl,hb2⟩
   have hbw1:=bH (belT (show Below w.heap.size w _ from bZ) hb2)
   have d1:w2.cell? ⟨wr.heap.size,1,none⟩=some (.int .i64 o.f):=carry hb2 (by simp) (by simp)
   have d2:w2.cell? ⟨wr.heap.size,2,none⟩=some (.int .i64 o.t):=carry hb2 (by simp) (by simp)
   clear hb2 e0 e1 e2
   cases b0
   ·have hf:=bH (hfj.out (by rw[hop.out];rfl))
    go_wp2_with fail
    go_ret
    exact⟨ret_b hf.out.symm,hbw1.out⟩
   go_wp2_with fail
   refine(k1.out _).mono ?_
   rintro e w3 ⟨rfl,rfl⟩
   cases b1
   ·have hf:=bH (hfj.out (by rw[hop.out];rfl))
    go_wp2_with fail
    go_ret
    exact⟨ret_b hf.out.symm,hbw1.out⟩
   go_wp2_with fail
   refine(k3.out _).mono ?_
   rintro e w3 ⟨rfl,rfl⟩
   cases b2
   ·have hf:=bH (hfj.out (by rw[hop.out];rfl))
    go_wp2_with fail
    go_ret
    exact⟨ret_b hf.out.symm,hbw1.out⟩
   go_wp2_with fail
   go_round
   case rel=>exact⟨j+1,by omega,by go_num,hbw1.out,bH (by rw[htk.out,hop.out];rfl)⟩
   case measure=>simp[intOf];omega
  ·have hv:=bH (hok.out (by have:=hall.out;rwa [List.take_of_length_le (by have:=hn'.out;omega)] at this))
   have hjn : ¬ (j:Int)<(n:Int):=by omega
   go_wp2_with fail
   go_ret
   exact⟨ret_b hv.out.symm,hbw⟩
open Go.RowKit
theorem allR_self {f:Nd→Nd→Bool} (hf : ∀t,f t t=true) (l:List Nd) (n:Nat):allR f l l n=true:=by
 unfold allR;rw[List.all_eq_true];intro j _;exact hf _
theorem sameV_self {f:Nd→Nd→Bool} (hf : ∀t,f t t=true) (l:List Nd):sameV f l l=true:=by
 unfold sameV;rw[allR_self hf,decide_eq_true rfl];rfl
theorem ndE_self (t:Nd):ndE t t=true:=by unfold ndE ndQ;simp
theorem sameVO_self (l:List Or):sameVO orE l l=true:=by
 unfold sameVO allRO
 rw[decide_eq_true rfl,Bool.true_and,List.all_eq_true]
 intro j _;unfold orE orQ;simp
theorem mkE:ndQ 0 0 0 0 0 ⟨#[]⟩ ⟨#[]⟩ ⟨#[]⟩ ⟨#[]⟩ 77777 0 0 0 0 0 ⟨#[]⟩ ⟨#[]⟩ ⟨#[]⟩ ⟨#[]⟩ 77777=true:=by unfold ndQ;simp
theorem mkO:orQ ⟨#[]⟩ 0 77777 ⟨#[]⟩ 0 77777=true:=by unfold orQ;simp
theorem keptNodes_any {B:Nat} (g n c:Nat) (a:Option Addr) (c2:Nat) (l:List Nd) (w:World) (h:Hid (OwnN.Lent B w g n c l)) (h2:Hid (NArg w a n l)) (hl:n≤14073748835123) :
  Calls Tryz.prog 30 #[.slice (some ⟨g,0,none⟩) n c, .slice a n c2] w fun e w'=>e= .returned (.bool true)∧Below w.heap.size w w':=by
 have k1:=bH fun (W:World) (h1:Hid (NArg W (some ⟨g,0,none⟩) n l)) (h2:Hid (NArg W a n l))=>sameNodes_any (some ⟨g,0,none⟩) a n n c c2 l l W h1 h2 (by omega)
 rw[sameV_self ndE_self] at k1
 have hnc:=h.out.2.1
 have hto:=fun (W:World)=>nd_to (some ⟨g,0,none⟩) n c (n+2) hnc W
 rw[show ((n+2:Nat):Int)=(n:Int)+2 from rfl] at hto
 go_enter Tryz.func30,Tryz.ntmps30
 go_wp2_with fail
 (try rw[hto];go_wp2_with fail)
 clear hto
 refine(k1.out _ (bH h.out.arg) h2).mono ?_
 rintro e w1 ⟨rfl,hb1⟩
 have hB1:=bH hb1
 obtain⟨hm1,hm2,hgs⟩:=(h.out.below hb1).marks
 obtain⟨e0,e1,e2,e3,e4,e5,e6,e7,e8,e9⟩:=hm1
 obtain⟨d0,d1,d2,d3,d4,d5,d6,d7,d8,d9⟩:=hm2
 simp only[ndMk,Nat.zero_add] at e0 e1 e2 e3 e4 e5 e6 e7 e8 e9 d0 d1 d2 d3 d4 d5 d6 d7 d8 d9
 clear hb1
 have hndq:=fun x0 x1 x2 x3 x4 x5 x6 x7 x8 x9 y0 y1 y2 y3 y4 y5 y6 y7 y8 y9 W=>nd_in x0 x1 x2 x3 x4 x5 x6 x7 x8 x9 y0 y1 y2 y3 y4 y5 y6 y7 y8 y9 W
 have hq:=mkE
 have hn0:(0:Int)≤(n:Int):=by omega
 have hn1:(n:Int)<((n+2:Nat):Int):=by omega
 have hn2:(n:Int)+1<((n+2:Nat):Int):=by omega
 have hn3:n<n+2:=by omega
 have hn4:n+1<n+2:=by omega
 go_wp2_with fail
 go_ret
 exact⟨rfl,hB1.out⟩
theorem keptOps_any {B:Nat} (g n c:Nat) (a:Option Addr) (c2:Nat) (l:List Or) (w:World) (h:Hid (OwnO.Lent B w g n c l)) (h2:Hid (OArg w a n l)) (hl:n≤14073748835123) :
  Calls Tryz.prog 29 #[.slice (some ⟨g,0,none⟩) n c, .slice a n c2] w fun e w'=>e= .returned (.bool true)∧Below w.heap.size w w':=by
 have k1:=bH fun (W:World) (h1:Hid (OArg W (some ⟨g,0,none⟩) n l)) (h2:Hid (OArg W a n l))=>sameOps_any (some ⟨g,0,none⟩) a n n c c2 l l W h1 h2 (by omega)
 rw[sameVO_self] at k1
 have hnc:=h.out.2.1
 have hto:=fun (W:World)=>or_to (some ⟨g,0,none⟩) n c (n+2) hnc W
 rw[show ((n+2:Nat):Int)=(n:Int)+2 from rfl] at hto
 go_enter Tryz.func29,Tryz.ntmps29
 go_wp2_with fail
 (try rw[hto];go_wp2_with fail)
 clear hto
 refine(k1.out _ (bH h.out.arg) h2).mono ?_
 rintro e w1 ⟨rfl,hb1⟩
 have hB1:=bH hb1
 obtain⟨hm1,hm2,hgs⟩:=(h.out.below hb1).marks
 obtain⟨e0,e1,e2⟩:=hm1
 obtain⟨d0,d1,d2⟩:=hm2
 simp only[orMk,Nat.zero_add] at e0 e1 e2 d0 d1 d2
 clear hb1
 have hndq:=fun x0 x1 x2 y0 y1 y2 W=>or_in x0 x1 x2 y0 y1 y2 W
 have hq:=mkO
 have hn0:(0:Int)≤(n:Int):=by omega
 have hn1:(n:Int)<((n+2:Nat):Int):=by omega
 have hn2:(n:Int)+1<((n+2:Nat):Int):=by omega
 have hn3:n<n+2:=by omega
 have hn4:n+1<n+2:=by omega
 go_wp2_with fail
 go_ret
 exact⟨rfl,hB1.out⟩
theorem keptProgram_any {B B':Nat} (g n c g' n' c':Nat) (a a':Option Addr) (c2 c2':Nat) (os:List Or) (ts:List Nd) (w:World) (h1:Hid (OwnO.Lent B w g n c os)) (h2:Hid (OArg w a n os)) (h3:Hid (OwnN.Lent B' w g' n' c' ts)) (h4:Hid (NArg w a' n' ts)) (hl:n≤14073748835123) (hl':n'≤14073748835123) :
  Calls Tryz.prog 13 #[.agg #[.slice (some ⟨g,0,none⟩) n c, .slice (some ⟨g',0,none⟩) n' c'], .agg #[.slice a n c2, .slice a' n' c2']] w fun e w'=>e= .returned (.bool true)∧Below w.heap.size w w':=by
 have k1:=bH fun (W:World) (h1:Hid (OwnO.Lent B W g n c os)) (h2:Hid (OArg W a n os))=>keptOps_any g n c a c2 os W h1 h2 hl
 have k2:=bH fun (W:World) (h1:Hid (OwnN.Lent B' W g' n' c' ts)) (h2:Hid (NArg W a' n' ts))=>keptNodes_any g' n' c' a' c2' ts W h1 h2 hl'
 go_enter Tryz.func13,Tryz.ntmps13
 go_wp2_with fail
 refine(k1.out _ (bH (h1.out.below (bZ))) (bH (h2.out.below (bZ)))).mono ?_
 rintro e w1 ⟨rfl,hb1⟩
 have hB1:=bH (belT (show Below w.heap.size w _ from bZ) hb1)
 have q1:w1.cell? ⟨w.heap.size,1,none⟩=some (.slice (some ⟨g',0,none⟩) n' c'):=carry hb1 (by first|(simp;done)|(simp;omega)) (by simp)
 have q2:w1.cell? ⟨w.heap.size+1,1,none⟩=some (.slice a' n' c2'):=carry hb1 (by first|(simp;done)|(simp;omega)) (by simp)
 clear hb1
 go_wp2_with fail
 refine(k2.out _ (bH (h3.out.below hB1.out)) (bH (h4.out.below hB1.out))).mono ?_
 rintro e w2 ⟨rfl,hb2⟩
 have hB2:=bH (belT hB1.out hb2)
 clear hb2
 go_wp2_with fail
 go_ret
 exact⟨rfl,hB2.out⟩
theorem spoilN_sl (g cp:Nat) (l:List Nd) (w:World) (h:Hid (NdSl w g 0 l)) (hf:Hid (∀o,w.frozen? ⟨g,o,none⟩=false)) (hl:l.length≤1099511627776) :
  Calls Tryz.prog 28 #[.slice (some ⟨g,0,none⟩) l.length cp] w fun e w'=>e= .returned (.tuple #[])∧Below g w w'∧Only g w w':=by
 go_enter Tryz.func28,Tryz.ntmps28
 go_wp2_with fail
 go_loopw [2] (fun i wr=> ∃j:Nat,j≤l.length∧i= .int .i64 j∧Hid (Below g w wr∧Only g w wr∧ ∀k,j≤k→k<l.length→wr.cell? ⟨g,k*10+9,none⟩=some (.int .i64 (l.getD k nd0).p))) (fun i _=>l.length-(intOf i).toNat)
 case atStart=>exact⟨0,by omega,rfl,bH ⟨Below.refl _ _,Only.refl _ _,fun k _ hk=>by have:=(h.out k hk).2.2.2.2.2.2.2.2.2;simpa using this⟩⟩
 case round=>
  obtain⟨j,hj,rfl,hI⟩:=hrel
  by_cases hlt:j<l.length
  ·have hc:=hI.out.2.2 j (Nat.le_refl _) hlt
   have hz:wr.frozen? ⟨g,j*10+9,none⟩=false:=by rw[hI.out.2.1.2.2];exact hf.out _
   generalize (l.getD j nd0).p=t at hc
   have hlt':(j:Int)<(l.length:Int):=by omega
   have hj0:(0:Int)≤(j:Int):=by omega
   go_wp2_with fail
   go_roundw
   case rel=>
    refine⟨j+1,by omega,by go_num,bH ⟨hI.out.1.setCell (Nat.le_refl _) _,hI.out.2.1.set _,fun k hk hk2=> ?_⟩⟩
    rw[World.cell?_setCell_other _ _ _ _ (by intro e;injection e with _ e2;simp at e2;omega)]
    exact hI.out.2.2 k (by omega) hk2
   case measure=>simp[intOf];omega
  ·go_wp2_with fail
   go_end0
   exact⟨rfl,hI.out.1,hI.out.2.1⟩
end Go.Proofs.YthpcbgljbpmafaaGreatDoor
