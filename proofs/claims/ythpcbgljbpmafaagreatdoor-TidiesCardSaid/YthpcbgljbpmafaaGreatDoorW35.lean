/- The reference's tidier: folded, a prim of two numbers. -/
import Derived.Test.YthpcbgljbpmafaaGreatDoorW21
import Derived.Test.YthpcbgljbpmafaaGreatDoorW22
import Derived.Test.YthpcbgljbpmafaaGreatDoorW30
import Derived.Test.YthpcbgljbpmafaaGreatDoorW33
import Derived.Deep.DeepCutAuto
set_option maxRecDepth 100000
set_option maxHeartbeats 8000000
namespace Go.Proofs.YthpcbgljbpmafaaGreatDoor
open Go.RowKit
set_option linter.unusedVariables false
set_option linter.unusedSimpArgs false
section
variable {P : Program} {ops : Array Oper} {Q : Exit → Act → World → Prop} {md : Region.Mode} {S : World → Prop}
theorem rg_twoF (i j:Nat) {o p:Oper} {fuel:Nat} {listed:Array Bool} {a:Act} {w:World} (hi:ops[i]? = some o) (hj:ops[j]? = some p) (hr:Region.ready md ops listed=[i,j]) (hw:Region.wanted o (yielded ops a.tmps)=true) (hw':Region.wanted p (yielded ops a.tmps)=true)
  (h : ∀K':Act→World→Prop,Shut (∀a w,S w→(S w→wpAnyH P md ops Q S fuel (listed.setIfInBounds i true) a w)→K' a w)→Oper.wp P o a w K' Q)
  (h' : ∀K':Act→World→Prop,Shut (∀a w,S w→(S w→wpAnyH P md ops Q S fuel (listed.setIfInBounds j true) a w)→K' a w)→Oper.wp P p a w K' Q):wpAnyH P md ops Q S (fuel+1) listed a w:=by
 refine wpAnyH_ready hr (by simp) (AllReadyH.cons hi (fun K hK=> ?_) (AllReadyH.cons hj (fun K hK=> ?_) AllReadyH.nil))
 ·rw[if_pos hw];exact h K hK
 ·rw[if_pos hw'];exact h' K hK
end
def FoM (B G:Nat) (sv:Value) (ts:List Nd) (w:World) (mv:Value) (m:List Nd) (f:Nat) (K:Option Nd) (e:Ending) (w':World):Prop:=
 (K=none∧e= .returned (.bool false)∧ ∃mv',TdW B G sv ts w' mv' m∧Stp G w mv w' mv')∨(∃v,K=some v∧e= .returned (.bool true)∧ ∃mv',TdW B G sv ts w' mv' (m.take f++[v])∧Stp G w mv w' mv')
theorem rprV_ex (x:Int × Int) : ∃k1 n1 ft,rprV x= .tuple #[r17V k1 n1, .int .i64 ft]:=by
 unfold rprV
 split
 ·exact⟨_,_,_,rfl⟩
 ·exact⟨_,_,_,rfl⟩
theorem rfold_c (B G:Nat) (sv:Value) (ts:List Nd) (w:World) (mv:Value) (m:List Nd) (f:Nat) (k a b c n:Int) (nm u y z:ByteArray) (at_:Int) (h:Hid (TdW B G sv ts w mv m)) (hf:m.length=f+2) (hk1:(m.getD f nd0).k=1) (hk2:(m.getD (f+1) nd0).k=1) (hi:Hid (IntOk m)) (hn:0≤n∧n≤5) (K:Option Nd) (hK:Hid (knownV ⟨k,a,b,c,n,nm,u,y,z,at_⟩ (m.getD f nd0) (m.getD (f+1) nd0)=K)) :
  Calls Tryz.prog 45 #[.pointer (some ⟨G,0,none⟩), .int .i64 f, .agg #[.int .i64 k, .int .i64 a, .int .i64 b, .int .i64 c, .int .i64 n, .string nm, .string u, .string y, .string z, .int .i64 at_]] w (FoM B G sv ts w mv m f K):=by
 obtain⟨k1,n1,ft,hR⟩:=rprV_ex (prmV n (m.getD f nd0).n (m.getD (f+1) nd0).n)
 have hD:=rfold_kv (x:=⟨k,a,b,c,n,nm,u,y,z,at_⟩) hk1 hk2 hR
 rw[hK.out] at hD
 have hD:=bH hD
 have hP:=hi.out _ (Tre.mem (i:=f) (by omega)) hk1
 have hQ:=hi.out _ (Tre.mem (i:=f+1) (by omega)) hk2
 obtain⟨g,cc,rfl,hBg,hgs,hcc,hS,hGl,hfl⟩:=fold_at h.out hf
 obtain⟨t0,_,_,_,t4,_⟩:=hS f (by omega)
 obtain⟨s0,_,_,_,s4,_⟩:=hS (f+1) (by omega)
 simp only[Nat.zero_add] at t0 s0 t4 s4
 rw[hk1] at t0
 rw[hk2] at s0
 obtain⟨na,hna⟩ : ∃r,(m.getD f nd0).n=r:=⟨_,rfl⟩
 obtain⟨nb,hnb⟩ : ∃r,(m.getD (f+1) nd0).n=r:=⟨_,rfl⟩
 rw[hna] at t4 hP
 rw[hnb] at s4 hQ
 rw[hna,hnb] at hR
 have kP:=bH fun (W:World)=>rprim_any n na nb W hn hP hQ
 rw[hR,show r17V k1 n1= .agg #[.int .i64 k1, .int .i64 n1, .int .i64 0, .pointer none, .slice none 0 0, .pointer none, .pointer none] from rfl] at kP
 have hcm:=h.out.cm
 have hf0:(0:Int)≤(f:Int):=by omega
 have hf6:(f:Int)≤598:=by omega
 have hw1:IntKind.i64.wrap ((f:Int)+1)=((f+1:Nat):Int):=by rw[IntWalk.i64_in _ (by omega)];omega
 have hfh:=bH hf
 clear hS hf hR hna hnb hP hQ hk1 hk2
 go_enter Tryz.func45,Tryz.ntmps45
 go_upto_region 3 with fail
 obtain⟨W0,hW0⟩ : ∃W,w.alloc (.cells #[.int .i64 k, .int .i64 a, .int .i64 b, .int .i64 c, .int .i64 n, .string nm, .string u, .string y, .string z, .int .i64 at_] 45)=W:=⟨_,rfl⟩
 obtain⟨⟨y0,y1,y2,y3,y4,y5,y6,y7,y8,y9⟩,hb0,hs0⟩:=nd_box w W0 ⟨k,a,b,c,n,nm,u,y,z,at_⟩ hW0
 simp only at y4
 rw[hW0]
 have hcm:W0.cell? _=_:=carry hb0 hGl hcm
 have t4:W0.cell? _=_:=carry hb0 hgs t4
 have s4:W0.cell? _=_:=carry hb0 hgs s4
 have hGW:G<W0.heap.size:=by omega
 have hgW:g<W0.heap.size:=by omega
 have hbx:w.heap.size<W0.heap.size:=hs0
 have hT0:=bH (h.out.below hb0)
 have hb0h:=bH hb0
 have y9h:=bH y9
 clear hW0 t0 s0 y0 y1 y2 y3 y5 y6 y7 y8 y9
 go_cut [7,8] (fun s7 s8 W=> ∃g7:Nat,s7= .pointer (some ⟨g7,0,none⟩)∧s8= .int .i64 ft∧W.cell? ⟨g7,0,none⟩=some (.int .i64 k1)∧W.cell? ⟨g7,1,none⟩=some (.int .i64 n1)∧g7<W.heap.size∧Below W0.heap.size W0 W)
 case first=>
  refine wp_region_held_drew (S:=fun W=>Below W0.heap.size W0 W) (by kernel_rfl) ((Below.refl _ _).drew) (fun hHeld=> ?_)
  refine rg_take 0 (some 42) (v:= ?v1) rfl rfl (by kernel_rfl) (by kernel_rfl) (by kernel_rfl) (fun _ _ _ h=>h) (by rfl) ?hy1 (by assumption) ?_
  case hy1=>intro W hSW;(try dsimp only at hSW);have z0:=carry hSW hbx y4;have z1:=carry hSW hGW hcm;have z2:=carry hSW hgW t4;have z3:=carry hSW hgW s4;have z4:=Nat.lt_of_lt_of_le hbx hSW.size;have z5:=Nat.lt_of_lt_of_le hGW hSW.size;have z6:=Nat.lt_of_lt_of_le hgW hSW.size;go_simp;(try with_reducible rfl)
  try simp only[Act.put,List.setIfInBounds_toArray,List.set_cons_zero,List.set_cons_succ]
  refine rg_take 1 (some 43) (v:= ?v2) rfl rfl (by kernel_rfl) (by kernel_rfl) (by kernel_rfl) (fun _ _ _ h=>h) (by rfl) ?hy2 (by assumption) ?_
  case hy2=>intro W hSW;(try dsimp only at hSW);have z0:=carry hSW hbx y4;have z1:=carry hSW hGW hcm;have z2:=carry hSW hgW t4;have z3:=carry hSW hgW s4;have z4:=Nat.lt_of_lt_of_le hbx hSW.size;have z5:=Nat.lt_of_lt_of_le hGW hSW.size;have z6:=Nat.lt_of_lt_of_le hgW hSW.size;go_simp;(try with_reducible rfl)
  try simp only[Act.put,List.setIfInBounds_toArray,List.set_cons_zero,List.set_cons_succ]
  refine rg_take 2 (some 44) (v:= ?v3) rfl rfl (by kernel_rfl) (by kernel_rfl) (by kernel_rfl) (fun _ _ _ h=>h) (by rfl) ?hy3 (by assumption) ?_
  case hy3=>intro W hSW;(try dsimp only at hSW);have z0:=carry hSW hbx y4;have z1:=carry hSW hGW hcm;have z2:=carry hSW hgW t4;have z3:=carry hSW hgW s4;have z4:=Nat.lt_of_lt_of_le hbx hSW.size;have z5:=Nat.lt_of_lt_of_le hGW hSW.size;have z6:=Nat.lt_of_lt_of_le hgW hSW.size;go_simp;(try with_reducible rfl)
  try simp only[Act.put,List.setIfInBounds_toArray,List.set_cons_zero,List.set_cons_succ]
  refine rg_take 3 (some 45) (v:= ?v4) rfl rfl (by kernel_rfl) (by kernel_rfl) (by kernel_rfl) (fun _ _ _ h=>h) (by rfl) ?hy4 (by assumption) ?_
  case hy4=>intro W hSW;(try dsimp only at hSW);have z0:=carry hSW hbx y4;have z1:=carry hSW hGW hcm;have z2:=carry hSW hgW t4;have z3:=carry hSW hgW s4;have z4:=Nat.lt_of_lt_of_le hbx hSW.size;have z5:=Nat.lt_of_lt_of_le hGW hSW.size;have z6:=Nat.lt_of_lt_of_le hgW hSW.size;go_simp;(try with_reducible rfl)
  try simp only[Act.put,List.setIfInBounds_toArray,List.set_cons_zero,List.set_cons_succ]
  refine rg_take 4 (some 46) (v:= ?v5) rfl rfl (by kernel_rfl) (by kernel_rfl) (by kernel_rfl) (fun _ _ _ h=>h) (by rfl) ?hy5 (by assumption) ?_
  case hy5=>intro W hSW;(try dsimp only at hSW);have z0:=carry hSW hbx y4;have z1:=carry hSW hGW hcm;have z2:=carry hSW hgW t4;have z3:=carry hSW hgW s4;have z4:=Nat.lt_of_lt_of_le hbx hSW.size;have z5:=Nat.lt_of_lt_of_le hGW hSW.size;have z6:=Nat.lt_of_lt_of_le hgW hSW.size;go_simp;(try with_reducible rfl)
  try simp only[Act.put,List.setIfInBounds_toArray,List.set_cons_zero,List.set_cons_succ]
  refine rg_take 5 (some 47) (v:= ?v6) rfl rfl (by kernel_rfl) (by kernel_rfl) (by kernel_rfl) (fun _ _ _ h=>h) (by rfl) ?hy6 (by assumption) ?_
  case hy6=>intro W hSW;(try dsimp only at hSW);have z0:=carry hSW hbx y4;have z1:=carry hSW hGW hcm;have z2:=carry hSW hgW t4;have z3:=carry hSW hgW s4;have z4:=Nat.lt_of_lt_of_le hbx hSW.size;have z5:=Nat.lt_of_lt_of_le hGW hSW.size;have z6:=Nat.lt_of_lt_of_le hgW hSW.size;go_simp;(try with_reducible rfl)
  try simp only[Act.put,List.setIfInBounds_toArray,List.set_cons_zero,List.set_cons_succ]
  refine rg_take 6 (some 48) (v:= ?v7) rfl rfl (by kernel_rfl) (by kernel_rfl) (by kernel_rfl) (fun _ _ _ h=>h) (by rfl) ?hy7 (by assumption) ?_
  case hy7=>intro W hSW;(try dsimp only at hSW);have z0:=carry hSW hbx y4;have z1:=carry hSW hGW hcm;have z2:=carry hSW hgW t4;have z3:=carry hSW hgW s4;have z4:=Nat.lt_of_lt_of_le hbx hSW.size;have z5:=Nat.lt_of_lt_of_le hGW hSW.size;have z6:=Nat.lt_of_lt_of_le hgW hSW.size;go_simp;(try with_reducible rfl)
  try simp only[Act.put,List.setIfInBounds_toArray,List.set_cons_zero,List.set_cons_succ]
  refine rg_take 7 (some 49) (v:= ?v8) rfl rfl (by kernel_rfl) (by kernel_rfl) (by kernel_rfl) (fun _ _ _ h=>h) (by rfl) ?hy8 (by assumption) ?_
  case hy8=>intro W hSW;(try dsimp only at hSW);have z0:=carry hSW hbx y4;have z1:=carry hSW hGW hcm;have z2:=carry hSW hgW t4;have z3:=carry hSW hgW s4;have z4:=Nat.lt_of_lt_of_le hbx hSW.size;have z5:=Nat.lt_of_lt_of_le hGW hSW.size;have z6:=Nat.lt_of_lt_of_le hgW hSW.size;go_simp;rw[if_pos (by omega)]
  try simp only[Act.put,List.setIfInBounds_toArray,List.set_cons_zero,List.set_cons_succ]
  refine rg_take 8 (some 50) (v:= ?v9) rfl rfl (by kernel_rfl) (by kernel_rfl) (by kernel_rfl) (fun _ _ _ h=>h) (by rfl) ?hy9 (by assumption) ?_
  case hy9=>intro W hSW;(try dsimp only at hSW);have z0:=carry hSW hbx y4;have z1:=carry hSW hGW hcm;have z2:=carry hSW hgW t4;have z3:=carry hSW hgW s4;have z4:=Nat.lt_of_lt_of_le hbx hSW.size;have z5:=Nat.lt_of_lt_of_le hGW hSW.size;have z6:=Nat.lt_of_lt_of_le hgW hSW.size;go_simp;(try with_reducible rfl)
  try simp only[Act.put,List.setIfInBounds_toArray,List.set_cons_zero,List.set_cons_succ]
  refine rg_take 9 (some 51) (v:= ?v10) rfl rfl (by kernel_rfl) (by kernel_rfl) (by kernel_rfl) (fun _ _ _ h=>h) (by rfl) ?hy10 (by assumption) ?_
  case hy10=>intro W hSW;(try dsimp only at hSW);have z0:=carry hSW hbx y4;have z1:=carry hSW hGW hcm;have z2:=carry hSW hgW t4;have z3:=carry hSW hgW s4;have z4:=Nat.lt_of_lt_of_le hbx hSW.size;have z5:=Nat.lt_of_lt_of_le hGW hSW.size;have z6:=Nat.lt_of_lt_of_le hgW hSW.size;go_simp;(try with_reducible rfl)
  try simp only[Act.put,List.setIfInBounds_toArray,List.set_cons_zero,List.set_cons_succ]
  refine rg_take 10 (some 52) (v:= ?v11) rfl rfl (by kernel_rfl) (by kernel_rfl) (by kernel_rfl) (fun _ _ _ h=>h) (by rfl) ?hy11 (by assumption) ?_
  case hy11=>intro W hSW;(try dsimp only at hSW);have z0:=carry hSW hbx y4;have z1:=carry hSW hGW hcm;have z2:=carry hSW hgW t4;have z3:=carry hSW hgW s4;have z4:=Nat.lt_of_lt_of_le hbx hSW.size;have z5:=Nat.lt_of_lt_of_le hGW hSW.size;have z6:=Nat.lt_of_lt_of_le hgW hSW.size;go_simp;(try with_reducible rfl)
  try simp only[Act.put,List.setIfInBounds_toArray,List.set_cons_zero,List.set_cons_succ]
  refine rg_take 11 (some 53) (v:= ?v12) rfl rfl (by kernel_rfl) (by kernel_rfl) (by kernel_rfl) (fun _ _ _ h=>h) (by rfl) ?hy12 (by assumption) ?_
  case hy12=>intro W hSW;(try dsimp only at hSW);have z0:=carry hSW hbx y4;have z1:=carry hSW hGW hcm;have z2:=carry hSW hgW t4;have z3:=carry hSW hgW s4;have z4:=Nat.lt_of_lt_of_le hbx hSW.size;have z5:=Nat.lt_of_lt_of_le hGW hSW.size;have z6:=Nat.lt_of_lt_of_le hgW hSW.size;go_simp;(try with_reducible rfl)
  try simp only[Act.put,List.setIfInBounds_toArray,List.set_cons_zero,List.set_cons_succ]
  refine rg_take 12 (some 54) (v:= ?v13) rfl rfl (by kernel_rfl) (by kernel_rfl) (by kernel_rfl) (fun _ _ _ h=>h) (by rfl) ?hy13 (by assumption) ?_
  case hy13=>intro W hSW;(try dsimp only at hSW);have z0:=carry hSW hbx y4;have z1:=carry hSW hGW hcm;have z2:=carry hSW hgW t4;have z3:=carry hSW hgW s4;have z4:=Nat.lt_of_lt_of_le hbx hSW.size;have z5:=Nat.lt_of_lt_of_le hGW hSW.size;have z6:=Nat.lt_of_lt_of_le hgW hSW.size;go_simp;(try with_reducible rfl)
  try simp only[Act.put,List.setIfInBounds_toArray,List.set_cons_zero,List.set_cons_succ]
  refine rg_take 13 (some 55) (v:= ?v14) rfl rfl (by kernel_rfl) (by kernel_rfl) (by kernel_rfl) (fun _ _ _ h=>h) (by rfl) ?hy14 (by assumption) ?_
  case hy14=>intro W hSW;(try dsimp only at hSW);have z0:=carry hSW hbx y4;have z1:=carry hSW hGW hcm;have z2:=carry hSW hgW t4;have z3:=carry hSW hgW s4;have z4:=Nat.lt_of_lt_of_le hbx hSW.size;have z5:=Nat.lt_of_lt_of_le hGW hSW.size;have z6:=Nat.lt_of_lt_of_le hgW hSW.size;go_simp;(try with_reducible rfl)
  try simp only[Act.put,List.setIfInBounds_toArray,List.set_cons_zero,List.set_cons_succ]
  refine rg_take 14 (some 56) (v:= ?v15) rfl rfl (by kernel_rfl) (by kernel_rfl) (by kernel_rfl) (fun _ _ _ h=>h) (by rfl) ?hy15 (by assumption) ?_
  case hy15=>intro W hSW;(try dsimp only at hSW);have z0:=carry hSW hbx y4;have z1:=carry hSW hGW hcm;have z2:=carry hSW hgW t4;have z3:=carry hSW hgW s4;have z4:=Nat.lt_of_lt_of_le hbx hSW.size;have z5:=Nat.lt_of_lt_of_le hGW hSW.size;have z6:=Nat.lt_of_lt_of_le hgW hSW.size;go_simp;(try with_reducible rfl)
  try simp only[Act.put,List.setIfInBounds_toArray,List.set_cons_zero,List.set_cons_succ]
  refine rg_take 15 (some 57) (v:= ?v16) rfl rfl (by kernel_rfl) (by kernel_rfl) (by kernel_rfl) (fun _ _ _ h=>h) (by rfl) ?hy16 (by assumption) ?_
  case hy16=>intro W hSW;(try dsimp only at hSW);have z0:=carry hSW hbx y4;have z1:=carry hSW hGW hcm;have z2:=carry hSW hgW t4;have z3:=carry hSW hgW s4;have z4:=Nat.lt_of_lt_of_le hbx hSW.size;have z5:=Nat.lt_of_lt_of_le hGW hSW.size;have z6:=Nat.lt_of_lt_of_le hgW hSW.size;go_simp;(try with_reducible rfl)
  try simp only[Act.put,List.setIfInBounds_toArray,List.set_cons_zero,List.set_cons_succ]
  refine rg_take 16 (some 58) (v:= ?v17) rfl rfl (by kernel_rfl) (by kernel_rfl) (by kernel_rfl) (fun _ _ _ h=>h) (by rfl) ?hy17 (by assumption) ?_
  case hy17=>intro W hSW;(try dsimp only at hSW);have z0:=carry hSW hbx y4;have z1:=carry hSW hGW hcm;have z2:=carry hSW hgW t4;have z3:=carry hSW hgW s4;have z4:=Nat.lt_of_lt_of_le hbx hSW.size;have z5:=Nat.lt_of_lt_of_le hGW hSW.size;have z6:=Nat.lt_of_lt_of_le hgW hSW.size;go_simp;rw[if_pos (by omega)]
  try simp only[Act.put,List.setIfInBounds_toArray,List.set_cons_zero,List.set_cons_succ]
  refine rg_take 17 (some 59) (v:= ?v18) rfl rfl (by kernel_rfl) (by kernel_rfl) (by kernel_rfl) (fun _ _ _ h=>h) (by rfl) ?hy18 (by assumption) ?_
  case hy18=>intro W hSW;(try dsimp only at hSW);have z0:=carry hSW hbx y4;have z1:=carry hSW hGW hcm;have z2:=carry hSW hgW t4;have z3:=carry hSW hgW s4;have z4:=Nat.lt_of_lt_of_le hbx hSW.size;have z5:=Nat.lt_of_lt_of_le hGW hSW.size;have z6:=Nat.lt_of_lt_of_le hgW hSW.size;go_simp;(try with_reducible rfl)
  try simp only[Act.put,List.setIfInBounds_toArray,List.set_cons_zero,List.set_cons_succ]
  refine rg_take 18 (some 60) (v:= ?v19) rfl rfl (by kernel_rfl) (by kernel_rfl) (by kernel_rfl) (fun _ _ _ h=>h) (by rfl) ?hy19 (by assumption) ?_
  case hy19=>intro W hSW;(try dsimp only at hSW);have z0:=carry hSW hbx y4;have z1:=carry hSW hGW hcm;have z2:=carry hSW hgW t4;have z3:=carry hSW hgW s4;have z4:=Nat.lt_of_lt_of_le hbx hSW.size;have z5:=Nat.lt_of_lt_of_le hGW hSW.size;have z6:=Nat.lt_of_lt_of_le hgW hSW.size;go_simp;(try with_reducible rfl)
  try simp only[Act.put,List.setIfInBounds_toArray,List.set_cons_zero,List.set_cons_succ]
  refine rg_twoF 19 23 rfl rfl (by kernel_rfl) (by rfl) (by rfl) (fun K hK=> ?callf) (fun K hK=> ?allocf)
  case callf=>
   go_simp
   refine(kP.out _).mono ?_
   rintro e w9 ⟨rfl,hb9⟩
   have hb99:Below W0.heap.size W0 w9:=belT ((Below.refl _ _).drew) hb9
   refine hK.out _ _ hb99 (fun hH1=> ?_)
   clear hK K
   try simp only[Act.put,List.setIfInBounds_toArray,List.set_cons_zero,List.set_cons_succ]
   refine rg_take 20 (some 41) (v:= ?v20) rfl rfl (by kernel_rfl) (by kernel_rfl) (by kernel_rfl) (fun _ _ _ h=>h) (by rfl) ?hy20 (by assumption) ?_
   case hy20=>intro W hSW;(try dsimp only at hSW);go_simp;(try with_reducible rfl)
   try simp only[Act.put,List.setIfInBounds_toArray,List.set_cons_zero,List.set_cons_succ]
   refine rg_take 21 (some 62) (v:= ?v21) rfl rfl (by kernel_rfl) (by kernel_rfl) (by kernel_rfl) (fun _ _ _ h=>h) (by rfl) ?hy21 (by assumption) ?_
   case hy21=>intro W hSW;(try dsimp only at hSW);go_simp;(try with_reducible rfl)
   try simp only[Act.put,List.setIfInBounds_toArray,List.set_cons_zero,List.set_cons_succ]
   refine rg_take 22 (some 63) (v:= ?v22) rfl rfl (by kernel_rfl) (by kernel_rfl) (by kernel_rfl) (fun _ _ _ h=>h) (by rfl) ?hy22 (by assumption) ?_
   case hy22=>intro W hSW;(try dsimp only at hSW);go_simp;(try with_reducible rfl)
   try simp only[Act.put,List.setIfInBounds_toArray,List.set_cons_zero,List.set_cons_succ]
   refine rg_one 23 rfl (by kernel_rfl) (by rfl) (fun K hK=> ?_)
   go_simp
   refine hK.out _ _ (hH1.trans (show Below W0.heap.size w9 _ from by have:=hH1.size;exact bZ)) (fun hH23=> ?_)
   clear hK K
   try simp only[Act.put,List.setIfInBounds_toArray,List.set_cons_zero,List.set_cons_succ]
   refine rg_one 24 rfl (by kernel_rfl) (by rfl) (fun K hK=> ?_)
   go_simp
   refine hK.out _ _ (hH1.trans (show Below W0.heap.size w9 _ from by have:=hH1.size;exact bZ)) (fun hH24=> ?_)
   clear hK K
   try simp only[Act.put,List.setIfInBounds_toArray,List.set_cons_zero,List.set_cons_succ]
   refine rg_take 25 (some 8) (v:= ?v23) rfl rfl (by kernel_rfl) (by kernel_rfl) (by kernel_rfl) (fun _ _ _ h=>h) (by rfl) ?hy23 (by assumption) ?_
   case hy23=>intro W hSW;(try dsimp only at hSW);go_simp;(try with_reducible rfl)
   try simp only[Act.put,List.setIfInBounds_toArray,List.set_cons_zero,List.set_cons_succ]
   refine wpAnyH_done (by kernel_rfl) ?_ _
   go_wp2_with fail
   go_meet
   exact⟨w9.heap.size,rfl,rfl,by simp[go_sem],by simp[go_sem],by simp,hH24⟩
  case allocf=>
   go_simp
   refine hK.out _ _ (belA _ ((Below.refl _ _).drew)) (fun hH23=> ?_)
   clear hK K
   refine rg_one 19 rfl (by kernel_rfl) (by rfl) (fun K hK=> ?_)
   go_simp
   refine(kP.out _).mono ?_
   rintro e w9 ⟨rfl,hb9⟩
   obtain⟨⟨x0,x1,x2,x3,x4,x5,x6⟩,xf,hb5,xl⟩:=bx7 (belT ((Below.refl _ _).drew) hb9)
   have hb99:Below W0.heap.size W0 w9:=hb5
   refine hK.out _ _ hb99 (fun hH1=> ?_)
   clear hK K hb9
   try simp only[Act.put,List.setIfInBounds_toArray,List.set_cons_zero,List.set_cons_succ]
   refine rg_take 20 (some 41) (v:= ?v24) rfl rfl (by kernel_rfl) (by kernel_rfl) (by kernel_rfl) (fun _ _ _ h=>h) (by rfl) ?hy24 (by assumption) ?_
   case hy24=>intro W hSW;(try dsimp only at hSW);go_simp;(try with_reducible rfl)
   try simp only[Act.put,List.setIfInBounds_toArray,List.set_cons_zero,List.set_cons_succ]
   refine rg_take 21 (some 62) (v:= ?v25) rfl rfl (by kernel_rfl) (by kernel_rfl) (by kernel_rfl) (fun _ _ _ h=>h) (by rfl) ?hy25 (by assumption) ?_
   case hy25=>intro W hSW;(try dsimp only at hSW);go_simp;(try with_reducible rfl)
   try simp only[Act.put,List.setIfInBounds_toArray,List.set_cons_zero,List.set_cons_succ]
   refine rg_take 22 (some 63) (v:= ?v26) rfl rfl (by kernel_rfl) (by kernel_rfl) (by kernel_rfl) (fun _ _ _ h=>h) (by rfl) ?hy26 (by assumption) ?_
   case hy26=>intro W hSW;(try dsimp only at hSW);go_simp;(try with_reducible rfl)
   try simp only[Act.put,List.setIfInBounds_toArray,List.set_cons_zero,List.set_cons_succ]
   refine rg_one 24 rfl (by kernel_rfl) (by rfl) (fun K hK=> ?_)
   have xf0:=xf 0;have xf1:=xf 1;have xf2:=xf 2;have xf3:=xf 3;have xf4:=xf 4;have xf5:=xf 5;have xf6:=xf 6
   go_simp
   refine hK.out _ _ (hH1.trans (show Below W0.heap.size w9 _ from by have:=hH1.size;exact bZ)) (fun hH24=> ?_)
   clear hK K
   try simp only[Act.put,List.setIfInBounds_toArray,List.set_cons_zero,List.set_cons_succ]
   refine rg_take 25 (some 8) (v:= ?v27) rfl rfl (by kernel_rfl) (by kernel_rfl) (by kernel_rfl) (fun _ _ _ h=>h) (by rfl) ?hy27 (by assumption) ?_
   case hy27=>intro W hSW;(try dsimp only at hSW);go_simp;(try with_reducible rfl)
   try simp only[Act.put,List.setIfInBounds_toArray,List.set_cons_zero,List.set_cons_succ]
   refine wpAnyH_done (by kernel_rfl) ?_ _
   go_wp2_with fail
   go_meet
   exact⟨W0.heap.size,rfl,rfl,by simp[go_sem,x0,x1,x2,x3,x4,x5,x6],by simp[go_sem,x0,x1,x2,x3,x4,x5,x6],by simp;exact xl,hH24⟩
 case rest=>
  rename World=>W2
  obtain⟨g7,rfl,rfl,c0,c1,gl,hb2⟩:=hcut
  have x9:W2.cell? _=_:=carry hb2 hbx y9h.out
  simp only at x9
  have hcm2:W2.cell? _=_:=carry hb2 hGW hcm
  have hT2:=bH (hT0.out.below hb2)
  have hst2:=bH (Stp.below (G:=G) (nv:= .slice (some ⟨g,0,none⟩) (f+2) cc) (belT hb0h.out hb2))
  have hbx2:w.heap.size<W2.heap.size:=Nat.lt_of_lt_of_le hbx hb2.size
  have hGW2:G<W2.heap.size:=Nat.lt_of_lt_of_le hGW hb2.size
  have hgW2:g<W2.heap.size:=Nat.lt_of_lt_of_le hgW hb2.size
  have hB2:B≤W2.heap.size:=hT2.out.bl
  have hGB:G<B:=h.out.gB
  have hBgh:B≤g:=hBg
  clear hcm t4 s4 hb2 hbx hGW hgW y4 hT0 hb0h y9h hb0 kP
  rcases hD.out with ⟨hno,hK0⟩|⟨hft,hn1,hK1⟩
  ·have hfin:Hid (FoM B G sv ts w (.slice (some ⟨g,0,none⟩) (f+2) cc) m f K (.returned (.bool false)) W2):=bH (.inl ⟨hK0,rfl,_,hT2.out,hst2.out⟩)
   have hK0h:=bH hK0;clear hK0
   by_cases hf1:0≤ft
   ·clear hno
    go_wp2_with fail
    go_ret
    exact hfin.out
   ·have hn1:n1<0:=hno.resolve_left hf1
    clear hno
    go_wp2_with fail
    go_ret
    exact hfin.out
  ·have hft1 : ¬ 0≤ft:=by omega
   have hn2 : ¬ n1<0:=by omega
   obtain⟨l,hl⟩ : ∃l,m.take f=l:=⟨_,rfl⟩
   have hll:l.length=f:=by rw[← hl,List.length_take,hfh.out];omega
   have hlh:=bH hl
   have hllh:=bH hll
   clear hl hll hft hn1
   rcases hK1 with ⟨hk,hK2⟩|⟨hk,hK2⟩
   ·subst hk
    have hK2h:=bH hK2;clear hK2
    go_upto_region 9 with fail
    obtain⟨W3,hW3⟩ : ∃W,(W2.alloc (.cells #[.int .i64 2, .int .i64 0, .int .i64 0, .int .i64 0, .int .i64 n1, .string ⟨#[]⟩, .string ⟨#[]⟩, .string ⟨#[]⟩, .string ⟨#[]⟩, .int .i64 at_] 45))=W:=⟨_,rfl⟩
    have hb3:Below W2.heap.size W2 W3:=by rw[← hW3];(repeat' (first|with_reducible exact Below.refl _ _|with_reducible assumption|with_reducible apply Below.setCell|with_reducible apply Below.alloc|with_reducible apply Below.drew|with_reducible apply below_drewN|with_reducible exact Nat.le_refl _|(simp;done)|(simp;omega)|omega|exact Nat.le_refl _))
    have hC:Nd10 W3 W2.heap.size (lfN 2 n1 at_):=by
     rw[← hW3]
     refine⟨by simp, ?_, ?_, ?_, ?_, ?_, ?_, ?_, ?_, ?_, ?_, ?_⟩<;>(try intro o)<;>simp[go_sem,lfN]
    rw[hW3]
    clear hW3 c0 c1 x9 hcm2
    have hh3:=bH (hT2.out.below hb3)
    have hst3:=bH (hst2.out.next hb3)
    have hC:=bH hC
    obtain⟨xv,hxv⟩ : ∃r,lfN 2 n1 at_=r:=⟨_,rfl⟩
    rw[hxv] at hC hK2h
    have hxvh:=bH hxv
    clear hxv
    have hcm:=hh3.out.cm
    have hfr:=hh3.out.fg 1
    have hGw3:G<W3.heap.size:=Nat.lt_of_lt_of_le hGW2 hb3.size
    obtain⟨gS,hgS,_,hgs2,_,hncc,hS2⟩:=own_at hh3.out.own (p:=f) (by have:=hfh.out;omega)
    obtain rfl:g=gS:=by injection hgS with e;injection e
    have hnews:Hid (∀j v,(ndL l)[j]? = some v→(W3.alloc (.cells #[] 45)).cell? ((⟨g,0,none⟩:Addr).add j)=some v):=bH (by
     intro j v hj
     have e:(⟨g,0,none⟩:Addr).add j=⟨g,0+j,none⟩:=by simp[Addr.add];try omega
     rw[e,World.cell?_alloc_past _ _ _ hgs2]
     rw[← hlh.out,ndL_take,List.getElem?_take] at hj
     split at hj
     ·exact ndSl_get hS2 j v hj
     ·cases hj)
    have hown0:=bH (OwnN.fresh W3)
    have hmc:f≤cc:=by omega
    have hnG : ¬ (Value.slice (some ⟨g,0,none⟩) (f+2) cc).ownBlock=some G:=fun e=>by have:=(own_lt hh3.out.own G e).1;have:=hh3.out.gB;omega
    have hm512:f*112≤140737488351232:=by omega
    obtain⟨i0,hi0,hz0,hz1,hz2⟩:=info_parts infoNd
    have hsl:=nd_to2 (some ⟨g,0,none⟩) (f+2) cc f hmc
    clear hS2 hgS hb3
    go_wp2_with (at_builtin;refine wpList_append_own _ rfl (.tmp 81) (.tmp 87) 23 rfl W3.heap.size 45 i0 (.agg #[.int .i64 0, .int .i64 0, .int .i64 0, .int .i64 0, .int .i64 0, .string ByteArray.empty, .string ByteArray.empty, .string ByteArray.empty, .string ByteArray.empty, .int .i64 0]) 10 112 Tryz.underlying23 hi0 hz0 hz1 hz2 rfl (by decide) _ 0 [] rfl hown0.out ⟨g,0,none⟩ f cc (ndL l) rfl (by rw[ndL_len,hllh.out]) hnews.out (ndL_one l) (by unfold maxLen;omega) (by omega) (by simp) ?_)
    intro v' w4 hown1 hgr _
    have hbel:Below W3.heap.size W3 w4:=((Below.refl _ _).alloc (Nat.le_refl _) _).grown hgr (by simp) (by intro k hk;simp[Value.ownBlock] at hk;omega)
    (try rw[Nat.zero_add,List.nil_append] at hown1)
    rw[← hllh.out] at hown1
    have hon:OwnN W3.heap.size w4 v' l:=hown1
    clear hown1 hgr
    obtain⟨va,vc,rfl⟩:=own_sl hon
    have hon2:OwnN B w4 (.slice va l.length vc) l:=by
     refine⟨hon.1, ?_⟩
     have:=hh3.out.bl
     rcases hon.2 with e|⟨g,cap,cur,e1,e2,e3⟩
     ·exact .inl e
     ·exact .inr ⟨g,cap,cur,e1,by omega,e3⟩
    have hl600:l.length≤600:=by have:=hllh.out;omega
    have hM:=TdW.setM hh3.out (Bar.of_below hbel) hon2 (fun k hk=> .inr (own_lt hon k hk).1) hl600
    have dcm:w4.cell? _=_:=carry hbel hGw3 hcm
    have dfr:w4.frozen? ⟨G,1,none⟩=false:=((Bar.of_below (S:=fun _=>False) hbel).frozen (a:=⟨G,1,none⟩) hGw3 id).trans hfr
    obtain⟨W5,hW5⟩ : ∃W,w4.setCell ⟨G,1,none⟩ (.slice va l.length vc)=W:=⟨_,rfl⟩
    have hCb:Nd10 W5 W2.heap.size xv:=by
     rw[← hW5]
     exact(hC.out.below hbel).bar (Bar.set (S:=fun k=>k=G) ⟨G,1,none⟩ _ rfl) (fun e=>by omega)
    rw[hW5] at hM
    have h5:=bH hM.1
    have hst5:=bH (hst3.out.trans hM.2)
    have hW5h:=bH hW5
    have hGw4:G<w4.heap.size:=Nat.lt_of_lt_of_le hGw3 hbel.size
    clear hM hon hon2 hbel hW5 hcm hfr hsl hi0 hz0 hz1 hz2 hnews hown0
    go_upto_region 10 with fail
    rw[hW5h.out]
    clear dcm dfr hW5h hGw3 hGw4 hC
    obtain⟨y10,y0,y1,y2,y3,y4,y5,y6,y7,y8,y9,yf⟩:=hCb
    have hn:=h5.out.cm
    have hfr:=h5.out.fg
    have hgW:G<W5.heap.size:=by have:=h5.out.gB;have:=h5.out.bl;omega
    have hq:Hid ((l.length+[xv].length)≤1000000):=bH (by simp;omega)
    have hBW:B≤W5.heap.size:=h5.out.bl
    have hnG5 : ¬ (Value.slice va l.length vc).ownBlock=some G:=fun e=>by have:=(own_lt h5.out.own G e).1;have:=h5.out.gB;omega
    have hfin:Hid (∀a2 c2 w2,OwnN B w2 (.slice a2 (l.length+1) c2) (l++[xv])→Bar (fun k=>(Value.slice va l.length vc).ownBlock=some k) W5.drew w2→(∀g,(Value.slice a2 (l.length+1) c2).ownBlock=some g→(Value.slice va l.length vc).ownBlock=some g∨W5.drew.heap.size≤g)→FoM B G sv ts w (.slice (some ⟨g,0,none⟩) (f+2) cc) m f K (.returned (.bool true)) (w2.setCell ⟨G,1,none⟩ (.slice a2 (l.length+1) c2))):=bH fun a2 c2 w2 q1 q2 q3=>by
     have hd:Below W5.heap.size W5 W5.drew:=(Below.refl _ _).drew
     obtain⟨q4,q5⟩:=TdW.setM (h5.out.below hd) q2 q1 q3 (by have:=hllh.out;simp;omega)
     exact .inr ⟨xv,hK2h.out,rfl,_,by rw[hlh.out];exact q4,(hst5.out.next hd).trans q5⟩
    have hnl:(l.length:Int)≤600:=by omega
    have hnl0:(0:Int)≤(l.length:Int):=by omega
    go_region_law ((refine step_ndr rfl (.tmp 95) (.tmp 97) W5.drew B (show B≤W5.drew.heap.size from hBW) (.slice va l.length vc) l [xv] _ rfl rfl 1 rfl rfl rfl (show OwnN B W5.drew (.slice va l.length vc) l from h5.out.own) hq.out ?_;intro v' w2 hown2 hb2 hop2;obtain⟨a2,c2,rfl⟩:=own_sl hown2;have hc2:w2.cell? ⟨G,1,none⟩=some (.slice va l.length vc):=hb2.cell hn hnG5;rw[List.length_append,List.length_singleton] at hown2 hop2;have hown2:=bH hown2;have hb2':=bH hb2;have hop2:=bH hop2;have hgw2:G<w2.heap.size:=Nat.lt_of_lt_of_le hgW hb2.size;have hf2:w2.frozen? ⟨G,1,none⟩=false:=(hb2.frozen (a:=⟨G,1,none⟩) hgW hnG5).trans (hfr 1)))
    all_goals
     clear hb2 hn hfr hgW y0 y1 y2 y3 y4 y5 y6 y7 y8 y9
     go_wp2_with fail
     go_ret
     exact hfin.out _ _ _ hown2.out hb2'.out hop2.out
   ·subst hk
    have hK2h:=bH hK2;clear hK2
    go_upto_region 9 with fail
    obtain⟨W3,hW3⟩ : ∃W,(W2.alloc (.cells #[.int .i64 1, .int .i64 0, .int .i64 0, .int .i64 0, .int .i64 n1, .string ⟨#[]⟩, .string ⟨#[]⟩, .string ⟨#[]⟩, .string ⟨#[]⟩, .int .i64 at_] 45))=W:=⟨_,rfl⟩
    have hb3:Below W2.heap.size W2 W3:=by rw[← hW3];(repeat' (first|with_reducible exact Below.refl _ _|with_reducible assumption|with_reducible apply Below.setCell|with_reducible apply Below.alloc|with_reducible apply Below.drew|with_reducible apply below_drewN|with_reducible exact Nat.le_refl _|(simp;done)|(simp;omega)|omega|exact Nat.le_refl _))
    have hC:Nd10 W3 W2.heap.size (lfN 1 n1 at_):=by
     rw[← hW3]
     refine⟨by simp, ?_, ?_, ?_, ?_, ?_, ?_, ?_, ?_, ?_, ?_, ?_⟩<;>(try intro o)<;>simp[go_sem,lfN]
    rw[hW3]
    clear hW3 c0 c1 x9 hcm2
    have hh3:=bH (hT2.out.below hb3)
    have hst3:=bH (hst2.out.next hb3)
    have hC:=bH hC
    obtain⟨xv,hxv⟩ : ∃r,lfN 1 n1 at_=r:=⟨_,rfl⟩
    rw[hxv] at hC hK2h
    have hxvh:=bH hxv
    clear hxv
    have hcm:=hh3.out.cm
    have hfr:=hh3.out.fg 1
    have hGw3:G<W3.heap.size:=Nat.lt_of_lt_of_le hGW2 hb3.size
    obtain⟨gS,hgS,_,hgs2,_,hncc,hS2⟩:=own_at hh3.out.own (p:=f) (by have:=hfh.out;omega)
    obtain rfl:g=gS:=by injection hgS with e;injection e
    have hnews:Hid (∀j v,(ndL l)[j]? = some v→(W3.alloc (.cells #[] 45)).cell? ((⟨g,0,none⟩:Addr).add j)=some v):=bH (by
     intro j v hj
     have e:(⟨g,0,none⟩:Addr).add j=⟨g,0+j,none⟩:=by simp[Addr.add];try omega
     rw[e,World.cell?_alloc_past _ _ _ hgs2]
     rw[← hlh.out,ndL_take,List.getElem?_take] at hj
     split at hj
     ·exact ndSl_get hS2 j v hj
     ·cases hj)
    have hown0:=bH (OwnN.fresh W3)
    have hmc:f≤cc:=by omega
    have hnG : ¬ (Value.slice (some ⟨g,0,none⟩) (f+2) cc).ownBlock=some G:=fun e=>by have:=(own_lt hh3.out.own G e).1;have:=hh3.out.gB;omega
    have hm512:f*112≤140737488351232:=by omega
    obtain⟨i0,hi0,hz0,hz1,hz2⟩:=info_parts infoNd
    have hsl:=nd_to2 (some ⟨g,0,none⟩) (f+2) cc f hmc
    clear hS2 hgS hb3
    go_wp2_with (at_builtin;refine wpList_append_own _ rfl (.tmp 81) (.tmp 87) 23 rfl W3.heap.size 45 i0 (.agg #[.int .i64 0, .int .i64 0, .int .i64 0, .int .i64 0, .int .i64 0, .string ByteArray.empty, .string ByteArray.empty, .string ByteArray.empty, .string ByteArray.empty, .int .i64 0]) 10 112 Tryz.underlying23 hi0 hz0 hz1 hz2 rfl (by decide) _ 0 [] rfl hown0.out ⟨g,0,none⟩ f cc (ndL l) rfl (by rw[ndL_len,hllh.out]) hnews.out (ndL_one l) (by unfold maxLen;omega) (by omega) (by simp) ?_)
    intro v' w4 hown1 hgr _
    have hbel:Below W3.heap.size W3 w4:=((Below.refl _ _).alloc (Nat.le_refl _) _).grown hgr (by simp) (by intro k hk;simp[Value.ownBlock] at hk;omega)
    (try rw[Nat.zero_add,List.nil_append] at hown1)
    rw[← hllh.out] at hown1
    have hon:OwnN W3.heap.size w4 v' l:=hown1
    clear hown1 hgr
    obtain⟨va,vc,rfl⟩:=own_sl hon
    have hon2:OwnN B w4 (.slice va l.length vc) l:=by
     refine⟨hon.1, ?_⟩
     have:=hh3.out.bl
     rcases hon.2 with e|⟨g,cap,cur,e1,e2,e3⟩
     ·exact .inl e
     ·exact .inr ⟨g,cap,cur,e1,by omega,e3⟩
    have hl600:l.length≤600:=by have:=hllh.out;omega
    have hM:=TdW.setM hh3.out (Bar.of_below hbel) hon2 (fun k hk=> .inr (own_lt hon k hk).1) hl600
    have dcm:w4.cell? _=_:=carry hbel hGw3 hcm
    have dfr:w4.frozen? ⟨G,1,none⟩=false:=((Bar.of_below (S:=fun _=>False) hbel).frozen (a:=⟨G,1,none⟩) hGw3 id).trans hfr
    obtain⟨W5,hW5⟩ : ∃W,w4.setCell ⟨G,1,none⟩ (.slice va l.length vc)=W:=⟨_,rfl⟩
    have hCb:Nd10 W5 W2.heap.size xv:=by
     rw[← hW5]
     exact(hC.out.below hbel).bar (Bar.set (S:=fun k=>k=G) ⟨G,1,none⟩ _ rfl) (fun e=>by omega)
    rw[hW5] at hM
    have h5:=bH hM.1
    have hst5:=bH (hst3.out.trans hM.2)
    have hW5h:=bH hW5
    have hGw4:G<w4.heap.size:=Nat.lt_of_lt_of_le hGw3 hbel.size
    clear hM hon hon2 hbel hW5 hcm hfr hsl hi0 hz0 hz1 hz2 hnews hown0
    go_upto_region 10 with fail
    rw[hW5h.out]
    clear dcm dfr hW5h hGw3 hGw4 hC
    obtain⟨y10,y0,y1,y2,y3,y4,y5,y6,y7,y8,y9,yf⟩:=hCb
    have hn:=h5.out.cm
    have hfr:=h5.out.fg
    have hgW:G<W5.heap.size:=by have:=h5.out.gB;have:=h5.out.bl;omega
    have hq:Hid ((l.length+[xv].length)≤1000000):=bH (by simp;omega)
    have hBW:B≤W5.heap.size:=h5.out.bl
    have hnG5 : ¬ (Value.slice va l.length vc).ownBlock=some G:=fun e=>by have:=(own_lt h5.out.own G e).1;have:=h5.out.gB;omega
    have hfin:Hid (∀a2 c2 w2,OwnN B w2 (.slice a2 (l.length+1) c2) (l++[xv])→Bar (fun k=>(Value.slice va l.length vc).ownBlock=some k) W5.drew w2→(∀g,(Value.slice a2 (l.length+1) c2).ownBlock=some g→(Value.slice va l.length vc).ownBlock=some g∨W5.drew.heap.size≤g)→FoM B G sv ts w (.slice (some ⟨g,0,none⟩) (f+2) cc) m f K (.returned (.bool true)) (w2.setCell ⟨G,1,none⟩ (.slice a2 (l.length+1) c2))):=bH fun a2 c2 w2 q1 q2 q3=>by
     have hd:Below W5.heap.size W5 W5.drew:=(Below.refl _ _).drew
     obtain⟨q4,q5⟩:=TdW.setM (h5.out.below hd) q2 q1 q3 (by have:=hllh.out;simp;omega)
     exact .inr ⟨xv,hK2h.out,rfl,_,by rw[hlh.out];exact q4,(hst5.out.next hd).trans q5⟩
    have hnl:(l.length:Int)≤600:=by omega
    have hnl0:(0:Int)≤(l.length:Int):=by omega
    go_region_law ((refine step_ndr rfl (.tmp 95) (.tmp 97) W5.drew B (show B≤W5.drew.heap.size from hBW) (.slice va l.length vc) l [xv] _ rfl rfl 1 rfl rfl rfl (show OwnN B W5.drew (.slice va l.length vc) l from h5.out.own) hq.out ?_;intro v' w2 hown2 hb2 hop2;obtain⟨a2,c2,rfl⟩:=own_sl hown2;have hc2:w2.cell? ⟨G,1,none⟩=some (.slice va l.length vc):=hb2.cell hn hnG5;rw[List.length_append,List.length_singleton] at hown2 hop2;have hown2:=bH hown2;have hb2':=bH hb2;have hop2:=bH hop2;have hgw2:G<w2.heap.size:=Nat.lt_of_lt_of_le hgW hb2.size;have hf2:w2.frozen? ⟨G,1,none⟩=false:=(hb2.frozen (a:=⟨G,1,none⟩) hgW hnG5).trans (hfr 1)))
    all_goals
     clear hb2 hn hfr hgW y0 y1 y2 y3 y4 y5 y6 y7 y8 y9
     go_wp2_with fail
     go_ret
     exact hfin.out _ _ _ hown2.out hb2'.out hop2.out
open Go.RowKit
abbrev RS:=List Nd × Int × Int
def failR (s:RS) (c p:Int):RS:=if s.2.1=0 then (s.1,c,p) else s
def meanR (ops bd:List ByteArray) (t:Nd):Int × Int:=
 if t.k=0 then match nearI bd t.nm with
  | some i=>(i,0)
  | none=>(bd.length,601)
 else if t.k=9∨t.k=10 then match placeI ops t.nm with
  | some i=>(i,0)
  | none=>(0,602)
 else (t.n,0)
def kidsR (rec:RS→Nat→List ByteArray→RS):RS→List (Int × List ByteArray)→List ByteArray→RS
 | s,[],_=>s
 | s,(c,bs) :: l,bd=>kidsR rec (rec s c.toNat (bd++bs)) l bd
def startR (s:RS) (m:Int × Int) (p:Int):RS:=if m.2=0 then s else failR s m.2 p
def walkR (ops:List ByteArray):Nat→RS→Nat→List ByteArray→RS
 | 0,s,_,_=>s
 | f+1,s,at_,bd=>
  ((kidsR (walkR ops f) (startR s (meanR ops bd (s.1.getD at_ nd0)) (s.1.getD at_ nd0).p) (kidsS (s.1.getD at_ nd0)) bd).1.set at_ (bare (s.1.getD at_ nd0) (meanR ops bd (s.1.getD at_ nd0)).1),
   (kidsR (walkR ops f) (startR s (meanR ops bd (s.1.getD at_ nd0)) (s.1.getD at_ nd0).p) (kidsS (s.1.getD at_ nd0)) bd).2)
theorem startR_fst (s:RS) (m:Int × Int) (p:Int):(startR s m p).1=s.1:=by unfold startR failR;(repeat' split)<;>rfl
theorem startR_keep {s:RS} (h:s.2.1≠0) (m:Int × Int) (p:Int):startR s m p=s:=by unfold startR failR;rw[if_neg h,ite_self]
theorem kidsR_keep {rec:RS→Nat→List ByteArray→RS} (hr : ∀s c bs,s.2.1≠0→(rec s c bs).2=s.2) : ∀(l:List (Int × List ByteArray)) (s:RS) (bd:List ByteArray),s.2.1≠0→(kidsR rec s l bd).2=s.2
 | [],s,bd,h=>rfl
 | (c,bs) :: l,s,bd,h=>by
  have h1:=hr s c.toNat (bd++bs) h
  have h2:=kidsR_keep hr l (rec s c.toNat (bd++bs)) bd (by rw[h1];exact h)
  unfold kidsR
  rw[h2,h1]
theorem walkR_keep (ops:List ByteArray) : ∀(f:Nat) (s:RS) (at_:Nat) (bd:List ByteArray),s.2.1≠0→(walkR ops f s at_ bd).2=s.2
 | 0,s,at_,bd,h=>rfl
 | f+1,s,at_,bd,h=>by
  unfold walkR
  rw[startR_keep h]
  exact kidsR_keep (fun s c bs hs=>walkR_keep ops f s c bs hs) _ _ _ h
theorem mean_ok_r {ops bd:List ByteArray} {t:Nd} {m:Int} (h:meanV ops bd t= .ok m):meanR ops bd t=(m,0):=by
 unfold meanV at h
 unfold meanR
 by_cases h0:t.k=0
 ·rw[if_pos h0] at h ⊢
  cases hi:nearI bd t.nm with
  | none=>rw[hi] at h;cases h
  | some i=>rw[hi] at h;injection h with h;subst h;rfl
 ·rw[if_neg h0] at h ⊢
  by_cases h9:t.k=9∨t.k=10
  ·rw[if_pos h9] at h ⊢
   cases hi:placeI ops t.nm with
   | none=>rw[hi] at h;cases h
   | some i=>rw[hi] at h;injection h with h;subst h;rfl
  ·rw[if_neg h9] at h ⊢
   injection h with h;subst h;rfl
theorem mean_no_r {ops bd:List ByteArray} {t:Nd} {c:Int} (h:meanV ops bd t= .error c):(meanR ops bd t).2=c∧c≠0:=by
 unfold meanV at h
 unfold meanR
 by_cases h0:t.k=0
 ·rw[if_pos h0] at h ⊢
  cases hi:nearI bd t.nm with
  | none=>rw[hi] at h;injection h with h;subst h;exact⟨rfl,by decide⟩
  | some i=>rw[hi] at h;cases h
 ·rw[if_neg h0] at h ⊢
  by_cases h9:t.k=9∨t.k=10
  ·rw[if_pos h9] at h ⊢
   cases hi:placeI ops t.nm with
   | none=>rw[hi] at h;injection h with h;subst h;exact⟨rfl,by decide⟩
   | some i=>rw[hi] at h;cases h
  ·rw[if_neg h9] at h;cases h
def AgreeR (s:RS) (r:Except (Int × Int) (List Nd)) (s2:RS):Prop:=match r with
 | .ok ss=>s2=(ss,s.2)
 | .error e=>e.1≠0→s2.2=e
theorem kidsR_agree {rec:RS→Nat→List ByteArray→RS} {rv:List Nd→Nat→List ByteArray→Except (Int × Int) (List Nd)} (hk : ∀s c bs,s.2.1≠0→(rec s c bs).2=s.2) (hr : ∀s c bs,s.2.1=0→AgreeR s (rv s.1 c bs) (rec s c bs)) :
  ∀(l:List (Int × List ByteArray)) (s:RS) (bd:List ByteArray),s.2.1=0→AgreeR s (kidsRun rv s.1 l bd) (kidsR rec s l bd)
 | [],s,bd,h=>rfl
 | (c,bs) :: l,s,bd,h=>by
  have h1:=hr s c.toNat (bd++bs) h
  unfold kidsRun kidsR
  cases hv:rv s.1 c.toNat (bd++bs) with
  | error e=>
   rw[hv] at h1
   intro he
   have h1:=h1 he
   rw[kidsR_keep hk l _ bd (by rw[h1];exact he),h1]
  | ok ss=>
   rw[hv] at h1
   have h1:rec s c.toNat (bd++bs)=(ss,s.2):=h1
   rw[h1]
   exact kidsR_agree hk hr l (ss,s.2) bd h
theorem walkR_agree (ops:List ByteArray) : ∀(f:Nat) (s:RS) (at_:Nat) (bd:List ByteArray),s.2.1=0→AgreeR s (resS ops f s.1 at_ bd) (walkR ops f s at_ bd)
 | 0,s,at_,bd,h=>by intro he;exact absurd rfl he
 | f+1,s,at_,bd,h=>by
  unfold resS walkR
  cases hm:meanV ops bd (s.1.getD at_ nd0) with
  | error c=>
   obtain⟨h1,h2⟩:=mean_no_r hm
   intro _
   have hs:startR s (meanR ops bd (s.1.getD at_ nd0)) (s.1.getD at_ nd0).p=(s.1,c,(s.1.getD at_ nd0).p):=by
    unfold startR failR;rw[h1,if_neg h2,if_pos h]
   rw[hs]
   exact kidsR_keep (fun s c bs hs=>walkR_keep ops f s c bs hs) _ (s.1,c,(s.1.getD at_ nd0).p) _ h2
  | ok m=>
   rw[mean_ok_r hm]
   have hs:startR s (m,0) (s.1.getD at_ nd0).p=s:=rfl
   rw[hs]
   have h1:=kidsR_agree (rv:=resS ops f) (fun s c bs hs=>walkR_keep ops f s c bs hs) (fun s c bs hs=>walkR_agree ops f s c bs hs) (kidsS (s.1.getD at_ nd0)) s bd h
   simp only
   cases hk:kidsRun (resS ops f) s.1 (kidsS (s.1.getD at_ nd0)) bd with
   | error e=>rw[hk] at h1;exact h1
   | ok ss=>
    rw[hk] at h1
    have h1:kidsR (walkR ops f) s (kidsS (s.1.getD at_ nd0)) bd=(ss,s.2):=h1
    rw[h1];rfl
theorem same_set {a b:List Nd} (h:Same a b) (at_:Nat) (m:Int):Same a (b.set at_ (bare (a.getD at_ nd0) m)):=by
 refine⟨by rw[List.length_set];exact h.len,fun i=> ?_⟩
 by_cases e:i=at_∧i<b.length
 ·obtain⟨rfl,hi⟩:=e
  rw[List.getD_eq_getElem?_getD,List.getElem?_set_self hi,Option.getD_some,kidsS_bare]
 ·rw[List.getD_eq_getElem?_getD,List.getElem?_set]
  rw[← h.shape i,List.getD_eq_getElem?_getD (l:=b)]
  by_cases e2:at_=i
  ·subst e2
   rw[if_pos rfl]
   rw[if_neg (by omega),List.getElem?_eq_none (by omega)]
  ·rw[if_neg e2]
theorem kidsR_same {rec:RS→Nat→List ByteArray→RS} (hr : ∀s c bs,Same s.1 (rec s c bs).1) : ∀(l:List (Int × List ByteArray)) (s:RS) (bd:List ByteArray),Same s.1 (kidsR rec s l bd).1
 | [],s,bd=>Same.refl _
 | (c,bs) :: l,s,bd=>(hr s c.toNat (bd++bs)).trans (kidsR_same hr l _ bd)
theorem walkR_same (ops:List ByteArray) : ∀(f:Nat) (s:RS) (at_:Nat) (bd:List ByteArray),Same s.1 (walkR ops f s at_ bd).1
 | 0,s,at_,bd=>Same.refl _
 | f+1,s,at_,bd=>by
  unfold walkR
  have h:=kidsR_same (fun s c bs=>walkR_same ops f s c bs) (kidsS (s.1.getD at_ nd0)) (startR s (meanR ops bd (s.1.getD at_ nd0)) (s.1.getD at_ nd0).p) bd
  rw[startR_fst] at h
  exact same_set h at_ _
open Go.RowKit
structure SkW (N G:Nat) (ao:Option Addr) (no co cp:Nat) (os:List Or) (w:World) (s:RS):Prop where
 o:w.cell? ⟨G,0,none⟩=some (.slice ao no co)
 r:w.cell? ⟨G,1,none⟩=some (.slice (some ⟨N,0,none⟩) s.1.length cp)
 c:w.cell? ⟨G,2,none⟩=some (.int .i64 s.2.1)
 p:w.cell? ⟨G,3,none⟩=some (.int .i64 s.2.2)
 gl:G<w.heap.size
 fg : ∀o,w.frozen? ⟨G,o,none⟩=false
 nd:NdSl w N 0 s.1
 nl:N<w.heap.size
 fz : ∀o,w.frozen? ⟨N,o,none⟩=false
 op:OArg w ao no os
theorem OArg.bar2 {S:Nat→Prop} {w w':World} {a:Option Addr} {n:Nat} {ts:List Or} (h:OArg w a n ts) (hb:Bar S w w') (hn:ts≠[]→ ∀b off,a=some ⟨b,off,none⟩→ ¬ S b):OArg w' a n ts:=by
 by_cases h0:ts=[]
 ·exact⟨h.1, .inl h0⟩
 ·exact h.bar hb (hn h0)
theorem StArg.bar2 {S:Nat→Prop} {w w':World} {a:Option Addr} {n:Nat} {l:List ByteArray} (h:StArg w a n l) (hb:Bar S w w') (hn:l≠[]→ ∀b off,a=some ⟨b,off,none⟩→ ¬ S b):StArg w' a n l:=by
 by_cases h0:l=[]
 ·exact⟨h.1, .inl h0⟩
 ·exact h.bar hb (hn h0)
theorem OArg.lt {w:World} {a:Option Addr} {n:Nat} {ts:List Or} (h:OArg w a n ts) (h0:ts≠[]) : ∀b off,a=some ⟨b,off,none⟩→b<w.heap.size:=by
 rcases h.2 with h1|⟨b,off,h1,_,h2⟩
 ·exact absurd h1 h0
 ·intro b' off' e;rw[h1] at e;injection e with e;injection e with e _ _;omega
theorem StArg.lt {w:World} {a:Option Addr} {n:Nat} {ts:List ByteArray} (h:StArg w a n ts) (h0:ts≠[]) : ∀b off,a=some ⟨b,off,none⟩→b<w.heap.size:=by
 rcases h.2 with h1|⟨b,off,h1,_,h2⟩
 ·exact absurd h1 h0
 ·intro b' off' e;rw[h1] at e;injection e with e;injection e with e _ _;omega
theorem ownS_env {B:Nat} {w:World} {v:Value} {l:List ByteArray} (h:OwnS B w v l) : ∃a c,v= .slice a l.length c∧StArg w a l.length l∧(a=none→c=0)∧ ∀b off,a=some ⟨b,off,none⟩→B≤b:=by
 have hh:=h
 rcases h.2 with ⟨rfl,h0⟩|⟨g,cap,cur,rfl,hB,_⟩
 ·refine⟨none,0,by rw[h0],⟨rfl, .inl (List.eq_nil_of_length_eq_zero h0)⟩,fun _=>rfl,fun b off e=>by cases e⟩
 ·exact⟨_,cap,rfl,OwnS.arg hh,(fun e=>by cases e),fun b off e=>by injection e with e;injection e with e _ _;omega⟩
theorem SkW.bar {S:Nat→Prop} {N G:Nat} {ao:Option Addr} {no co cp:Nat} {os:List Or} {w w':World} {s:RS} (h:SkW N G ao no co cp os w s) (hb:Bar S w w') (hN : ¬ S N) (hG : ¬ S G) (hA:os≠[]→ ∀b off,ao=some ⟨b,off,none⟩→ ¬ S b):SkW N G ao no co cp os w' s:=
 ⟨hb.cell h.o hG,hb.cell h.r hG,hb.cell h.c hG,hb.cell h.p hG,by have:=hb.size;have:=h.gl;omega,fun o=>by rw[hb.frozen (a:=⟨G,o,none⟩) h.gl hG];exact h.fg o,h.nd.bar hb hN,by have:=hb.size;have:=h.nl;omega,fun o=>by rw[hb.frozen (a:=⟨N,o,none⟩) h.nl hN];exact h.fz o,h.op.bar2 hb hA⟩
theorem SkW.below {N G:Nat} {ao:Option Addr} {no co cp:Nat} {os:List Or} {w w':World} {s:RS} (h:SkW N G ao no co cp os w s) (hb:Below w.heap.size w w'):SkW N G ao no co cp os w' s:=
 h.bar (Bar.of_below (S:=fun _=>False) hb) id id (fun _ _ _ _=>id)
def Apart (N G:Nat) (ao:Option Addr) (os:List Or):Prop:=N≠G∧(os≠[]→ ∀b off,ao=some ⟨b,off,none⟩→b≠G∧b≠N)
theorem SkW.err {N G:Nat} {ao:Option Addr} {no co cp:Nat} {os:List Or} {w:World} {s:RS} (h:SkW N G ao no co cp os w s) (hA:Apart N G ao os) (c p:Int) :
  SkW N G ao no co cp os ((w.setCell ⟨G,2,none⟩ (.int .i64 c)).setCell ⟨G,3,none⟩ (.int .i64 p)) (s.1,c,p)∧Bar (fun k=>k=G) w ((w.setCell ⟨G,2,none⟩ (.int .i64 c)).setCell ⟨G,3,none⟩ (.int .i64 p)):=by
 have ne : ∀a b:Nat,a≠b→(⟨G,a,none⟩:Addr)≠⟨G,b,none⟩:=fun a b hab e=>by injection e with _ e2 _;exact hab e2
 have hb:Bar (fun k=>k=G) w ((w.setCell ⟨G,2,none⟩ (.int .i64 c)).setCell ⟨G,3,none⟩ (.int .i64 p)):=(Bar.set (S:=fun k=>k=G) ⟨G,2,none⟩ _ rfl).trans (Bar.set (S:=fun k=>k=G) ⟨G,3,none⟩ _ rfl) fun _ _ h=>h
 refine⟨⟨setO (setO h.o (ne _ _ (by decide))) (ne _ _ (by decide)),setO (setO h.r (ne _ _ (by decide))) (ne _ _ (by decide)),setO (setS h.c) (ne _ _ (by decide)),setS (setO h.p (ne _ _ (by decide))),by simpa using h.gl,fun o=>by simp only[World.frozen?_setCell];exact h.fg o,h.nd.bar hb hA.1,by simpa using h.nl,fun o=>by simp only[World.frozen?_setCell];exact h.fz o,h.op.bar2 hb (fun h0 b off e=>(hA.2 h0 b off e).1)⟩,hb⟩
def FlPost (N G:Nat) (ao:Option Addr) (no co cp:Nat) (os:List Or) (s:RS) (w:World) (w':World):Prop:=SkW N G ao no co cp os w' s∧Bar (fun k=>k=G) w w'
theorem fail_any (N G:Nat) (ao:Option Addr) (no co cp:Nat) (os:List Or) (s:RS) (c p:Int) (w:World) (h:Hid (SkW N G ao no co cp os w s)) (hA:Hid (Apart N G ao os)) :
  Calls Tryz.prog 72 #[.pointer (some ⟨G,0,none⟩), .int .i64 c, .int .i64 p] w fun e w'=>e= .returned (.tuple #[])∧FlPost N G ao no co cp os (failR s c p) w w':=by
 have hc:=h.out.c
 have hp:=h.out.p
 have hf:=h.out.fg
 have hgl:=h.out.gl
 go_enter Tryz.func72,Tryz.ntmps72
 by_cases h0:s.2.1=0
 ·have hr:Hid (failR s c p=(s.1,c,p)):=bH (by unfold failR;rw[if_pos h0])
  have hb0:(s.2.1==0)=true:=beq_iff_eq.2 h0
  have hh:=bH h0
  clear h0
  go_wp2_with fail
  go_end0
  rw[hr.out]
  exact⟨rfl,h.out.err hA.out c p⟩
 ·have hr:Hid (failR s c p=s):=bH (by unfold failR;rw[if_neg h0])
  have hb0:(s.2.1==0)=false:=beq_eq_false_iff_ne.2 h0
  clear h0
  go_wp2_with fail
  go_end0
  rw[hr.out]
  exact⟨rfl,h.out,Bar.refl _ _⟩
theorem bar_bel {S:Nat→Prop} {w W W':World} (h:Below w.heap.size w W) (hb:Bar S W W') (hs : ∀k,S k→w.heap.size≤k):Below w.heap.size w W':=
 ⟨hb.os.trans h.os,hb.tape.trans h.tape,hb.output.trans h.output,Nat.le_trans h.size hb.size,fun k hk=>(hb.block k (by have:=h.size;omega) (fun e=>by have:=hs k e;omega)).trans (h.block k hk)⟩
theorem ownS_fresh (w:World):OwnS w.heap.size (w.alloc (.cells #[] 9)) (.slice (some ⟨w.heap.size,0,none⟩) 0 0) []:=
 ⟨rfl, .inr ⟨w.heap.size,0, #[],rfl,Nat.le_refl _,by show (w.heap.push _)[w.heap.size]? = _;simp,Nat.le_refl _,by decide,rfl,rfl⟩⟩
theorem with_any (a a2:Option Addr) (n c n2 c2:Nat) (bd ys:List ByteArray) (w:World) (h:Hid (StArg w a n bd)) (hn:a=none→c=0) (h2:Hid (StArg w a2 n2 ys)) (hn2:a2=none→c2=0) (hl:bd.length+ys.length≤1000000) :
  Calls Tryz.prog 73 #[.slice a n c, .slice a2 n2 c2] w fun e w'=> ∃v,e= .returned v∧OwnS w.heap.size w' v (bd++ys)∧Below w.heap.size w w':=by
 have h0:=bH (ownS_fresh w)
 have hA:=bH (h.out.below (below_alc w (.cells #[] 9)))
 have hA2:=bH (h2.out.below (below_alc w (.cells #[] 9)))
 have hB:=bH (below_alc w (.cells #[] 9))
 have hs:=hB.out.size
 go_enter Tryz.func73,Tryz.ntmps73
 go_upto_region 2 with (at_builtin;refine op_st rfl (.tmp 6) (.tmp 7) (w.alloc (.cells #[] 9)) w.heap.size hs _ [] rfl rfl a n c bd rfl hA.out hn h0.out (by simp;omega) ?_;intro v1 w1 hv1 _ hbar1 _ hob1)
 have hb1:Below w.heap.size w w1:=bar_bel hB.out hbar1 (fun k e=>by have e:some w.heap.size=some k:=e;injection e with e;omega)
 rw[List.nil_append] at hv1
 have hv1:=bH hv1
 have hA1:=bH (h2.out.below hb1)
 have hB1:=bH hb1
 have hs1:=hb1.size
 clear hbar1 hb1 hA hA2 h0 hob1
 go_upto_region 3 with (at_builtin;refine op_st rfl (.tmp 9) (.tmp 10) w1 w.heap.size hs1 _ bd rfl rfl a2 n2 c2 ys rfl hA1.out hn2 hv1.out hl ?_;intro v2 w2 hv2 _ hbar2 _ hob2)
 have hb2:=bH (bar_bel hB1.out hbar2 (fun k e=>(own_lt hv1.out k e).1))
 have hv2:=bH hv2
 clear hbar2 hob2
 go_wp2_with fail
 go_ret
 exact⟨_,rfl,hv2.out,hb2.out⟩
def placeR (os:List Or) (nm:ByteArray):Int × Int:=match placeI (opN os) nm with
 | some i=>(i,0)
 | none=>(0,602)
theorem placeR_at {os:List Or} {nm:ByteArray} {j:Nat} (hj:j<os.length) (h1 : ∀i,i<j→eqS (os.getD i or0).nm nm=false) (h2:eqS (os.getD j or0).nm nm=true):placeR os nm=((j:Int),0):=by
 have e:placeI (opN os) nm=some j:=by
  unfold placeI opN
  rw[List.findIdx?_map,List.findIdx?_eq_some_iff_getElem]
  refine⟨hj, ?_,fun i hi=> ?_⟩
  ·have:=h2;rw[List.getD_eq_getElem?_getD,List.getElem?_eq_getElem hj] at this;exact this
  ·have:=h1 i hi;rw[List.getD_eq_getElem?_getD,List.getElem?_eq_getElem (by omega)] at this
   have this:eqS os[i].nm nm=false:=this
   simp only[Function.comp];rw[this];simp
 unfold placeR;rw[e]
theorem placeR_no {os:List Or} {nm:ByteArray} (h1 : ∀i,i<os.length→eqS (os.getD i or0).nm nm=false):placeR os nm=(0,602):=by
 have e:placeI (opN os) nm=none:=by
  unfold placeI opN
  rw[List.findIdx?_map,List.findIdx?_eq_none_iff]
  intro t ht
  obtain⟨i,hi,rfl⟩:=List.mem_iff_getElem.1 ht
  have:=h1 i hi
  rw[List.getD_eq_getElem?_getD,List.getElem?_eq_getElem hi] at this
  exact this
 unfold placeR;rw[e]
theorem op_any (N G:Nat) (ao:Option Addr) (no co cp:Nat) (os:List Or) (s:RS) (nm:ByteArray) (p:Int) (w:World) (h:Hid (SkW N G ao no co cp os w s)) (hA:Hid (Apart N G ao os)) (hl:no≤1000000) :
  Calls Tryz.prog 74 #[.pointer (some ⟨G,0,none⟩), .string nm, .int .i64 p] w fun e w'=>e= .returned (.int .i64 (placeR os nm).1)∧FlPost N G ao no co cp os (startR s (placeR os nm) p) w w':=by
 obtain rfl:no=os.length:=h.out.op.1
 have ho:=h.out.o
 have hgl:=h.out.gl
 obtain⟨r,hr⟩ : ∃r,placeR os nm=r:=⟨_,rfl⟩
 have kF:=bH (fail_any N G ao os.length co cp os s 602 p w h hA)
 have hyes:=bH fun (j:Nat) (hj:j<os.length) h1 h2=>(placeR_at (os:=os) (nm:=nm) hj h1 h2).symm.trans hr
 have hno:=bH fun h1=>(placeR_no (os:=os) (nm:=nm) h1).symm.trans hr
 rw[hr]
 clear hr
 go_enter Tryz.func74,Tryz.ntmps74
 go_wp2_with fail
 go_loopw [7] (fun iv wr=> ∃j:Nat,j≤os.length∧iv= .int .i64 j∧wr=w∧Hid (∀i,i<j→eqS (os.getD i or0).nm nm=false)) (fun iv _=>os.length-(intOf iv).toNat)
 case atStart=>exact⟨0,by omega,rfl,rfl,bH fun i hi=>by omega⟩
 case round=>
  obtain⟨j,hj,rfl,rfl,hI⟩:=hrel
  by_cases hlt:j<os.length
  ·rcases h.out.op.2 with h0|⟨b,off,rfl,hs,hbl⟩
   ·rw[h0] at hlt;simp at hlt
   obtain⟨e0,_,_⟩:=hs j hlt
   have hy:=bH (hyes.out j hlt hI.out)
   obtain⟨q,hq⟩ : ∃q,eqS (os.getD j or0).nm nm=q:=⟨_,rfl⟩
   have hn:Hid (q=false→ ∀i,i<j+1→eqS (os.getD i or0).nm nm=false):=bH fun e i hi=>by
    by_cases hij:i=j
    ·subst hij;rw[hq,e]
    ·exact hI.out i (by omega)
   rw[hq] at hy
   unfold eqS at hq
   generalize (os.getD j or0).nm=u at e0 hq
   have hji:(j:Int)<(os.length:Int):=by omega
   have hj0:(0:Int)≤(j:Int):=by omega
   clear hs
   cases q
   ·clear hy
    go_wp2_with fail
    go_roundw
    case rel=>exact⟨j+1,by omega,by go_num,by first|rfl|trivial,bH (hn.out (by first|rfl|trivial))⟩
    case measure=>simp[intOf];omega
   ·have hz:=bH (hy.out (by first|rfl|trivial))
    clear hn hy
    go_wp2_with fail
    go_ret
    rw[← hz.out]
    exact⟨rfl,h.out,Bar.refl _ _⟩
  ·obtain rfl:j=os.length:=by omega
   have hy:=bH (hno.out hI.out)
   go_wp2_with fail
   refine kF.out.mono ?_
   rintro e w1 ⟨rfl,hp⟩
   have hp:=bH hp
   go_wp2_with fail
   go_ret
   rw[← hy.out]
   exact⟨rfl,hp.out⟩
open Go.RowKit
theorem nd10_num {W:World} {g:Nat} {t:Nd} {m0:Int} (h:Nd10 W g (bare t m0)) (m:Int):Nd10 (W.setCell ⟨g,4,none⟩ (.int .i64 m)) g (bare t m)∧Bar (fun k=>k=g) W (W.setCell ⟨g,4,none⟩ (.int .i64 m)):=by
 obtain⟨hl,h0,h1,h2,h3,h4,h5,h6,h7,h8,h9,hf⟩:=h
 have ne : ∀a b:Nat,a≠b→(⟨g,a,none⟩:Addr)≠⟨g,b,none⟩:=fun a b hab e=>by injection e with _ e2 _;exact hab e2
 exact⟨⟨by simpa using hl,setO h0 (ne _ _ (by decide)),setO h1 (ne _ _ (by decide)),setO h2 (ne _ _ (by decide)),setO h3 (ne _ _ (by decide)),setS h4,setO h5 (ne _ _ (by decide)),setO h6 (ne _ _ (by decide)),setO h7 (ne _ _ (by decide)),setO h8 (ne _ _ (by decide)),setO h9 (ne _ _ (by decide)),fun o=>by simp only[World.frozen?_setCell];exact hf o⟩,Bar.set ⟨g,4,none⟩ _ rfl⟩
def NG (N G:Nat) (k:Nat):Prop:=k=N∨k=G
theorem SkW.put {N G:Nat} {ao:Option Addr} {no co cp:Nat} {os:List Or} {w:World} {s:RS} (h:SkW N G ao no co cp os w s) (hA:Apart N G ao os) {i:Nat} (hi:i<s.1.length) (t:Nd):SkW N G ao no co cp os (st10 w N (i*10) t) (s.1.set i t,s.2)∧Bar (NG N G) w (st10 w N (i*10) t):=by
 obtain⟨r1,r2,r3⟩:=st10_rest w N (i*10) t
 have hg : ¬ G=N:=fun e=>hA.1 e.symm
 exact⟨⟨r3.cell h.o hg,by rw[List.length_set];exact r3.cell h.r hg,r3.cell h.c hg,r3.cell h.p hg,by rw[r2];exact h.gl,fun o=>by rw[r1];exact h.fg o,st10_sl h.nd hi,by rw[r2];exact h.nl,fun o=>by rw[r1];exact h.fz o,h.op.bar2 r3 (fun h0 b off e=>(hA.2 h0 b off e).2)⟩,r3.mono fun k e=> .inl e⟩
def MidK (N G:Nat) (ao:Option Addr) (no co cp:Nat) (os:List Or) (f at_:Nat) (bd:List ByteArray) (s:RS) (t:Nd) (w W:World):Prop:=
 ∃s2 m,walkR (opN os) (f+1) s at_ bd=(s2.1.set at_ (bare t m),s2.2)∧s2.1.length=s.1.length∧SkW N G ao no co cp os W s2∧Nd10 W (w.heap.size+1) (bare t m)∧Bar (NG N G) w W
structure SkL (N G:Nat) (ao:Option Addr) (no co cp:Nat) (os:List Or) (a:Option Addr) (n:Nat) (bd:List ByteArray) (t:Nd) (m:Int) (L:List Nd) (w:World) (s:RS) (W:World):Prop where
 sk:SkW N G ao no co cp os W s
 x:Nd10 W w.heap.size t
 y:Nd10 W (w.heap.size+1) (bare t m)
 e:StArg W a n bd
 bar:Bar (NG N G) w W
 sm:Same L s.1
 lN:N<w.heap.size
 lG:G<w.heap.size
 ea:bd≠[]→ ∀b off,a=some ⟨b,off,none⟩→b≠N∧b≠G
theorem SkL.next {N G:Nat} {ao:Option Addr} {no co cp:Nat} {os:List Or} {a:Option Addr} {n:Nat} {bd:List ByteArray} {t:Nd} {m:Int} {L:List Nd} {w W W':World} {s s':RS} (h:SkL N G ao no co cp os a n bd t m L w s W) (hb:Bar (NG N G) W W') (hs:SkW N G ao no co cp os W' s') (hm:Same s.1 s'.1):SkL N G ao no co cp os a n bd t m L w s' W':=
 ⟨hs,h.x.bar hb (fun e=>by have:=h.lN;have:=h.lG;rcases e with e|e<;>omega),h.y.bar hb (fun e=>by have:=h.lN;have:=h.lG;rcases e with e|e<;>omega),h.e.bar2 hb (fun h0 b off e hs=>by have:=h.ea h0 b off e;rcases hs with e2|e2<;>omega),h.bar.trans hb fun _ _ e=>e,h.sm.trans hm,h.lN,h.lG,h.ea⟩
theorem SkL.below {N G:Nat} {ao:Option Addr} {no co cp:Nat} {os:List Or} {a:Option Addr} {n:Nat} {bd:List ByteArray} {t:Nd} {m:Int} {L:List Nd} {w W W':World} {s:RS} (h:SkL N G ao no co cp os a n bd t m L w s W) (hb:Below W.heap.size W W'):SkL N G ao no co cp os a n bd t m L w s W':=
 h.next (Bar.of_below hb) (h.sk.below hb) (Same.refl _)
theorem SkL.num {N G:Nat} {ao:Option Addr} {no co cp:Nat} {os:List Or} {a:Option Addr} {n:Nat} {bd:List ByteArray} {t:Nd} {m:Int} {L:List Nd} {w W:World} {s:RS} (h:SkL N G ao no co cp os a n bd t m L w s W) (he:bd≠[]→ ∀b off,a=some ⟨b,off,none⟩→b<w.heap.size) (ha:os≠[]→ ∀b off,ao=some ⟨b,off,none⟩→b<w.heap.size) (m':Int) :
  SkL N G ao no co cp os a n bd t m' L w s (W.setCell ⟨w.heap.size+1,4,none⟩ (.int .i64 m')):=by
 obtain⟨h1,h2⟩:=nd10_num h.y m'
 have hN:=h.lN
 have hG:=h.lG
 refine⟨h.sk.bar h2 (by omega) (by omega) (fun h0 b off e=>by have:=ha h0 b off e;omega),h.x.bar h2 (by omega),h1,h.e.bar2 h2 (fun h0 b off e=>by have:=he h0 b off e;omega),h.bar.trans h2 (fun k hk e=>False.elim (by omega)),h.sm,h.lN,h.lG,h.ea⟩
def WkSpec (N G:Nat) (ao:Option Addr) (no co cp:Nat) (os:List Or) (f:Nat):Prop:= ∀(at_:Nat) (bd:List ByteArray) (a:Option Addr) (n c:Nat) (s:RS) (w:World),at_<f→at_<s.1.length→s.1.length≤100000→Downs s.1→bd.length+2*at_≤1000000→Hid (SkW N G ao no co cp os w s)→Hid (StArg w a n bd)→(a=none→c=0)→Hid (bd≠[]→ ∀b off,a=some ⟨b,off,none⟩→b≠N∧b≠G)→
  Calls Tryz.prog 55 #[.pointer (some ⟨G,0,none⟩), .int .i64 at_, .slice a n c] w fun e w'=>e= .returned (.tuple #[])∧SkW N G ao no co cp os w' (walkR (opN os) f s at_ bd)∧Bar (NG N G) w w'
end Go.Proofs.YthpcbgljbpmafaaGreatDoor
