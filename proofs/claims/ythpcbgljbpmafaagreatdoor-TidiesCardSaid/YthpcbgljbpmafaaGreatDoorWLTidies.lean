/- Tidies holds for every program. No condition but that the listed package variable holds what the program's text lays. -/
import Derived.Test.YthpcbgljbpmafaaGreatDoorW5
import Derived.Test.YthpcbgljbpmafaaGreatDoorW18
import Derived.Test.YthpcbgljbpmafaaGreatDoorW30
import Derived.Test.YthpcbgljbpmafaaGreatDoorW42
import Derived.Test.YthpcbgljbpmafaaGreatDoorW43
import Derived.Test.YthpcbgljbpmafaaGreatDoorW49
import Derived.Test.YthpcbgljbpmafaaGreatDoorCards
import Derived.Test.YthpcbgljbpmafaaGreatDoorTie
import Derived.WalkKit
import Derived.ProofKit
import Derived.Deep.DeepHandedRow
set_option maxRecDepth 100000
set_option maxHeartbeats 8000000
namespace Go.Proofs.YthpcbgljbpmafaaGreatDoor.tidies
open Go.ChangeShapes Go.WideShapes Go.ChangeAt Go.RowKit
open Go.ChangeMaps (open_string shut_string)
set_option linter.unusedVariables false
set_option linter.unusedSimpArgs false
theorem tabs {W:World} (h:laidMetH Tryz.prog Rows.tidiesRow.laid W):Hid (errTy W):=bH (errTy_of h (.head _))
theorem nil_cap {H:Type} {P:Program} {enc:TypeId × Value→H} {w:World} {base:Nat} {spare:Nat→Bool} {held:Bool} {t e fuel:Nat} {p:Option Addr} {len cap:Nat} {x:DataW H × List MemPlace} (ht:P.underlying t=some (.slice e)) (h:DataW.trod enc P w base spare held fuel t [.slice p len cap]=some x):p=none→cap=0:=by
 intro hp
 subst hp
 rcases Deep.open_slice ht h with ⟨hcs,_⟩|⟨a,len',cap',m,fu,D,Pl,hcs,_⟩
 ·simp at hcs;exact hcs.2
 ·simp at hcs
theorem lentN_belowB {B B':Nat} {w w':World} {g n c:Nat} {l:List Nd} (h:OwnN.Lent B w g n c l) (hb:Below B' w w') (hg:g<B'):OwnN.Lent B w' g n c l:=by
 obtain⟨h1,h2,h3,h4⟩:=h
 refine⟨h1,h2,h3,h4.1, ?_⟩
 rcases h4.2 with h|⟨g',cap,cur,e1,e2,e3,e4⟩
 ·exact .inl h
 ·refine .inr ⟨g',cap,cur,e1,e2, ?_,e4⟩
  injection e1 with e1 _ _;injection e1 with e1;injection e1 with e1 _ _;subst e1
  rw[hb.block g hg];exact e3
theorem lentO_belowB {B B':Nat} {w w':World} {g n c:Nat} {l:List Or} (h:OwnO.Lent B w g n c l) (hb:Below B' w w') (hg:g<B'):OwnO.Lent B w' g n c l:=by
 obtain⟨h1,h2,h3,h4⟩:=h
 refine⟨h1,h2,h3,h4.1, ?_⟩
 rcases h4.2 with h|⟨g',cap,cur,e1,e2,e3,e4⟩
 ·exact .inl h
 ·refine .inr ⟨g',cap,cur,e1,e2, ?_,e4⟩
  injection e1 with e1 _ _;injection e1 with e1;injection e1 with e1 _ _;subst e1
  rw[hb.block g hg];exact e3
theorem lentO_lt {B:Nat} {w:World} {g n c:Nat} {l:List Or} (h:OwnO.Lent B w g n c l):g<w.heap.size:=h.marks.2.2
theorem lentN_lt {B:Nat} {w:World} {g n c:Nat} {l:List Nd} (h:OwnN.Lent B w g n c l):g<w.heap.size:=h.marks.2.2
theorem nsp_own {B:Nat} {w:World} {a:Option Addr} {c:Nat} {l:List Nd} (h:OwnN B w (.slice a l.length c) l):NSp B w a l:=by
 rcases h.cases with ⟨_,h0⟩|⟨g,c',h1,h2,h3,h4,h5,h6⟩
 ·exact .inl h0
 ·injection h1 with h1 _ _
  exact .inr ⟨g,h1,h2,h3,h5,h6⟩
def TdU (os:List Or) (ts:List Nd):List Or × List Nd × Int:=if smayV os ts=true then (os,td ts (ts.length-1) [],0) else ([],[],2500)
theorem td_u {os:List Or} {ts:List Nd} {w w':World} {e:Ending} (h:TdPost os ts w e w') : ∃ao co an cn,e= .returned (.tuple #[.agg #[.slice ao (TdU os ts).1.length co, .slice an (TdU os ts).2.1.length cn], .int .i64 (TdU os ts).2.2])∧Below w.heap.size w w'∧OwnO w.heap.size w' (.slice ao (TdU os ts).1.length co) (TdU os ts).1∧NSp w.heap.size w' an (TdU os ts).2.1:=by
 unfold TdU
 by_cases hm:smayV os ts=true
 ·rw[if_pos hm]
  obtain⟨ao,co,an,cn,h1,h2,h3,h4⟩:=td_ok h hm
  exact⟨ao,co,an,cn,h1,h2,h3,nsp_own h4⟩
 ·obtain⟨rfl,hb⟩:=td_no h (by simpa using hm)
  rw[if_neg hm]
  exact⟨none,0,none,0,rfl,hb,OwnO.nil _ _, .inl rfl⟩
theorem tdU_ok (os:List Or) (ts:List Nd):(TdU os ts).1.length≤4∧(TdU os ts).2.1.length≤600∧0≤(TdU os ts).2.2∧(TdU os ts).2.2≤2500:=by
 unfold TdU
 by_cases hm:smayV os ts=true
 ·rw[if_pos hm]
  obtain⟨h1,h2⟩:=smay_len hm
  have hT:=tre_may hm
  have hl:=td_le hT (ts.length-1) (by have:=hT.len.1;omega) []
  have:=hT.len.1
  refine⟨h2, ?_,Int.le_refl 0,by show (0:Int)≤2500;omega⟩
  show (td ts (ts.length-1) []).length≤600
  rw[List.length_nil] at hl
  omega
 ·rw[if_neg hm];exact⟨Nat.zero_le _,Nat.zero_le _,by show (0:Int)≤2500;omega,by show (2500:Int)≤2500;omega⟩
theorem walk {H:Type} {enc:TypeId × Value→H} (p0:Option Addr) (n0 c0:Nat) (p1:Option Addr) (n1 c1:Nat) (w:World)
  (f0 : ∃fuel y,DataW.trod enc Tryz.prog w 0 (fun _=>true) true fuel 22 [.slice p0 n0 c0]=some y∧ ∀x∈DataW.weights Tryz.prog 22 y.1,x≤reachBytes)
  (f1 : ∃fuel y,DataW.trod enc Tryz.prog w 0 (fun _=>true) true fuel 23 [.slice p1 n1 c1]=some y∧ ∀x∈DataW.weights Tryz.prog 23 y.1,x≤reachBytes)
  (hg:Hid (errTy w)) :
  Calls Tryz.prog 3 #[.agg #[.slice p0 n0 c0, .slice p1 n1 c1]] w fun e w'=>e= .returned (.bool true)∧Below w.heap.size w w':=by
 obtain⟨_,_,t0,t0'⟩:=f0
 have hc0:=nil_cap Tryz.underlying22 t0
 obtain⟨_,hl0,os,hO,hOz⟩:=ops_open t0 t0'
 obtain⟨_,_,t1,t1'⟩:=f1
 obtain⟨_,hl1,ts,hN,hNz⟩:=nodes_open t1 t1'
 clear t0 t0' t1 t1'
 obtain rfl:n1=ts.length:=hN.1
 obtain rfl:n0=os.length:=hO.1
 obtain⟨z1,z2,z5,z6⟩:=tdU_ok os ts
 have hO:=bH hO
 have hN:=bH hN
 have hOz:=bH hOz
 have hNz:=bH hNz
 have hcH:=bH hc0
 clear hc0
 have h0l:=hgl hg.out
 obtain⟨w0,hw0⟩ : ∃W,w.alloc (.cells #[.slice p0 os.length c0, .slice p1 ts.length c1] 25)=W:=⟨_,rfl⟩
 have hP:Hid (Pg w0 w.heap.size p0 os.length c0 p1 ts.length c1):=bH (by rw[← hw0];exact pg_lit w 25 _ rfl _ _ _ _ _ _)
 have hB:Hid (Below w.heap.size w w0):=bH (by rw[← hw0];exact below_alc _ _)
 go_enter Tryz.func3,Tryz.ntmps3
 go_upto_region 1 with fail
 (try rw[hw0])
 clear hw0
 have kL:=bH (lendProgram_any p0 p1 os.length c0 ts.length c1 os ts w0 (bH (hO.out.below hB.out)) (bH (hN.out.below hB.out)) hl0 hl1)
 obtain⟨a0,a1,a2⟩:=hP.out
 go_wp2_with fail
 clear a0 a1 a2
 refine kL.out.mono ?_
 rintro e w1 ⟨gO,cO,gN,cN,rfl,hXO,hXN,hb⟩
 have hXO:=bH hXO
 have hXN:=bH hXN
 have hP:=bH (hP.out.below hb)
 have hB:=bH (belT hB.out hb)
 clear hb kL
 go_upto_region 2 with fail
 obtain⟨w2,hw2⟩ : ∃W,w1.alloc (.cells #[.slice (some ⟨gO,0,none⟩) os.length cO, .slice (some ⟨gN,0,none⟩) ts.length cN] 25)=W:=⟨_,rfl⟩
 have hX:Hid (Pg w2 w1.heap.size (some ⟨gO,0,none⟩) os.length cO (some ⟨gN,0,none⟩) ts.length cN):=bH (by rw[← hw2];exact pg_lit _ _ _ rfl _ _ _ _ _ _)
 have hb:Below w1.heap.size w1 w2:=by rw[← hw2];exact below_alc _ _
 (try rw[hw2])
 clear hw2
 have hXO:=bH (hXO.out.below hb)
 have hXN:=bH (hXN.out.below hb)
 have hP:=bH (hP.out.below hb)
 have hB:=bH (belT hB.out hb)
 clear hb
 have hX1:=hX.out.1
 have hPl:w.heap.size<w2.heap.size:=hP.out.1
 have gOl:=lentO_lt hXO.out
 have gNl:=lentN_lt hXN.out
 have kR:=bH (tidy_any (some ⟨gO,0,none⟩) (some ⟨gN,0,none⟩) os.length cO ts.length cN os ts w2 (bH hXO.out.arg) hOz (by omega) (bH hXN.out.arg) hNz (by omega) (bH (hg.out.below hB.out)))
 obtain⟨a0,a1,a2⟩:=hX.out
 go_wp2_with fail
 clear a0 a1 a2
 refine kR.out.mono ?_
 intro e w3 hpost
 obtain⟨ao,co,an,cn,rfl,hb,hAO,hAN⟩:=td_u hpost
 clear hpost kR
 have kR:=bH fun (W:World) (hb:Below w2.heap.size w2 W)=>rTidy_any p0 p1 os.length c0 ts.length c1 os ts W (bH (hO.out.below (belT hB.out hb))) hcH.out hOz (by omega) (bH (hN.out.below (belT hB.out hb))) hNz (by omega)
 have hru:=bH fun (W W':World) (e:Ending) (h:TdPost os ts W e W')=>td_u h
 generalize TdU os ts=R at hAO hAN z1 z2 z5 z6 hru ⊢
 obtain⟨oA,nA,code⟩:=R
 dsimp only at z1 z2 z5 z6 hAO hAN hru ⊢
 have hAO:=bH hAO
 have hAN:=bH hAN
 have hB2:=bH hb
 clear hb
 go_upto_region 3 with fail
 obtain⟨w4,hw4⟩ : ∃W,w3.alloc (.cells #[.slice ao oA.length co, .slice an nA.length cn] 25)=W:=⟨_,rfl⟩
 have hA:Hid (Pg w4 w3.heap.size ao oA.length co an nA.length cn):=bH (by rw[← hw4];exact pg_lit _ _ _ rfl _ _ _ _ _ _)
 have hb:Below w3.heap.size w3 w4:=by rw[← hw4];exact below_alc _ _
 (try rw[hw4])
 clear hw4
 have hAO:=bH (hAO.out.below hb)
 have hAN:=bH (hAN.out.below hb)
 have hB2:=bH (belT hB2.out hb)
 clear hb
 have kR:=bH (kR.out w4 hB2.out)
 obtain⟨a0,a1,a2⟩:=hP.out.below hB2.out
 go_wp2_with fail
 clear a0 a1 a2
 refine kR.out.mono ?_
 intro e w5 hpost
 obtain⟨bo,eo,bn,en,rfl,hb,hBO,hBN⟩:=hru.out _ _ _ hpost
 clear hpost kR hru
 have hBO:=bH hBO.arg
 have hBN:=bH hBN.arg
 have hAO:=bH (hAO.out.below hb)
 have hAN:=bH (hAN.out.below hb)
 have hA:=bH (hA.out.below hb)
 have hB2:=bH (belT hB2.out hb)
 clear hb
 go_upto_region 4 with fail
 obtain⟨w6,hw6⟩ : ∃W,w5.alloc (.cells #[.slice bo oA.length eo, .slice bn nA.length en] 25)=W:=⟨_,rfl⟩
 have hC:Hid (Pg w6 w5.heap.size bo oA.length eo bn nA.length en):=bH (by rw[← hw6];exact pg_lit _ _ _ rfl _ _ _ _ _ _)
 have hb:Below w5.heap.size w5 w6:=by rw[← hw6];exact below_alc _ _
 (try rw[hw6])
 clear hw6
 have hAO:=bH (hAO.out.below hb)
 have hAN:=bH (hAN.out.below hb)
 have hBO:=bH (hBO.out.below hb)
 have hBN:=bH (hBN.out.below hb)
 have hA:=bH (hA.out.below hb)
 have hB2:=bH (belT hB2.out hb)
 clear hb
 have hBw:=bH (belT hB.out hB2.out)
 have hlo:oA.length≤140737488351232:=by omega
 have hln:nA.length≤140737488351232:=by omega
 have hcd:code≤9223372036854775807:=by omega
 have kS:=bH (sameProg_any ao an bo bn oA.length co nA.length cn oA.length eo nA.length en oA nA w6 (bH hAO.out.arg) (bH hAN.out.arg) hBO hBN hlo hln)
 obtain⟨a0,a1,a2⟩:=hA.out
 obtain⟨b0,b1,b2⟩:=hC.out
 go_wp2_with fail
 clear a0 a1 a2 b0 b1 b2
 refine kS.out.mono ?_
 rintro e wn ⟨rfl,hD⟩
 have h26:=belT hB2.out hD
 have hs2:=h26.size
 have kP:=bH (spoilProg_any w2.heap.size ao co an cn oA nA wn hs2 (bH (hAO.out.below hD)) (bH (hAN.out.below hD)) (by omega) (by omega))
 have hX:=bH (hX.out.below h26)
 have hP:=bH (hP.out.below h26)
 have hXO:=bH (hXO.out.below h26)
 have hXN:=bH (hXN.out.below h26)
 have hAn:=bH (hA.out.below hD)
 have hBn:=bH (belT hBw.out hD)
 have hXl:w1.heap.size<w2.heap.size:=hX1
 clear hA hAO hAN hBO hBN hC hB2 kS
 obtain⟨e0,e1,e2⟩:=hAn.out
 go_wp2_with ((go_at_call 11;refine(num_any code _ z5 hcd).mono ?_;rintro e wm ⟨rfl,rfl⟩))
 clear e0 e1 e2 hAn
 refine kP.out.mono ?_
 rintro e wS ⟨rfl,hs⟩
 have hXO:=bH (lentO_belowB hXO.out hs gOl)
 have hXN:=bH (lentN_belowB hXN.out hs gNl)
 have hX2:Hid (Pg wS w1.heap.size (some ⟨gO,0,none⟩) os.length cO (some ⟨gN,0,none⟩) ts.length cN):=bH ⟨by have:=hs.size;omega,(hs.cell (p:=⟨w1.heap.size,0,none⟩) hXl).trans hX.out.2.1,(hs.cell (p:=⟨w1.heap.size,1,none⟩) hXl).trans hX.out.2.2⟩
 have hP2:Hid (Pg wS w.heap.size p0 os.length c0 p1 ts.length c1):=bH ⟨by have:=hs.size;omega,(hs.cell (p:=⟨w.heap.size,0,none⟩) hPl).trans hP.out.2.1,(hs.cell (p:=⟨w.heap.size,1,none⟩) hPl).trans hP.out.2.2⟩
 have hBS:=bH (hBn.out.trans (hs.mono (Nat.le_of_lt hPl)))
 have kK:=bH (keptProgram_any gO os.length cO gN ts.length cN p0 p1 c0 c1 os ts wS hXO (bH (hO.out.below hBS.out)) hXN (bH (hN.out.below hBS.out)) (by omega) (by omega))
 clear hs hX hP kP hD hBn h26
 obtain⟨e1,e2,e3⟩:=hX2.out
 obtain⟨d1,d2,d3⟩:=hP2.out
 go_wp2_with fail
 clear e1 e2 e3 d1 d2 d3
 refine kK.out.mono ?_
 rintro e wT ⟨rfl,hb⟩
 have hBT:=bH (belT hBS.out hb)
 clear hb kK
 go_wp2_with fail
 refine(awake25_any _ (bH (hg.out.below hBT.out))).mono ?_
 rintro e wU ⟨rfl,hb⟩
 go_wp2_with fail
 go_ret
 exact⟨rfl,belT hBT.out hb⟩
theorem own:ownKnob Tryz.prog.godebug=none:=by kernel_rfl
theorem laidOut:laidOutB Tryz.prog=true:=by kernel_rfl
theorem contract (H:Type) (enc:TypeId × Value→H) (W:World) (base:Nat) (args:Array Value) (ds gs:List (DataW H)) (before:List MemPlace)
  (hval0 : ∀(j:Nat) t v,Tryz.f3.params[j]? = some t→args[j]? = some v→Value.okWide Tryz.prog W .any base t v)
  (hW:DataW.Whole enc Tryz.prog Tryz.f3.params.toList Rows.tidiesSpec.vars false W args.toList ds gs before)
  (hsz0:(DataW.weightsEach Tryz.prog (Tryz.f3.params.toList++Rows.tidiesSpec.plain.varTypes Tryz.prog) (ds++gs)).all (· ≤ reachBytes)=true)
  (hL:laidMetH Tryz.prog Rows.tidiesRow.laid W)
  : Calls Tryz.prog 3 args W fun e W'=> ∃v,e= .returned v∧Rows.tidiesSpec.post enc Tryz.prog Tryz.f3 false true false false W args v W':=by
 have hval : ∀(j:Nat) t v,Tryz.f3.params[j]? = some t→args[j]? = some v→Value.okWide Tryz.prog W .any base t v:=hval0
 have hsz:(DataW.weightsEach Tryz.prog (Tryz.f3.params.toList++Rows.tidiesSpec.plain.varTypes Tryz.prog) (ds++gs)).all (· ≤ reachBytes)=true:=hsz0
 have hW':=hW
 obtain⟨p,q,hA0,hV,rfl,hfz,hnd⟩:=hW
 have hA:DataW.TrodAll enc Tryz.prog W 0 (fun _=>true) true Tryz.f3.params.toList args.toList ds p:=hA0
 rw[Tryz.params3] at hA hval hsz
 obtain⟨v0,vs0,d0,ds0,p0,q0,hargs,rfl,rfl,h0,r0⟩:=trodAll_cons hA
 obtain⟨rfl,rfl,rfl⟩:=trodAll_nil r0
 obtain rfl:args= #[v0]:=by cases args;simp_all
 obtain⟨rfl,rfl⟩:=trodVars_none hV
 have k0:=h0
 have lt0 : ∀x∈p0,x.block<W.heap.size:=by obtain⟨m,hm⟩:=k0;exact DataW.trod_lt m _ _ _ hm
 obtain⟨cs0_0,rfl,fit0_0⟩:=open_struct Tryz.underlying25 (f:=6) (by kernel_rfl:flat Tryz.prog 6 25=some [.sl 22, .sl 23]) (hval 0 25 v0 rfl rfl) h0 (sized_of hsz (j:=0) (t:=25) rfl rfl)
 obtain⟨_,cs0_1,rfl,⟨a0_0,n0_0,c0_0,fu0_0,y0_0,rfl,f0_0,g0_0⟩,fit0_1⟩:=fit_i fit0_0
 obtain⟨_,cs0_2,rfl,⟨a0_1,n0_1,c0_1,fu0_1,y0_1,rfl,f0_1,g0_1⟩,fit0_2⟩:=fit_i fit0_1
 obtain rfl:=fit_nil fit0_2
 clear hA0 hval0
 refine(walk a0_0 n0_0 c0_0 a0_1 n0_1 c0_1 W ⟨_,_,f0_0,g0_0⟩ ⟨_,_,f0_1,g0_1⟩ (tabs hL)).mono fun e W' ⟨he,bel⟩=> ?_
 subst he
 exact⟨_,rfl,_,_,_,[],_,[],hW',trodAll_mk1 (shut_bool Tryz.underlying4 _),(trodAll_cons_mk (Below.trod laidOut (by kernel_rfl) (of_decide_eq_true (by kernel_rfl)) k0 bel lt0) trodAll_mk0),rfl,bel.frame _,fun h=>by cases h⟩
theorem laid_met (os:Os):laidMetH Tryz.prog Rows.tidiesRow.laid ((handleWorld os).forCall (fun _ _=>0) ⟨#[], #[.agg #[.slice none 0 0, .slice none 0 0]],[]⟩).memory:=laidMetH_of_parts (laidMet_nil _ _) (by kernel_rfl)
theorem reads (os:Os) {H:Type} (enc:TypeId × Value→H) : ∃places,DataW.whole enc Tryz.prog ((handleWorld os).forCall (fun _ _=>0) ⟨#[], #[.agg #[.slice none 0 0, .slice none 0 0]],[]⟩).memory Tryz.f3.params.toList Rows.tidiesSpec.vars false #[(.agg #[.slice none 0 0, .slice none 0 0]:Value)].toList 8=some ([.agg [.nil, .nil]],[],places):=⟨[],by kernel_rfl⟩
theorem lifted (os:Os) (started:os.Started) (H:Type) (enc:TypeId × Value→H) (F:Stop.Interp) :
  ReturnsInHanded {} Tryz.checked os 3 .any ((OpenSpec.ofChange Rows.tidiesSpec).preRow enc Tryz.prog Tryz.f3 Rows.tidiesRow.domain false Rows.tidiesRow.laid) (((OpenSpec.ofChange Rows.tidiesSpec).at F).post enc Tryz.prog Tryz.f3 false true false false):=by
 obtain⟨places,hx⟩:=reads os enc
 refine returnsInHanded_of_row (C:=Tryz.checked) (s:=(OpenSpec.ofChange Rows.tidiesSpec)) own started (by kernel_rfl) Tryz.func3
  (witness_row_at (enc:=enc) (C:=Tryz.checked) false (handleWorld os) #[.agg #[.slice none 0 0, .slice none 0 0]] rfl (by kernel_rfl) (by kernel_rfl) (by kernel_rfl)
   (OpenSpec.preRow_of_cond 8 hx (by kernel_rfl) (fun k hk=>by cases hk) (by kernel_rfl) (laid_met os))) ?_
 intro W base args ds gs before hval hW _ hcnd hsz hL _ _
 exact contract H enc W base args ds gs before hval hW hsz  hL
theorem said:Rows.TidiesSaid:=
 OpenClaim.holds_of_cond 3 Tryz.f3 rfl rfl rfl rfl rfl rfl rfl ⟨rfl,rfl,rfl,rfl,rfl⟩ rfl rfl rfl rfl rfl (by kernel_rfl) Tryz.func3 (by kernel_rfl)
  (of_decide_eq_true (by kernel_rfl)) (by unfold Func.isWrapper;first|(rw[if_pos (by decide +kernel)];kernel_rfl)|(rw[if_neg (by decide +kernel)];exact⟨rfl,rfl⟩))
  (fun os started H enc _ F=>by rw[OpenClaim.pre_eq_preRow];exact lifted os started H enc F)
theorem plain (f:FuncId) (fn:Func) (hf:Tryz.pinned.checked.prog.funcNamed "trammel/trammellaw25.Tidies" = some f) (hfn:Tryz.pinned.checked.prog.funcs[f]? = some fn) :
  true=Tryz.pinned.checked.prog.looks []∧ ∀(j:Nat) t,fn.params[j]? = some t→Tryz.pinned.checked.prog.wantsStandIn t=false:=by
 obtain rfl:f=3:=Option.some.inj ((show Tryz.prog.funcNamed "trammel/trammellaw25.Tidies" = some 3 by kernel_rfl).symm.trans hf) |>.symm
 obtain rfl:fn=Tryz.f3:=(Option.some.inj (Tryz.func3.symm.trans hfn)).symm
 refine⟨by kernel_rfl,fun j t ht=> ?_⟩
 rw[Tryz.params3] at ht
 have hm:=Array.mem_of_getElem? ht
 have hm2:t∈([25]:List Nat):=by simpa using hm
 simp only[List.mem_cons,List.not_mem_nil,or_false] at hm2
 subst hm2;exact(show Tryz.prog.wantsStandIn 25=false by kernel_rfl)
theorem proved:Rows.TidiesCardSaid:=
 Claim7.holds_tied_plain_at .later [] _ _ _ _ said (fun _ h=>by cases h) (by kernel_rfl) (fun _ h=>by cases h) tidies_row_tie rfl ⟨rfl,rfl⟩ (by kernel_rfl) rfl plain (by kernel_rfl)
end Go.Proofs.YthpcbgljbpmafaaGreatDoor.tidies
