/- The walk at a name, a function, a let. -/
import Derived.Test.YthpcbgljbpmafaaGreatDoorW35
set_option maxRecDepth 100000
set_option maxHeartbeats 8000000
namespace Go.Proofs.YthpcbgljbpmafaaGreatDoor
open Go.RowKit
set_option linter.unusedVariables false
set_option linter.unusedSimpArgs false
theorem rk_0 (N G:Nat) (ao:Option Addr) (no co cp:Nat) (os:List Or) (hA:Hid (Apart N G ao os)) (hl:no≤1000000) (f:Nat) (ih:WkSpec N G ao no co cp os f) (at_:Nat) (bd:List ByteArray) (a:Option Addr) (n c:Nat) (s:RS) (w:World) (hf:at_<f+1) (hat:at_<s.1.length) (hsl:s.1.length≤100000) (hD:Downs s.1) (hlen:bd.length+2*at_≤1000000) (hW:Hid (SkW N G ao no co cp os w s)) (hE:Hid (StArg w a n bd)) (hnn:a=none→c=0) (hEa:Hid (bd≠[]→ ∀b off,a=some ⟨b,off,none⟩→b≠N∧b≠G)) (hk0:(s.1.getD at_ nd0).k=0) :
  Calls Tryz.prog 55 #[.pointer (some ⟨G,0,none⟩), .int .i64 at_, .slice a n c] w fun e w'=>e= .returned (.tuple #[])∧SkW N G ao no co cp os w' (walkR (opN os) (f+1) s at_ bd)∧Bar (NG N G) w w':=by
 obtain⟨t,ht⟩ : ∃t,s.1.getD at_ nd0=t:=⟨_,rfl⟩
 rw[ht] at hk0
 have hk1:=bH hk0
 clear hk0
 have hN:=hW.out.nd at_ hat
 rw[ht] at hN
 unfold NdAt at hN
 simp only[Nat.zero_add] at hN
 have hkid:=bH (fun c (hc:c∈kidsS t)=>hD at_ hat c (by rw[ht];exact hc))
 have hEq:Hid (∀s2,kidsR (walkR (opN os) f) (startR s (meanR (opN os) bd t) t.p) (kidsS t) bd=s2→walkR (opN os) (f+1) s at_ bd=(s2.1.set at_ (bare t (meanR (opN os) bd t).1),s2.2)):=bH fun s2 h=>by rw[← h, ← ht];rfl
 have hNl:=hW.out.nl
 have hGl:=hW.out.gl
 have hEl:=bH hE.out.lt
 have hAl:=bH hW.out.op.lt
 obtain rfl:n=bd.length:=hE.out.1
 obtain⟨w1,hw1⟩ : ∃W,((w.alloc (.cells #[.int .i64 t.k, .int .i64 t.a, .int .i64 t.b, .int .i64 t.c, .int .i64 t.n, .string t.nm, .string t.x, .string t.y, .string t.z, .int .i64 t.p] 45)).alloc (.cells #[.int .i64 t.k, .int .i64 t.a, .int .i64 t.b, .int .i64 t.c, .int .i64 t.n, .string ⟨#[]⟩, .string ⟨#[]⟩, .string ⟨#[]⟩, .string ⟨#[]⟩, .int .i64 t.p] 45))=W:=⟨_,rfl⟩
 have hb1:Below w.heap.size w w1:=by rw[← hw1];exact belA _ (below_alc _ _)
 have hX:Nd10 w1 w.heap.size t:=by rw[← hw1];exact(nd10_lit w _ 45 _ t rfl rfl).below (below_alc _ _)
 have hY:Nd10 w1 (w.heap.size+1) (bare t t.n):=by rw[← hw1];exact nd10_lit _ _ 45 _ (bare t t.n) (by simp) rfl
 have hL:Hid (SkL N G ao no co cp os a bd.length bd t t.n s.1 w s w1):=bH ⟨hW.out.below hb1,hX,hY,hE.out.below hb1,Bar.of_below hb1,Same.refl _,hNl,hGl,hEa.out⟩
 have hati:(at_:Int)<(s.1.length:Int):=by omega
 have hat0:(0:Int)≤(at_:Int):=by omega
 have hD:=bH hD
 have r0:=hW.out.r
 clear ht hX hY hb1 hW hE
 go_enter Tryz.func55,Tryz.ntmps55
 obtain⟨e0,e1,e2,e3,e4,e5,e6,e7,e8,e9⟩:=hN
 go_upto_region 2 with fail
 (try rw[hw1])
 clear hw1 e0 e1 e2 e3 e4 e5 e6 e7 e8 e9 r0
 obtain⟨xl,x0,x1,x2,x3,x4,x5,x6,x7,x8,x9,_⟩:=hL.out.x
 go_upto_block 0 with fail
 go_cut [8] (fun s8 W=>MidK N G ao no co cp os f at_ bd s t w W)
 case rest=>
  obtain⟨s2,m,hfin,hlen2,hS2,hY2,hB2⟩:=hcut
  rename World=>W2
  obtain⟨u,hu⟩ : ∃u,bare t m=u:=⟨_,rfl⟩
  rw[hu] at hfin hY2
  clear hu xl x0 x1 x2 x3 x4 x5 x6 x7 x8 x9 hL ih hEq hkid
  have hfin:=bH hfin
  go_upto_region 34 with fail
  have hdw:Below W2.heap.size W2 W2.drew:=(Below.refl _ _).drew
  have hY:=bH (hY2.below hdw)
  have hS:=bH (hS2.below hdw)
  have hB:=bH (hB2.next hdw)
  obtain⟨_,y0,y1,y2,y3,y4,y5,y6,y7,y8,y9,_⟩:=hY.out
  refine wp_region_held_drew (S:=(fun W=>W.cell? ⟨G,1,none⟩=some (.slice (some ⟨N,0,none⟩) s2.1.length cp)∧W.cell? ⟨w.heap.size+1,0,none⟩=some (.int .i64 u.k)∧W.cell? ⟨w.heap.size+1,1,none⟩=some (.int .i64 u.a)∧W.cell? ⟨w.heap.size+1,2,none⟩=some (.int .i64 u.b)∧W.cell? ⟨w.heap.size+1,3,none⟩=some (.int .i64 u.c)∧W.cell? ⟨w.heap.size+1,4,none⟩=some (.int .i64 u.n)∧W.cell? ⟨w.heap.size+1,5,none⟩=some (.string u.nm)∧W.cell? ⟨w.heap.size+1,6,none⟩=some (.string u.x)∧W.cell? ⟨w.heap.size+1,7,none⟩=some (.string u.y)∧W.cell? ⟨w.heap.size+1,8,none⟩=some (.string u.z)∧W.cell? ⟨w.heap.size+1,9,none⟩=some (.int .i64 u.p))) (by kernel_rfl) ⟨hS.out.r,y0,y1,y2,y3,y4,y5,y6,y7,y8,y9⟩ (fun hHeld=> ?_)
  generalize W2.drew=wd at hS hY hB hHeld ⊢
  clear hdw y0 y1 y2 y3 y4 y5 y6 y7 y8 y9 hS2 hY2 hB2
  have hat1:at_<s2.1.length:=by omega
  have hati1:(at_:Int)<(s2.1.length:Int):=by omega
  refine rg_take 0 (some 188) (v:= ?w900) rfl rfl (by kernel_rfl) (by kernel_rfl) (by kernel_rfl) (fun _ _ _ h=>h) (by rfl) ?hz900 (by assumption) ?_
  case hz900=>intro W hSW;(try dsimp only at hSW);go_simp;(try with_reducible rfl)
  try simp only[Act.put,List.setIfInBounds_toArray,List.set_cons_zero,List.set_cons_succ]
  refine rg_take 1 (some 189) (v:= ?w901) rfl rfl (by kernel_rfl) (by kernel_rfl) (by kernel_rfl) (fun _ _ _ h=>h) (by rfl) ?hz901 (by assumption) ?_
  case hz901=>intro W hSW;(try dsimp only at hSW);go_simp;(try with_reducible rfl)
  try simp only[Act.put,List.setIfInBounds_toArray,List.set_cons_zero,List.set_cons_succ]
  refine rg_take 2 (some 190) (v:= ?w902) rfl rfl (by kernel_rfl) (by kernel_rfl) (by kernel_rfl) (fun _ _ _ h=>h) (by rfl) ?hz902 (by assumption) ?_
  case hz902=>intro W hSW;(try dsimp only at hSW);go_simp;(try with_reducible rfl)
  try simp only[Act.put,List.setIfInBounds_toArray,List.set_cons_zero,List.set_cons_succ]
  refine rg_take 3 (some 191) (v:= ?w903) rfl rfl (by kernel_rfl) (by kernel_rfl) (by kernel_rfl) (fun _ _ _ h=>h) (by rfl) ?hz903 (by assumption) ?_
  case hz903=>intro W hSW;(try dsimp only at hSW);go_simp;(try with_reducible rfl)
  try simp only[Act.put,List.setIfInBounds_toArray,List.set_cons_zero,List.set_cons_succ]
  refine rg_take 4 (some 192) (v:= ?w904) rfl rfl (by kernel_rfl) (by kernel_rfl) (by kernel_rfl) (fun _ _ _ h=>h) (by rfl) ?hz904 (by assumption) ?_
  case hz904=>intro W hSW;(try dsimp only at hSW);go_simp;(try with_reducible rfl)
  try simp only[Act.put,List.setIfInBounds_toArray,List.set_cons_zero,List.set_cons_succ]
  refine rg_take 5 (some 193) (v:= ?w905) rfl rfl (by kernel_rfl) (by kernel_rfl) (by kernel_rfl) (fun _ _ _ h=>h) (by rfl) ?hz905 (by assumption) ?_
  case hz905=>intro W hSW;(try dsimp only at hSW);go_simp;(try with_reducible rfl)
  try simp only[Act.put,List.setIfInBounds_toArray,List.set_cons_zero,List.set_cons_succ]
  refine rg_take 6 (some 194) (v:= ?w906) rfl rfl (by kernel_rfl) (by kernel_rfl) (by kernel_rfl) (fun _ _ _ h=>h) (by rfl) ?hz906 (by assumption) ?_
  case hz906=>intro W hSW;(try dsimp only at hSW);go_simp;(try with_reducible rfl)
  try simp only[Act.put,List.setIfInBounds_toArray,List.set_cons_zero,List.set_cons_succ]
  refine rg_one 7 rfl (by kernel_rfl) (by rfl) (fun K hK=> ?_)
  have hNd:=hS.out.nd at_ hat1
  generalize s2.1.getD at_ nd0=v at hNd
  unfold NdAt at hNd
  simp only[Nat.zero_add] at hNd
  obtain⟨f0,f1,f2,f3,f4,f5,f6,f7,f8,f9⟩:=hNd
  have hfz:=hS.out.fz
  obtain⟨wF,hwF⟩ : ∃W,st10 wd N (at_*10) u=W:=⟨_,rfl⟩
  obtain⟨hSF,hbF⟩:=hS.out.put hA.out hat1 u
  rw[hwF] at hSF hbF
  have hSF:=bH hSF
  have hbF:=bH hbF
  unfold st10 at hwF
  go_simp
  (try rw[hwF])
  clear hwF f0 f1 f2 f3 f4 f5 f6 f7 f8 f9 hfz
  obtain⟨z0,z1,z2,z3,z4,z5,z6,z7,z8,z9,z10⟩:=hHeld
  have hgN : ¬ NG N G (w.heap.size+1):=fun e=>by rcases e with e|e<;>omega
  refine hK.out _ _ ⟨by have h:=hSF.out.r;rwa [List.length_set] at h,hbF.out.cell z1 hgN,hbF.out.cell z2 hgN,hbF.out.cell z3 hgN,hbF.out.cell z4 hgN,hbF.out.cell z5 hgN,hbF.out.cell z6 hgN,hbF.out.cell z7 hgN,hbF.out.cell z8 hgN,hbF.out.cell z9 hgN,hbF.out.cell z10 hgN⟩ (fun hHeld7=> ?_)
  clear hK K z0 z1 z2 z3 z4 z5 z6 z7 z8 z9 z10 hHeld7
  try simp only[Act.put,List.setIfInBounds_toArray,List.set_cons_zero,List.set_cons_succ]
  refine wpAnyH_done (by kernel_rfl) ?_ _
  go_wp2_with fail
  go_end0
  rw[hfin.out]
  exact⟨rfl,hSF.out,hB.out.trans hbF.out fun _ _ e=>e⟩
 case first=>
 have hk0:=hk1.out
 clear hk1
 obtain⟨k,ta,tb,tc,n,nm,x,y,z,p⟩:=t
 dsimp only at hk0
 subst hk0
 dsimp only at x0 x5 x9
 have hmean:Hid (∀r,meanR (opN os) bd ⟨0,ta,tb,tc,n,nm,x,y,z,p⟩=r→walkR (opN os) (f+1) s at_ bd=((startR s r p).1.set at_ (bare ⟨0,ta,tb,tc,n,nm,x,y,z,p⟩ r.1),(startR s r p).2)):=bH fun r h=>by
  have h2:=hEq.out (startR s r p) (by rw[h];rfl)
  rw[h] at h2;exact h2
 have hhit:Hid (∀m,m<bd.length→NoNear bd nm m→eqS (bd.getD (bd.length-1-m) ⟨#[]⟩) nm=true→meanR (opN os) bd ⟨0,ta,tb,tc,n,nm,x,y,z,p⟩=((m:Int),0)):=bH fun m h1 h2 h3=>by
  unfold meanR;rw[if_pos rfl];dsimp only;rw[near_hit h1 h2 h3]
 have hnone:Hid (NoNear bd nm bd.length→meanR (opN os) bd ⟨0,ta,tb,tc,n,nm,x,y,z,p⟩=((bd.length:Int),601)):=bH fun h1=>by
  unfold meanR;rw[if_pos rfl];dsimp only;rw[near_none h1]
 have hYl:=hL.out.y
 have hEb:=hL.out.e
 have ew:IntKind.i64.wrap ((bd.length:Int)-1)=(bd.length:Int)-1:=by rw[IntWalk.i64_in _ (by omega)]
 go_wp2_with fail
 go_loopw [8] (fun iv wr=> ∃(m:Nat) (zi:Int),zi=(bd.length:Int)-1-m∧m≤bd.length∧iv= .int .i64 zi∧Hid (SkL N G ao no co cp os a bd.length bd ⟨0,ta,tb,tc,n,nm,x,y,z,p⟩ n s.1 w s wr)∧Hid (NoNear bd nm m)) (fun iv _=>(intOf iv+1).toNat)
 case atStart=>exact⟨0,(bd.length:Int)-1,by omega,by omega,rfl,hL,bH fun j hj=>by omega⟩
 case round=>
  obtain⟨m,zi,hz,hm,rfl,hL,hI⟩:=hrel
  obtain⟨xl,x0,x1,x2,x3,x4,x5,x6,x7,x8,x9,_⟩:=hL.out.x
  dsimp only at x5 x9
  have hEb:=hL.out.e
  by_cases hme:m=bd.length
  ·subst hme
   have hzn : ¬ (0:Int)≤zi:=by omega
   have hzl:zi<0:=by omega
   have hzd:decide ((0:Int)≤zi)=false:=decide_eq_false hzn
   have hr:=bH (hmean.out _ (hnone.out hI.out))
   have hew:IntKind.i64.wrap ((bd.length:Int)-1)=(bd.length:Int)-1:=by rw[IntWalk.i64_in _ (by omega)]
   have hew2:IntKind.i64.wrap ((bd.length:Int)-1-zi)=(bd.length:Int)-1-zi:=by rw[IntWalk.i64_in _ (by omega)]
   have hz2:(bd.length:Int)-1-zi=(bd.length:Int):=by omega
   rw[hz2] at hew2
   have hz2:=bH hz2
   clear hz hnone hhit hmean ew hEb xl x0 x1 x2 x3 x4 x6 x7 x8 x9
   go_wp2_with fail
   go_quiet (fail)
   generalize hwq:wr.drewN _=wq
   have hL:=bH (hL.out.below (show Below wr.heap.size wr wq by rw[← hwq];exact below_drewN (Below.refl _ _) _))
   clear hwq x5
   obtain⟨xl,x0,x1,x2,x3,x4,x5,x6,x7,x8,x9,_⟩:=hL.out.x
   dsimp only at x9
   have kF:=bH (fail_any N G ao no co cp os s 601 p wq (bH hL.out.sk) hA)
   go_wp2_with fail
   refine kF.out.mono ?_
   rintro e w3 ⟨rfl,hs,hb⟩
   have hL:=bH (hL.out.next (hb.mono (S':=NG N G) (fun k e=> .inr e)) hs (by show Same s.1 (failR s 601 p).1;unfold failR;split<;>exact Same.refl _))
   clear hs hb kF xl x0 x1 x2 x3 x4 x5 x6 x7 x8 x9
   obtain⟨yl,y0,y1,y2,y3,y4,y5,y6,y7,y8,y9,yf⟩:=hL.out.y
   dsimp only[bare] at y4
   have hL2:=hL.out.num hEl.out hAl.out (bd.length:Int)
   obtain⟨w4,hw4⟩ : ∃W,w3.setCell ⟨w.heap.size+1,4,none⟩ (.int .i64 (bd.length:Int))=W:=⟨_,rfl⟩
   rw[hw4] at hL2
   have hL2:=bH hL2
   go_wp2_with fail
   go_meet
   exact⟨failR s 601 p,(bd.length:Int),hr.out,hL2.out.sm.len,hL2.out.sk,hL2.out.y,hL2.out.bar⟩
  ·obtain⟨j,hj⟩ : ∃j:Nat,bd.length-1-m=j:=⟨_,rfl⟩
   obtain rfl:zi=(j:Int):=by omega
   have hjl:j<bd.length:=by omega
   rcases hEb.2 with h0|⟨b,off,rfl,hs,hbl⟩
   ·rw[h0] at hjl;simp at hjl
   have hc:=hs j hjl
   have hst:=bH (hhit.out m (by omega) hI.out)
   rw[hj] at hst
   obtain⟨q,hq⟩ : ∃q,eqS (bd.getD j ⟨#[]⟩) nm=q:=⟨_,rfl⟩
   rw[hq] at hst
   have hI2:Hid (q=false→NoNear bd nm (m+1)):=bH fun e i hi=>by
    by_cases him:i=m
    ·subst him;rw[hj,hq,e]
    ·exact hI.out i (by omega)
   unfold eqS at hq
   generalize bd.getD j ⟨#[]⟩=u at hc hq
   have hji:(j:Int)<(bd.length:Int):=by omega
   have hj0:(0:Int)≤(j:Int):=by omega
   have hjd:decide ((0:Int)≤(j:Int))=true:=decide_eq_true hj0
   have ej:IntKind.i64.wrap ((j:Int)-1)=(j:Int)-1:=by rw[IntWalk.i64_in _ (by omega)]
   have hjn : ¬ (j:Int)<0:=by omega
   have hmj:(bd.length:Int)-1-(j:Int)=(m:Int):=by omega
   have hmj:=bH hmj
   clear hs hz
   cases q
   ·go_wp2_with fail
    go_quiet (fail)
    go_wp2_with fail
    go_roundw
    case rel=>exact⟨m+1,(j:Int)-1,by omega,by omega,rfl,bH (hL.out.below (below_drewN (Below.refl _ _) _)),bH (hI2.out (by first|rfl|trivial))⟩
    case measure=>simp[intOf]
   ·have hew:IntKind.i64.wrap ((bd.length:Int)-1)=(bd.length:Int)-1:=by rw[IntWalk.i64_in _ (by omega)]
    have hew2:IntKind.i64.wrap ((bd.length:Int)-1-(j:Int))=(m:Int):=by rw[IntWalk.i64_in _ (by omega),hmj.out]
    have hr:=bH (hmean.out _ (hst.out (by first|rfl|trivial)))
    clear ew hnone hhit hmean hst
    go_wp2_with fail
    go_quiet (fail)
    generalize hwq:wr.drewN _=wq
    have hL:=bH (hL.out.below (show Below wr.heap.size wr wq by rw[← hwq];exact below_drewN (Below.refl _ _) _))
    clear hwq xl x0 x1 x2 x3 x4 x5 x6 x7 x8 x9
    obtain⟨yl,y0,y1,y2,y3,y4,y5,y6,y7,y8,y9,yf⟩:=hL.out.y
    dsimp only[bare] at y4
    have hL2:=hL.out.num hEl.out hAl.out (m:Int)
    obtain⟨w4,hw4⟩ : ∃W,wq.setCell ⟨w.heap.size+1,4,none⟩ (.int .i64 (m:Int))=W:=⟨_,rfl⟩
    rw[hw4] at hL2
    have hL2:=bH hL2
    go_wp2_with fail
    go_meet
    exact⟨s,(m:Int),hr.out,hL2.out.sm.len,hL2.out.sk,hL2.out.y,hL2.out.bar⟩
theorem rk_3 (N G:Nat) (ao:Option Addr) (no co cp:Nat) (os:List Or) (hA:Hid (Apart N G ao os)) (hl:no≤1000000) (f:Nat) (ih:WkSpec N G ao no co cp os f) (at_:Nat) (bd:List ByteArray) (a:Option Addr) (n c:Nat) (s:RS) (w:World) (hf:at_<f+1) (hat:at_<s.1.length) (hsl:s.1.length≤100000) (hD:Downs s.1) (hlen:bd.length+2*at_≤1000000) (hW:Hid (SkW N G ao no co cp os w s)) (hE:Hid (StArg w a n bd)) (hnn:a=none→c=0) (hEa:Hid (bd≠[]→ ∀b off,a=some ⟨b,off,none⟩→b≠N∧b≠G)) (hk0:(s.1.getD at_ nd0).k=3) :
  Calls Tryz.prog 55 #[.pointer (some ⟨G,0,none⟩), .int .i64 at_, .slice a n c] w fun e w'=>e= .returned (.tuple #[])∧SkW N G ao no co cp os w' (walkR (opN os) (f+1) s at_ bd)∧Bar (NG N G) w w':=by
 obtain⟨t,ht⟩ : ∃t,s.1.getD at_ nd0=t:=⟨_,rfl⟩
 rw[ht] at hk0
 have hk1:=bH hk0
 clear hk0
 have hN:=hW.out.nd at_ hat
 rw[ht] at hN
 unfold NdAt at hN
 simp only[Nat.zero_add] at hN
 have hkid:=bH (fun c (hc:c∈kidsS t)=>hD at_ hat c (by rw[ht];exact hc))
 have hEq:Hid (∀s2,kidsR (walkR (opN os) f) (startR s (meanR (opN os) bd t) t.p) (kidsS t) bd=s2→walkR (opN os) (f+1) s at_ bd=(s2.1.set at_ (bare t (meanR (opN os) bd t).1),s2.2)):=bH fun s2 h=>by rw[← h, ← ht];rfl
 have hNl:=hW.out.nl
 have hGl:=hW.out.gl
 have hEl:=bH hE.out.lt
 have hAl:=bH hW.out.op.lt
 obtain rfl:n=bd.length:=hE.out.1
 obtain⟨w1,hw1⟩ : ∃W,((w.alloc (.cells #[.int .i64 t.k, .int .i64 t.a, .int .i64 t.b, .int .i64 t.c, .int .i64 t.n, .string t.nm, .string t.x, .string t.y, .string t.z, .int .i64 t.p] 45)).alloc (.cells #[.int .i64 t.k, .int .i64 t.a, .int .i64 t.b, .int .i64 t.c, .int .i64 t.n, .string ⟨#[]⟩, .string ⟨#[]⟩, .string ⟨#[]⟩, .string ⟨#[]⟩, .int .i64 t.p] 45))=W:=⟨_,rfl⟩
 have hb1:Below w.heap.size w w1:=by rw[← hw1];exact belA _ (below_alc _ _)
 have hX:Nd10 w1 w.heap.size t:=by rw[← hw1];exact(nd10_lit w _ 45 _ t rfl rfl).below (below_alc _ _)
 have hY:Nd10 w1 (w.heap.size+1) (bare t t.n):=by rw[← hw1];exact nd10_lit _ _ 45 _ (bare t t.n) (by simp) rfl
 have hL:Hid (SkL N G ao no co cp os a bd.length bd t t.n s.1 w s w1):=bH ⟨hW.out.below hb1,hX,hY,hE.out.below hb1,Bar.of_below hb1,Same.refl _,hNl,hGl,hEa.out⟩
 have hati:(at_:Int)<(s.1.length:Int):=by omega
 have hat0:(0:Int)≤(at_:Int):=by omega
 have hD:=bH hD
 have r0:=hW.out.r
 clear ht hX hY hb1 hW hE
 go_enter Tryz.func55,Tryz.ntmps55
 obtain⟨e0,e1,e2,e3,e4,e5,e6,e7,e8,e9⟩:=hN
 go_upto_region 2 with fail
 (try rw[hw1])
 clear hw1 e0 e1 e2 e3 e4 e5 e6 e7 e8 e9 r0
 obtain⟨xl,x0,x1,x2,x3,x4,x5,x6,x7,x8,x9,_⟩:=hL.out.x
 go_upto_block 0 with fail
 go_cut [8] (fun s8 W=>MidK N G ao no co cp os f at_ bd s t w W)
 case rest=>
  obtain⟨s2,m,hfin,hlen2,hS2,hY2,hB2⟩:=hcut
  rename World=>W2
  obtain⟨u,hu⟩ : ∃u,bare t m=u:=⟨_,rfl⟩
  rw[hu] at hfin hY2
  clear hu xl x0 x1 x2 x3 x4 x5 x6 x7 x8 x9 hL ih hEq hkid
  have hfin:=bH hfin
  go_upto_region 34 with fail
  have hdw:Below W2.heap.size W2 W2.drew:=(Below.refl _ _).drew
  have hY:=bH (hY2.below hdw)
  have hS:=bH (hS2.below hdw)
  have hB:=bH (hB2.next hdw)
  obtain⟨_,y0,y1,y2,y3,y4,y5,y6,y7,y8,y9,_⟩:=hY.out
  refine wp_region_held_drew (S:=(fun W=>W.cell? ⟨G,1,none⟩=some (.slice (some ⟨N,0,none⟩) s2.1.length cp)∧W.cell? ⟨w.heap.size+1,0,none⟩=some (.int .i64 u.k)∧W.cell? ⟨w.heap.size+1,1,none⟩=some (.int .i64 u.a)∧W.cell? ⟨w.heap.size+1,2,none⟩=some (.int .i64 u.b)∧W.cell? ⟨w.heap.size+1,3,none⟩=some (.int .i64 u.c)∧W.cell? ⟨w.heap.size+1,4,none⟩=some (.int .i64 u.n)∧W.cell? ⟨w.heap.size+1,5,none⟩=some (.string u.nm)∧W.cell? ⟨w.heap.size+1,6,none⟩=some (.string u.x)∧W.cell? ⟨w.heap.size+1,7,none⟩=some (.string u.y)∧W.cell? ⟨w.heap.size+1,8,none⟩=some (.string u.z)∧W.cell? ⟨w.heap.size+1,9,none⟩=some (.int .i64 u.p))) (by kernel_rfl) ⟨hS.out.r,y0,y1,y2,y3,y4,y5,y6,y7,y8,y9⟩ (fun hHeld=> ?_)
  generalize W2.drew=wd at hS hY hB hHeld ⊢
  clear hdw y0 y1 y2 y3 y4 y5 y6 y7 y8 y9 hS2 hY2 hB2
  have hat1:at_<s2.1.length:=by omega
  have hati1:(at_:Int)<(s2.1.length:Int):=by omega
  refine rg_take 0 (some 188) (v:= ?w900) rfl rfl (by kernel_rfl) (by kernel_rfl) (by kernel_rfl) (fun _ _ _ h=>h) (by rfl) ?hz900 (by assumption) ?_
  case hz900=>intro W hSW;(try dsimp only at hSW);go_simp;(try with_reducible rfl)
  try simp only[Act.put,List.setIfInBounds_toArray,List.set_cons_zero,List.set_cons_succ]
  refine rg_take 1 (some 189) (v:= ?w901) rfl rfl (by kernel_rfl) (by kernel_rfl) (by kernel_rfl) (fun _ _ _ h=>h) (by rfl) ?hz901 (by assumption) ?_
  case hz901=>intro W hSW;(try dsimp only at hSW);go_simp;(try with_reducible rfl)
  try simp only[Act.put,List.setIfInBounds_toArray,List.set_cons_zero,List.set_cons_succ]
  refine rg_take 2 (some 190) (v:= ?w902) rfl rfl (by kernel_rfl) (by kernel_rfl) (by kernel_rfl) (fun _ _ _ h=>h) (by rfl) ?hz902 (by assumption) ?_
  case hz902=>intro W hSW;(try dsimp only at hSW);go_simp;(try with_reducible rfl)
  try simp only[Act.put,List.setIfInBounds_toArray,List.set_cons_zero,List.set_cons_succ]
  refine rg_take 3 (some 191) (v:= ?w903) rfl rfl (by kernel_rfl) (by kernel_rfl) (by kernel_rfl) (fun _ _ _ h=>h) (by rfl) ?hz903 (by assumption) ?_
  case hz903=>intro W hSW;(try dsimp only at hSW);go_simp;(try with_reducible rfl)
  try simp only[Act.put,List.setIfInBounds_toArray,List.set_cons_zero,List.set_cons_succ]
  refine rg_take 4 (some 192) (v:= ?w904) rfl rfl (by kernel_rfl) (by kernel_rfl) (by kernel_rfl) (fun _ _ _ h=>h) (by rfl) ?hz904 (by assumption) ?_
  case hz904=>intro W hSW;(try dsimp only at hSW);go_simp;(try with_reducible rfl)
  try simp only[Act.put,List.setIfInBounds_toArray,List.set_cons_zero,List.set_cons_succ]
  refine rg_take 5 (some 193) (v:= ?w905) rfl rfl (by kernel_rfl) (by kernel_rfl) (by kernel_rfl) (fun _ _ _ h=>h) (by rfl) ?hz905 (by assumption) ?_
  case hz905=>intro W hSW;(try dsimp only at hSW);go_simp;(try with_reducible rfl)
  try simp only[Act.put,List.setIfInBounds_toArray,List.set_cons_zero,List.set_cons_succ]
  refine rg_take 6 (some 194) (v:= ?w906) rfl rfl (by kernel_rfl) (by kernel_rfl) (by kernel_rfl) (fun _ _ _ h=>h) (by rfl) ?hz906 (by assumption) ?_
  case hz906=>intro W hSW;(try dsimp only at hSW);go_simp;(try with_reducible rfl)
  try simp only[Act.put,List.setIfInBounds_toArray,List.set_cons_zero,List.set_cons_succ]
  refine rg_one 7 rfl (by kernel_rfl) (by rfl) (fun K hK=> ?_)
  have hNd:=hS.out.nd at_ hat1
  generalize s2.1.getD at_ nd0=v at hNd
  unfold NdAt at hNd
  simp only[Nat.zero_add] at hNd
  obtain⟨f0,f1,f2,f3,f4,f5,f6,f7,f8,f9⟩:=hNd
  have hfz:=hS.out.fz
  obtain⟨wF,hwF⟩ : ∃W,st10 wd N (at_*10) u=W:=⟨_,rfl⟩
  obtain⟨hSF,hbF⟩:=hS.out.put hA.out hat1 u
  rw[hwF] at hSF hbF
  have hSF:=bH hSF
  have hbF:=bH hbF
  unfold st10 at hwF
  go_simp
  (try rw[hwF])
  clear hwF f0 f1 f2 f3 f4 f5 f6 f7 f8 f9 hfz
  obtain⟨z0,z1,z2,z3,z4,z5,z6,z7,z8,z9,z10⟩:=hHeld
  have hgN : ¬ NG N G (w.heap.size+1):=fun e=>by rcases e with e|e<;>omega
  refine hK.out _ _ ⟨by have h:=hSF.out.r;rwa [List.length_set] at h,hbF.out.cell z1 hgN,hbF.out.cell z2 hgN,hbF.out.cell z3 hgN,hbF.out.cell z4 hgN,hbF.out.cell z5 hgN,hbF.out.cell z6 hgN,hbF.out.cell z7 hgN,hbF.out.cell z8 hgN,hbF.out.cell z9 hgN,hbF.out.cell z10 hgN⟩ (fun hHeld7=> ?_)
  clear hK K z0 z1 z2 z3 z4 z5 z6 z7 z8 z9 z10 hHeld7
  try simp only[Act.put,List.setIfInBounds_toArray,List.set_cons_zero,List.set_cons_succ]
  refine wpAnyH_done (by kernel_rfl) ?_ _
  go_wp2_with fail
  go_end0
  rw[hfin.out]
  exact⟨rfl,hSF.out,hB.out.trans hbF.out fun _ _ e=>e⟩
 case first=>
 have hk0:=hk1.out
 clear hk1
 obtain⟨k,ta,tb,tc,n,nm,x,y,z,p⟩:=t
 dsimp only at hk0
 subst hk0
 obtain⟨qa,rfl⟩ : ∃q:Nat,ta=(q:Int):=⟨ta.toNat,by have:=hkid.out (ta,_) (by simp[kidsS];first|rfl|exact .inl rfl|exact .inr rfl|exact .inr (.inl rfl)|exact .inr (.inr rfl));have:=this.1;dsimp only at this;omega⟩
 have hqa:qa<at_:=by have:=hkid.out ((qa:Int),_) (by simp[kidsS];first|rfl|exact .inl rfl|exact .inr rfl|exact .inr (.inl rfl)|exact .inr (.inr rfl));have:=this.2;dsimp only at this;omega
 dsimp only at x0 x1 x2 x3 x4 x5 x6 x7 x8 x9
 clear xl x0 x1 x2 x3 x4 x5 x6 x7 x8 x9
 obtain⟨xl,x0,x1,x2,x3,x4,x5,x6,x7,x8,x9,_⟩:=hL.out.x
 dsimp only at x0 x1 x2 x3 x4 x5 x6 x7 x8 x9
 go_upto_region 11 with fail
 clear xl x0 x1 x2 x3 x4 x5 x6 x7 x8 x9
 refine wp_region_held_drew (S:=fun W=>Nd10 W w.heap.size ⟨3,(qa:Int),tb,tc,n,nm,x,y,z,p⟩) (by kernel_rfl) (hL.out.x.below ((Below.refl _ _).drew)) (fun hHeld=> ?_)
 have hdw:Below w1.heap.size w1 w1.drew:=(Below.refl _ _).drew
 have hL:=bH (hL.out.below hdw)
 clear hdw
 generalize w1.drew=wd2 at hL hHeld ⊢
 refine rg_take 0 (some 63) (v:= ?v1) rfl rfl (by kernel_rfl) (by kernel_rfl) (by kernel_rfl) (fun _ _ _ h=>h) (by rfl) ?hy1 (by assumption) ?_
 case hy1=>intro W hSW;obtain⟨_,x0,x1,x2,x3,x4,x5,x6,x7,x8,x9,_⟩:=hSW;go_simp;(try with_reducible rfl)
 try simp only[Act.put,List.setIfInBounds_toArray,List.set_cons_zero,List.set_cons_succ]
 refine rg_take 1 (some 64) (v:= ?v2) rfl rfl (by kernel_rfl) (by kernel_rfl) (by kernel_rfl) (fun _ _ _ h=>h) (by rfl) ?hy2 (by assumption) ?_
 case hy2=>intro W hSW;obtain⟨_,x0,x1,x2,x3,x4,x5,x6,x7,x8,x9,_⟩:=hSW;go_simp;(try with_reducible rfl)
 try simp only[Act.put,List.setIfInBounds_toArray,List.set_cons_zero,List.set_cons_succ]
 refine rg_take 2 (some 65) (v:= ?v3) rfl rfl (by kernel_rfl) (by kernel_rfl) (by kernel_rfl) (fun _ _ _ h=>h) (by rfl) ?hy3 (by assumption) ?_
 case hy3=>intro W hSW;obtain⟨_,x0,x1,x2,x3,x4,x5,x6,x7,x8,x9,_⟩:=hSW;go_simp;(try with_reducible rfl)
 try simp only[Act.put,List.setIfInBounds_toArray,List.set_cons_zero,List.set_cons_succ]
 refine rg_take 3 (some 66) (v:= ?v4) rfl rfl (by kernel_rfl) (by kernel_rfl) (by kernel_rfl) (fun _ _ _ h=>h) (by rfl) ?hy4 (by assumption) ?_
 case hy4=>intro W hSW;obtain⟨_,x0,x1,x2,x3,x4,x5,x6,x7,x8,x9,_⟩:=hSW;go_simp;(try with_reducible rfl)
 try simp only[Act.put,List.setIfInBounds_toArray,List.set_cons_zero,List.set_cons_succ]
 refine rg_take 4 (some 67) (v:= ?v5) rfl rfl (by kernel_rfl) (by kernel_rfl) (by kernel_rfl) (fun _ _ _ h=>h) (by rfl) ?hy5 (by assumption) ?_
 case hy5=>intro W hSW;obtain⟨_,x0,x1,x2,x3,x4,x5,x6,x7,x8,x9,_⟩:=hSW;go_simp;(try with_reducible rfl)
 try simp only[Act.put,List.setIfInBounds_toArray,List.set_cons_zero,List.set_cons_succ]
 refine rg_take 5 (some 68) (v:= ?v6) rfl rfl (by kernel_rfl) (by kernel_rfl) (by kernel_rfl) (fun _ _ _ h=>h) (by rfl) ?hy6 (by assumption) ?_
 case hy6=>intro W hSW;obtain⟨_,x0,x1,x2,x3,x4,x5,x6,x7,x8,x9,_⟩:=hSW;go_simp;(try with_reducible rfl)
 try simp only[Act.put,List.setIfInBounds_toArray,List.set_cons_zero,List.set_cons_succ]
 refine rg_one 6 rfl (by kernel_rfl) (by rfl) (fun K hK=> ?_)
 go_simp
 have hyA:=stArg_lit wd2 #[.string x] 9 wd2.heap.size 1 [x] rfl rfl rfl
 have hba:=below_alc wd2 (.cells #[.string x] 9)
 have hL:=bH (hL.out.below hba)
 refine hK.out _ _ (by exact hL.out.x) (fun hHeld1=> ?_)
 clear hK K hHeld hHeld1 hba
 generalize wd2.alloc (.cells #[.string x] 9)=wa2 at hL hyA ⊢
 have hls:=hL.out.bar.size
 have hyA:=bH hyA
 try simp only[Act.put,List.setIfInBounds_toArray,List.set_cons_zero,List.set_cons_succ]
 have kW:=bH (with_any a (some ⟨wd2.heap.size,0,none⟩) bd.length c 1 1 bd [x] wa2 (bH hL.out.e) hnn hyA (fun h=>by cases h) (by simp only[List.length_cons,List.length_nil];omega))
 refine rg_one 7 rfl (by kernel_rfl) (by rfl) (fun K hK=> ?_)
 go_simp
 (go_at_call 73;refine kW.out.mono ?_;rintro e wb2 ⟨v,rfl,hv,hb⟩)
 obtain⟨av,cv,rfl,hvE,hvn,hvB⟩:=ownS_env hv
 have hnv:(bd++[x]).length=bd.length+1:=by rw[List.length_append];rfl
 rw[hnv] at hvE ⊢
 have hL:=bH (hL.out.below hb)
 have hvl:=hL.out.bar.size
 have hvE:=bH hvE
 have hvB:=bH (fun b off e=>(show w.heap.size≤b from Nat.le_trans hls (hvB b off e)))
 refine hK.out _ _ (by exact hL.out.x) (fun hHeld1=> ?_)
 clear hK K hHeld1 hb hv kW hyA hls
 try simp only[Act.put,List.setIfInBounds_toArray,List.set_cons_zero,List.set_cons_succ]
 have kR:=bH (ih qa (bd++[x]) av (bd.length+1) cv s wb2 (by omega) (by rw[hL.out.sm.len];omega) (by rw[hL.out.sm.len];exact hsl) (hL.out.sm.downs hD.out) (by rw[hnv];omega) (bH hL.out.sk) hvE hvn (bH fun _ b off e=>by have:=hvB.out b off e;omega))
 clear hnv
 refine rg_one 8 rfl (by kernel_rfl) (by rfl) (fun K hK=> ?_)
 go_simp
 (go_at_call 55;refine kR.out.mono ?_;rintro e w2 ⟨rfl,hs,hb⟩)
 have hL:=bH (hL.out.next hb hs (walkR_same _ _ _ _ _))
 refine hK.out _ _ (by exact hL.out.x) (fun hHeld1=> ?_)
 clear hK K hHeld1 hb hs kR hvE hvB hvl
 try simp only[Act.put,List.setIfInBounds_toArray,List.set_cons_zero,List.set_cons_succ]
 refine wpAnyH_done (by kernel_rfl) ?_ _
 go_wp2_with fail
 go_meet
 have hm:meanR (opN os) bd ⟨3,(qa:Int),tb,tc,n,nm,x,y,z,p⟩=(n,0):=rfl
 have hk:kidsS ⟨3,(qa:Int),tb,tc,n,nm,x,y,z,p⟩=[((qa:Int),[x])]:=rfl
 have hs0:startR s (n,0) p=s:=rfl
 have hfin:=hEq.out _ rfl
 (try dsimp only at hfin)
 rw[hm,hk,hs0] at hfin
 simp only[kidsR,List.append_nil,Int.toNat_natCast] at hfin
 exact⟨_,_,hfin,hL.out.sm.len,hL.out.sk,hL.out.y,hL.out.bar⟩
theorem rk_5 (N G:Nat) (ao:Option Addr) (no co cp:Nat) (os:List Or) (hA:Hid (Apart N G ao os)) (hl:no≤1000000) (f:Nat) (ih:WkSpec N G ao no co cp os f) (at_:Nat) (bd:List ByteArray) (a:Option Addr) (n c:Nat) (s:RS) (w:World) (hf:at_<f+1) (hat:at_<s.1.length) (hsl:s.1.length≤100000) (hD:Downs s.1) (hlen:bd.length+2*at_≤1000000) (hW:Hid (SkW N G ao no co cp os w s)) (hE:Hid (StArg w a n bd)) (hnn:a=none→c=0) (hEa:Hid (bd≠[]→ ∀b off,a=some ⟨b,off,none⟩→b≠N∧b≠G)) (hk0:(s.1.getD at_ nd0).k=5) :
  Calls Tryz.prog 55 #[.pointer (some ⟨G,0,none⟩), .int .i64 at_, .slice a n c] w fun e w'=>e= .returned (.tuple #[])∧SkW N G ao no co cp os w' (walkR (opN os) (f+1) s at_ bd)∧Bar (NG N G) w w':=by
 obtain⟨t,ht⟩ : ∃t,s.1.getD at_ nd0=t:=⟨_,rfl⟩
 rw[ht] at hk0
 have hk1:=bH hk0
 clear hk0
 have hN:=hW.out.nd at_ hat
 rw[ht] at hN
 unfold NdAt at hN
 simp only[Nat.zero_add] at hN
 have hkid:=bH (fun c (hc:c∈kidsS t)=>hD at_ hat c (by rw[ht];exact hc))
 have hEq:Hid (∀s2,kidsR (walkR (opN os) f) (startR s (meanR (opN os) bd t) t.p) (kidsS t) bd=s2→walkR (opN os) (f+1) s at_ bd=(s2.1.set at_ (bare t (meanR (opN os) bd t).1),s2.2)):=bH fun s2 h=>by rw[← h, ← ht];rfl
 have hNl:=hW.out.nl
 have hGl:=hW.out.gl
 have hEl:=bH hE.out.lt
 have hAl:=bH hW.out.op.lt
 obtain rfl:n=bd.length:=hE.out.1
 obtain⟨w1,hw1⟩ : ∃W,((w.alloc (.cells #[.int .i64 t.k, .int .i64 t.a, .int .i64 t.b, .int .i64 t.c, .int .i64 t.n, .string t.nm, .string t.x, .string t.y, .string t.z, .int .i64 t.p] 45)).alloc (.cells #[.int .i64 t.k, .int .i64 t.a, .int .i64 t.b, .int .i64 t.c, .int .i64 t.n, .string ⟨#[]⟩, .string ⟨#[]⟩, .string ⟨#[]⟩, .string ⟨#[]⟩, .int .i64 t.p] 45))=W:=⟨_,rfl⟩
 have hb1:Below w.heap.size w w1:=by rw[← hw1];exact belA _ (below_alc _ _)
 have hX:Nd10 w1 w.heap.size t:=by rw[← hw1];exact(nd10_lit w _ 45 _ t rfl rfl).below (below_alc _ _)
 have hY:Nd10 w1 (w.heap.size+1) (bare t t.n):=by rw[← hw1];exact nd10_lit _ _ 45 _ (bare t t.n) (by simp) rfl
 have hL:Hid (SkL N G ao no co cp os a bd.length bd t t.n s.1 w s w1):=bH ⟨hW.out.below hb1,hX,hY,hE.out.below hb1,Bar.of_below hb1,Same.refl _,hNl,hGl,hEa.out⟩
 have hati:(at_:Int)<(s.1.length:Int):=by omega
 have hat0:(0:Int)≤(at_:Int):=by omega
 have hD:=bH hD
 have r0:=hW.out.r
 clear ht hX hY hb1 hW hE
 go_enter Tryz.func55,Tryz.ntmps55
 obtain⟨e0,e1,e2,e3,e4,e5,e6,e7,e8,e9⟩:=hN
 go_upto_region 2 with fail
 (try rw[hw1])
 clear hw1 e0 e1 e2 e3 e4 e5 e6 e7 e8 e9 r0
 obtain⟨xl,x0,x1,x2,x3,x4,x5,x6,x7,x8,x9,_⟩:=hL.out.x
 go_upto_block 0 with fail
 go_cut [8] (fun s8 W=>MidK N G ao no co cp os f at_ bd s t w W)
 case rest=>
  obtain⟨s2,m,hfin,hlen2,hS2,hY2,hB2⟩:=hcut
  rename World=>W2
  obtain⟨u,hu⟩ : ∃u,bare t m=u:=⟨_,rfl⟩
  rw[hu] at hfin hY2
  clear hu xl x0 x1 x2 x3 x4 x5 x6 x7 x8 x9 hL ih hEq hkid
  have hfin:=bH hfin
  go_upto_region 34 with fail
  have hdw:Below W2.heap.size W2 W2.drew:=(Below.refl _ _).drew
  have hY:=bH (hY2.below hdw)
  have hS:=bH (hS2.below hdw)
  have hB:=bH (hB2.next hdw)
  obtain⟨_,y0,y1,y2,y3,y4,y5,y6,y7,y8,y9,_⟩:=hY.out
  refine wp_region_held_drew (S:=(fun W=>W.cell? ⟨G,1,none⟩=some (.slice (some ⟨N,0,none⟩) s2.1.length cp)∧W.cell? ⟨w.heap.size+1,0,none⟩=some (.int .i64 u.k)∧W.cell? ⟨w.heap.size+1,1,none⟩=some (.int .i64 u.a)∧W.cell? ⟨w.heap.size+1,2,none⟩=some (.int .i64 u.b)∧W.cell? ⟨w.heap.size+1,3,none⟩=some (.int .i64 u.c)∧W.cell? ⟨w.heap.size+1,4,none⟩=some (.int .i64 u.n)∧W.cell? ⟨w.heap.size+1,5,none⟩=some (.string u.nm)∧W.cell? ⟨w.heap.size+1,6,none⟩=some (.string u.x)∧W.cell? ⟨w.heap.size+1,7,none⟩=some (.string u.y)∧W.cell? ⟨w.heap.size+1,8,none⟩=some (.string u.z)∧W.cell? ⟨w.heap.size+1,9,none⟩=some (.int .i64 u.p))) (by kernel_rfl) ⟨hS.out.r,y0,y1,y2,y3,y4,y5,y6,y7,y8,y9⟩ (fun hHeld=> ?_)
  generalize W2.drew=wd at hS hY hB hHeld ⊢
  clear hdw y0 y1 y2 y3 y4 y5 y6 y7 y8 y9 hS2 hY2 hB2
  have hat1:at_<s2.1.length:=by omega
  have hati1:(at_:Int)<(s2.1.length:Int):=by omega
  refine rg_take 0 (some 188) (v:= ?w900) rfl rfl (by kernel_rfl) (by kernel_rfl) (by kernel_rfl) (fun _ _ _ h=>h) (by rfl) ?hz900 (by assumption) ?_
  case hz900=>intro W hSW;(try dsimp only at hSW);go_simp;(try with_reducible rfl)
  try simp only[Act.put,List.setIfInBounds_toArray,List.set_cons_zero,List.set_cons_succ]
  refine rg_take 1 (some 189) (v:= ?w901) rfl rfl (by kernel_rfl) (by kernel_rfl) (by kernel_rfl) (fun _ _ _ h=>h) (by rfl) ?hz901 (by assumption) ?_
  case hz901=>intro W hSW;(try dsimp only at hSW);go_simp;(try with_reducible rfl)
  try simp only[Act.put,List.setIfInBounds_toArray,List.set_cons_zero,List.set_cons_succ]
  refine rg_take 2 (some 190) (v:= ?w902) rfl rfl (by kernel_rfl) (by kernel_rfl) (by kernel_rfl) (fun _ _ _ h=>h) (by rfl) ?hz902 (by assumption) ?_
  case hz902=>intro W hSW;(try dsimp only at hSW);go_simp;(try with_reducible rfl)
  try simp only[Act.put,List.setIfInBounds_toArray,List.set_cons_zero,List.set_cons_succ]
  refine rg_take 3 (some 191) (v:= ?w903) rfl rfl (by kernel_rfl) (by kernel_rfl) (by kernel_rfl) (fun _ _ _ h=>h) (by rfl) ?hz903 (by assumption) ?_
  case hz903=>intro W hSW;(try dsimp only at hSW);go_simp;(try with_reducible rfl)
  try simp only[Act.put,List.setIfInBounds_toArray,List.set_cons_zero,List.set_cons_succ]
  refine rg_take 4 (some 192) (v:= ?w904) rfl rfl (by kernel_rfl) (by kernel_rfl) (by kernel_rfl) (fun _ _ _ h=>h) (by rfl) ?hz904 (by assumption) ?_
  case hz904=>intro W hSW;(try dsimp only at hSW);go_simp;(try with_reducible rfl)
  try simp only[Act.put,List.setIfInBounds_toArray,List.set_cons_zero,List.set_cons_succ]
  refine rg_take 5 (some 193) (v:= ?w905) rfl rfl (by kernel_rfl) (by kernel_rfl) (by kernel_rfl) (fun _ _ _ h=>h) (by rfl) ?hz905 (by assumption) ?_
  case hz905=>intro W hSW;(try dsimp only at hSW);go_simp;(try with_reducible rfl)
  try simp only[Act.put,List.setIfInBounds_toArray,List.set_cons_zero,List.set_cons_succ]
  refine rg_take 6 (some 194) (v:= ?w906) rfl rfl (by kernel_rfl) (by kernel_rfl) (by kernel_rfl) (fun _ _ _ h=>h) (by rfl) ?hz906 (by assumption) ?_
  case hz906=>intro W hSW;(try dsimp only at hSW);go_simp;(try with_reducible rfl)
  try simp only[Act.put,List.setIfInBounds_toArray,List.set_cons_zero,List.set_cons_succ]
  refine rg_one 7 rfl (by kernel_rfl) (by rfl) (fun K hK=> ?_)
  have hNd:=hS.out.nd at_ hat1
  generalize s2.1.getD at_ nd0=v at hNd
  unfold NdAt at hNd
  simp only[Nat.zero_add] at hNd
  obtain⟨f0,f1,f2,f3,f4,f5,f6,f7,f8,f9⟩:=hNd
  have hfz:=hS.out.fz
  obtain⟨wF,hwF⟩ : ∃W,st10 wd N (at_*10) u=W:=⟨_,rfl⟩
  obtain⟨hSF,hbF⟩:=hS.out.put hA.out hat1 u
  rw[hwF] at hSF hbF
  have hSF:=bH hSF
  have hbF:=bH hbF
  unfold st10 at hwF
  go_simp
  (try rw[hwF])
  clear hwF f0 f1 f2 f3 f4 f5 f6 f7 f8 f9 hfz
  obtain⟨z0,z1,z2,z3,z4,z5,z6,z7,z8,z9,z10⟩:=hHeld
  have hgN : ¬ NG N G (w.heap.size+1):=fun e=>by rcases e with e|e<;>omega
  refine hK.out _ _ ⟨by have h:=hSF.out.r;rwa [List.length_set] at h,hbF.out.cell z1 hgN,hbF.out.cell z2 hgN,hbF.out.cell z3 hgN,hbF.out.cell z4 hgN,hbF.out.cell z5 hgN,hbF.out.cell z6 hgN,hbF.out.cell z7 hgN,hbF.out.cell z8 hgN,hbF.out.cell z9 hgN,hbF.out.cell z10 hgN⟩ (fun hHeld7=> ?_)
  clear hK K z0 z1 z2 z3 z4 z5 z6 z7 z8 z9 z10 hHeld7
  try simp only[Act.put,List.setIfInBounds_toArray,List.set_cons_zero,List.set_cons_succ]
  refine wpAnyH_done (by kernel_rfl) ?_ _
  go_wp2_with fail
  go_end0
  rw[hfin.out]
  exact⟨rfl,hSF.out,hB.out.trans hbF.out fun _ _ e=>e⟩
 case first=>
 have hk0:=hk1.out
 clear hk1
 obtain⟨k,ta,tb,tc,n,nm,x,y,z,p⟩:=t
 dsimp only at hk0
 subst hk0
 obtain⟨qa,rfl⟩ : ∃q:Nat,ta=(q:Int):=⟨ta.toNat,by have:=hkid.out (ta,_) (by simp[kidsS];first|rfl|exact .inl rfl|exact .inr rfl|exact .inr (.inl rfl)|exact .inr (.inr rfl));have:=this.1;dsimp only at this;omega⟩
 have hqa:qa<at_:=by have:=hkid.out ((qa:Int),_) (by simp[kidsS];first|rfl|exact .inl rfl|exact .inr rfl|exact .inr (.inl rfl)|exact .inr (.inr rfl));have:=this.2;dsimp only at this;omega
 obtain⟨qb,rfl⟩ : ∃q:Nat,tb=(q:Int):=⟨tb.toNat,by have:=hkid.out (tb,_) (by simp[kidsS];first|rfl|exact .inl rfl|exact .inr rfl|exact .inr (.inl rfl)|exact .inr (.inr rfl));have:=this.1;dsimp only at this;omega⟩
 have hqb:qb<at_:=by have:=hkid.out ((qb:Int),_) (by simp[kidsS];first|rfl|exact .inl rfl|exact .inr rfl|exact .inr (.inl rfl)|exact .inr (.inr rfl));have:=this.2;dsimp only at this;omega
 dsimp only at x0 x1 x2 x3 x4 x5 x6 x7 x8 x9
 go_wp2_with fail
 clear xl x0 x1 x2 x3 x4 x5 x6 x7 x8 x9
 refine(ih qa bd a bd.length c s w1 (by omega) (by rw[hL.out.sm.len];omega) (by rw[hL.out.sm.len];exact hsl) (hL.out.sm.downs hD.out) (by omega) (bH hL.out.sk) (bH hL.out.e) hnn hEa).mono ?_
 rintro e w2 ⟨rfl,hs,hb⟩
 have hL:=bH (hL.out.next hb hs (walkR_same _ _ _ _ _))
 clear hs hb
 go_upto_region 14 with fail
 refine wp_region_held_drew (S:=fun W=>Nd10 W w.heap.size ⟨5,(qa:Int),(qb:Int),tc,n,nm,x,y,z,p⟩) (by kernel_rfl) (hL.out.x.below ((Below.refl _ _).drew)) (fun hHeld=> ?_)
 have hdw:Below w2.heap.size w2 w2.drew:=(Below.refl _ _).drew
 have hL:=bH (hL.out.below hdw)
 clear hdw
 generalize w2.drew=wd3 at hL hHeld ⊢
 refine rg_take 0 (some 79) (v:= ?v1) rfl rfl (by kernel_rfl) (by kernel_rfl) (by kernel_rfl) (fun _ _ _ h=>h) (by rfl) ?hy1 (by assumption) ?_
 case hy1=>intro W hSW;obtain⟨_,x0,x1,x2,x3,x4,x5,x6,x7,x8,x9,_⟩:=hSW;go_simp;(try with_reducible rfl)
 try simp only[Act.put,List.setIfInBounds_toArray,List.set_cons_zero,List.set_cons_succ]
 refine rg_take 1 (some 80) (v:= ?v2) rfl rfl (by kernel_rfl) (by kernel_rfl) (by kernel_rfl) (fun _ _ _ h=>h) (by rfl) ?hy2 (by assumption) ?_
 case hy2=>intro W hSW;obtain⟨_,x0,x1,x2,x3,x4,x5,x6,x7,x8,x9,_⟩:=hSW;go_simp;(try with_reducible rfl)
 try simp only[Act.put,List.setIfInBounds_toArray,List.set_cons_zero,List.set_cons_succ]
 refine rg_take 2 (some 81) (v:= ?v3) rfl rfl (by kernel_rfl) (by kernel_rfl) (by kernel_rfl) (fun _ _ _ h=>h) (by rfl) ?hy3 (by assumption) ?_
 case hy3=>intro W hSW;obtain⟨_,x0,x1,x2,x3,x4,x5,x6,x7,x8,x9,_⟩:=hSW;go_simp;(try with_reducible rfl)
 try simp only[Act.put,List.setIfInBounds_toArray,List.set_cons_zero,List.set_cons_succ]
 refine rg_take 3 (some 82) (v:= ?v4) rfl rfl (by kernel_rfl) (by kernel_rfl) (by kernel_rfl) (fun _ _ _ h=>h) (by rfl) ?hy4 (by assumption) ?_
 case hy4=>intro W hSW;obtain⟨_,x0,x1,x2,x3,x4,x5,x6,x7,x8,x9,_⟩:=hSW;go_simp;(try with_reducible rfl)
 try simp only[Act.put,List.setIfInBounds_toArray,List.set_cons_zero,List.set_cons_succ]
 refine rg_take 4 (some 83) (v:= ?v5) rfl rfl (by kernel_rfl) (by kernel_rfl) (by kernel_rfl) (fun _ _ _ h=>h) (by rfl) ?hy5 (by assumption) ?_
 case hy5=>intro W hSW;obtain⟨_,x0,x1,x2,x3,x4,x5,x6,x7,x8,x9,_⟩:=hSW;go_simp;(try with_reducible rfl)
 try simp only[Act.put,List.setIfInBounds_toArray,List.set_cons_zero,List.set_cons_succ]
 refine rg_take 5 (some 84) (v:= ?v6) rfl rfl (by kernel_rfl) (by kernel_rfl) (by kernel_rfl) (fun _ _ _ h=>h) (by rfl) ?hy6 (by assumption) ?_
 case hy6=>intro W hSW;obtain⟨_,x0,x1,x2,x3,x4,x5,x6,x7,x8,x9,_⟩:=hSW;go_simp;(try with_reducible rfl)
 try simp only[Act.put,List.setIfInBounds_toArray,List.set_cons_zero,List.set_cons_succ]
 refine rg_one 6 rfl (by kernel_rfl) (by rfl) (fun K hK=> ?_)
 go_simp
 have hyA:=stArg_lit wd3 #[.string x] 9 wd3.heap.size 1 [x] rfl rfl rfl
 have hba:=below_alc wd3 (.cells #[.string x] 9)
 have hL:=bH (hL.out.below hba)
 refine hK.out _ _ (by exact hL.out.x) (fun hHeld1=> ?_)
 clear hK K hHeld hHeld1 hba
 generalize wd3.alloc (.cells #[.string x] 9)=wa3 at hL hyA ⊢
 have hls:=hL.out.bar.size
 have hyA:=bH hyA
 try simp only[Act.put,List.setIfInBounds_toArray,List.set_cons_zero,List.set_cons_succ]
 have kW:=bH (with_any a (some ⟨wd3.heap.size,0,none⟩) bd.length c 1 1 bd [x] wa3 (bH hL.out.e) hnn hyA (fun h=>by cases h) (by simp only[List.length_cons,List.length_nil];omega))
 refine rg_one 7 rfl (by kernel_rfl) (by rfl) (fun K hK=> ?_)
 go_simp
 (go_at_call 73;refine kW.out.mono ?_;rintro e wb3 ⟨v,rfl,hv,hb⟩)
 obtain⟨av,cv,rfl,hvE,hvn,hvB⟩:=ownS_env hv
 have hnv:(bd++[x]).length=bd.length+1:=by rw[List.length_append];rfl
 rw[hnv] at hvE ⊢
 have hL:=bH (hL.out.below hb)
 have hvl:=hL.out.bar.size
 have hvE:=bH hvE
 have hvB:=bH (fun b off e=>(show w.heap.size≤b from Nat.le_trans hls (hvB b off e)))
 refine hK.out _ _ (by exact hL.out.x) (fun hHeld1=> ?_)
 clear hK K hHeld1 hb hv kW hyA hls
 try simp only[Act.put,List.setIfInBounds_toArray,List.set_cons_zero,List.set_cons_succ]
 have kR:=bH (ih qb (bd++[x]) av (bd.length+1) cv (walkR (opN os) f s qa bd) wb3 (by omega) (by rw[hL.out.sm.len];omega) (by rw[hL.out.sm.len];exact hsl) (hL.out.sm.downs hD.out) (by rw[hnv];omega) (bH hL.out.sk) hvE hvn (bH fun _ b off e=>by have:=hvB.out b off e;omega))
 clear hnv
 refine rg_one 8 rfl (by kernel_rfl) (by rfl) (fun K hK=> ?_)
 go_simp
 (go_at_call 55;refine kR.out.mono ?_;rintro e w3 ⟨rfl,hs,hb⟩)
 have hL:=bH (hL.out.next hb hs (walkR_same _ _ _ _ _))
 refine hK.out _ _ (by exact hL.out.x) (fun hHeld1=> ?_)
 clear hK K hHeld1 hb hs kR hvE hvB hvl
 try simp only[Act.put,List.setIfInBounds_toArray,List.set_cons_zero,List.set_cons_succ]
 refine wpAnyH_done (by kernel_rfl) ?_ _
 go_wp2_with fail
 go_meet
 have hm:meanR (opN os) bd ⟨5,(qa:Int),(qb:Int),tc,n,nm,x,y,z,p⟩=(n,0):=rfl
 have hk:kidsS ⟨5,(qa:Int),(qb:Int),tc,n,nm,x,y,z,p⟩=[((qa:Int),[]),((qb:Int),[x])]:=rfl
 have hs0:startR s (n,0) p=s:=rfl
 have hfin:=hEq.out _ rfl
 (try dsimp only at hfin)
 rw[hm,hk,hs0] at hfin
 simp only[kidsR,List.append_nil,Int.toNat_natCast] at hfin
 exact⟨_,_,hfin,hL.out.sm.len,hL.out.sk,hL.out.y,hL.out.bar⟩
end Go.Proofs.YthpcbgljbpmafaaGreatDoor
