/- The walk at nodes that bind nothing. -/
import Derived.Test.YthpcbgljbpmafaaGreatDoorW35
set_option maxRecDepth 100000
set_option maxHeartbeats 8000000
namespace Go.Proofs.YthpcbgljbpmafaaGreatDoor
open Go.RowKit
set_option linter.unusedVariables false
set_option linter.unusedSimpArgs false
theorem rk_4 (N G:Nat) (ao:Option Addr) (no co cp:Nat) (os:List Or) (hA:Hid (Apart N G ao os)) (hl:no≤1000000) (f:Nat) (ih:WkSpec N G ao no co cp os f) (at_:Nat) (bd:List ByteArray) (a:Option Addr) (n c:Nat) (s:RS) (w:World) (hf:at_<f+1) (hat:at_<s.1.length) (hsl:s.1.length≤100000) (hD:Downs s.1) (hlen:bd.length+2*at_≤1000000) (hW:Hid (SkW N G ao no co cp os w s)) (hE:Hid (StArg w a n bd)) (hnn:a=none→c=0) (hEa:Hid (bd≠[]→ ∀b off,a=some ⟨b,off,none⟩→b≠N∧b≠G)) (hk0:(s.1.getD at_ nd0).k=4) :
  Calls Tryz.prog 55 #[.pointer (some ⟨G,0,none⟩), .int .i64 at_, .slice a n c] w fun e w'=>e= .returned (.tuple #[])∧SkW N G ao no co cp os w' (walkR (opN os) (f+1) s at_ bd)∧Bar (NG N G) w w':=by
 obtain⟨t,ht⟩ : ∃t,s.1.getD at_ nd0=t:=⟨_,rfl⟩
 rw[ht] at hk0
 have hk1:=bH hk0
 clear hk0
 have hN:=hW.out.nd at_ hat
 rw[ht] at hN
 unfold NdAt at hN
 simp only[Nat.zero_add] at hN
 have hkid:=bH (fun c (hc:c∈kidsS t)=>hD at_ hat c (by rw[ht];exact hc))
 have hEq:Hid (∀s2,kidsR (walkR (opN os) f) (startR s (meanR (opN os) bd t) t.p) (kidsS t) bd=s2→walkR (opN os) (f+1) s at_ bd=(s2.1.set at_ (bare t (meanR (opN os) bd t).1),s2.2)):=bH fun s2 h=>by rw[← h, ← ht];rfl
 have hNl:=hW.out.nl
 have hGl:=hW.out.gl
 have hEl:=bH hE.out.lt
 have hAl:=bH hW.out.op.lt
 obtain rfl:n=bd.length:=hE.out.1
 obtain⟨w1,hw1⟩ : ∃W,((w.alloc (.cells #[.int .i64 t.k, .int .i64 t.a, .int .i64 t.b, .int .i64 t.c, .int .i64 t.n, .string t.nm, .string t.x, .string t.y, .string t.z, .int .i64 t.p] 45)).alloc (.cells #[.int .i64 t.k, .int .i64 t.a, .int .i64 t.b, .int .i64 t.c, .int .i64 t.n, .string ⟨#[]⟩, .string ⟨#[]⟩, .string ⟨#[]⟩, .string ⟨#[]⟩, .int .i64 t.p] 45))=W:=⟨_,rfl⟩
 have hb1:Below w.heap.size w w1:=by rw[← hw1];exact belA _ (below_alc _ _)
 have hX:Nd10 w1 w.heap.size t:=by rw[← hw1];exact(nd10_lit w _ 45 _ t rfl rfl).below (below_alc _ _)
 have hY:Nd10 w1 (w.heap.size+1) (bare t t.n):=by rw[← hw1];exact nd10_lit _ _ 45 _ (bare t t.n) (by simp) rfl
 have hL:Hid (SkL N G ao no co cp os a bd.length bd t t.n s.1 w s w1):=bH ⟨hW.out.below hb1,hX,hY,hE.out.below hb1,Bar.of_below hb1,Same.refl _,hNl,hGl,hEa.out⟩
 have hati:(at_:Int)<(s.1.length:Int):=by omega
 have hat0:(0:Int)≤(at_:Int):=by omega
 have hD:=bH hD
 have r0:=hW.out.r
 clear ht hX hY hb1 hW hE
 go_enter Tryz.func55,Tryz.ntmps55
 obtain⟨e0,e1,e2,e3,e4,e5,e6,e7,e8,e9⟩:=hN
 go_upto_region 2 with fail
 (try rw[hw1])
 clear hw1 e0 e1 e2 e3 e4 e5 e6 e7 e8 e9 r0
 obtain⟨xl,x0,x1,x2,x3,x4,x5,x6,x7,x8,x9,_⟩:=hL.out.x
 go_upto_block 0 with fail
 go_cut [8] (fun s8 W=>MidK N G ao no co cp os f at_ bd s t w W)
 case rest=>
  obtain⟨s2,m,hfin,hlen2,hS2,hY2,hB2⟩:=hcut
  rename World=>W2
  obtain⟨u,hu⟩ : ∃u,bare t m=u:=⟨_,rfl⟩
  rw[hu] at hfin hY2
  clear hu xl x0 x1 x2 x3 x4 x5 x6 x7 x8 x9 hL ih hEq hkid
  have hfin:=bH hfin
  go_upto_region 34 with fail
  have hdw:Below W2.heap.size W2 W2.drew:=(Below.refl _ _).drew
  have hY:=bH (hY2.below hdw)
  have hS:=bH (hS2.below hdw)
  have hB:=bH (hB2.next hdw)
  obtain⟨_,y0,y1,y2,y3,y4,y5,y6,y7,y8,y9,_⟩:=hY.out
  refine wp_region_held_drew (S:=(fun W=>W.cell? ⟨G,1,none⟩=some (.slice (some ⟨N,0,none⟩) s2.1.length cp)∧W.cell? ⟨w.heap.size+1,0,none⟩=some (.int .i64 u.k)∧W.cell? ⟨w.heap.size+1,1,none⟩=some (.int .i64 u.a)∧W.cell? ⟨w.heap.size+1,2,none⟩=some (.int .i64 u.b)∧W.cell? ⟨w.heap.size+1,3,none⟩=some (.int .i64 u.c)∧W.cell? ⟨w.heap.size+1,4,none⟩=some (.int .i64 u.n)∧W.cell? ⟨w.heap.size+1,5,none⟩=some (.string u.nm)∧W.cell? ⟨w.heap.size+1,6,none⟩=some (.string u.x)∧W.cell? ⟨w.heap.size+1,7,none⟩=some (.string u.y)∧W.cell? ⟨w.heap.size+1,8,none⟩=some (.string u.z)∧W.cell? ⟨w.heap.size+1,9,none⟩=some (.int .i64 u.p))) (by kernel_rfl) ⟨hS.out.r,y0,y1,y2,y3,y4,y5,y6,y7,y8,y9⟩ (fun hHeld=> ?_)
  generalize W2.drew=wd at hS hY hB hHeld ⊢
  clear hdw y0 y1 y2 y3 y4 y5 y6 y7 y8 y9 hS2 hY2 hB2
  have hat1:at_<s2.1.length:=by omega
  have hati1:(at_:Int)<(s2.1.length:Int):=by omega
  refine rg_take 0 (some 188) (v:= ?w900) rfl rfl (by kernel_rfl) (by kernel_rfl) (by kernel_rfl) (fun _ _ _ h=>h) (by rfl) ?hz900 (by assumption) ?_
  case hz900=>intro W hSW;(try dsimp only at hSW);go_simp;(try with_reducible rfl)
  try simp only[Act.put,List.setIfInBounds_toArray,List.set_cons_zero,List.set_cons_succ]
  refine rg_take 1 (some 189) (v:= ?w901) rfl rfl (by kernel_rfl) (by kernel_rfl) (by kernel_rfl) (fun _ _ _ h=>h) (by rfl) ?hz901 (by assumption) ?_
  case hz901=>intro W hSW;(try dsimp only at hSW);go_simp;(try with_reducible rfl)
  try simp only[Act.put,List.setIfInBounds_toArray,List.set_cons_zero,List.set_cons_succ]
  refine rg_take 2 (some 190) (v:= ?w902) rfl rfl (by kernel_rfl) (by kernel_rfl) (by kernel_rfl) (fun _ _ _ h=>h) (by rfl) ?hz902 (by assumption) ?_
  case hz902=>intro W hSW;(try dsimp only at hSW);go_simp;(try with_reducible rfl)
  try simp only[Act.put,List.setIfInBounds_toArray,List.set_cons_zero,List.set_cons_succ]
  refine rg_take 3 (some 191) (v:= ?w903) rfl rfl (by kernel_rfl) (by kernel_rfl) (by kernel_rfl) (fun _ _ _ h=>h) (by rfl) ?hz903 (by assumption) ?_
  case hz903=>intro W hSW;(try dsimp only at hSW);go_simp;(try with_reducible rfl)
  try simp only[Act.put,List.setIfInBounds_toArray,List.set_cons_zero,List.set_cons_succ]
  refine rg_take 4 (some 192) (v:= ?w904) rfl rfl (by kernel_rfl) (by kernel_rfl) (by kernel_rfl) (fun _ _ _ h=>h) (by rfl) ?hz904 (by assumption) ?_
  case hz904=>intro W hSW;(try dsimp only at hSW);go_simp;(try with_reducible rfl)
  try simp only[Act.put,List.setIfInBounds_toArray,List.set_cons_zero,List.set_cons_succ]
  refine rg_take 5 (some 193) (v:= ?w905) rfl rfl (by kernel_rfl) (by kernel_rfl) (by kernel_rfl) (fun _ _ _ h=>h) (by rfl) ?hz905 (by assumption) ?_
  case hz905=>intro W hSW;(try dsimp only at hSW);go_simp;(try with_reducible rfl)
  try simp only[Act.put,List.setIfInBounds_toArray,List.set_cons_zero,List.set_cons_succ]
  refine rg_take 6 (some 194) (v:= ?w906) rfl rfl (by kernel_rfl) (by kernel_rfl) (by kernel_rfl) (fun _ _ _ h=>h) (by rfl) ?hz906 (by assumption) ?_
  case hz906=>intro W hSW;(try dsimp only at hSW);go_simp;(try with_reducible rfl)
  try simp only[Act.put,List.setIfInBounds_toArray,List.set_cons_zero,List.set_cons_succ]
  refine rg_one 7 rfl (by kernel_rfl) (by rfl) (fun K hK=> ?_)
  have hNd:=hS.out.nd at_ hat1
  generalize s2.1.getD at_ nd0=v at hNd
  unfold NdAt at hNd
  simp only[Nat.zero_add] at hNd
  obtain⟨f0,f1,f2,f3,f4,f5,f6,f7,f8,f9⟩:=hNd
  have hfz:=hS.out.fz
  obtain⟨wF,hwF⟩ : ∃W,st10 wd N (at_*10) u=W:=⟨_,rfl⟩
  obtain⟨hSF,hbF⟩:=hS.out.put hA.out hat1 u
  rw[hwF] at hSF hbF
  have hSF:=bH hSF
  have hbF:=bH hbF
  unfold st10 at hwF
  go_simp
  (try rw[hwF])
  clear hwF f0 f1 f2 f3 f4 f5 f6 f7 f8 f9 hfz
  obtain⟨z0,z1,z2,z3,z4,z5,z6,z7,z8,z9,z10⟩:=hHeld
  have hgN : ¬ NG N G (w.heap.size+1):=fun e=>by rcases e with e|e<;>omega
  refine hK.out _ _ ⟨by have h:=hSF.out.r;rwa [List.length_set] at h,hbF.out.cell z1 hgN,hbF.out.cell z2 hgN,hbF.out.cell z3 hgN,hbF.out.cell z4 hgN,hbF.out.cell z5 hgN,hbF.out.cell z6 hgN,hbF.out.cell z7 hgN,hbF.out.cell z8 hgN,hbF.out.cell z9 hgN,hbF.out.cell z10 hgN⟩ (fun hHeld7=> ?_)
  clear hK K z0 z1 z2 z3 z4 z5 z6 z7 z8 z9 z10 hHeld7
  try simp only[Act.put,List.setIfInBounds_toArray,List.set_cons_zero,List.set_cons_succ]
  refine wpAnyH_done (by kernel_rfl) ?_ _
  go_wp2_with fail
  go_end0
  rw[hfin.out]
  exact⟨rfl,hSF.out,hB.out.trans hbF.out fun _ _ e=>e⟩
 case first=>
 have hk0:=hk1.out
 clear hk1
 obtain⟨k,ta,tb,tc,n,nm,x,y,z,p⟩:=t
 dsimp only at hk0
 subst hk0
 obtain⟨qa,rfl⟩ : ∃q:Nat,ta=(q:Int):=⟨ta.toNat,by have:=hkid.out (ta,_) (by simp[kidsS];first|rfl|exact .inl rfl|exact .inr rfl|exact .inr (.inl rfl)|exact .inr (.inr rfl));have:=this.1;dsimp only at this;omega⟩
 have hqa:qa<at_:=by have:=hkid.out ((qa:Int),_) (by simp[kidsS];first|rfl|exact .inl rfl|exact .inr rfl|exact .inr (.inl rfl)|exact .inr (.inr rfl));have:=this.2;dsimp only at this;omega
 obtain⟨qb,rfl⟩ : ∃q:Nat,tb=(q:Int):=⟨tb.toNat,by have:=hkid.out (tb,_) (by simp[kidsS];first|rfl|exact .inl rfl|exact .inr rfl|exact .inr (.inl rfl)|exact .inr (.inr rfl));have:=this.1;dsimp only at this;omega⟩
 have hqb:qb<at_:=by have:=hkid.out ((qb:Int),_) (by simp[kidsS];first|rfl|exact .inl rfl|exact .inr rfl|exact .inr (.inl rfl)|exact .inr (.inr rfl));have:=this.2;dsimp only at this;omega
 dsimp only at x0 x1 x2 x3 x4 x5 x6 x7 x8 x9
 go_wp2_with fail
 clear xl x0 x1 x2 x3 x4 x5 x6 x7 x8 x9
 refine(ih qa bd a bd.length c s w1 (by omega) (by rw[hL.out.sm.len];omega) (by rw[hL.out.sm.len];exact hsl) (hL.out.sm.downs hD.out) (by omega) (bH hL.out.sk) (bH hL.out.e) hnn hEa).mono ?_
 rintro e w2 ⟨rfl,hs,hb⟩
 have hL:=bH (hL.out.next hb hs (walkR_same _ _ _ _ _))
 clear hs hb
 obtain⟨xl,x0,x1,x2,x3,x4,x5,x6,x7,x8,x9,_⟩:=hL.out.x
 dsimp only at x0 x1 x2 x3 x4 x5 x6 x7 x8 x9
 go_wp2_with fail
 clear xl x0 x1 x2 x3 x4 x5 x6 x7 x8 x9
 refine(ih qb bd a bd.length c (walkR (opN os) f s qa bd) w2 (by omega) (by rw[hL.out.sm.len];omega) (by rw[hL.out.sm.len];exact hsl) (hL.out.sm.downs hD.out) (by omega) (bH hL.out.sk) (bH hL.out.e) hnn hEa).mono ?_
 rintro e w3 ⟨rfl,hs,hb⟩
 have hL:=bH (hL.out.next hb hs (walkR_same _ _ _ _ _))
 clear hs hb
 go_wp2_with fail
 go_meet
 have hm:meanR (opN os) bd ⟨4,(qa:Int),(qb:Int),tc,n,nm,x,y,z,p⟩=(n,0):=rfl
 have hk:kidsS ⟨4,(qa:Int),(qb:Int),tc,n,nm,x,y,z,p⟩=[((qa:Int),[]),((qb:Int),[])]:=rfl
 have hs0:startR s (n,0) p=s:=rfl
 have hfin:=hEq.out _ rfl
 (try dsimp only at hfin)
 rw[hm,hk,hs0] at hfin
 simp only[kidsR,List.append_nil,Int.toNat_natCast] at hfin
 exact⟨_,_,hfin,hL.out.sm.len,hL.out.sk,hL.out.y,hL.out.bar⟩
theorem rk_8 (N G:Nat) (ao:Option Addr) (no co cp:Nat) (os:List Or) (hA:Hid (Apart N G ao os)) (hl:no≤1000000) (f:Nat) (ih:WkSpec N G ao no co cp os f) (at_:Nat) (bd:List ByteArray) (a:Option Addr) (n c:Nat) (s:RS) (w:World) (hf:at_<f+1) (hat:at_<s.1.length) (hsl:s.1.length≤100000) (hD:Downs s.1) (hlen:bd.length+2*at_≤1000000) (hW:Hid (SkW N G ao no co cp os w s)) (hE:Hid (StArg w a n bd)) (hnn:a=none→c=0) (hEa:Hid (bd≠[]→ ∀b off,a=some ⟨b,off,none⟩→b≠N∧b≠G)) (hk0:(s.1.getD at_ nd0).k=8) :
  Calls Tryz.prog 55 #[.pointer (some ⟨G,0,none⟩), .int .i64 at_, .slice a n c] w fun e w'=>e= .returned (.tuple #[])∧SkW N G ao no co cp os w' (walkR (opN os) (f+1) s at_ bd)∧Bar (NG N G) w w':=by
 obtain⟨t,ht⟩ : ∃t,s.1.getD at_ nd0=t:=⟨_,rfl⟩
 rw[ht] at hk0
 have hk1:=bH hk0
 clear hk0
 have hN:=hW.out.nd at_ hat
 rw[ht] at hN
 unfold NdAt at hN
 simp only[Nat.zero_add] at hN
 have hkid:=bH (fun c (hc:c∈kidsS t)=>hD at_ hat c (by rw[ht];exact hc))
 have hEq:Hid (∀s2,kidsR (walkR (opN os) f) (startR s (meanR (opN os) bd t) t.p) (kidsS t) bd=s2→walkR (opN os) (f+1) s at_ bd=(s2.1.set at_ (bare t (meanR (opN os) bd t).1),s2.2)):=bH fun s2 h=>by rw[← h, ← ht];rfl
 have hNl:=hW.out.nl
 have hGl:=hW.out.gl
 have hEl:=bH hE.out.lt
 have hAl:=bH hW.out.op.lt
 obtain rfl:n=bd.length:=hE.out.1
 obtain⟨w1,hw1⟩ : ∃W,((w.alloc (.cells #[.int .i64 t.k, .int .i64 t.a, .int .i64 t.b, .int .i64 t.c, .int .i64 t.n, .string t.nm, .string t.x, .string t.y, .string t.z, .int .i64 t.p] 45)).alloc (.cells #[.int .i64 t.k, .int .i64 t.a, .int .i64 t.b, .int .i64 t.c, .int .i64 t.n, .string ⟨#[]⟩, .string ⟨#[]⟩, .string ⟨#[]⟩, .string ⟨#[]⟩, .int .i64 t.p] 45))=W:=⟨_,rfl⟩
 have hb1:Below w.heap.size w w1:=by rw[← hw1];exact belA _ (below_alc _ _)
 have hX:Nd10 w1 w.heap.size t:=by rw[← hw1];exact(nd10_lit w _ 45 _ t rfl rfl).below (below_alc _ _)
 have hY:Nd10 w1 (w.heap.size+1) (bare t t.n):=by rw[← hw1];exact nd10_lit _ _ 45 _ (bare t t.n) (by simp) rfl
 have hL:Hid (SkL N G ao no co cp os a bd.length bd t t.n s.1 w s w1):=bH ⟨hW.out.below hb1,hX,hY,hE.out.below hb1,Bar.of_below hb1,Same.refl _,hNl,hGl,hEa.out⟩
 have hati:(at_:Int)<(s.1.length:Int):=by omega
 have hat0:(0:Int)≤(at_:Int):=by omega
 have hD:=bH hD
 have r0:=hW.out.r
 clear ht hX hY hb1 hW hE
 go_enter Tryz.func55,Tryz.ntmps55
 obtain⟨e0,e1,e2,e3,e4,e5,e6,e7,e8,e9⟩:=hN
 go_upto_region 2 with fail
 (try rw[hw1])
 clear hw1 e0 e1 e2 e3 e4 e5 e6 e7 e8 e9 r0
 obtain⟨xl,x0,x1,x2,x3,x4,x5,x6,x7,x8,x9,_⟩:=hL.out.x
 go_upto_block 0 with fail
 go_cut [8] (fun s8 W=>MidK N G ao no co cp os f at_ bd s t w W)
 case rest=>
  obtain⟨s2,m,hfin,hlen2,hS2,hY2,hB2⟩:=hcut
  rename World=>W2
  obtain⟨u,hu⟩ : ∃u,bare t m=u:=⟨_,rfl⟩
  rw[hu] at hfin hY2
  clear hu xl x0 x1 x2 x3 x4 x5 x6 x7 x8 x9 hL ih hEq hkid
  have hfin:=bH hfin
  go_upto_region 34 with fail
  have hdw:Below W2.heap.size W2 W2.drew:=(Below.refl _ _).drew
  have hY:=bH (hY2.below hdw)
  have hS:=bH (hS2.below hdw)
  have hB:=bH (hB2.next hdw)
  obtain⟨_,y0,y1,y2,y3,y4,y5,y6,y7,y8,y9,_⟩:=hY.out
  refine wp_region_held_drew (S:=(fun W=>W.cell? ⟨G,1,none⟩=some (.slice (some ⟨N,0,none⟩) s2.1.length cp)∧W.cell? ⟨w.heap.size+1,0,none⟩=some (.int .i64 u.k)∧W.cell? ⟨w.heap.size+1,1,none⟩=some (.int .i64 u.a)∧W.cell? ⟨w.heap.size+1,2,none⟩=some (.int .i64 u.b)∧W.cell? ⟨w.heap.size+1,3,none⟩=some (.int .i64 u.c)∧W.cell? ⟨w.heap.size+1,4,none⟩=some (.int .i64 u.n)∧W.cell? ⟨w.heap.size+1,5,none⟩=some (.string u.nm)∧W.cell? ⟨w.heap.size+1,6,none⟩=some (.string u.x)∧W.cell? ⟨w.heap.size+1,7,none⟩=some (.string u.y)∧W.cell? ⟨w.heap.size+1,8,none⟩=some (.string u.z)∧W.cell? ⟨w.heap.size+1,9,none⟩=some (.int .i64 u.p))) (by kernel_rfl) ⟨hS.out.r,y0,y1,y2,y3,y4,y5,y6,y7,y8,y9⟩ (fun hHeld=> ?_)
  generalize W2.drew=wd at hS hY hB hHeld ⊢
  clear hdw y0 y1 y2 y3 y4 y5 y6 y7 y8 y9 hS2 hY2 hB2
  have hat1:at_<s2.1.length:=by omega
  have hati1:(at_:Int)<(s2.1.length:Int):=by omega
  refine rg_take 0 (some 188) (v:= ?w900) rfl rfl (by kernel_rfl) (by kernel_rfl) (by kernel_rfl) (fun _ _ _ h=>h) (by rfl) ?hz900 (by assumption) ?_
  case hz900=>intro W hSW;(try dsimp only at hSW);go_simp;(try with_reducible rfl)
  try simp only[Act.put,List.setIfInBounds_toArray,List.set_cons_zero,List.set_cons_succ]
  refine rg_take 1 (some 189) (v:= ?w901) rfl rfl (by kernel_rfl) (by kernel_rfl) (by kernel_rfl) (fun _ _ _ h=>h) (by rfl) ?hz901 (by assumption) ?_
  case hz901=>intro W hSW;(try dsimp only at hSW);go_simp;(try with_reducible rfl)
  try simp only[Act.put,List.setIfInBounds_toArray,List.set_cons_zero,List.set_cons_succ]
  refine rg_take 2 (some 190) (v:= ?w902) rfl rfl (by kernel_rfl) (by kernel_rfl) (by kernel_rfl) (fun _ _ _ h=>h) (by rfl) ?hz902 (by assumption) ?_
  case hz902=>intro W hSW;(try dsimp only at hSW);go_simp;(try with_reducible rfl)
  try simp only[Act.put,List.setIfInBounds_toArray,List.set_cons_zero,List.set_cons_succ]
  refine rg_take 3 (some 191) (v:= ?w903) rfl rfl (by kernel_rfl) (by kernel_rfl) (by kernel_rfl) (fun _ _ _ h=>h) (by rfl) ?hz903 (by assumption) ?_
  case hz903=>intro W hSW;(try dsimp only at hSW);go_simp;(try with_reducible rfl)
  try simp only[Act.put,List.setIfInBounds_toArray,List.set_cons_zero,List.set_cons_succ]
  refine rg_take 4 (some 192) (v:= ?w904) rfl rfl (by kernel_rfl) (by kernel_rfl) (by kernel_rfl) (fun _ _ _ h=>h) (by rfl) ?hz904 (by assumption) ?_
  case hz904=>intro W hSW;(try dsimp only at hSW);go_simp;(try with_reducible rfl)
  try simp only[Act.put,List.setIfInBounds_toArray,List.set_cons_zero,List.set_cons_succ]
  refine rg_take 5 (some 193) (v:= ?w905) rfl rfl (by kernel_rfl) (by kernel_rfl) (by kernel_rfl) (fun _ _ _ h=>h) (by rfl) ?hz905 (by assumption) ?_
  case hz905=>intro W hSW;(try dsimp only at hSW);go_simp;(try with_reducible rfl)
  try simp only[Act.put,List.setIfInBounds_toArray,List.set_cons_zero,List.set_cons_succ]
  refine rg_take 6 (some 194) (v:= ?w906) rfl rfl (by kernel_rfl) (by kernel_rfl) (by kernel_rfl) (fun _ _ _ h=>h) (by rfl) ?hz906 (by assumption) ?_
  case hz906=>intro W hSW;(try dsimp only at hSW);go_simp;(try with_reducible rfl)
  try simp only[Act.put,List.setIfInBounds_toArray,List.set_cons_zero,List.set_cons_succ]
  refine rg_one 7 rfl (by kernel_rfl) (by rfl) (fun K hK=> ?_)
  have hNd:=hS.out.nd at_ hat1
  generalize s2.1.getD at_ nd0=v at hNd
  unfold NdAt at hNd
  simp only[Nat.zero_add] at hNd
  obtain⟨f0,f1,f2,f3,f4,f5,f6,f7,f8,f9⟩:=hNd
  have hfz:=hS.out.fz
  obtain⟨wF,hwF⟩ : ∃W,st10 wd N (at_*10) u=W:=⟨_,rfl⟩
  obtain⟨hSF,hbF⟩:=hS.out.put hA.out hat1 u
  rw[hwF] at hSF hbF
  have hSF:=bH hSF
  have hbF:=bH hbF
  unfold st10 at hwF
  go_simp
  (try rw[hwF])
  clear hwF f0 f1 f2 f3 f4 f5 f6 f7 f8 f9 hfz
  obtain⟨z0,z1,z2,z3,z4,z5,z6,z7,z8,z9,z10⟩:=hHeld
  have hgN : ¬ NG N G (w.heap.size+1):=fun e=>by rcases e with e|e<;>omega
  refine hK.out _ _ ⟨by have h:=hSF.out.r;rwa [List.length_set] at h,hbF.out.cell z1 hgN,hbF.out.cell z2 hgN,hbF.out.cell z3 hgN,hbF.out.cell z4 hgN,hbF.out.cell z5 hgN,hbF.out.cell z6 hgN,hbF.out.cell z7 hgN,hbF.out.cell z8 hgN,hbF.out.cell z9 hgN,hbF.out.cell z10 hgN⟩ (fun hHeld7=> ?_)
  clear hK K z0 z1 z2 z3 z4 z5 z6 z7 z8 z9 z10 hHeld7
  try simp only[Act.put,List.setIfInBounds_toArray,List.set_cons_zero,List.set_cons_succ]
  refine wpAnyH_done (by kernel_rfl) ?_ _
  go_wp2_with fail
  go_end0
  rw[hfin.out]
  exact⟨rfl,hSF.out,hB.out.trans hbF.out fun _ _ e=>e⟩
 case first=>
 have hk0:=hk1.out
 clear hk1
 obtain⟨k,ta,tb,tc,n,nm,x,y,z,p⟩:=t
 dsimp only at hk0
 subst hk0
 obtain⟨qa,rfl⟩ : ∃q:Nat,ta=(q:Int):=⟨ta.toNat,by have:=hkid.out (ta,_) (by simp[kidsS];first|rfl|exact .inl rfl|exact .inr rfl|exact .inr (.inl rfl)|exact .inr (.inr rfl));have:=this.1;dsimp only at this;omega⟩
 have hqa:qa<at_:=by have:=hkid.out ((qa:Int),_) (by simp[kidsS];first|rfl|exact .inl rfl|exact .inr rfl|exact .inr (.inl rfl)|exact .inr (.inr rfl));have:=this.2;dsimp only at this;omega
 obtain⟨qb,rfl⟩ : ∃q:Nat,tb=(q:Int):=⟨tb.toNat,by have:=hkid.out (tb,_) (by simp[kidsS];first|rfl|exact .inl rfl|exact .inr rfl|exact .inr (.inl rfl)|exact .inr (.inr rfl));have:=this.1;dsimp only at this;omega⟩
 have hqb:qb<at_:=by have:=hkid.out ((qb:Int),_) (by simp[kidsS];first|rfl|exact .inl rfl|exact .inr rfl|exact .inr (.inl rfl)|exact .inr (.inr rfl));have:=this.2;dsimp only at this;omega
 dsimp only at x0 x1 x2 x3 x4 x5 x6 x7 x8 x9
 go_wp2_with fail
 clear xl x0 x1 x2 x3 x4 x5 x6 x7 x8 x9
 refine(ih qa bd a bd.length c s w1 (by omega) (by rw[hL.out.sm.len];omega) (by rw[hL.out.sm.len];exact hsl) (hL.out.sm.downs hD.out) (by omega) (bH hL.out.sk) (bH hL.out.e) hnn hEa).mono ?_
 rintro e w2 ⟨rfl,hs,hb⟩
 have hL:=bH (hL.out.next hb hs (walkR_same _ _ _ _ _))
 clear hs hb
 obtain⟨xl,x0,x1,x2,x3,x4,x5,x6,x7,x8,x9,_⟩:=hL.out.x
 dsimp only at x0 x1 x2 x3 x4 x5 x6 x7 x8 x9
 go_wp2_with fail
 clear xl x0 x1 x2 x3 x4 x5 x6 x7 x8 x9
 refine(ih qb bd a bd.length c (walkR (opN os) f s qa bd) w2 (by omega) (by rw[hL.out.sm.len];omega) (by rw[hL.out.sm.len];exact hsl) (hL.out.sm.downs hD.out) (by omega) (bH hL.out.sk) (bH hL.out.e) hnn hEa).mono ?_
 rintro e w3 ⟨rfl,hs,hb⟩
 have hL:=bH (hL.out.next hb hs (walkR_same _ _ _ _ _))
 clear hs hb
 go_wp2_with fail
 go_meet
 have hm:meanR (opN os) bd ⟨8,(qa:Int),(qb:Int),tc,n,nm,x,y,z,p⟩=(n,0):=rfl
 have hk:kidsS ⟨8,(qa:Int),(qb:Int),tc,n,nm,x,y,z,p⟩=[((qa:Int),[]),((qb:Int),[])]:=rfl
 have hs0:startR s (n,0) p=s:=rfl
 have hfin:=hEq.out _ rfl
 (try dsimp only at hfin)
 rw[hm,hk,hs0] at hfin
 simp only[kidsR,List.append_nil,Int.toNat_natCast] at hfin
 exact⟨_,_,hfin,hL.out.sm.len,hL.out.sk,hL.out.y,hL.out.bar⟩
theorem rk_7 (N G:Nat) (ao:Option Addr) (no co cp:Nat) (os:List Or) (hA:Hid (Apart N G ao os)) (hl:no≤1000000) (f:Nat) (ih:WkSpec N G ao no co cp os f) (at_:Nat) (bd:List ByteArray) (a:Option Addr) (n c:Nat) (s:RS) (w:World) (hf:at_<f+1) (hat:at_<s.1.length) (hsl:s.1.length≤100000) (hD:Downs s.1) (hlen:bd.length+2*at_≤1000000) (hW:Hid (SkW N G ao no co cp os w s)) (hE:Hid (StArg w a n bd)) (hnn:a=none→c=0) (hEa:Hid (bd≠[]→ ∀b off,a=some ⟨b,off,none⟩→b≠N∧b≠G)) (hk0:(s.1.getD at_ nd0).k=7) :
  Calls Tryz.prog 55 #[.pointer (some ⟨G,0,none⟩), .int .i64 at_, .slice a n c] w fun e w'=>e= .returned (.tuple #[])∧SkW N G ao no co cp os w' (walkR (opN os) (f+1) s at_ bd)∧Bar (NG N G) w w':=by
 obtain⟨t,ht⟩ : ∃t,s.1.getD at_ nd0=t:=⟨_,rfl⟩
 rw[ht] at hk0
 have hk1:=bH hk0
 clear hk0
 have hN:=hW.out.nd at_ hat
 rw[ht] at hN
 unfold NdAt at hN
 simp only[Nat.zero_add] at hN
 have hkid:=bH (fun c (hc:c∈kidsS t)=>hD at_ hat c (by rw[ht];exact hc))
 have hEq:Hid (∀s2,kidsR (walkR (opN os) f) (startR s (meanR (opN os) bd t) t.p) (kidsS t) bd=s2→walkR (opN os) (f+1) s at_ bd=(s2.1.set at_ (bare t (meanR (opN os) bd t).1),s2.2)):=bH fun s2 h=>by rw[← h, ← ht];rfl
 have hNl:=hW.out.nl
 have hGl:=hW.out.gl
 have hEl:=bH hE.out.lt
 have hAl:=bH hW.out.op.lt
 obtain rfl:n=bd.length:=hE.out.1
 obtain⟨w1,hw1⟩ : ∃W,((w.alloc (.cells #[.int .i64 t.k, .int .i64 t.a, .int .i64 t.b, .int .i64 t.c, .int .i64 t.n, .string t.nm, .string t.x, .string t.y, .string t.z, .int .i64 t.p] 45)).alloc (.cells #[.int .i64 t.k, .int .i64 t.a, .int .i64 t.b, .int .i64 t.c, .int .i64 t.n, .string ⟨#[]⟩, .string ⟨#[]⟩, .string ⟨#[]⟩, .string ⟨#[]⟩, .int .i64 t.p] 45))=W:=⟨_,rfl⟩
 have hb1:Below w.heap.size w w1:=by rw[← hw1];exact belA _ (below_alc _ _)
 have hX:Nd10 w1 w.heap.size t:=by rw[← hw1];exact(nd10_lit w _ 45 _ t rfl rfl).below (below_alc _ _)
 have hY:Nd10 w1 (w.heap.size+1) (bare t t.n):=by rw[← hw1];exact nd10_lit _ _ 45 _ (bare t t.n) (by simp) rfl
 have hL:Hid (SkL N G ao no co cp os a bd.length bd t t.n s.1 w s w1):=bH ⟨hW.out.below hb1,hX,hY,hE.out.below hb1,Bar.of_below hb1,Same.refl _,hNl,hGl,hEa.out⟩
 have hati:(at_:Int)<(s.1.length:Int):=by omega
 have hat0:(0:Int)≤(at_:Int):=by omega
 have hD:=bH hD
 have r0:=hW.out.r
 clear ht hX hY hb1 hW hE
 go_enter Tryz.func55,Tryz.ntmps55
 obtain⟨e0,e1,e2,e3,e4,e5,e6,e7,e8,e9⟩:=hN
 go_upto_region 2 with fail
 (try rw[hw1])
 clear hw1 e0 e1 e2 e3 e4 e5 e6 e7 e8 e9 r0
 obtain⟨xl,x0,x1,x2,x3,x4,x5,x6,x7,x8,x9,_⟩:=hL.out.x
 go_upto_block 0 with fail
 go_cut [8] (fun s8 W=>MidK N G ao no co cp os f at_ bd s t w W)
 case rest=>
  obtain⟨s2,m,hfin,hlen2,hS2,hY2,hB2⟩:=hcut
  rename World=>W2
  obtain⟨u,hu⟩ : ∃u,bare t m=u:=⟨_,rfl⟩
  rw[hu] at hfin hY2
  clear hu xl x0 x1 x2 x3 x4 x5 x6 x7 x8 x9 hL ih hEq hkid
  have hfin:=bH hfin
  go_upto_region 34 with fail
  have hdw:Below W2.heap.size W2 W2.drew:=(Below.refl _ _).drew
  have hY:=bH (hY2.below hdw)
  have hS:=bH (hS2.below hdw)
  have hB:=bH (hB2.next hdw)
  obtain⟨_,y0,y1,y2,y3,y4,y5,y6,y7,y8,y9,_⟩:=hY.out
  refine wp_region_held_drew (S:=(fun W=>W.cell? ⟨G,1,none⟩=some (.slice (some ⟨N,0,none⟩) s2.1.length cp)∧W.cell? ⟨w.heap.size+1,0,none⟩=some (.int .i64 u.k)∧W.cell? ⟨w.heap.size+1,1,none⟩=some (.int .i64 u.a)∧W.cell? ⟨w.heap.size+1,2,none⟩=some (.int .i64 u.b)∧W.cell? ⟨w.heap.size+1,3,none⟩=some (.int .i64 u.c)∧W.cell? ⟨w.heap.size+1,4,none⟩=some (.int .i64 u.n)∧W.cell? ⟨w.heap.size+1,5,none⟩=some (.string u.nm)∧W.cell? ⟨w.heap.size+1,6,none⟩=some (.string u.x)∧W.cell? ⟨w.heap.size+1,7,none⟩=some (.string u.y)∧W.cell? ⟨w.heap.size+1,8,none⟩=some (.string u.z)∧W.cell? ⟨w.heap.size+1,9,none⟩=some (.int .i64 u.p))) (by kernel_rfl) ⟨hS.out.r,y0,y1,y2,y3,y4,y5,y6,y7,y8,y9⟩ (fun hHeld=> ?_)
  generalize W2.drew=wd at hS hY hB hHeld ⊢
  clear hdw y0 y1 y2 y3 y4 y5 y6 y7 y8 y9 hS2 hY2 hB2
  have hat1:at_<s2.1.length:=by omega
  have hati1:(at_:Int)<(s2.1.length:Int):=by omega
  refine rg_take 0 (some 188) (v:= ?w900) rfl rfl (by kernel_rfl) (by kernel_rfl) (by kernel_rfl) (fun _ _ _ h=>h) (by rfl) ?hz900 (by assumption) ?_
  case hz900=>intro W hSW;(try dsimp only at hSW);go_simp;(try with_reducible rfl)
  try simp only[Act.put,List.setIfInBounds_toArray,List.set_cons_zero,List.set_cons_succ]
  refine rg_take 1 (some 189) (v:= ?w901) rfl rfl (by kernel_rfl) (by kernel_rfl) (by kernel_rfl) (fun _ _ _ h=>h) (by rfl) ?hz901 (by assumption) ?_
  case hz901=>intro W hSW;(try dsimp only at hSW);go_simp;(try with_reducible rfl)
  try simp only[Act.put,List.setIfInBounds_toArray,List.set_cons_zero,List.set_cons_succ]
  refine rg_take 2 (some 190) (v:= ?w902) rfl rfl (by kernel_rfl) (by kernel_rfl) (by kernel_rfl) (fun _ _ _ h=>h) (by rfl) ?hz902 (by assumption) ?_
  case hz902=>intro W hSW;(try dsimp only at hSW);go_simp;(try with_reducible rfl)
  try simp only[Act.put,List.setIfInBounds_toArray,List.set_cons_zero,List.set_cons_succ]
  refine rg_take 3 (some 191) (v:= ?w903) rfl rfl (by kernel_rfl) (by kernel_rfl) (by kernel_rfl) (fun _ _ _ h=>h) (by rfl) ?hz903 (by assumption) ?_
  case hz903=>intro W hSW;(try dsimp only at hSW);go_simp;(try with_reducible rfl)
  try simp only[Act.put,List.setIfInBounds_toArray,List.set_cons_zero,List.set_cons_succ]
  refine rg_take 4 (some 192) (v:= ?w904) rfl rfl (by kernel_rfl) (by kernel_rfl) (by kernel_rfl) (fun _ _ _ h=>h) (by rfl) ?hz904 (by assumption) ?_
  case hz904=>intro W hSW;(try dsimp only at hSW);go_simp;(try with_reducible rfl)
  try simp only[Act.put,List.setIfInBounds_toArray,List.set_cons_zero,List.set_cons_succ]
  refine rg_take 5 (some 193) (v:= ?w905) rfl rfl (by kernel_rfl) (by kernel_rfl) (by kernel_rfl) (fun _ _ _ h=>h) (by rfl) ?hz905 (by assumption) ?_
  case hz905=>intro W hSW;(try dsimp only at hSW);go_simp;(try with_reducible rfl)
  try simp only[Act.put,List.setIfInBounds_toArray,List.set_cons_zero,List.set_cons_succ]
  refine rg_take 6 (some 194) (v:= ?w906) rfl rfl (by kernel_rfl) (by kernel_rfl) (by kernel_rfl) (fun _ _ _ h=>h) (by rfl) ?hz906 (by assumption) ?_
  case hz906=>intro W hSW;(try dsimp only at hSW);go_simp;(try with_reducible rfl)
  try simp only[Act.put,List.setIfInBounds_toArray,List.set_cons_zero,List.set_cons_succ]
  refine rg_one 7 rfl (by kernel_rfl) (by rfl) (fun K hK=> ?_)
  have hNd:=hS.out.nd at_ hat1
  generalize s2.1.getD at_ nd0=v at hNd
  unfold NdAt at hNd
  simp only[Nat.zero_add] at hNd
  obtain⟨f0,f1,f2,f3,f4,f5,f6,f7,f8,f9⟩:=hNd
  have hfz:=hS.out.fz
  obtain⟨wF,hwF⟩ : ∃W,st10 wd N (at_*10) u=W:=⟨_,rfl⟩
  obtain⟨hSF,hbF⟩:=hS.out.put hA.out hat1 u
  rw[hwF] at hSF hbF
  have hSF:=bH hSF
  have hbF:=bH hbF
  unfold st10 at hwF
  go_simp
  (try rw[hwF])
  clear hwF f0 f1 f2 f3 f4 f5 f6 f7 f8 f9 hfz
  obtain⟨z0,z1,z2,z3,z4,z5,z6,z7,z8,z9,z10⟩:=hHeld
  have hgN : ¬ NG N G (w.heap.size+1):=fun e=>by rcases e with e|e<;>omega
  refine hK.out _ _ ⟨by have h:=hSF.out.r;rwa [List.length_set] at h,hbF.out.cell z1 hgN,hbF.out.cell z2 hgN,hbF.out.cell z3 hgN,hbF.out.cell z4 hgN,hbF.out.cell z5 hgN,hbF.out.cell z6 hgN,hbF.out.cell z7 hgN,hbF.out.cell z8 hgN,hbF.out.cell z9 hgN,hbF.out.cell z10 hgN⟩ (fun hHeld7=> ?_)
  clear hK K z0 z1 z2 z3 z4 z5 z6 z7 z8 z9 z10 hHeld7
  try simp only[Act.put,List.setIfInBounds_toArray,List.set_cons_zero,List.set_cons_succ]
  refine wpAnyH_done (by kernel_rfl) ?_ _
  go_wp2_with fail
  go_end0
  rw[hfin.out]
  exact⟨rfl,hSF.out,hB.out.trans hbF.out fun _ _ e=>e⟩
 case first=>
 have hk0:=hk1.out
 clear hk1
 obtain⟨k,ta,tb,tc,n,nm,x,y,z,p⟩:=t
 dsimp only at hk0
 subst hk0
 obtain⟨qa,rfl⟩ : ∃q:Nat,ta=(q:Int):=⟨ta.toNat,by have:=hkid.out (ta,_) (by simp[kidsS];first|rfl|exact .inl rfl|exact .inr rfl|exact .inr (.inl rfl)|exact .inr (.inr rfl));have:=this.1;dsimp only at this;omega⟩
 have hqa:qa<at_:=by have:=hkid.out ((qa:Int),_) (by simp[kidsS];first|rfl|exact .inl rfl|exact .inr rfl|exact .inr (.inl rfl)|exact .inr (.inr rfl));have:=this.2;dsimp only at this;omega
 obtain⟨qb,rfl⟩ : ∃q:Nat,tb=(q:Int):=⟨tb.toNat,by have:=hkid.out (tb,_) (by simp[kidsS];first|rfl|exact .inl rfl|exact .inr rfl|exact .inr (.inl rfl)|exact .inr (.inr rfl));have:=this.1;dsimp only at this;omega⟩
 have hqb:qb<at_:=by have:=hkid.out ((qb:Int),_) (by simp[kidsS];first|rfl|exact .inl rfl|exact .inr rfl|exact .inr (.inl rfl)|exact .inr (.inr rfl));have:=this.2;dsimp only at this;omega
 obtain⟨qc,rfl⟩ : ∃q:Nat,tc=(q:Int):=⟨tc.toNat,by have:=hkid.out (tc,_) (by simp[kidsS];first|rfl|exact .inl rfl|exact .inr rfl|exact .inr (.inl rfl)|exact .inr (.inr rfl));have:=this.1;dsimp only at this;omega⟩
 have hqc:qc<at_:=by have:=hkid.out ((qc:Int),_) (by simp[kidsS];first|rfl|exact .inl rfl|exact .inr rfl|exact .inr (.inl rfl)|exact .inr (.inr rfl));have:=this.2;dsimp only at this;omega
 dsimp only at x0 x1 x2 x3 x4 x5 x6 x7 x8 x9
 go_wp2_with fail
 clear xl x0 x1 x2 x3 x4 x5 x6 x7 x8 x9
 refine(ih qa bd a bd.length c s w1 (by omega) (by rw[hL.out.sm.len];omega) (by rw[hL.out.sm.len];exact hsl) (hL.out.sm.downs hD.out) (by omega) (bH hL.out.sk) (bH hL.out.e) hnn hEa).mono ?_
 rintro e w2 ⟨rfl,hs,hb⟩
 have hL:=bH (hL.out.next hb hs (walkR_same _ _ _ _ _))
 clear hs hb
 obtain⟨xl,x0,x1,x2,x3,x4,x5,x6,x7,x8,x9,_⟩:=hL.out.x
 dsimp only at x0 x1 x2 x3 x4 x5 x6 x7 x8 x9
 go_wp2_with fail
 clear xl x0 x1 x2 x3 x4 x5 x6 x7 x8 x9
 refine(ih qb bd a bd.length c (walkR (opN os) f s qa bd) w2 (by omega) (by rw[hL.out.sm.len];omega) (by rw[hL.out.sm.len];exact hsl) (hL.out.sm.downs hD.out) (by omega) (bH hL.out.sk) (bH hL.out.e) hnn hEa).mono ?_
 rintro e w3 ⟨rfl,hs,hb⟩
 have hL:=bH (hL.out.next hb hs (walkR_same _ _ _ _ _))
 clear hs hb
 obtain⟨xl,x0,x1,x2,x3,x4,x5,x6,x7,x8,x9,_⟩:=hL.out.x
 dsimp only at x0 x1 x2 x3 x4 x5 x6 x7 x8 x9
 go_wp2_with fail
 clear xl x0 x1 x2 x3 x4 x5 x6 x7 x8 x9
 refine(ih qc bd a bd.length c (walkR (opN os) f (walkR (opN os) f s qa bd) qb bd) w3 (by omega) (by rw[hL.out.sm.len];omega) (by rw[hL.out.sm.len];exact hsl) (hL.out.sm.downs hD.out) (by omega) (bH hL.out.sk) (bH hL.out.e) hnn hEa).mono ?_
 rintro e w4 ⟨rfl,hs,hb⟩
 have hL:=bH (hL.out.next hb hs (walkR_same _ _ _ _ _))
 clear hs hb
 go_wp2_with fail
 go_meet
 have hm:meanR (opN os) bd ⟨7,(qa:Int),(qb:Int),(qc:Int),n,nm,x,y,z,p⟩=(n,0):=rfl
 have hk:kidsS ⟨7,(qa:Int),(qb:Int),(qc:Int),n,nm,x,y,z,p⟩=[((qa:Int),[]),((qb:Int),[]),((qc:Int),[])]:=rfl
 have hs0:startR s (n,0) p=s:=rfl
 have hfin:=hEq.out _ rfl
 (try dsimp only at hfin)
 rw[hm,hk,hs0] at hfin
 simp only[kidsR,List.append_nil,Int.toNat_natCast] at hfin
 exact⟨_,_,hfin,hL.out.sm.len,hL.out.sk,hL.out.y,hL.out.bar⟩
theorem rk_d (N G:Nat) (ao:Option Addr) (no co cp:Nat) (os:List Or) (hA:Hid (Apart N G ao os)) (hl:no≤1000000) (f:Nat) (ih:WkSpec N G ao no co cp os f) (at_:Nat) (bd:List ByteArray) (a:Option Addr) (n c:Nat) (s:RS) (w:World) (hf:at_<f+1) (hat:at_<s.1.length) (hsl:s.1.length≤100000) (hD:Downs s.1) (hlen:bd.length+2*at_≤1000000) (hW:Hid (SkW N G ao no co cp os w s)) (hE:Hid (StArg w a n bd)) (hnn:a=none→c=0) (hEa:Hid (bd≠[]→ ∀b off,a=some ⟨b,off,none⟩→b≠N∧b≠G)) (hk0:(s.1.getD at_ nd0).k≠0∧(s.1.getD at_ nd0).k≠3∧(s.1.getD at_ nd0).k≠5∧(s.1.getD at_ nd0).k≠6∧(s.1.getD at_ nd0).k≠9∧(s.1.getD at_ nd0).k≠10∧(s.1.getD at_ nd0).k≠4∧(s.1.getD at_ nd0).k≠8∧(s.1.getD at_ nd0).k≠7) :
  Calls Tryz.prog 55 #[.pointer (some ⟨G,0,none⟩), .int .i64 at_, .slice a n c] w fun e w'=>e= .returned (.tuple #[])∧SkW N G ao no co cp os w' (walkR (opN os) (f+1) s at_ bd)∧Bar (NG N G) w w':=by
 obtain⟨t,ht⟩ : ∃t,s.1.getD at_ nd0=t:=⟨_,rfl⟩
 rw[ht] at hk0
 have hk1:=bH hk0
 clear hk0
 have hN:=hW.out.nd at_ hat
 rw[ht] at hN
 unfold NdAt at hN
 simp only[Nat.zero_add] at hN
 have hkid:=bH (fun c (hc:c∈kidsS t)=>hD at_ hat c (by rw[ht];exact hc))
 have hEq:Hid (∀s2,kidsR (walkR (opN os) f) (startR s (meanR (opN os) bd t) t.p) (kidsS t) bd=s2→walkR (opN os) (f+1) s at_ bd=(s2.1.set at_ (bare t (meanR (opN os) bd t).1),s2.2)):=bH fun s2 h=>by rw[← h, ← ht];rfl
 have hNl:=hW.out.nl
 have hGl:=hW.out.gl
 have hEl:=bH hE.out.lt
 have hAl:=bH hW.out.op.lt
 obtain rfl:n=bd.length:=hE.out.1
 obtain⟨w1,hw1⟩ : ∃W,((w.alloc (.cells #[.int .i64 t.k, .int .i64 t.a, .int .i64 t.b, .int .i64 t.c, .int .i64 t.n, .string t.nm, .string t.x, .string t.y, .string t.z, .int .i64 t.p] 45)).alloc (.cells #[.int .i64 t.k, .int .i64 t.a, .int .i64 t.b, .int .i64 t.c, .int .i64 t.n, .string ⟨#[]⟩, .string ⟨#[]⟩, .string ⟨#[]⟩, .string ⟨#[]⟩, .int .i64 t.p] 45))=W:=⟨_,rfl⟩
 have hb1:Below w.heap.size w w1:=by rw[← hw1];exact belA _ (below_alc _ _)
 have hX:Nd10 w1 w.heap.size t:=by rw[← hw1];exact(nd10_lit w _ 45 _ t rfl rfl).below (below_alc _ _)
 have hY:Nd10 w1 (w.heap.size+1) (bare t t.n):=by rw[← hw1];exact nd10_lit _ _ 45 _ (bare t t.n) (by simp) rfl
 have hL:Hid (SkL N G ao no co cp os a bd.length bd t t.n s.1 w s w1):=bH ⟨hW.out.below hb1,hX,hY,hE.out.below hb1,Bar.of_below hb1,Same.refl _,hNl,hGl,hEa.out⟩
 have hati:(at_:Int)<(s.1.length:Int):=by omega
 have hat0:(0:Int)≤(at_:Int):=by omega
 have hD:=bH hD
 have r0:=hW.out.r
 clear ht hX hY hb1 hW hE
 go_enter Tryz.func55,Tryz.ntmps55
 obtain⟨e0,e1,e2,e3,e4,e5,e6,e7,e8,e9⟩:=hN
 go_upto_region 2 with fail
 (try rw[hw1])
 clear hw1 e0 e1 e2 e3 e4 e5 e6 e7 e8 e9 r0
 obtain⟨xl,x0,x1,x2,x3,x4,x5,x6,x7,x8,x9,_⟩:=hL.out.x
 go_upto_block 0 with fail
 go_cut [8] (fun s8 W=>MidK N G ao no co cp os f at_ bd s t w W)
 case rest=>
  obtain⟨s2,m,hfin,hlen2,hS2,hY2,hB2⟩:=hcut
  rename World=>W2
  obtain⟨u,hu⟩ : ∃u,bare t m=u:=⟨_,rfl⟩
  rw[hu] at hfin hY2
  clear hu xl x0 x1 x2 x3 x4 x5 x6 x7 x8 x9 hL ih hEq hkid
  have hfin:=bH hfin
  go_upto_region 34 with fail
  have hdw:Below W2.heap.size W2 W2.drew:=(Below.refl _ _).drew
  have hY:=bH (hY2.below hdw)
  have hS:=bH (hS2.below hdw)
  have hB:=bH (hB2.next hdw)
  obtain⟨_,y0,y1,y2,y3,y4,y5,y6,y7,y8,y9,_⟩:=hY.out
  refine wp_region_held_drew (S:=(fun W=>W.cell? ⟨G,1,none⟩=some (.slice (some ⟨N,0,none⟩) s2.1.length cp)∧W.cell? ⟨w.heap.size+1,0,none⟩=some (.int .i64 u.k)∧W.cell? ⟨w.heap.size+1,1,none⟩=some (.int .i64 u.a)∧W.cell? ⟨w.heap.size+1,2,none⟩=some (.int .i64 u.b)∧W.cell? ⟨w.heap.size+1,3,none⟩=some (.int .i64 u.c)∧W.cell? ⟨w.heap.size+1,4,none⟩=some (.int .i64 u.n)∧W.cell? ⟨w.heap.size+1,5,none⟩=some (.string u.nm)∧W.cell? ⟨w.heap.size+1,6,none⟩=some (.string u.x)∧W.cell? ⟨w.heap.size+1,7,none⟩=some (.string u.y)∧W.cell? ⟨w.heap.size+1,8,none⟩=some (.string u.z)∧W.cell? ⟨w.heap.size+1,9,none⟩=some (.int .i64 u.p))) (by kernel_rfl) ⟨hS.out.r,y0,y1,y2,y3,y4,y5,y6,y7,y8,y9⟩ (fun hHeld=> ?_)
  generalize W2.drew=wd at hS hY hB hHeld ⊢
  clear hdw y0 y1 y2 y3 y4 y5 y6 y7 y8 y9 hS2 hY2 hB2
  have hat1:at_<s2.1.length:=by omega
  have hati1:(at_:Int)<(s2.1.length:Int):=by omega
  refine rg_take 0 (some 188) (v:= ?w900) rfl rfl (by kernel_rfl) (by kernel_rfl) (by kernel_rfl) (fun _ _ _ h=>h) (by rfl) ?hz900 (by assumption) ?_
  case hz900=>intro W hSW;(try dsimp only at hSW);go_simp;(try with_reducible rfl)
  try simp only[Act.put,List.setIfInBounds_toArray,List.set_cons_zero,List.set_cons_succ]
  refine rg_take 1 (some 189) (v:= ?w901) rfl rfl (by kernel_rfl) (by kernel_rfl) (by kernel_rfl) (fun _ _ _ h=>h) (by rfl) ?hz901 (by assumption) ?_
  case hz901=>intro W hSW;(try dsimp only at hSW);go_simp;(try with_reducible rfl)
  try simp only[Act.put,List.setIfInBounds_toArray,List.set_cons_zero,List.set_cons_succ]
  refine rg_take 2 (some 190) (v:= ?w902) rfl rfl (by kernel_rfl) (by kernel_rfl) (by kernel_rfl) (fun _ _ _ h=>h) (by rfl) ?hz902 (by assumption) ?_
  case hz902=>intro W hSW;(try dsimp only at hSW);go_simp;(try with_reducible rfl)
  try simp only[Act.put,List.setIfInBounds_toArray,List.set_cons_zero,List.set_cons_succ]
  refine rg_take 3 (some 191) (v:= ?w903) rfl rfl (by kernel_rfl) (by kernel_rfl) (by kernel_rfl) (fun _ _ _ h=>h) (by rfl) ?hz903 (by assumption) ?_
  case hz903=>intro W hSW;(try dsimp only at hSW);go_simp;(try with_reducible rfl)
  try simp only[Act.put,List.setIfInBounds_toArray,List.set_cons_zero,List.set_cons_succ]
  refine rg_take 4 (some 192) (v:= ?w904) rfl rfl (by kernel_rfl) (by kernel_rfl) (by kernel_rfl) (fun _ _ _ h=>h) (by rfl) ?hz904 (by assumption) ?_
  case hz904=>intro W hSW;(try dsimp only at hSW);go_simp;(try with_reducible rfl)
  try simp only[Act.put,List.setIfInBounds_toArray,List.set_cons_zero,List.set_cons_succ]
  refine rg_take 5 (some 193) (v:= ?w905) rfl rfl (by kernel_rfl) (by kernel_rfl) (by kernel_rfl) (fun _ _ _ h=>h) (by rfl) ?hz905 (by assumption) ?_
  case hz905=>intro W hSW;(try dsimp only at hSW);go_simp;(try with_reducible rfl)
  try simp only[Act.put,List.setIfInBounds_toArray,List.set_cons_zero,List.set_cons_succ]
  refine rg_take 6 (some 194) (v:= ?w906) rfl rfl (by kernel_rfl) (by kernel_rfl) (by kernel_rfl) (fun _ _ _ h=>h) (by rfl) ?hz906 (by assumption) ?_
  case hz906=>intro W hSW;(try dsimp only at hSW);go_simp;(try with_reducible rfl)
  try simp only[Act.put,List.setIfInBounds_toArray,List.set_cons_zero,List.set_cons_succ]
  refine rg_one 7 rfl (by kernel_rfl) (by rfl) (fun K hK=> ?_)
  have hNd:=hS.out.nd at_ hat1
  generalize s2.1.getD at_ nd0=v at hNd
  unfold NdAt at hNd
  simp only[Nat.zero_add] at hNd
  obtain⟨f0,f1,f2,f3,f4,f5,f6,f7,f8,f9⟩:=hNd
  have hfz:=hS.out.fz
  obtain⟨wF,hwF⟩ : ∃W,st10 wd N (at_*10) u=W:=⟨_,rfl⟩
  obtain⟨hSF,hbF⟩:=hS.out.put hA.out hat1 u
  rw[hwF] at hSF hbF
  have hSF:=bH hSF
  have hbF:=bH hbF
  unfold st10 at hwF
  go_simp
  (try rw[hwF])
  clear hwF f0 f1 f2 f3 f4 f5 f6 f7 f8 f9 hfz
  obtain⟨z0,z1,z2,z3,z4,z5,z6,z7,z8,z9,z10⟩:=hHeld
  have hgN : ¬ NG N G (w.heap.size+1):=fun e=>by rcases e with e|e<;>omega
  refine hK.out _ _ ⟨by have h:=hSF.out.r;rwa [List.length_set] at h,hbF.out.cell z1 hgN,hbF.out.cell z2 hgN,hbF.out.cell z3 hgN,hbF.out.cell z4 hgN,hbF.out.cell z5 hgN,hbF.out.cell z6 hgN,hbF.out.cell z7 hgN,hbF.out.cell z8 hgN,hbF.out.cell z9 hgN,hbF.out.cell z10 hgN⟩ (fun hHeld7=> ?_)
  clear hK K z0 z1 z2 z3 z4 z5 z6 z7 z8 z9 z10 hHeld7
  try simp only[Act.put,List.setIfInBounds_toArray,List.set_cons_zero,List.set_cons_succ]
  refine wpAnyH_done (by kernel_rfl) ?_ _
  go_wp2_with fail
  go_end0
  rw[hfin.out]
  exact⟨rfl,hSF.out,hB.out.trans hbF.out fun _ _ e=>e⟩
 case first=>
 have hk0:=hk1.out
 clear hk1
 obtain⟨k,ta,tb,tc,n,nm,x,y,z,p⟩:=t
 dsimp only at hk0
 obtain⟨h0,h3,h5,h6,h9,h10,h4,h8,h7⟩:=hk0
 have b0:(k==0)=false:=beq_eq_false_iff_ne.2 h0
 have b3:(k==3)=false:=beq_eq_false_iff_ne.2 h3
 have b5:(k==5)=false:=beq_eq_false_iff_ne.2 h5
 have b6:(k==6)=false:=beq_eq_false_iff_ne.2 h6
 have b9:(k==9)=false:=beq_eq_false_iff_ne.2 h9
 have b10:(k==10)=false:=beq_eq_false_iff_ne.2 h10
 have b4:(k==4)=false:=beq_eq_false_iff_ne.2 h4
 have b8:(k==8)=false:=beq_eq_false_iff_ne.2 h8
 have b7:(k==7)=false:=beq_eq_false_iff_ne.2 h7
 have hfin:Hid (walkR (opN os) (f+1) s at_ bd=(s.1.set at_ (bare ⟨k,ta,tb,tc,n,nm,x,y,z,p⟩ n),s.2)):=bH (by
  have h:=hEq.out s (by
   rw[show meanR (opN os) bd ⟨k,ta,tb,tc,n,nm,x,y,z,p⟩=(n,0) from by unfold meanR;dsimp only;rw[if_neg h0,if_neg (by omega)],show kidsS ⟨k,ta,tb,tc,n,nm,x,y,z,p⟩=[] from by unfold kidsS;simp[h3,h4,h5,h6,h7,h8,h9,h10]]
   rfl)
  rw[show meanR (opN os) bd ⟨k,ta,tb,tc,n,nm,x,y,z,p⟩=(n,0) from by unfold meanR;dsimp only;rw[if_neg h0,if_neg (by omega)]] at h
  exact h)
 clear h0 h3 h4 h5 h6 h7 h8 h9 h10
 dsimp only at x0
 go_wp2_with fail
 go_meet
 exact⟨s,n,hfin.out,rfl,hL.out.sk,hL.out.y,hL.out.bar⟩
end Go.Proofs.YthpcbgljbpmafaaGreatDoor
