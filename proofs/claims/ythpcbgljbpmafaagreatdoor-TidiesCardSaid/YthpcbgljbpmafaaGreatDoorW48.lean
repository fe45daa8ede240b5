/- The reference's parser: Parse. Written by gen_rk9.py. -/
import Derived.Test.YthpcbgljbpmafaaGreatDoorW7
import Derived.Test.YthpcbgljbpmafaaGreatDoorW21
import Derived.Test.YthpcbgljbpmafaaGreatDoorW47
set_option maxRecDepth 100000
set_option maxHeartbeats 8000000
namespace Go.Proofs.YthpcbgljbpmafaaGreatDoor
open Go.RowKit
set_option linter.unusedVariables false
set_option linter.unusedSimpArgs false
theorem PkX.il {B G:Nat} {tv:Value} {ts:List Tk} {en:Int} {w:World} {nv:Value} {st:PS} (h:PkX B G tv ts en w nv (.ok st)):st.i≤ts.length:=by
 obtain⟨p,h⟩:=h;exact h.il
theorem PkX.bar {S:Nat→Prop} {B G:Nat} {tv:Value} {ts:List Tk} {en:Int} {w w':World} {nv:Value} {R:Except PE PS} (h:PkX B G tv ts en w nv R) (hb:Bar S w w') (hG : ¬ S G) (hB : ∀k,k<B→k≠G→ ¬ S k) (hn : ∀k,nv.ownBlock=some k→ ¬ S k):PkX B G tv ts en w' nv R:=by
 cases R with
 | ok st=>obtain⟨p,h⟩:=h;exact⟨p,h.bar hb hG hB hn⟩
 | error e=>obtain⟨h0,st,h⟩:=h;exact⟨h0,st,h.bar hb hG hB hn⟩
structure OkI (B G:Nat) (tv:Value) (ts:List Tk) (en:Int) (w:World) (T:Except PE (List Or × PS)) (k:Nat) (wr:World) (ov:Value) (os:List Or) (R:Except PE PS):Prop where
 x:PkX B G tv ts en wr (.slice none 0 0) R
 o:OwnO B wr ov os
 b:Bar (fun k=>k=G) w wr
 l:os.length≤5
 r : ∀st,R= .ok st→os.length≤4∧ts.length<k+st.i∧declLoop ts en k os st=T
 e : ∀e,R= .error e→T= .error e
theorem OkI.yes {B G:Nat} {tv:Value} {ts:List Tk} {en:Int} {w:World} {T:Except PE (List Or × PS)} {k:Nat} {wr:World} {ov:Value} {os:List Or} {R:Except PE PS} (h:OkI B G tv ts en w T k wr ov os R) (hop:isX ts R kwOp=true):os.length≤4∧0<k:=by
 obtain⟨st,rfl,hi,_⟩:=isX_ok hop
 obtain⟨h1,h2,_⟩:=h.r st rfl
 have:=PkX.il h.x
 exact⟨h1,by omega⟩
theorem OkI.next {B G:Nat} {tv:Value} {ts:List Tk} {en:Int} {w:World} {T:Except PE (List Or × PS)} {k:Nat} {wr:World} {ov:Value} {os:List Or} {R:Except PE PS} (h:OkI B G tv ts en w T k wr ov os R) (hop:isX ts R kwOp=true) (hB:w.heap.size≤B) {w2:World} {ov2:Value} {os2:List Or} (hx:PkX B G tv ts en w2 (.slice none 0 0) (stX (R >>= declP ts en os))) (ho:OwnO B w2 ov2 os2) (hb:Bar (fun k=>k=G∨ov.ownBlock=some k) wr w2) (hl:os2.length=os.length+1) (hv : ∀l st',(R >>= declP ts en os)= .ok (l,st')→os2=l) :
  OkI B G tv ts en w T (k-1) w2 ov2 os2 (stX (R >>= declP ts en os)):=by
 obtain⟨st,rfl,hi,_⟩:=isX_ok hop
 have hop:isP ts st.i kwOp=true:=hop
 obtain⟨h1,h2,h3⟩:=h.r st rfl
 have hil:=PkX.il h.x
 obtain⟨k,rfl⟩ : ∃j,k=j+1:=⟨k-1,by omega⟩
 have hv : ∀l st',declP ts en os st= .ok (l,st')→os2=l:=hv
 rw[declLoop,if_pos hop] at h3
 refine⟨hx,ho,h.b.trans hb fun g hg hs=> ?_,by omega, ?_, ?_⟩
 ·rcases hs with hs|hs
  ·exact hs
  ·have:=(owno_lt h.o g hs).1;omega
 ·intro s1 hs1
  have hs1:stX (declP ts en os st)= .ok s1:=hs1
  rcases hd:declP ts en os st with _|⟨l,s2⟩
  ·rw[hd] at hs1;cases hs1
  rw[hd] at hs1 h3
  injection hs1 with hs1
  subst hs1
  obtain rfl:=hv _ _ hd
  obtain⟨a1,a2,a3,a4,o,a5,_⟩:=declP_ok hd
  exact⟨by omega,by dsimp only;omega,h3⟩
 ·intro e he
  have he:stX (declP ts en os st)= .error e:=he
  rcases hd:declP ts en os st with x|⟨l,s2⟩
  ·rw[hd] at he h3
   injection he with he
   subst he
   exact h3.symm
  ·rw[hd] at he;cases he
theorem OkI.no {B G:Nat} {tv:Value} {ts:List Tk} {en:Int} {w:World} {T:Except PE (List Or × PS)} {k:Nat} {wr:World} {ov:Value} {os:List Or} {R:Except PE PS} (h:OkI B G tv ts en w T k wr ov os R) (hop:isX ts R kwOp=false):T=(R >>= fun st=> .ok (os,st)):=by
 rcases R with e|st
 ·exact h.e e rfl
 ·have hop:isP ts st.i kwOp=false:=hop
  obtain⟨h1,h2,h3⟩:=h.r st rfl
  have hil:=PkX.il h.x
  obtain⟨k,rfl⟩ : ∃j,k=j+1:=⟨k-1,by omega⟩
  rw[declLoop,if_neg (by rw[hop];decide)] at h3
  exact h3.symm
structure OrBox (G:Nat) (w:World) (b:Nat) (x:ByteArray) (f t:Int):Prop where
 c0:w.cell? ⟨b,0,none⟩=some (.string x)
 c1:w.cell? ⟨b,1,none⟩=some (.int .i64 f)
 c2:w.cell? ⟨b,2,none⟩=some (.int .i64 t)
 fz : ∀o,w.frozen? ⟨b,o,none⟩=false
 gb:b≠G
 lt:b<w.heap.size
theorem OrBox.step {G b:Nat} {w w':World} {x:ByteArray} {f t:Int} (h:OrBox G w b x f t) (hb:Bar (fun k=>k=G) w w'):OrBox G w' b x f t:=
 ⟨hb.cell h.c0 h.gb,hb.cell h.c1 h.gb,hb.cell h.c2 h.gb,fun o=>by rw[hb.frozen (a:=⟨b,o,none⟩) h.lt h.gb];exact h.fz o,h.gb,by have:=hb.size;have:=h.lt;omega⟩
theorem OrBox.new {G:Nat} {w:World} (x:ByteArray) (hG:G<w.heap.size):OrBox G (w.alloc (.cells #[.string x, .int .i64 0, .int .i64 0] 54)) w.heap.size x 0 0:=by
 refine⟨?_, ?_, ?_,fun o=>by simp,by omega,by simp⟩<;>(rw[World.cell?_alloc_at _ _ _ _ rfl];rfl)
theorem OrBox.set1 {G b:Nat} {w:World} {x:ByteArray} {f t:Int} (h:OrBox G w b x f t) (v:Int):OrBox G (w.setCell ⟨b,1,none⟩ (.int .i64 v)) b x v t:=by
 have ne : ∀a c:Nat,a≠c→(⟨b,a,none⟩:Addr)≠⟨b,c,none⟩:=fun a c hab e=>by injection e with _ e2 _;exact hab e2
 exact⟨setO h.c0 (ne _ _ (by decide)),setS h.c1,setO h.c2 (ne _ _ (by decide)),fun o=>by simp only[World.frozen?_setCell];exact h.fz o,h.gb,by simpa using h.lt⟩
theorem OrBox.set2 {G b:Nat} {w:World} {x:ByteArray} {f t:Int} (h:OrBox G w b x f t) (v:Int):OrBox G (w.setCell ⟨b,2,none⟩ (.int .i64 v)) b x f v:=by
 have ne : ∀a c:Nat,a≠c→(⟨b,a,none⟩:Addr)≠⟨b,c,none⟩:=fun a c hab e=>by injection e with _ e2 _;exact hab e2
 exact⟨setO h.c0 (ne _ _ (by decide)),setO h.c1 (ne _ _ (by decide)),setS h.c2,fun o=>by simp only[World.frozen?_setCell];exact h.fz o,h.gb,by simpa using h.lt⟩
theorem PkX.setB {B G:Nat} {tv:Value} {ts:List Tk} {en:Int} {w:World} {R:Except PE PS} (h:PkX B G tv ts en w (.slice none 0 0) R) {b:Nat} (hb:B≤b) (o:Nat) (v:Value):PkX B G tv ts en (w.setCell ⟨b,o,none⟩ v) (.slice none 0 0) R:=
 h.bar (Bar.set (S:=fun k=>k=b) ⟨b,o,none⟩ v rfl) (fun (e:G=b)=>by have:=h.lt.1;omega) (fun k hk _ (e:k=b)=>by omega) (fun k hk=>by cases hk)
theorem bar_newer {G b:Nat} {w W:World} (h:Bar (fun k=>k=G) w W) (hb:w.heap.size≤b) (o:Nat) (v:Value):Bar (fun k=>k=G) w (W.setCell ⟨b,o,none⟩ v):=
 h.trans (Bar.set (S:=fun k=>k=b) ⟨b,o,none⟩ v rfl) fun k hk (e:k=b)=>by omega
theorem pk_start {w1:World} {b:Nat} {v:Value} {ts:List Tk} (en:Int) (hK:OwnK b w1 v ts) :
  PkX (w1.heap.size+1) w1.heap.size v ts en (w1.alloc (.cells #[v, .int .i64 en, .int .i64 0, .slice none 0 0, .int .i64 0, .int .i64 0] 84)) (.slice none 0 0) (.ok ⟨0,[]⟩):=by
 have hc : ∀(i:Nat) (u:Value),(#[v, .int .i64 en, .int .i64 0, .slice none 0 0, .int .i64 0, .int .i64 0]:Array Value)[i]? = some u→(w1.alloc (.cells #[v, .int .i64 en, .int .i64 0, .slice none 0 0, .int .i64 0, .int .i64 0] 84)).cell? ⟨w1.heap.size,i,none⟩=some u:=fun i u hu=>by
  rw[World.cell?_alloc_at _ _ _ _ (by simp)];exact hu
 refine⟨0,(PkW.mk (hc 0 _ rfl) (hc 1 _ rfl) (hc 2 _ rfl) (hc 3 _ rfl) (hc 4 _ rfl) (hc 5 _ rfl) (Nat.lt_succ_self _) (by simp) (fun o=>by simp) ?_ (OwnN.nil _ _) (Nat.zero_le _) (Nat.zero_le _):PkW (w1.heap.size+1) w1.heap.size v ts en (w1.alloc (.cells #[v, .int .i64 en, .int .i64 0, .slice none 0 0, .int .i64 0, .int .i64 0] 84)) (.slice none 0 0) ⟨0,[]⟩ (0,0))⟩
 rcases hK.rd with ⟨rfl,a,c,rfl⟩|⟨g,c,rfl,hg,hs⟩
 ·exact .inl ⟨rfl,a,c,rfl⟩
 ·refine .inr ⟨g,c,rfl,by omega,by omega,by simp;omega, ?_⟩
  exact TkSl.bar (S:=fun _=>False) hs (Bar.of_below (below_alc _ _)) id
theorem take_want {ts:List Tk} {en:Int} {R R0:Except PE PS} {os:List Or} (h:isX ts R kwOp=true) (h0:R0=if os.length=4 then failX ts en R 402 else R):takeX ts R0 kwOp=(R0 >>= wantP ts en kwOp):=by
 by_cases h4:os.length=4
 ·rw[if_pos h4] at h0
  obtain⟨st,hR,_,_⟩:=isX_ok h
  subst hR
  rw[h0]
  rfl
 ·rw[if_neg h4] at h0
  rw[h0,want_yes h]
theorem rParse_any (s:ByteArray) (w:World) (hs:s.size≤1125899906842624) :
  Calls Tryz.prog 31 #[.string s] w (PrP (parseV s) w):=by
 have kT:=bH fun (W:World)=>rtokens_any s W hs
 have hP:=bH (show parseV s=if (lexR s).2.2=0 then progP (lexR s).1 s.size else .error (400,(lexR s).2.1) from rfl)
 have hlen:=bH (lexR_len s)
 generalize parseV s=T0 at hP ⊢
 obtain⟨⟨ts,pl,er⟩,hR⟩ : ∃R,lexR s=R:=⟨_,rfl⟩
 rw[hR] at kT hP hlen
 clear hR
 have hsz:(s.size:Int)≤1125899906842624:=by omega
 go_enter Tryz.func31,Tryz.ntmps31
 go_wp2_with fail
 refine(kT.out _).mono ?_
 rintro e1 w1 ⟨v,rfl,hK0,hb0⟩
 have hP0:w.heap.size<(w.alloc (.cells #[.slice none 0 0, .slice none 0 0] 25)).heap.size:=by simp
 have hc0:w1.cell? ⟨w.heap.size,0,none⟩=some (.slice none 0 0):=carry hb0 hP0 (by rw[World.cell?_alloc_at _ _ _ _ rfl];rfl)
 have hc1:w1.cell? ⟨w.heap.size,1,none⟩=some (.slice none 0 0):=carry hb0 hP0 (by rw[World.cell?_alloc_at _ _ _ _ rfl];rfl)
 have hf0 : ∀o,w1.frozen? ⟨w.heap.size,o,none⟩=false:=fun o=>(hb0.frozen (p:=⟨w.heap.size,o,none⟩) hP0).trans (by simp)
 have hb1:=bH (belT (below_alc w _) hb0)
 have hl1:w.heap.size<w1.heap.size:=Nat.lt_of_lt_of_le hP0 hb0.size
 clear hb0 hP0 kT
 have hK:OwnK (w.alloc (.cells #[.slice none 0 0, .slice none 0 0] 25)).heap.size w1 v ts:=hK0
 clear hK0
 obtain⟨av,cv,rfl⟩ : ∃a c,v= .slice a ts.length c:=by
  rcases hK.rd with ⟨h1,a,c,h2⟩|⟨g,c,h2,_⟩
  ·exact⟨a,c,by rw[h2,h1];rfl⟩
  ·exact⟨_,c,h2⟩
 have hK:=bH hK
 by_cases h0:er=0
 ·subst h0
  have hP:=bH (hP.out.trans (if_pos rfl))
  have hx:=bH (pk_start (s.size:Int) hK.out)
  have htl:ts.length≤1000000:=Nat.le_trans hlen.out (by decide)
  obtain⟨T,hT0⟩ : ∃T,declLoop ts (s.size:Int) (ts.length+1) [] ⟨0,[]⟩=T:=⟨_,rfl⟩
  go_upto_region 6 with fail
  obtain⟨w0,hw0⟩ : ∃W,w1.alloc (.cells #[.slice av ts.length cv, .int .i64 s.size, .int .i64 0, .slice none 0 0, .int .i64 0, .int .i64 0] 84)=W:=⟨_,rfl⟩
  have hbw0:Below w1.heap.size w1 w0:=by rw[← hw0];exact below_alc _ _
  have hBe:=bH (show w0.heap.size≤w1.heap.size+1 from by rw[← hw0];simp)
  rw[hw0] at hx ⊢
  clear hw0
  have hc0:=carry hbw0 hl1 hc0
  have hc1:=carry hbw0 hl1 hc1
  have hf0 : ∀o,w0.frozen? ⟨w.heap.size,o,none⟩=false:=fun o=>(hbw0.frozen (p:=⟨w.heap.size,o,none⟩) hl1).trans (hf0 o)
  have hb1:=bH (belT hb1.out hbw0)
  have hPG : ¬ w.heap.size=w1.heap.size:=by omega
  have hwB:=bH (show w.heap.size+1≤w1.heap.size+1 by omega)
  have hwG:=bH (show w.heap.size≤w1.heap.size by omega)
  have hl0:w.heap.size<w0.heap.size:=Nat.lt_of_lt_of_le hl1 hbw0.size
  clear hbw0 hl1 hK
  generalize w1.heap.size+1=B at hx hBe hwB
  generalize w1.heap.size=G at hx hPG hwG ⊢
  generalize (.slice av ts.length cv:Value)=tv at hx ⊢
  have hen:Hid ((s.size:Int)=s.size):=bH rfl
  generalize (s.size:Int)=en at hx hP hT0 ⊢
  have hI0:Hid (OkI B G tv ts en w0 T (ts.length+1) w0 (.slice none 0 0) [] (.ok ⟨0,[]⟩)):=bH ⟨hx.out,OwnO.nil _ _,Bar.refl _ _,by simp,fun st hs=>by injection hs with hs;subst hs;exact⟨by simp,by simp,hT0⟩,fun e he=>by cases he⟩
  have hT:=bH hT0
  clear hT0
  have hc0:=bH hc0;have hc1:=bH hc1;have hf0:=bH hf0
  clear hx
  go_wp2_with fail
  go_loopg [9,10] (ts.length+1) (fun k lv bv wr=> ∃(ov:Value) (os:List Or) (R:Except PE PS),lv=ov∧Hid (OkI B G tv ts en w0 T k wr ov os R))
  case atStart=>exact⟨_,_,_,rfl,hI0⟩
  case round=>
   obtain⟨ov,os,R,rfl,hI⟩:=hrel
   clear hI0
   obtain⟨a,c,rfl⟩:=owno_sl hI.out.o
   have k2:=bH (ris_any B G tv ts en wr _ _ kwOp (bH hI.out.x))
   obtain⟨q,hq⟩ : ∃q,isX ts R kwOp=q:=⟨_,rfl⟩
   rw[hq] at k2
   have hq:=bH hq
   go_wp2_with fail
   refine k2.out.mono ?_
   rintro e2 wa ⟨rfl,hb2⟩
   have hb2:=bH hb2
   clear k2
   cases q
   ·skip
    have hR:=bH (hI.out.no hq.out)
    have k3:=bH (rexpr_any B G tv ts en htl wa _ _ (bH (hI.out.x.below hb2.out)))
    have hO2:=bH (show OwnO B wa (.slice a os.length c) os from hI.out.o.below hb2.out)
    have hB2:=bH (show Bar (fun k=>k=G) w0 wa from hI.out.b.next hb2.out)
    have hGB:=bH hI.out.x.lt.1
    clear hI
    go_wp2_with fail
    refine k3.out.mono ?_
    rintro e3 w3 ⟨v3,nv3,rfl,hp3,hs3,_⟩
    have hB3':=bH (show Bar (fun k=>k=G) wa w3 from ⟨hs3.1.os,hs3.1.tape,hs3.1.output,hs3.1.size,fun k hk hn=>hs3.1.block k hk (fun hs=>by rcases hs with hs|hs;exact hn hs;cases hs)⟩)
    have hO3:=bH (show OwnO B w3 (.slice a os.length c) os from Bar.own hB3'.out hO2.out fun k hk e=>by have:=(owno_lt hO2.out k hk).1;have:=hGB.out;omega)
    have hB3:=bH (hB2.out.trans hB3'.out fun _ _ hs=>hs)
    clear k3 hs3 hO2 hB2 hB3' hb2
    have hpe:=bH fun (x:PE)=>prog_err (e:=x) hT.out hR.out
    have hpo:=bH fun (st:PS)=>prog_ok (st:=st) hT.out hR.out
    generalize stX (R >>= exprP ts en 40)=R4 at hp3 hpe hpo
    clear hR hT hq
    rcases R4 with x|st
    ·have hT0e:=bH (hP.out.trans (hpe.out x rfl))
     clear hpe hpo
     obtain⟨hx00,st3,h3⟩:=id hp3
     have g2:=h3.i
     have g0:=h3.t
     have hgl3:G<w3.heap.size:=by have:=h3.gB;have:=h3.bl;omega
     obtain⟨at3,ct3,rfl⟩:=tk_len h3.tk
     by_cases hlt:st3.i<ts.length
     ·have hj:(st3.i:Int)<(ts.length:Int):=by omega
      clear h3 hx00 hlt
      go_wp2_with fail
      go_quiet (fail)
      obtain⟨w4,hw4⟩ : ∃W,w3.drewN nq=W:=⟨_,rfl⟩
      have hb4:Below w3.heap.size w3 w4:=by rw[← hw4];exact belDN nq
      rw[hw4]
      clear hw4 g2 g0
      have k4:=bH (rfail_any B G _ ts en w4 nv3 (.error x) 403 (by decide) (bH (hp3.below hb4)))
      have hB4:=bH (hB3.out.next hb4)
      clear hb4 hp3 hgl3
      go_wp2_with fail
      refine k4.out.mono ?_
      rintro e5 w5 ⟨rfl,hp5,hb5⟩
      have hB5:=hB4.out.trans hb5 fun _ _ hs=>hs
      clear k4 hb5 hB4
      obtain⟨hx0,st5,h5⟩:=(show x.1≠0∧ ∃st,PkW B G _ ts en w5 nv3 st x from hp5)
      have g4:=h5.c;have g5:=h5.p
      have hgl:G<w5.heap.size:=by have:=h5.gB;have:=h5.bl;omega
      have e0:(x.1==0)=false:=beq_eq_false_iff_ne.2 hx0
      have y4:=hB5.cell hc0.out hPG
      have y5:=hB5.cell hc1.out hPG
      have y6 : ∀o,w5.frozen? ⟨w.heap.size,o,none⟩=false:=fun o=>(hB5.frozen (a:=⟨w.heap.size,o,none⟩) hl0 hPG).trans (hf0.out o)
      have hlW:w.heap.size<w5.heap.size:=Nat.lt_of_lt_of_le hl0 hB5.size
      have hPG2 : ¬ G=w.heap.size:=fun e=>hPG e.symm
      have hK4:Hid (KX w5 w.heap.size w5):=bH ⟨Bar.refl _ _,y4,y5,y6⟩
      have hbW:=bH (show Below w.heap.size w w5 from hb1.out.trans (hB5.below (B:=w.heap.size) (by omega) (fun k (hk:k=G)=>by have:=hwG.out;omega)))
      have hfin:Hid (∀X,KX w5 w.heap.size X→PrP T0 w (.returned (.tuple #[.agg #[.slice none 0 0, .slice none 0 0], .int .i64 x.2, .int .i64 x.1])) X):=bH fun X hX=>⟨_,_,[],[],x.2,x.1,rfl,OwnO.nil _ _,OwnN.nil _ _,hbW.out.trans (hX.b.below (B:=w.heap.size) (by omega) (fun k hk=>by have hk:k=w.heap.size:=hk;omega)),by rw[hT0e.out];exact⟨rfl,rfl,rfl,rfl,rfl,rfl⟩⟩
      clear h5 hx0
      try dsimp only at g4 g5 e0 hfin
      go_wp2_with fail
      go_region
      all_goals (go_wp2_with fail;refine bodyPost_ret (v:= .tuple #[.agg #[.slice none 0 0, .slice none 0 0], .int .i64 x.2, .int .i64 x.1]) (by simp[results,Tryz.results31,go_sem,y4,y5]) rfl (hfin.out _ (by repeat' (first|exact hK4.out|with_reducible apply KX.set0|with_reducible apply KX.set1|with_reducible apply KX.drew))))
     ·have hii:st3.i=ts.length:=by have:=h3.il;omega
      rw[hii] at g2
      clear h3 hx00 hlt hii
      go_wp2_with fail
      go_quiet (fail)
      obtain⟨w4,hw4⟩ : ∃W,w3.drewN nq=W:=⟨_,rfl⟩
      have hb4:Below w3.heap.size w3 w4:=by rw[← hw4];exact belDN nq
      rw[hw4]
      clear hw4 g2 g0
      have hp5:=hp3.below hb4
      have hB5:=hB3.out.next hb4
      clear hb4 hp3 hgl3
      obtain⟨hx0,st5,h5⟩:=(show x.1≠0∧ ∃st,PkW B G _ ts en w4 nv3 st x from hp5)
      have g4:=h5.c;have g5:=h5.p
      have hgl:G<w4.heap.size:=by have:=h5.gB;have:=h5.bl;omega
      have e0:(x.1==0)=false:=beq_eq_false_iff_ne.2 hx0
      have y4:=hB5.cell hc0.out hPG
      have y5:=hB5.cell hc1.out hPG
      have y6 : ∀o,w4.frozen? ⟨w.heap.size,o,none⟩=false:=fun o=>(hB5.frozen (a:=⟨w.heap.size,o,none⟩) hl0 hPG).trans (hf0.out o)
      have hlW:w.heap.size<w4.heap.size:=Nat.lt_of_lt_of_le hl0 hB5.size
      have hPG2 : ¬ G=w.heap.size:=fun e=>hPG e.symm
      have hK4:Hid (KX w4 w.heap.size w4):=bH ⟨Bar.refl _ _,y4,y5,y6⟩
      have hbW:=bH (show Below w.heap.size w w4 from hb1.out.trans (hB5.below (B:=w.heap.size) (by omega) (fun k (hk:k=G)=>by have:=hwG.out;omega)))
      have hfin:Hid (∀X,KX w4 w.heap.size X→PrP T0 w (.returned (.tuple #[.agg #[.slice none 0 0, .slice none 0 0], .int .i64 x.2, .int .i64 x.1])) X):=bH fun X hX=>⟨_,_,[],[],x.2,x.1,rfl,OwnO.nil _ _,OwnN.nil _ _,hbW.out.trans (hX.b.below (B:=w.heap.size) (by omega) (fun k hk=>by have hk:k=w.heap.size:=hk;omega)),by rw[hT0e.out];exact⟨rfl,rfl,rfl,rfl,rfl,rfl⟩⟩
      clear h5 hx0
      try dsimp only at g4 g5 e0 hfin
      go_wp2_with fail
      go_region
      all_goals (go_wp2_with fail;refine bodyPost_ret (v:= .tuple #[.agg #[.slice none 0 0, .slice none 0 0], .int .i64 x.2, .int .i64 x.1]) (by simp[results,Tryz.results31,go_sem,y4,y5]) rfl (hfin.out _ (by repeat' (first|exact hK4.out|with_reducible apply KX.set0|with_reducible apply KX.set1|with_reducible apply KX.drew))))
    ·obtain⟨p3,h3⟩:=id hp3
     have g2:=h3.i
     have g0:=h3.t
     have hgl3:G<w3.heap.size:=by have:=h3.gB;have:=h3.bl;omega
     obtain⟨at3,ct3,rfl⟩:=tk_len h3.tk
     by_cases hlt:st.i<ts.length
     ·have hj:(st.i:Int)<(ts.length:Int):=by omega
      have hT0e:=bH (hP.out.trans ((hpo.out st rfl).trans (if_pos hlt)))
      clear h3 hlt hpe hpo
      go_wp2_with fail
      go_quiet (fail)
      obtain⟨w4,hw4⟩ : ∃W,w3.drewN nq=W:=⟨_,rfl⟩
      have hb4:Below w3.heap.size w3 w4:=by rw[← hw4];exact belDN nq
      rw[hw4]
      clear hw4 g2 g0
      have k4:=bH (rfail_any B G _ ts en w4 nv3 (.ok st) 403 (by decide) (bH (hp3.below hb4)))
      have hB4:=bH (hB3.out.next hb4)
      clear hb4 hp3 hgl3
      go_wp2_with fail
      refine k4.out.mono ?_
      rintro e5 w5 ⟨rfl,hp5,hb5⟩
      have hB5:=hB4.out.trans hb5 fun _ _ hs=>hs
      clear k4 hb5 hB4
      obtain⟨x,hxe⟩ : ∃x:PE,(403,hereP ts en st.i)=x:=⟨_,rfl⟩
      have hp5:PkX B G _ ts en w5 nv3 (.error (403,hereP ts en st.i)):=hp5
      rw[hxe] at hp5 hT0e
      clear hxe
      obtain⟨hx0,st5,h5⟩:=(show x.1≠0∧ ∃st,PkW B G _ ts en w5 nv3 st x from hp5)
      have g4:=h5.c;have g5:=h5.p
      have hgl:G<w5.heap.size:=by have:=h5.gB;have:=h5.bl;omega
      have e0:(x.1==0)=false:=beq_eq_false_iff_ne.2 hx0
      have y4:=hB5.cell hc0.out hPG
      have y5:=hB5.cell hc1.out hPG
      have y6 : ∀o,w5.frozen? ⟨w.heap.size,o,none⟩=false:=fun o=>(hB5.frozen (a:=⟨w.heap.size,o,none⟩) hl0 hPG).trans (hf0.out o)
      have hlW:w.heap.size<w5.heap.size:=Nat.lt_of_lt_of_le hl0 hB5.size
      have hPG2 : ¬ G=w.heap.size:=fun e=>hPG e.symm
      have hK4:Hid (KX w5 w.heap.size w5):=bH ⟨Bar.refl _ _,y4,y5,y6⟩
      have hbW:=bH (show Below w.heap.size w w5 from hb1.out.trans (hB5.below (B:=w.heap.size) (by omega) (fun k (hk:k=G)=>by have:=hwG.out;omega)))
      have hfin:Hid (∀X,KX w5 w.heap.size X→PrP T0 w (.returned (.tuple #[.agg #[.slice none 0 0, .slice none 0 0], .int .i64 x.2, .int .i64 x.1])) X):=bH fun X hX=>⟨_,_,[],[],x.2,x.1,rfl,OwnO.nil _ _,OwnN.nil _ _,hbW.out.trans (hX.b.below (B:=w.heap.size) (by omega) (fun k hk=>by have hk:k=w.heap.size:=hk;omega)),by rw[hT0e.out];exact⟨rfl,rfl,rfl,rfl,rfl,rfl⟩⟩
      clear h5 hx0
      try dsimp only at g4 g5 e0 hfin
      go_wp2_with fail
      go_region
      all_goals (go_wp2_with fail;refine bodyPost_ret (v:= .tuple #[.agg #[.slice none 0 0, .slice none 0 0], .int .i64 x.2, .int .i64 x.1]) (by simp[results,Tryz.results31,go_sem,y4,y5]) rfl (hfin.out _ (by repeat' (first|exact hK4.out|with_reducible apply KX.set0|with_reducible apply KX.set1|with_reducible apply KX.drew))))
     ·have hii:st.i=ts.length:=by have:=h3.il;omega
      have hT0e:=bH (hP.out.trans ((hpo.out st rfl).trans (if_neg hlt)))
      rw[hii] at g2
      clear h3 hlt hpe hpo hii
      go_wp2_with fail
      go_quiet (fail)
      obtain⟨w4,hw4⟩ : ∃W,w3.drewN nq=W:=⟨_,rfl⟩
      have hb4:Below w3.heap.size w3 w4:=by rw[← hw4];exact belDN nq
      rw[hw4]
      clear hw4 g2 g0
      obtain⟨p5,h5⟩:=hp3.below hb4
      have hB5:=hB3.out.next hb4
      have ho4:=bH (show OwnO (w.heap.size+1) w4 (.slice a os.length c) os from owns_mono (hO3.out.below hb4) hwB.out)
      have hn4:=bH (show OwnN (w.heap.size+1) w4 nv3 st.ns from owns_mono h5.own hwB.out)
      obtain⟨a2,c2,rfl⟩:=own_sl hn4.out
      have g3:=h5.n;have g4:=h5.c
      have hgl:G<w4.heap.size:=by have:=h5.gB;have:=h5.bl;omega
      have y4:=hB5.cell hc0.out hPG
      have y5:=hB5.cell hc1.out hPG
      have y6 : ∀o,w4.frozen? ⟨w.heap.size,o,none⟩=false:=fun o=>(hB5.frozen (a:=⟨w.heap.size,o,none⟩) hl0 hPG).trans (hf0.out o)
      have hlW:w.heap.size<w4.heap.size:=Nat.lt_of_lt_of_le hl0 hB5.size
      have hbW:=bH (show Below w.heap.size w w4 from hb1.out.trans (hB5.below (B:=w.heap.size) (by omega) (fun k (hk:k=G)=>by have:=hwG.out;omega)))
      clear hb4 hp3 hgl3 h5 hB5
      go_wp2_with fail
      have hz0:((w4.setCell ⟨w.heap.size,0,none⟩ (.slice a os.length c)).setCell ⟨w.heap.size,1,none⟩ (.slice a2 st.ns.length c2)).cell? ⟨w.heap.size,0,none⟩=some (.slice a os.length c):=setO (setS y4) (by simp)
      have hz1:((w4.setCell ⟨w.heap.size,0,none⟩ (.slice a os.length c)).setCell ⟨w.heap.size,1,none⟩ (.slice a2 st.ns.length c2)).cell? ⟨w.heap.size,1,none⟩=some (.slice a2 st.ns.length c2):=setS (setO y5 (by simp))
      have hS3:Bar (fun k=>k=w.heap.size) w4 ((w4.setCell ⟨w.heap.size,0,none⟩ (.slice a os.length c)).setCell ⟨w.heap.size,1,none⟩ (.slice a2 st.ns.length c2)):=(Bar.set (S:=fun k=>k=w.heap.size) ⟨w.heap.size,0,none⟩ _ rfl).trans (Bar.set (S:=fun k=>k=w.heap.size) ⟨w.heap.size,1,none⟩ _ rfl) fun _ _ hs=>hs
      refine bodyPost_ret (v:= .tuple #[.agg #[.slice a os.length c, .slice a2 st.ns.length c2], .int .i64 0, .int .i64 0]) (by simp[results,Tryz.results31,go_sem,hz0,hz1,y4,y5]) rfl ⟨_,_,os,st.ns,0,0,rfl,owns_mono (Bar.own hS3 ho4.out fun k hk (e:k=w.heap.size)=>by have:=(owno_lt ho4.out k hk).1;omega) (Nat.le_succ _),owns_mono (Bar.own hS3 hn4.out fun k hk (e:k=w.heap.size)=>by have:=(own_lt hn4.out k hk).1;omega) (Nat.le_succ _),hbW.out.trans (hS3.below (B:=w.heap.size) (by omega) (fun k hk=>by have hk:k=w.heap.size:=hk;omega)),by rw[hT0e.out];exact⟨rfl,rfl,rfl,rfl⟩⟩
   ·have hop:=hq
    have hyes:=bH (hI.out.yes hq.out)
    have hO:=bH (show OwnO B wa (.slice a os.length c) os from hI.out.o.below hb2.out)
    have hxa:=bH (hI.out.x.below hb2.out)
    have hBa:=bH (show Bar (fun k=>k=G) wr wa from Bar.of_below hb2.out)
    by_cases h4:os.length=4
    ·have h4i:(4:Int)≤(os.length:Int):=by omega
     have h40:=bH (show failX ts en R 402=if os.length=4 then failX ts en R 402 else R from (if_pos h4).symm)
     have k0:=bH (rfail_any B G tv ts en wa _ R 402 (by decide) hxa)
     clear h4
     go_wp2_with fail
     refine k0.out.mono ?_
     rintro e0 wc ⟨rfl,hp0,hb0⟩
     have hx0:=bH hp0
     have hB0:=bH (hBa.out.trans hb0 fun _ _ hs=>hs)
     have hO:=bH (show OwnO B wc (.slice a os.length c) os from Bar.own hb0 hO.out fun k hk (e:k=G)=>by have:=(owno_lt hO.out k hk).1;have:=hxa.out.lt.1;omega)
     clear k0 hb0 hp0 hxa hBa h4i
     have k1:=bH (rtake_any B G _ ts en wc _ _ htl kwOp hx0)
     rw[take_want hop.out h40.out] at k1
     go_wp2_with fail
     refine k1.out.mono ?_
     rintro e1 w1 ⟨rfl,hp1,hb1⟩
     have hx1:=bH hp1
     have hB1:=bH (hB0.out.trans hb1 fun _ _ hs=>hs)
     clear k1 hb1 hp1 hx0 hB0
     have k2:=bH (rname_any B G _ ts en w1 _ _ htl hx1)
     go_wp2_with fail
     refine k2.out.mono ?_
     rintro e2 w2 ⟨x,rfl,⟨hp2,hb2⟩,hy1⟩
     have hv1:=bH hy1
     have hB2a:=hB1.out.trans hb2 fun _ _ hs=>hs
     have hbb:=bH hB2a.size
     have hBb:=bH (show B≤w2.heap.size from hp2.lt.2.1)
     have hz2:=bH (OrBox.new x (show G<w2.heap.size by have:=hp2.lt;omega))
     have hx2:=bH (hp2.below (below_alc w2 (.cells #[.string x, .int .i64 0, .int .i64 0] 54)))
     have hB2:=bH (hB2a.next (below_alc w2 (.cells #[.string x, .int .i64 0, .int .i64 0] 54)))
     clear k2 hp2 hb2 hy1 hB2a hx1 hB1
     generalize hbn:w2.heap.size=b at hbb hBb hz2
     go_wp2_with fail
     try rw[hbn]
     obtain⟨w3,hw3⟩ : ∃W,w2.alloc (.cells #[.string x, .int .i64 0, .int .i64 0] 54)=W:=⟨_,rfl⟩
     rw[hw3] at hz2 hx2 hB2 ⊢
     clear hw3 hbn
     have k3:=bH (rwant_any B G _ ts en _ _ _ htl sgColon hx2)
     refine k3.out.mono ?_
     rintro e3 v3 ⟨rfl,hp3,hb3⟩
     have hx3:=bH hp3
     have hz3:=bH (hz2.out.step hb3)
     have hB3:=bH (hB2.out.trans hb3 fun _ _ hs=>hs)
     clear k3 hp3 hb3 hx2 hz2 hB2
     have k4:=bH (rbasic_any B G _ ts en _ _ _ htl hx3)
     go_wp2_with fail
     refine k4.out.mono ?_
     rintro e4 v4 ⟨fa,rfl,⟨hp4,hb4⟩,hy⟩
     have hv2:=bH hy
     have hy4:=bH (hz3.out.step hb4)
     have hz4:=bH (hy4.out.set1 fa)
     have hx4:=bH (hp4.setB hBb.out 1 (.int .i64 fa))
     have hB4:=bH (bar_newer (hB3.out.trans hb4 fun _ _ hs=>hs) hbb.out 1 (.int .i64 fa))
     have cs:=hy4.out.c1;have cf:=hy4.out.fz;have cl:=hy4.out.lt
     clear k4 hp4 hb4 hy hx3 hz3 hB3 hy4
     have k5:=bH (rwant_any B G _ ts en _ _ _ htl sgArrow hx4)
     go_wp2_with fail
     clear cs cf cl
     refine k5.out.mono ?_
     rintro e5 v5 ⟨rfl,hp5,hb5⟩
     have hx5:=bH hp5
     have hz5:=bH (hz4.out.step hb5)
     have hB5:=bH (hB4.out.trans hb5 fun _ _ hs=>hs)
     clear k5 hp5 hb5 hx4 hz4 hB4
     have k6:=bH (rbasic_any B G _ ts en _ _ _ htl hx5)
     go_wp2_with fail
     refine k6.out.mono ?_
     rintro e6 v6 ⟨fb,rfl,⟨hp6,hb6⟩,hy⟩
     have hv3:=bH hy
     have hy6:=bH (hz5.out.step hb6)
     have hz6:=bH (hy6.out.set2 fb)
     have hx6:=bH (hp6.setB hBb.out 2 (.int .i64 fb))
     have hB6:=bH (bar_newer (hB5.out.trans hb6 fun _ _ hs=>hs) hbb.out 2 (.int .i64 fb))
     have cs:=hy6.out.c2;have cf:=hy6.out.fz;have cl:=hy6.out.lt
     clear k6 hp6 hb6 hy hx5 hz5 hB5 hy6
     have k7:=bH (rwant_any B G _ ts en _ _ _ htl sgSemi hx6)
     go_wp2_with fail
     clear cs cf cl
     refine k7.out.mono ?_
     rintro e7 w7 ⟨rfl,hp7,hb7⟩
     have hx7:=bH hp7
     have hz7:=bH (hz6.out.step hb7)
     have hB7:=bH (hB6.out.trans hb7 fun _ _ hs=>hs)
     clear k7 hp7 hb7 hx6 hz6 hB6
     have hall:=bH (decl_all (en:=en) hop.out h40.out hyes.out.1 hv1.out hv2.out hv3.out)
     rw[hall.out.1] at hx7
     clear hv1 hv2 hv3
     have hBW:B≤w7.heap.size:=hx7.out.lt.2.1
     have hnG : ¬ (Value.slice a os.length c).ownBlock=some G:=fun e=>by have:=(owno_lt hO.out G e).1;have:=hx7.out.lt.1;omega
     have hown:=bH (show OwnO B w7 (.slice a os.length c) os from Bar.own hB7.out hI.out.o fun k hk e=>hnG (by rw[← e];exact hk))
     have hq7:Hid (os.length+[(⟨x,fa,fb⟩:Or)].length≤1000000):=bH (by have:=hyes.out.1;simp;omega)
     have d0:=hz7.out.c0;have d1:=hz7.out.c1;have d2:=hz7.out.c2;have dl:=hz7.out.lt
     go_wp2_with (at_builtin;refine op_orr rfl (.tmp 50) (.tmp 52) w7 B hBW (.slice a os.length c) os [⟨x,fa,fb⟩] _ rfl rfl 1 rfl rfl rfl hown.out hq7.out ?_;intro v' w8 hown8 hb8 hop8;obtain⟨a8,c8,rfl⟩:=owno_sl hown8;have hown8:=bH hown8;have hb8':=bH hb8;have hop8:=bH hop8;clear hb8)
     clear d0 d1 d2 dl
     have hx8:=hx7.out.bar hb8'.out hnG (fun k hk _ e=>by have:=(owno_lt hown.out k e).1;omega) (fun k hk=>by cases hk)
     have hI8:=bH (hI.out.next hop.out hBe.out hx8 hown8.out ((Bar.trans (S:=fun k=>k=G∨(Value.slice a os.length c).ownBlock=some k) ((Bar.refl _ _).trans hB7.out fun _ _ hs=> .inl hs) hb8'.out fun _ _ hs=> .inr hs)) (by simp) hall.out.2)
     rw[List.length_append,List.length_singleton] at hI8
     clear hx8 hown8 hb8' hop8 hown hall hx7 hz7 hB7 hBW hnG
     go_roundg (gk-1)
     case measure=>have:=hyes.out.2;omega
     case rel=>exact⟨_,_,_,rfl,hI8⟩
    ·have h4i : ¬ (4:Int)≤(os.length:Int):=by have:=hyes.out.1;omega
     have h40:=bH (show R=if os.length=4 then failX ts en R 402 else R from (if_neg h4).symm)
     clear h4
     have k1:=bH (rtake_any B G _ ts en wa _ _ htl kwOp hxa)
     rw[take_want hop.out h40.out] at k1
     go_wp2_with fail
     clear h4i
     refine k1.out.mono ?_
     rintro e1 w1 ⟨rfl,hp1,hb1⟩
     have hx1:=bH hp1
     have hB1:=bH (hBa.out.trans hb1 fun _ _ hs=>hs)
     clear k1 hb1 hp1 hxa hBa
     have k2:=bH (rname_any B G _ ts en w1 _ _ htl hx1)
     go_wp2_with fail
     refine k2.out.mono ?_
     rintro e2 w2 ⟨x,rfl,⟨hp2,hb2⟩,hy1⟩
     have hv1:=bH hy1
     have hB2a:=hB1.out.trans hb2 fun _ _ hs=>hs
     have hbb:=bH hB2a.size
     have hBb:=bH (show B≤w2.heap.size from hp2.lt.2.1)
     have hz2:=bH (OrBox.new x (show G<w2.heap.size by have:=hp2.lt;omega))
     have hx2:=bH (hp2.below (below_alc w2 (.cells #[.string x, .int .i64 0, .int .i64 0] 54)))
     have hB2:=bH (hB2a.next (below_alc w2 (.cells #[.string x, .int .i64 0, .int .i64 0] 54)))
     clear k2 hp2 hb2 hy1 hB2a hx1 hB1
     generalize hbn:w2.heap.size=b at hbb hBb hz2
     go_wp2_with fail
     try rw[hbn]
     obtain⟨w3,hw3⟩ : ∃W,w2.alloc (.cells #[.string x, .int .i64 0, .int .i64 0] 54)=W:=⟨_,rfl⟩
     rw[hw3] at hz2 hx2 hB2 ⊢
     clear hw3 hbn
     have k3:=bH (rwant_any B G _ ts en _ _ _ htl sgColon hx2)
     refine k3.out.mono ?_
     rintro e3 v3 ⟨rfl,hp3,hb3⟩
     have hx3:=bH hp3
     have hz3:=bH (hz2.out.step hb3)
     have hB3:=bH (hB2.out.trans hb3 fun _ _ hs=>hs)
     clear k3 hp3 hb3 hx2 hz2 hB2
     have k4:=bH (rbasic_any B G _ ts en _ _ _ htl hx3)
     go_wp2_with fail
     refine k4.out.mono ?_
     rintro e4 v4 ⟨fa,rfl,⟨hp4,hb4⟩,hy⟩
     have hv2:=bH hy
     have hy4:=bH (hz3.out.step hb4)
     have hz4:=bH (hy4.out.set1 fa)
     have hx4:=bH (hp4.setB hBb.out 1 (.int .i64 fa))
     have hB4:=bH (bar_newer (hB3.out.trans hb4 fun _ _ hs=>hs) hbb.out 1 (.int .i64 fa))
     have cs:=hy4.out.c1;have cf:=hy4.out.fz;have cl:=hy4.out.lt
     clear k4 hp4 hb4 hy hx3 hz3 hB3 hy4
     have k5:=bH (rwant_any B G _ ts en _ _ _ htl sgArrow hx4)
     go_wp2_with fail
     clear cs cf cl
     refine k5.out.mono ?_
     rintro e5 v5 ⟨rfl,hp5,hb5⟩
     have hx5:=bH hp5
     have hz5:=bH (hz4.out.step hb5)
     have hB5:=bH (hB4.out.trans hb5 fun _ _ hs=>hs)
     clear k5 hp5 hb5 hx4 hz4 hB4
     have k6:=bH (rbasic_any B G _ ts en _ _ _ htl hx5)
     go_wp2_with fail
     refine k6.out.mono ?_
     rintro e6 v6 ⟨fb,rfl,⟨hp6,hb6⟩,hy⟩
     have hv3:=bH hy
     have hy6:=bH (hz5.out.step hb6)
     have hz6:=bH (hy6.out.set2 fb)
     have hx6:=bH (hp6.setB hBb.out 2 (.int .i64 fb))
     have hB6:=bH (bar_newer (hB5.out.trans hb6 fun _ _ hs=>hs) hbb.out 2 (.int .i64 fb))
     have cs:=hy6.out.c2;have cf:=hy6.out.fz;have cl:=hy6.out.lt
     clear k6 hp6 hb6 hy hx5 hz5 hB5 hy6
     have k7:=bH (rwant_any B G _ ts en _ _ _ htl sgSemi hx6)
     go_wp2_with fail
     clear cs cf cl
     refine k7.out.mono ?_
     rintro e7 w7 ⟨rfl,hp7,hb7⟩
     have hx7:=bH hp7
     have hz7:=bH (hz6.out.step hb7)
     have hB7:=bH (hB6.out.trans hb7 fun _ _ hs=>hs)
     clear k7 hp7 hb7 hx6 hz6 hB6
     have hall:=bH (decl_all (en:=en) hop.out h40.out hyes.out.1 hv1.out hv2.out hv3.out)
     rw[hall.out.1] at hx7
     clear hv1 hv2 hv3
     have hBW:B≤w7.heap.size:=hx7.out.lt.2.1
     have hnG : ¬ (Value.slice a os.length c).ownBlock=some G:=fun e=>by have:=(owno_lt hO.out G e).1;have:=hx7.out.lt.1;omega
     have hown:=bH (show OwnO B w7 (.slice a os.length c) os from Bar.own hB7.out hI.out.o fun k hk e=>hnG (by rw[← e];exact hk))
     have hq7:Hid (os.length+[(⟨x,fa,fb⟩:Or)].length≤1000000):=bH (by have:=hyes.out.1;simp;omega)
     have d0:=hz7.out.c0;have d1:=hz7.out.c1;have d2:=hz7.out.c2;have dl:=hz7.out.lt
     go_wp2_with (at_builtin;refine op_orr rfl (.tmp 50) (.tmp 52) w7 B hBW (.slice a os.length c) os [⟨x,fa,fb⟩] _ rfl rfl 1 rfl rfl rfl hown.out hq7.out ?_;intro v' w8 hown8 hb8 hop8;obtain⟨a8,c8,rfl⟩:=owno_sl hown8;have hown8:=bH hown8;have hb8':=bH hb8;have hop8:=bH hop8;clear hb8)
     clear d0 d1 d2 dl
     have hx8:=hx7.out.bar hb8'.out hnG (fun k hk _ e=>by have:=(owno_lt hown.out k e).1;omega) (fun k hk=>by cases hk)
     have hI8:=bH (hI.out.next hop.out hBe.out hx8 hown8.out ((Bar.trans (S:=fun k=>k=G∨(Value.slice a os.length c).ownBlock=some k) ((Bar.refl _ _).trans hB7.out fun _ _ hs=> .inl hs) hb8'.out fun _ _ hs=> .inr hs)) (by simp) hall.out.2)
     rw[List.length_append,List.length_singleton] at hI8
     clear hx8 hown8 hb8' hop8 hown hall hx7 hz7 hB7 hBW hnG
     go_roundg (gk-1)
     case measure=>have:=hyes.out.2;omega
     case rel=>exact⟨_,_,_,rfl,hI8⟩
 ·have e0:(er==0)=false:=beq_eq_false_iff_ne.2 h0
  have hP:=bH (hP.out.trans (if_neg h0))
  clear hK h0
  go_wp2_with fail
  refine bodyPost_ret (v:= .tuple #[.agg #[.slice none 0 0, .slice none 0 0], .int .i64 pl, .int .i64 400]) (by simp[results,Tryz.results31,go_sem,hc0,hc1]) rfl ⟨_,_,[],[],pl,400,rfl,OwnO.nil _ _,OwnN.nil _ _, ?_,by rw[hP.out];exact⟨rfl,rfl,rfl,rfl,rfl,rfl⟩⟩
  exact hb1.out.trans ((Bar.trans (S:=fun k=>k=w.heap.size) (Bar.set (S:=fun k=>k=w.heap.size) ⟨w.heap.size,0,none⟩ _ rfl) (Bar.set (S:=fun k=>k=w.heap.size) ⟨w.heap.size,1,none⟩ _ rfl) fun _ _ hs=>hs).below (B:=w.heap.size) (by omega) (fun k hk=>by have hk:k=w.heap.size:=hk;omega))
end Go.Proofs.YthpcbgljbpmafaaGreatDoor
