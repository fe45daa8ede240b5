/- The reference's parser: its object, and the small functions. -/
import Derived.Test.YthpcbgljbpmafaaGreatDoorW20
set_option maxRecDepth 100000
set_option maxHeartbeats 8000000
namespace Go.Proofs.YthpcbgljbpmafaaGreatDoor
open Go.RowKit
set_option linter.unusedVariables false
set_option linter.unusedSimpArgs false
section
variable {B G : Nat} {tv : Value} {ts : List Tk} {en : Int} {w : World} {nv : Value}
theorem PkW.setI {st:PS} {er:PE} (h:PkW B G tv ts en w nv st er) (j:Nat) (hj:j≤ts.length):PkW B G tv ts en (w.setCell ⟨G,2,none⟩ (.int .i64 j)) nv ⟨j,st.ns⟩ er∧Bar (fun k=>k=G) w (w.setCell ⟨G,2,none⟩ (.int .i64 j)):=by
 have ne : ∀a b:Nat,a≠b→(⟨G,a,none⟩:Addr)≠⟨G,b,none⟩:=fun a b hab e=>by injection e with _ e2 _;exact hab e2
 have hb:Bar (fun k=>k=G) w (w.setCell ⟨G,2,none⟩ (.int .i64 j)):=Bar.set (S:=fun k=>k=G) ⟨G,2,none⟩ _ rfl
 exact⟨⟨setO h.t (ne _ _ (by decide)),setO h.e (ne _ _ (by decide)),setS h.i,setO h.n (ne _ _ (by decide)),setO h.c (ne _ _ (by decide)),setO h.p (ne _ _ (by decide)),h.gB,by simpa using h.bl,fun o=>by simp only[World.frozen?_setCell];exact h.fg o,h.tk.bar hb (fun k _ hk=>hk),Bar.own hb h.own (fun k hk e=>by have:=(own_lt h.own k hk).1;have:=h.gB;omega),hj,h.nl⟩,hb⟩
theorem PkW.setC {st:PS} {er:PE} (h:PkW B G tv ts en w nv st er) (c:Int):PkW B G tv ts en (w.setCell ⟨G,4,none⟩ (.int .i64 c)) nv st (c,er.2)∧Bar (fun k=>k=G) w (w.setCell ⟨G,4,none⟩ (.int .i64 c)):=by
 have ne : ∀a b:Nat,a≠b→(⟨G,a,none⟩:Addr)≠⟨G,b,none⟩:=fun a b hab e=>by injection e with _ e2 _;exact hab e2
 have hb:Bar (fun k=>k=G) w (w.setCell ⟨G,4,none⟩ (.int .i64 c)):=Bar.set (S:=fun k=>k=G) ⟨G,4,none⟩ _ rfl
 exact⟨⟨setO h.t (ne _ _ (by decide)),setO h.e (ne _ _ (by decide)),setO h.i (ne _ _ (by decide)),setO h.n (ne _ _ (by decide)),setS h.c,setO h.p (ne _ _ (by decide)),h.gB,by simpa using h.bl,fun o=>by simp only[World.frozen?_setCell];exact h.fg o,h.tk.bar hb (fun k _ hk=>hk),Bar.own hb h.own (fun k hk e=>by have:=(own_lt h.own k hk).1;have:=h.gB;omega),h.il,h.nl⟩,hb⟩
theorem PkW.setP {st:PS} {er:PE} (h:PkW B G tv ts en w nv st er) (p:Int):PkW B G tv ts en (w.setCell ⟨G,5,none⟩ (.int .i64 p)) nv st (er.1,p)∧Bar (fun k=>k=G) w (w.setCell ⟨G,5,none⟩ (.int .i64 p)):=by
 have ne : ∀a b:Nat,a≠b→(⟨G,a,none⟩:Addr)≠⟨G,b,none⟩:=fun a b hab e=>by injection e with _ e2 _;exact hab e2
 have hb:Bar (fun k=>k=G) w (w.setCell ⟨G,5,none⟩ (.int .i64 p)):=Bar.set (S:=fun k=>k=G) ⟨G,5,none⟩ _ rfl
 exact⟨⟨setO h.t (ne _ _ (by decide)),setO h.e (ne _ _ (by decide)),setO h.i (ne _ _ (by decide)),setO h.n (ne _ _ (by decide)),setO h.c (ne _ _ (by decide)),setS h.p,h.gB,by simpa using h.bl,fun o=>by simp only[World.frozen?_setCell];exact h.fg o,h.tk.bar hb (fun k _ hk=>hk),Bar.own hb h.own (fun k hk e=>by have:=(own_lt h.own k hk).1;have:=h.gB;omega),h.il,h.nl⟩,hb⟩
theorem PkX.lt {R:Except PE PS} (h:PkX B G tv ts en w nv R):G<B∧B≤w.heap.size∧ ∀k,nv.ownBlock=some k→k<w.heap.size∧B≤k:=by
 obtain⟨st,er,h1,_⟩:=h.any
 exact⟨h1.gB,h1.bl,fun k hk=>⟨(own_lt h1.own k hk).2,(own_lt h1.own k hk).1⟩⟩
end
def RkP (B G:Nat) (tv:Value) (ts:List Tk) (en:Int) (w:World) (nv:Value) (R:Except PE PS) (w':World):Prop:=PkX B G tv ts en w' nv R∧Bar (fun k=>k=G) w w'
theorem belDN {w:World} (n:Nat):Below w.heap.size w (w.drewN n):=below_drewN (Below.refl _ _) n
theorem rhere_st (B G:Nat) (tv:Value) (ts:List Tk) (en:Int) (w:World) (nv:Value) (st:PS) (er:PE) (h:Hid (PkW B G tv ts en w nv st er)) :
  Calls Tryz.prog 69 #[.pointer (some ⟨G,0,none⟩)] w fun e w'=>e= .returned (.int .i64 (hereP ts en st.i))∧Below w.heap.size w w':=by
 have h2:=h.out.i
 have h3:=h.out.t
 have h4:=h.out.e
 have hgl:G<w.heap.size:=by have:=h.out.gB;have:=h.out.bl;omega
 by_cases hlt:st.i<ts.length
 ·obtain⟨T,c,rfl,hT,⟨a0,a1,a2,a3⟩,hg⟩:=tk_get h.out.tk hlt
  simp only[Nat.zero_add] at a0 a1 a2 a3
  have hh:hereP ts en st.i=(ts.getD st.i tk0).at_:=by unfold hereP;rw[hg]
  rw[hh]
  generalize ts.getD st.i tk0=t at a0 a1 a2 a3
  have hj1:(st.i:Int)<(ts.length:Int):=by omega
  have hj0:(0:Int)≤(st.i:Int):=by omega
  clear hlt hh hg
  go_enter Tryz.func69,Tryz.ntmps69
  go_wp2_with fail
  go_quiet (fail)
  go_wp2_with fail
  go_quiet (fail)
  go_wp2_with fail
  go_ret
  exact⟨rfl,bZ⟩
 ·obtain⟨a,c,rfl⟩:=tk_len h.out.tk
  have hj1 : ¬ (st.i:Int)<(ts.length:Int):=by omega
  have hh:hereP ts en st.i=en:=by unfold hereP;rw[List.getElem?_eq_none (by omega)]
  rw[hh]
  clear hlt hh
  go_enter Tryz.func69,Tryz.ntmps69
  go_wp2_with fail
  go_quiet (fail)
  go_wp2_with fail
  go_ret
  exact⟨rfl,bZ⟩
theorem rhere_any (B G:Nat) (tv:Value) (ts:List Tk) (en:Int) (w:World) (nv:Value) (R:Except PE PS) (h:Hid (PkX B G tv ts en w nv R)) :
  Calls Tryz.prog 69 #[.pointer (some ⟨G,0,none⟩)] w fun e w'=> ∃z,e= .returned (.int .i64 z)∧Below w.heap.size w w'∧ ∀st,R= .ok st→z=hereP ts en st.i:=by
 cases R with
 | ok st=>
  obtain⟨p,h1⟩:=h.out
  exact(rhere_st B G tv ts en w nv st _ (bH h1)).mono fun e w' he=>⟨_,he.1,he.2,fun s hs=>by injection hs with hs;rw[hs]⟩
 | error x=>
  obtain⟨_,st,h1⟩:=h.out
  exact(rhere_st B G tv ts en w nv st _ (bH h1)).mono fun e w' he=>⟨_,he.1,he.2,fun s hs=>by cases hs⟩
theorem rfail_any (B G:Nat) (tv:Value) (ts:List Tk) (en:Int) (w:World) (nv:Value) (R:Except PE PS) (c:Int) (hc:c≠0) (h:Hid (PkX B G tv ts en w nv R)) :
  Calls Tryz.prog 48 #[.pointer (some ⟨G,0,none⟩), .int .i64 c] w fun e w'=>e= .returned (.tuple #[])∧RkP B G tv ts en w nv (failX ts en R c) w':=by
 cases R with
 | error x=>
  obtain⟨hx0,st,h1⟩:=h.out
  have h2:=h1.c
  have hgl:G<w.heap.size:=by have:=h1.gB;have:=h1.bl;omega
  have e0:(x.1==0)=false:=beq_eq_false_iff_ne.2 hx0
  clear h1
  go_enter Tryz.func48,Tryz.ntmps48
  go_wp2_with fail
  go_end0
  exact⟨rfl,h.out,Bar.refl _ _⟩
 | ok st=>
  obtain⟨p,h1⟩:=h.out
  have h2:=h1.c
  have hfg:=h1.fg
  have hgl:G<w.heap.size:=by have:=h1.gB;have:=h1.bl;omega
  have h3:=bH (h1.setC c)
  have k:=bH (rhere_st B G tv ts en _ nv st _ (bH h3.out.1))
  clear h1
  go_enter Tryz.func48,Tryz.ntmps48
  go_wp2_with fail
  refine k.out.mono ?_
  rintro e w1 ⟨rfl,hb⟩
  have h4:=bH (h3.out.1.below hb)
  have hB:=bH (h3.out.2.next hb)
  have h5:=h4.out.p
  have hfg:=h4.out.fg
  have hgl:G<w1.heap.size:=by have:=h4.out.gB;have:=h4.out.bl;omega
  clear hb k h2
  go_wp2_with fail
  go_end0
  obtain⟨h6,h7⟩:=h4.out.setP (hereP ts en st.i)
  exact⟨rfl,⟨hc,st,h6⟩,hB.out.trans h7 fun _ _ hs=>hs⟩
theorem ris_any (B G:Nat) (tv:Value) (ts:List Tk) (en:Int) (w:World) (nv:Value) (R:Except PE PS) (u:List UInt8) (h:Hid (PkX B G tv ts en w nv R)) :
  Calls Tryz.prog 47 #[.pointer (some ⟨G,0,none⟩), .string (bs u)] w fun e w'=>e= .returned (.bool (isX ts R u))∧Below w.heap.size w w':=by
 cases R with
 | error x=>
  obtain⟨hx0,st,h1⟩:=h.out
  have h2:=h1.c
  have hgl:G<w.heap.size:=by have:=h1.gB;have:=h1.bl;omega
  have e0:(x.1==0)=false:=beq_eq_false_iff_ne.2 hx0
  clear h1
  go_enter Tryz.func47,Tryz.ntmps47
  go_wp2_with fail
  go_quiet (fail)
  go_wp2_with fail
  go_ret
  exact⟨rfl,bZ⟩
 | ok st=>
  obtain⟨p,h1⟩:=h.out
  have h2:=h1.c
  have h3:=h1.i
  have h4:=h1.t
  have hgl:G<w.heap.size:=by have:=h1.gB;have:=h1.bl;omega
  show Calls _ _ _ _ fun e w'=>e= .returned (.bool (isP ts st.i u))∧_
  by_cases hlt:st.i<ts.length
  ·obtain⟨T,c,rfl,hT,⟨a0,a1,a2,a3⟩,hg⟩:=tk_get h1.tk hlt
   simp only[Nat.zero_add] at a0 a1 a2 a3
   have hh:isP ts st.i u=(((ts.getD st.i tk0).kind==2 || (ts.getD st.i tk0).kind==3) && (ts.getD st.i tk0).text==u):=by unfold isP;rw[hg]
   rw[hh]
   generalize ts.getD st.i tk0=t at a0 a1 a2 a3 ⊢
   obtain⟨tk,tx,tn,ta⟩:=t
   dsimp only at a0 a1 a2 a3 ⊢
   obtain⟨q,hq⟩ : ∃q,(tx==u)=q:=⟨_,rfl⟩
   rw[hq]
   have he:((bs tx).toList==(bs u).toList)=q:=by rw[ByteArray.toList_eq,ByteArray.toList_eq];exact hq
   have hj1:(st.i:Int)<(ts.length:Int):=by omega
   have hj0:(0:Int)≤(st.i:Int):=by omega
   clear hlt hh hg h1 hq a2 a3
   by_cases k3:tk=3
   ·subst k3
    go_enter Tryz.func47,Tryz.ntmps47
    go_wp2_with fail
    go_quiet (fail)
    go_wp2_with fail
    go_ret
    exact⟨by cases q<;>rfl,bZ⟩
   have e3:(tk==3)=false:=beq_eq_false_iff_ne.2 k3
   by_cases k2:tk=2
   ·subst k2
    clear k3
    go_enter Tryz.func47,Tryz.ntmps47
    go_wp2_with fail
    go_quiet (fail)
    go_wp2_with fail
    go_ret
    exact⟨by cases q<;>rfl,bZ⟩
   have e2:(tk==2)=false:=beq_eq_false_iff_ne.2 k2
   clear k2 k3 he
   go_enter Tryz.func47,Tryz.ntmps47
   go_wp2_with fail
   go_quiet (fail)
   go_wp2_with fail
   go_ret
   exact⟨by rw[e2,e3];rfl,bZ⟩
  ·obtain⟨a,c,rfl⟩:=tk_len h1.tk
   have hii:st.i=ts.length:=by have:=h1.il;omega
   rw[hii] at h3 ⊢
   have hh:isP ts ts.length u=false:=by unfold isP;rw[List.getElem?_eq_none (Nat.le_refl _)]
   rw[hh]
   clear hlt hh h1 hii
   go_enter Tryz.func47,Tryz.ntmps47
   go_wp2_with fail
   go_quiet (fail)
   go_wp2_with fail
   go_ret
   exact⟨rfl,bZ⟩
open Go.RowKit
theorem rtake_any (B G:Nat) (tv:Value) (ts:List Tk) (en:Int) (w:World) (nv:Value) (R:Except PE PS) (htl:ts.length≤1000000) (u:List UInt8) (h:Hid (PkX B G tv ts en w nv R)) :
  Calls Tryz.prog 49 #[.pointer (some ⟨G,0,none⟩), .string (bs u)] w fun e w'=>e= .returned (.bool (isX ts R u))∧RkP B G tv ts en w nv (takeX ts R u) w':=by
 have k:=bH (ris_any B G tv ts en w nv R u h)
 obtain⟨q,hq⟩ : ∃q,isX ts R u=q:=⟨_,rfl⟩
 rw[hq] at k ⊢
 go_enter Tryz.func49,Tryz.ntmps49
 cases q
 ·have hn:=take_no hq
  rw[hn]
  clear hn hq
  go_wp2_with fail
  refine k.out.mono ?_
  rintro e w1 ⟨rfl,hb⟩
  have hb:=bH hb
  clear k
  go_wp2_with fail
  go_ret
  exact⟨rfl,h.out.below hb.out,Bar.of_below hb.out⟩
 ·obtain⟨st,rfl,hi,hn⟩:=isX_ok hq
  rw[hn]
  clear hn hq
  have hi:=bH hi
  obtain⟨p,h1⟩:=h.out
  have h1:=bH h1
  go_wp2_with fail
  refine k.out.mono ?_
  rintro e w1 ⟨rfl,hb⟩
  have hb:=bH hb
  clear k
  have h2:=bH (h1.out.below hb.out)
  have h3:=h2.out.i
  have hf:=h2.out.fg
  have hgl:G<w1.heap.size:=by have:=h2.out.gB;have:=h2.out.bl;omega
  have hr1:(st.i:Int)≤1000000:=by have:=h2.out.il;omega
  have hr0:(0:Int)≤(st.i:Int):=by omega
  go_wp2_with fail
  go_ret
  have h4:=h2.out.setI (st.i+1) hi.out
  push_cast at h4
  exact⟨rfl,⟨p,h4.1⟩,(Bar.of_below (S:=fun k=>k=G) hb.out).trans h4.2 fun _ _ hs=>hs⟩
theorem rwant_any (B G:Nat) (tv:Value) (ts:List Tk) (en:Int) (w:World) (nv:Value) (R:Except PE PS) (htl:ts.length≤1000000) (u:List UInt8) (h:Hid (PkX B G tv ts en w nv R)) :
  Calls Tryz.prog 51 #[.pointer (some ⟨G,0,none⟩), .string (bs u)] w fun e w'=>e= .returned (.tuple #[])∧RkP B G tv ts en w nv (R >>= wantP ts en u) w':=by
 have k:=bH (rtake_any B G tv ts en w nv R htl u h)
 obtain⟨q,hq⟩ : ∃q,isX ts R u=q:=⟨_,rfl⟩
 rw[hq] at k
 go_enter Tryz.func51,Tryz.ntmps51
 cases q
 ·rw[take_no hq] at k
  rw[want_no hq]
  clear hq
  go_wp2_with fail
  refine k.out.mono ?_
  rintro e w1 ⟨rfl,h2⟩
  have h2:=bH h2
  clear k
  have k2:=bH (rfail_any B G tv ts en w1 nv R 403 (by decide) (bH h2.out.1))
  go_wp2_with fail
  refine k2.out.mono ?_
  rintro e w2 ⟨rfl,h3⟩
  have h3:=bH h3
  clear k2
  go_wp2_with fail
  go_end0
  exact⟨rfl,h3.out.1,h2.out.2.trans h3.out.2 fun _ _ hs=>hs⟩
 ·rw[want_yes hq]
  clear hq
  go_wp2_with fail
  refine k.out.mono ?_
  rintro e w1 ⟨rfl,h2⟩
  have h2:=bH h2
  clear k
  go_wp2_with fail
  go_end0
  exact⟨rfl,h2.out⟩
def RkM (B G:Nat) (tv:Value) (ts:List Tk) (en:Int) (w:World) (nv:Value) (R:Except PE (ByteArray × PS)) (e:Ending) (w':World):Prop:= ∃x,e= .returned (.string x)∧RkP B G tv ts en w nv (stX R) w'∧ ∀y st',R= .ok (y,st')→x=y
theorem rname_any (B G:Nat) (tv:Value) (ts:List Tk) (en:Int) (w:World) (nv:Value) (R:Except PE PS) (htl:ts.length≤1000000) (h:Hid (PkX B G tv ts en w nv R)) :
  Calls Tryz.prog 50 #[.pointer (some ⟨G,0,none⟩)] w (RkM B G tv ts en w nv (R >>= nameP ts en)):=by
 have kF:=bH fun (W:World) (hb:Below w.heap.size w W)=>rfail_any B G tv ts en W nv R 403 (by decide) (bH (h.out.below hb))
 by_cases hk:(peekX ts en R).kind=0
 ·obtain⟨st,rfl,hi,hn⟩:=name_yes (en:=en) hk
  rw[hn]
  obtain⟨p,h1⟩:=h.out
  rw[peek_ok] at hk ⊢
  obtain⟨T,c,rfl,hT,⟨a0,a1,a2,a3⟩,hg⟩:=tk_get h1.tk hi
  simp only[Nat.zero_add] at a0 a1 a2 a3
  rw[hg] at hk ⊢
  dsimp only[Option.getD] at hk ⊢
  have h2:=h1.c
  have h3:=h1.i
  have h4:=h1.t
  have hf:=h1.fg
  have hgl:G<w.heap.size:=by have:=h1.gB;have:=h1.bl;omega
  have hTG : ¬ T=G:=by
   rcases h1.tk with ⟨hnil,_⟩|⟨T',c',e1,_,e2,_⟩
   ·rw[hnil] at hi;simp at hi
   ·injection e1 with e1 _ _;injection e1 with e1;injection e1 with e1 _ _;omega
  have h1:=bH h1
  generalize ts.getD st.i tk0=t at a0 a1 a2 a3 hk ⊢
  rw[hk] at a0
  have hj1:(st.i:Int)<(ts.length:Int):=by omega
  have hj0:(0:Int)≤(st.i:Int):=by omega
  have hr1:(st.i:Int)≤1000000:=by omega
  have hi:=bH hi
  clear hn hg hk a2 a3
  go_enter Tryz.func50,Tryz.ntmps50
  go_wp2_with fail
  go_quiet (fail)
  obtain⟨W,hW⟩ : ∃W,w.drewN nq=W:=⟨_,rfl⟩
  have hbW:Below w.heap.size w W:=by rw[← hW];exact belDN nq
  rw[hW]
  clear hW
  have h5:=bH (h1.out.below hbW)
  obtain⟨h6,h7⟩:=h5.out.setI (st.i+1) hi.out
  push_cast at h6 h7
  have hB:=bH ((Bar.of_below (S:=fun k=>k=G) hbW).trans h7 fun _ _ hs=>hs)
  have a1:=carry hbW hT a1
  have z1:=h7.cell a1 (by show ¬ T=G;exact hTG)
  have h2:=h5.out.i
  have hf:=h5.out.fg
  have hgW:G<W.heap.size:=by have:=h5.out.gB;have:=h5.out.bl;omega
  have hTW:T<W.heap.size:=Nat.lt_of_lt_of_le hT hbW.size
  clear hbW h3 h4
  have z2:=h6.i;have z3:=h6.t
  have hp:=bH h6
  clear h6 h7 a0 a1 h5 h1
  go_upto_region 3 with fail
  have hz:(W.setCell ⟨G,2,none⟩ (.int .i64 ((st.i:Int)+1))).heap.size=W.heap.size:=by simp
  obtain⟨V,hV⟩ : ∃V,W.setCell ⟨G,2,none⟩ (.int .i64 ((st.i:Int)+1))=V:=⟨_,rfl⟩
  rw[hV] at hp hB z1 z2 z3 hz ⊢
  have hgV:G<V.heap.size:=by omega
  have hTV:T<V.heap.size:=by omega
  clear hV h2 hf hgW hTW hz
  go_quiet (fail)
  go_wp2_with fail
  go_ret
  exact⟨_,rfl,⟨⟨p,PkW.below hp.out (belDN _)⟩,hB.out.next (belDN _)⟩,fun y st' e=>by injection e with e;injection e⟩
 ·obtain⟨hn1,hn2⟩:=name_no hk
  have hn1:=bH hn1
  have hn2:=bH hn2
  have hend : ∀(w1 w2:World),Below w.heap.size w w1→RkP B G tv ts en w1 nv (failX ts en R 403) w2→RkM B G tv ts en w nv (R >>= nameP ts en) (.returned (.string ⟨#[]⟩)) w2:=fun w1 w2 hb hr=>⟨_,rfl,⟨by rw[hn1.out];exact hr.1,(Bar.of_below (S:=fun k=>k=G) hb).trans hr.2 fun _ _ hs=>hs⟩,fun y st' e=>absurd e (hn2.out y st')⟩
  have hend:=bH hend
  cases R with
  | error x=>
   obtain⟨hx0,st,h1⟩:=h.out
   have h2:=h1.c
   have hgl:G<w.heap.size:=by have:=h1.gB;have:=h1.bl;omega
   have e0:(x.1==0)=false:=beq_eq_false_iff_ne.2 hx0
   clear h1 hk
   go_enter Tryz.func50,Tryz.ntmps50
   go_wp2_with fail
   go_quiet (fail)
   go_wp2_with fail
   refine(kF.out _ (bZ)).mono ?_
   rintro e w2 ⟨rfl,h3⟩
   have hfin:=bH (hend.out _ _ (bZ) h3)
   clear h3 kF h2
   go_wp2_with fail
   go_ret
   exact hfin.out
  | ok st=>
   obtain⟨p,h1⟩:=h.out
   have h2:=h1.c
   have h3:=h1.i
   have h4:=h1.t
   have hgl:G<w.heap.size:=by have:=h1.gB;have:=h1.bl;omega
   by_cases hlt:st.i<ts.length
   ·rw[peek_ok] at hk
    obtain⟨T,c,rfl,hT,⟨a0,a1,a2,a3⟩,hg⟩:=tk_get h1.tk hlt
    simp only[Nat.zero_add] at a0
    rw[hg] at hk
    dsimp only[Option.getD] at hk
    generalize ts.getD st.i tk0=t at a0 hk
    have e0:(t.kind==0)=false:=beq_eq_false_iff_ne.2 hk
    have hj1:(st.i:Int)<(ts.length:Int):=by omega
    have hj0:(0:Int)≤(st.i:Int):=by omega
    clear hk hg hlt h1 a1 a2 a3
    go_enter Tryz.func50,Tryz.ntmps50
    go_wp2_with fail
    go_quiet (fail)
    go_wp2_with fail
    refine(kF.out _ (bZ)).mono ?_
    rintro e w2 ⟨rfl,h5⟩
    have hfin:=bH (hend.out _ _ (bZ) h5)
    clear h5 kF h2 h3 h4 a0
    go_wp2_with fail
    go_ret
    exact hfin.out
   ·obtain⟨a,c,rfl⟩:=tk_len h1.tk
    have hii:st.i=ts.length:=by have:=h1.il;omega
    rw[hii] at h3
    clear hk hlt h1 hii
    go_enter Tryz.func50,Tryz.ntmps50
    go_wp2_with fail
    go_quiet (fail)
    go_wp2_with fail
    refine(kF.out _ (bZ)).mono ?_
    rintro e w2 ⟨rfl,h5⟩
    have hfin:=bH (hend.out _ _ (bZ) h5)
    clear h5 kF h2 h3 h4
    go_wp2_with fail
    go_ret
    exact hfin.out
def RkI (B G:Nat) (tv:Value) (ts:List Tk) (en:Int) (w:World) (nv:Value) (R:Except PE (Int × PS)) (e:Ending) (w':World):Prop:= ∃x,e= .returned (.int .i64 x)∧RkP B G tv ts en w nv (stX R) w'∧ ∀y st',R= .ok (y,st')→x=y
theorem rbase_no {ts:List Tk} {en:Int} {R:Except PE PS} (h1:isX ts R kwInt=false):(R >>= wantP ts en kwBool)=stX (R >>= baseP ts en)∧ ∀y st',(R >>= baseP ts en)= .ok (y,st')→y=1:=by
 cases R with
 | error e=>exact⟨rfl,fun y st' hc=>by cases hc⟩
 | ok st=>
  have h1:isP ts st.i kwInt=false:=h1
  show wantP ts en kwBool st=stX (baseP ts en st)∧ ∀y st',baseP ts en st= .ok (y,st')→y=1
  by_cases h2:isP ts st.i kwBool=true
  ·have e1:baseP ts en st= .ok (1,⟨st.i+1,st.ns⟩):=by unfold baseP;rw[if_neg (by rw[h1];decide),if_pos h2]
   have e2:wantP ts en kwBool st= .ok ⟨st.i+1,st.ns⟩:=by unfold wantP;rw[if_pos h2]
   rw[e1,e2]
   exact⟨rfl,fun y st' hc=>by injection hc with hc;injection hc with hc _;exact hc.symm⟩
  ·have e1:baseP ts en st= .error (403,hereP ts en st.i):=by unfold baseP;rw[if_neg (by rw[h1];decide),if_neg h2]
   have e2:wantP ts en kwBool st= .error (403,hereP ts en st.i):=by unfold wantP;rw[if_neg h2]
   rw[e1,e2]
   exact⟨rfl,fun y st' hc=>by cases hc⟩
theorem rbasic_any (B G:Nat) (tv:Value) (ts:List Tk) (en:Int) (w:World) (nv:Value) (R:Except PE PS) (htl:ts.length≤1000000) (h:Hid (PkX B G tv ts en w nv R)) :
  Calls Tryz.prog 52 #[.pointer (some ⟨G,0,none⟩)] w (RkI B G tv ts en w nv (R >>= baseP ts en)):=by
 have k:=bH (rtake_any B G tv ts en w nv R htl kwInt h)
 obtain⟨q,hq⟩ : ∃q,isX ts R kwInt=q:=⟨_,rfl⟩
 rw[hq] at k
 go_enter Tryz.func52,Tryz.ntmps52
 go_wp2_with fail
 refine k.out.mono ?_
 rintro e1 w1 ⟨rfl,hr1,hb1⟩
 have hb1:=bH hb1
 clear k
 cases q
 ·rw[take_no hq] at hr1
  have hr1:=bH hr1
  have k:=bH (rwant_any B G tv ts en w1 nv R htl kwBool hr1)
  obtain⟨hn1,hn2⟩:=rbase_no (en:=en) hq
  rw[hn1] at k
  have hn2:=bH hn2
  clear hn1 hq
  go_wp2_with fail
  refine k.out.mono ?_
  rintro e2 w2 ⟨rfl,hr2,hb2⟩
  have hfin:Hid (RkI B G tv ts en w nv (R >>= baseP ts en) (.returned (.int .i64 1)) w2):=bH ⟨1,rfl,⟨hr2,hb1.out.trans hb2 fun _ _ hs=>hs⟩,fun y st' hc=>(hn2.out y st' hc).symm⟩
  clear k hr2 hb2
  go_wp2_with fail
  go_ret
  exact hfin.out
 ·obtain⟨s,hs1,hs2⟩:=base1 (en:=en) hq
  rw[hs1] at hr1
  have hs2:=bH hs2
  have hr1:=bH hr1
  clear hs1 hq
  go_wp2_with fail
  go_ret
  exact⟨0,rfl,⟨by rw[hs2.out];exact hr1.out,hb1.out⟩,fun y st' hc=>by rw[hs2.out] at hc;injection hc with hc;injection hc⟩
open Go.RowKit
theorem PkW.setN {B G:Nat} {tv:Value} {ts:List Tk} {en:Int} {w w2:World} {nv nv':Value} {st:PS} {er:PE} {ns':List Nd} (h:PkW B G tv ts en w nv st er) (hb:Bar (fun k=>nv.ownBlock=some k) w w2) (ho:OwnN B w2 nv' ns') (hh:PHop nv nv' w) (hl:ns'.length≤512) :
  PkW B G tv ts en (w2.setCell ⟨G,3,none⟩ nv') nv' ⟨st.i,ns'⟩ er∧Stp G w nv (w2.setCell ⟨G,3,none⟩ nv') nv':=by
 have ne : ∀a b:Nat,a≠b→(⟨G,a,none⟩:Addr)≠⟨G,b,none⟩:=fun a b hab e=>by injection e with _ e2 _;exact hab e2
 have hB:=fun k hk=>(own_lt h.own k hk).1
 have hGn : ¬ nv.ownBlock=some G:=fun e=>by have:=hB G e;have:=h.gB;omega
 have hb2:Bar (fun k=>k=G) w2 (w2.setCell ⟨G,3,none⟩ nv'):=Bar.set (S:=fun k=>k=G) ⟨G,3,none⟩ _ rfl
 have hsz:=hb.size
 refine⟨⟨setO (hb.cell h.t hGn) (ne _ _ (by decide)),setO (hb.cell h.e hGn) (ne _ _ (by decide)),setO (hb.cell h.i hGn) (ne _ _ (by decide)),setS (hb.cell h.n hGn),setO (hb.cell h.c hGn) (ne _ _ (by decide)),setO (hb.cell h.p hGn) (ne _ _ (by decide)),h.gB,by have:=h.bl;simp;omega,fun o=> ?_,(h.tk.bar hb (fun k hk _ e=>by have:=hB k e;omega)).bar hb2 (fun k _ hk=>hk),Bar.own hb2 ho (fun k hk e=>by have:=(own_lt ho k hk).1;have:=h.gB;omega),h.il,hl⟩, ?_, ?_⟩
 ·simp only[World.frozen?_setCell]
  rw[hb.frozen (a:=⟨G,o,none⟩) (by have:=h.gB;have:=h.bl;show G<_;omega) hGn];exact h.fg o
 ·exact(Bar.trans (S:=PFr G nv) ((Bar.refl _ _).trans hb fun _ _ hs=> .inr hs) hb2 fun _ _ hs=> .inl hs)
 ·exact hh
def RkN (B G:Nat) (tv:Value) (ts:List Tk) (en:Int) (w:World) (nv:Value) (R:Except PE (Nat × PS)) (e:Ending) (w':World):Prop:= ∃v nv',e= .returned (.int .i64 v)∧PkX B G tv ts en w' nv' (stX R)∧Stp G w nv w' nv'∧ ∀x st',R= .ok (x,st')→v=x
theorem rput_err (B G:Nat) (tv:Value) (ts:List Tk) (en:Int) (w:World) (nv:Value) (x:PE) (t:Nd) (h:Hid (PkX B G tv ts en w nv (.error x))) :
  Calls Tryz.prog 70 #[.pointer (some ⟨G,0,none⟩), .agg #[.int .i64 t.k, .int .i64 t.a, .int .i64 t.b, .int .i64 t.c, .int .i64 t.n, .string t.nm, .string t.x, .string t.y, .string t.z, .int .i64 t.p]] w (RkN B G tv ts en w nv (.error x)):=by
 have k:=bH (rfail_any B G tv ts en _ nv (.error x) 402 (by decide) (bH (h.out.below (below_alc w (.cells #[.int .i64 t.k, .int .i64 t.a, .int .i64 t.b, .int .i64 t.c, .int .i64 t.n, .string t.nm, .string t.x, .string t.y, .string t.z, .int .i64 t.p] 45)))))
 obtain⟨hx0,st,h1⟩:=h.out
 obtain⟨a,c,e1⟩:=own_sl h1.own
 have hn:=h1.n
 rw[e1] at hn
 have hc:=h1.c
 have hgl:G<w.heap.size:=by have:=h1.gB;have:=h1.bl;omega
 have e0:(x.1==0)=false:=beq_eq_false_iff_ne.2 hx0
 have hx0':=bH hx0
 clear h1 hx0 e1
 go_enter Tryz.func70,Tryz.ntmps70
 by_cases h0:512≤st.ns.length
 ·have h0i:(512:Int)≤(st.ns.length:Int):=by omega
  clear h0
  go_wp2_with fail
  refine k.out.mono ?_
  rintro e' w1 ⟨rfl,h2,hb2⟩
  clear hn hc k
  obtain⟨_,st1,h3⟩:=id h2
  have hc:=h3.c
  have hgl:G<w1.heap.size:=by have:=h3.gB;have:=h3.bl;omega
  have hfin:Hid (RkN B G tv ts en w nv (.error x) (.returned (.int .i64 0)) w1):=bH ⟨_,_,rfl,h2,(Stp.below (below_alc w _)).trans (Stp.of hb2),fun x st' hc=>by cases hc⟩
  clear h3 h2 hb2
  go_wp2_with fail
  go_ret
  exact hfin.out
 ·have h0i : ¬ (512:Int)≤(st.ns.length:Int):=by omega
  clear h0 k
  go_wp2_with fail
  go_ret
  exact⟨_,_,rfl,h.out.below (below_alc w _),Stp.below (below_alc w _),fun x st' hc=>by cases hc⟩
theorem rput_full (B G:Nat) (tv:Value) (ts:List Tk) (en:Int) (w:World) (nv:Value) (st:PS) (t:Nd) (h:Hid (PkX B G tv ts en w nv (.ok st))) (hf:512≤st.ns.length) :
  Calls Tryz.prog 70 #[.pointer (some ⟨G,0,none⟩), .agg #[.int .i64 t.k, .int .i64 t.a, .int .i64 t.b, .int .i64 t.c, .int .i64 t.n, .string t.nm, .string t.x, .string t.y, .string t.z, .int .i64 t.p]] w (RkN B G tv ts en w nv (.error (402,hereP ts en st.i))):=by
 have k:=bH (rfail_any B G tv ts en _ nv (.ok st) 402 (by decide) (bH (h.out.below (below_alc w (.cells #[.int .i64 t.k, .int .i64 t.a, .int .i64 t.b, .int .i64 t.c, .int .i64 t.n, .string t.nm, .string t.x, .string t.y, .string t.z, .int .i64 t.p] 45)))))
 obtain⟨p,h1⟩:=h.out
 obtain⟨a,c,e1⟩:=own_sl h1.own
 have hn:=h1.n
 rw[e1] at hn
 have hgl:G<w.heap.size:=by have:=h1.gB;have:=h1.bl;omega
 have h0i:(512:Int)≤(st.ns.length:Int):=by omega
 clear h1 e1 hf
 go_enter Tryz.func70,Tryz.ntmps70
 go_wp2_with fail
 refine k.out.mono ?_
 rintro e' w1 ⟨rfl,h2,hb2⟩
 clear hn k
 obtain⟨_,st1,h3⟩:=id h2
 have hc:=h3.c
 have hgl:G<w1.heap.size:=by have:=h3.gB;have:=h3.bl;omega
 have hfin:Hid (RkN B G tv ts en w nv (.error (402,hereP ts en st.i)) (.returned (.int .i64 0)) w1):=bH ⟨_,_,rfl,h2,(Stp.below (below_alc w _)).trans (Stp.of hb2),fun x st' hc=>by cases hc⟩
 clear h3 h2 hb2
 try dsimp only at hc
 go_wp2_with fail
 go_ret
 exact hfin.out
theorem rput_ok (B G:Nat) (tv:Value) (ts:List Tk) (en:Int) (w:World) (nv:Value) (st:PS) (p:Int) (t:Nd) (h:Hid (PkW B G tv ts en w nv st (0,p))) (hf:st.ns.length<512) :
  Calls Tryz.prog 70 #[.pointer (some ⟨G,0,none⟩), .agg #[.int .i64 t.k, .int .i64 t.a, .int .i64 t.b, .int .i64 t.c, .int .i64 t.n, .string t.nm, .string t.x, .string t.y, .string t.z, .int .i64 t.p]] w (RkN B G tv ts en w nv (.ok (st.ns.length,⟨st.i,st.ns++[t]⟩))):=by
 obtain⟨a,c,rfl⟩:=own_sl h.out.own
 have hn:=h.out.n
 have hr:=h.out.c
 have hgl:G<w.heap.size:=by have:=h.out.gB;have:=h.out.bl;omega
 have e0 : ¬ (512:Int)≤(st.ns.length:Int):=by omega
 have hf:=bH hf
 go_enter Tryz.func70,Tryz.ntmps70
 go_upto_region 5 with fail
 obtain⟨W0,hW0⟩ : ∃W,w.alloc (.cells #[.int .i64 t.k, .int .i64 t.a, .int .i64 t.b, .int .i64 t.c, .int .i64 t.n, .string t.nm, .string t.x, .string t.y, .string t.z, .int .i64 t.p] 45)=W:=⟨_,rfl⟩
 obtain⟨⟨y0,y1,y2,y3,y4,y5,y6,y7,y8,y9⟩,hb0,hs0⟩:=nd_box w W0 t hW0
 rw[hW0]
 clear hW0 hn hr e0
 have h2:=bH (h.out.below hb0)
 have hb0:=bH hb0
 have hn:=h2.out.n
 have hfr:=h2.out.fg
 have hgW:G<W0.heap.size:=by omega
 have hq:Hid ((st.ns.length+[t].length)≤1000000):=bH (by have:=hf.out;simp;omega)
 have hBW:B≤W0.heap.size:=h2.out.bl
 have hnG : ¬ (Value.slice a st.ns.length c).ownBlock=some G:=fun e=>by have:=(own_lt h.out.own G e).1;have:=h.out.gB;omega
 have hfin:Hid (∀a2 c2 w2,OwnN B w2 (.slice a2 (st.ns.length+1) c2) (st.ns++[t])→Bar (fun k=>(Value.slice a st.ns.length c).ownBlock=some k) W0.drew w2→(∀g,(Value.slice a2 (st.ns.length+1) c2).ownBlock=some g→(Value.slice a st.ns.length c).ownBlock=some g∨W0.drew.heap.size≤g)→ ∀v:Int,v=st.ns.length→RkN B G tv ts en w (.slice a st.ns.length c) (.ok (st.ns.length,⟨st.i,st.ns++[t]⟩)) (.returned (.int .i64 v)) (w2.setCell ⟨G,3,none⟩ (.slice a2 (st.ns.length+1) c2))):=bH fun a2 c2 w2 k1 k2 k3 v hv=>by
  have hd:Below W0.heap.size W0 W0.drew:=(Below.refl _ _).drew
  obtain⟨k4,k5⟩:=PkW.setN (h2.out.below hd) k2 k1 k3 (by have:=hf.out;simp;omega)
  exact⟨v,_,rfl,⟨p,k4⟩,((Stp.below hb0.out).next hd).trans k5,fun x st' e=>by injection e with e;injection e with e _;rw[hv,e]⟩
 have hnl:(st.ns.length:Int)≤512:=by have:=hf.out;omega
 have hnl0:(0:Int)≤(st.ns.length:Int):=by omega
 go_region_law ((refine step_ndr rfl (.tmp 22) (.tmp 24) W0.drew B (show B≤W0.drew.heap.size from hBW) (.slice a st.ns.length c) st.ns [t] _ rfl rfl 1 rfl rfl rfl (show OwnN B W0.drew (.slice a st.ns.length c) st.ns from h2.out.own) hq.out ?_;intro v' w2 hown2 hb2 hop2;obtain⟨a2,c2,rfl⟩:=own_sl hown2;have hc2:w2.cell? ⟨G,3,none⟩=some (.slice a st.ns.length c):=hb2.cell hn hnG;rw[List.length_append,List.length_singleton] at hown2 hop2;have hown2:=bH hown2;have hb2':=bH hb2;have hop2:=bH hop2;have hgw2:G<w2.heap.size:=Nat.lt_of_lt_of_le hgW hb2.size;have hf2:w2.frozen? ⟨G,3,none⟩=false:=(hb2.frozen (a:=⟨G,3,none⟩) hgW hnG).trans (hfr 3)))
 all_goals
  clear hb2 hn hfr hgW y0 y1 y2 y3 y4 y5 y6 y7 y8 y9
  go_wp2_with fail
  go_ret
  exact hfin.out _ _ _ hown2.out hb2'.out hop2.out _ (by omega)
theorem rput_any (B G:Nat) (tv:Value) (ts:List Tk) (en:Int) (w:World) (nv:Value) (R:Except PE PS) (t:Nd) (h:Hid (PkX B G tv ts en w nv R)) :
  Calls Tryz.prog 70 #[.pointer (some ⟨G,0,none⟩), .agg #[.int .i64 t.k, .int .i64 t.a, .int .i64 t.b, .int .i64 t.c, .int .i64 t.n, .string t.nm, .string t.x, .string t.y, .string t.z, .int .i64 t.p]] w (RkN B G tv ts en w nv (R >>= putP ts en t)):=by
 cases R with
 | error e=>exact rput_err B G tv ts en w nv e t h
 | ok st=>
  show Calls _ _ _ _ (RkN B G tv ts en w nv (putP ts en t st))
  unfold putP
  by_cases hf:512≤st.ns.length
  ·rw[if_pos hf]
   exact rput_full B G tv ts en w nv st t h hf
  ·rw[if_neg hf]
   obtain⟨p,h1⟩:=h.out
   exact rput_ok B G tv ts en w nv st p t (bH h1) (by omega)
end Go.Proofs.YthpcbgljbpmafaaGreatDoor
