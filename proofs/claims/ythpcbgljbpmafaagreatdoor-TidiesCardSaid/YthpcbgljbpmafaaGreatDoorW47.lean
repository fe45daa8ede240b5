/- The reference's parser: signs of prims; what a loop over operands keeps. Written by gen_rk7.py. -/
import Derived.Test.YthpcbgljbpmafaaGreatDoorW46
import Derived.Deep.LoopGhost
set_option maxRecDepth 100000
set_option maxHeartbeats 8000000
namespace Go.Proofs.YthpcbgljbpmafaaGreatDoor
open Go.RowKit
set_option linter.unusedVariables false
set_option linter.unusedSimpArgs false
structure LkI (B G:Nat) (tv:Value) (ts:List Tk) (en:Int) (w:World) (nv:Value) (T:Except PE (Nat × PS)) (L:Nat→Nat→PS→Except PE (Nat × PS)) (k:Nat) (z:Int) (wr:World) (nvr:Value) (Rr:Except PE (Nat × PS)):Prop where
 x:PkX B G tv ts en wr nvr (stX Rr)
 s:Stp G w nv wr nvr
 v : ∀n st,Rr= .ok (n,st)→z=(n:Nat)∧st.i≤ts.length∧ts.length<k+st.i
 e:(Rr >>= fun p=>L k p.1 p.2)=T
section
variable {B G : Nat} {tv : Value} {ts : List Tk} {en : Int} {w : World} {nv : Value} {T : Except PE (Nat × PS)} {k : Nat} {z : Int} {wr : World} {nvr : Value} {Rr : Except PE (Nat × PS)} {e o : PS → Except PE (Nat × PS)} {beg : Int}
theorem LkI.app_end (h:LkI B G tv ts en w nv T (appLoop ts en e beg) k z wr nvr Rr) (hs:startsX ts (stX Rr)=false):Rr=T:=by
 rw[← h.e]
 rcases Rr with _|⟨n,st⟩
 ·rfl
 have h1:=(h.v n st rfl).2
 have hs:startsP ts st.i=false:=hs
 obtain⟨k,rfl⟩ : ∃j,k=j+1:=⟨k-1,by omega⟩
 show _=appLoop ts en e beg (k+1) n st
 unfold appLoop
 rw[if_neg (by rw[hs];decide)]
theorem LkI.app_ok (h:LkI B G tv ts en w nv T (appLoop ts en e beg) k z wr nvr Rr) (hs:startsX ts (stX Rr)=true) : ∃n st,Rr= .ok (n,st)∧0<k:=by
 rcases Rr with _|⟨n,st⟩
 ·cases hs
 exact⟨n,st,rfl,by have:=(h.v n st rfl).2;omega⟩
theorem LkI.app_next (he:Mono ts e) (h:LkI B G tv ts en w nv T (appLoop ts en e beg) k z wr nvr Rr) (hs:startsX ts (stX Rr)=true) {b z':Int} {w2:World} {nv2:Value} (hb : ∀n st,(stX Rr >>= atomP ts en e)= .ok (n,st)→b=(n:Nat)) (hS:Stp G w nv w2 nv2)
  (hx:PkX B G tv ts en w2 nv2 (stX (stX (stX Rr >>= atomP ts en e) >>= putP ts en ⟨4,z,b,0,0,⟨#[]⟩,⟨#[]⟩,⟨#[]⟩,⟨#[]⟩,beg⟩)))
  (hz : ∀n st,(stX (stX Rr >>= atomP ts en e) >>= putP ts en ⟨4,z,b,0,0,⟨#[]⟩,⟨#[]⟩,⟨#[]⟩,⟨#[]⟩,beg⟩)= .ok (n,st)→z'=(n:Nat)) :
  LkI B G tv ts en w nv T (appLoop ts en e beg) (k-1) z' w2 nv2 (stX (stX Rr >>= atomP ts en e) >>= putP ts en ⟨4,z,b,0,0,⟨#[]⟩,⟨#[]⟩,⟨#[]⟩,⟨#[]⟩,beg⟩):=by
 obtain⟨n,st,rfl,hk⟩:=h.app_ok hs
 obtain⟨k,rfl⟩ : ∃j,k=j+1:=⟨k-1,by omega⟩
 have hs:startsP ts st.i=true:=hs
 obtain⟨h1,h2,h3⟩:=h.v n st rfl
 subst h1
 refine⟨hx,hS, ?_, ?_⟩
 ·intro n' st' hr
  refine⟨hz _ _ hr, ?_⟩
  obtain⟨s1,h4,h5⟩:=ex_ok.1 hr
  have h4:stX (atomP ts en e st)= .ok s1:=h4
  rcases ha:atomP ts en e st with _|⟨m,s2⟩
  ·rw[ha] at h4;cases h4
  rw[ha] at h4
  injection h4 with h4
  subst h4
  obtain⟨rfl,_,_⟩:=putP_ok h5
  have hf:=atomP_fwd he _ _ _ ha
  have:=hf.lt;have:=hf.le
  exact⟨hf.le,by dsimp only;omega⟩
 ·rw[← h.e]
  show _=appLoop ts en e beg (k+1) n st
  rw[appLoop,if_pos hs]
  have hb : ∀n' st',atomP ts en e st= .ok (n',st')→b=(n':Nat):=hb
  show ((stX (atomP ts en e st) >>= putP ts en _) >>= _)=_
  rcases ha:atomP ts en e st with _|⟨m,s2⟩
  ·rfl
  obtain rfl:=hb _ _ ha
  rfl
theorem LkI.rk_end {u v:List UInt8} {nu nw:Int} (h:LkI B G tv ts en w nv T (rankLoop ts en u v nu nw o) k z wr nvr Rr) (hu:isX ts (stX Rr) u=false) (hv:isX ts (stX Rr) v=false):Rr=T:=by
 rw[← h.e]
 rcases Rr with _|⟨n,st⟩
 ·rfl
 have h1:=(h.v n st rfl).2
 have hu:isP ts st.i u=false:=hu
 have hv:isP ts st.i v=false:=hv
 obtain⟨k,rfl⟩ : ∃j,k=j+1:=⟨k-1,by omega⟩
 show _=rankLoop ts en u v nu nw o (k+1) n st
 unfold rankLoop
 rw[if_neg (by rw[hu];decide),if_neg (by rw[hv];decide)]
theorem LkI.rk_ok {u:List UInt8} {L:Nat→Nat→PS→Except PE (Nat × PS)} (h:LkI B G tv ts en w nv T L k z wr nvr Rr) (hu:isX ts (stX Rr) u=true) : ∃n st,Rr= .ok (n,st)∧0<k:=by
 rcases Rr with _|⟨n,st⟩
 ·cases hu
 exact⟨n,st,rfl,by have:=(h.v n st rfl).2;omega⟩
theorem LkI.rk_u {u v:List UInt8} {nu nw:Int} (ho:Mono ts o) (h:LkI B G tv ts en w nv T (rankLoop ts en u v nu nw o) k z wr nvr Rr) (hu:isX ts (stX Rr) u=true) {z':Int} {w2:World} {nv2:Value} (hS:Stp G w nv w2 nv2)
  (hx:PkX B G tv ts en w2 nv2 (stX (takeX ts (stX Rr) u >>= primV ts en nu (peekX ts en (stX Rr)).at_ z o)))
  (hz : ∀n st,(takeX ts (stX Rr) u >>= primV ts en nu (peekX ts en (stX Rr)).at_ z o)= .ok (n,st)→z'=(n:Nat)) :
  LkI B G tv ts en w nv T (rankLoop ts en u v nu nw o) (k-1) z' w2 nv2 (takeX ts (stX Rr) u >>= primV ts en nu (peekX ts en (stX Rr)).at_ z o):=by
 obtain⟨n,st,rfl,hk⟩:=h.rk_ok hu
 obtain⟨k,rfl⟩ : ∃j,k=j+1:=⟨k-1,by omega⟩
 have hu':isP ts st.i u=true:=hu
 obtain⟨h1,h2,h3⟩:=h.v n st rfl
 subst h1
 have hx0:takeX ts (stX (.ok (n,st):Except PE (Nat × PS))) u= .ok ⟨st.i+1,st.ns⟩:=by
  show (if isP ts st.i u then _ else _)=_
  rw[if_pos hu']
 have hp0:(peekX ts en (stX (.ok (n,st):Except PE (Nat × PS)))).at_=hereP ts en st.i:=peek_here ts en st
 rw[hx0,hp0] at hx hz ⊢
 refine⟨hx,hS, ?_, ?_⟩
 ·intro n' st' hr
  refine⟨hz _ _ hr, ?_⟩
  have hf:=primP_fwd (l:=n) ho hr
  have:=hf.lt;have:=hf.le
  exact⟨hf.le,by dsimp only at *;omega⟩
 ·rw[← h.e]
  show _=rankLoop ts en u v nu nw o (k+1) n st
  rw[rankLoop,if_pos hu']
  rfl
theorem LkI.rk_v {u v:List UInt8} {nu nw:Int} (ho:Mono ts o) (h:LkI B G tv ts en w nv T (rankLoop ts en u v nu nw o) k z wr nvr Rr) (hu:isX ts (stX Rr) u=false) (hv:isX ts (stX Rr) v=true) {z':Int} {w2:World} {nv2:Value} (hS:Stp G w nv w2 nv2)
  (hx:PkX B G tv ts en w2 nv2 (stX (takeX ts (stX Rr) v >>= primV ts en nw (peekX ts en (stX Rr)).at_ z o)))
  (hz : ∀n st,(takeX ts (stX Rr) v >>= primV ts en nw (peekX ts en (stX Rr)).at_ z o)= .ok (n,st)→z'=(n:Nat)) :
  LkI B G tv ts en w nv T (rankLoop ts en u v nu nw o) (k-1) z' w2 nv2 (takeX ts (stX Rr) v >>= primV ts en nw (peekX ts en (stX Rr)).at_ z o):=by
 obtain⟨n,st,rfl,hk⟩:=h.rk_ok hv
 obtain⟨k,rfl⟩ : ∃j,k=j+1:=⟨k-1,by omega⟩
 have hu':isP ts st.i u=false:=hu
 have hv':isP ts st.i v=true:=hv
 obtain⟨h1,h2,h3⟩:=h.v n st rfl
 subst h1
 have hx0:takeX ts (stX (.ok (n,st):Except PE (Nat × PS))) v= .ok ⟨st.i+1,st.ns⟩:=by
  show (if isP ts st.i v then _ else _)=_
  rw[if_pos hv']
 have hp0:(peekX ts en (stX (.ok (n,st):Except PE (Nat × PS)))).at_=hereP ts en st.i:=peek_here ts en st
 rw[hx0,hp0] at hx hz ⊢
 refine⟨hx,hS, ?_, ?_⟩
 ·intro n' st' hr
  refine⟨hz _ _ hr, ?_⟩
  have hf:=primP_fwd (l:=n) ho hr
  have:=hf.lt;have:=hf.le
  exact⟨hf.le,by dsimp only at *;omega⟩
 ·rw[← h.e]
  show _=rankLoop ts en u v nu nw o (k+1) n st
  rw[rankLoop,if_neg (by rw[hu'];decide),if_pos hv']
  rfl
end
theorem PkX.le {B G:Nat} {tv:Value} {ts:List Tk} {en:Int} {w:World} {nv:Value} {R:Except PE (Nat × PS)} (h:PkX B G tv ts en w nv (stX R)) : ∀n st,R= .ok (n,st)→st.i≤ts.length:=by
 rintro n st rfl
 exact(let ⟨_,h⟩:=h;PkW.il h)
theorem app_startK {ts:List Tk} {en:Int} {e:PS→Except PE (Nat × PS)} {R:Except PE PS} {z:Int} (hz : ∀st,R= .ok st→z=hereP ts en st.i):((R >>= firstP ts en e) >>= fun p=>appLoop ts en e z (ts.length+1) p.1 p.2)=(R >>= applyP ts en e):=by
 rcases R with _|st
 ·rfl
 rw[hz st rfl]
 rfl
theorem sign_at {ts:List Tk} {en:Int} {R:Except PE PS} {u:List UInt8} (h:isX ts R u=true) : ∃st,R= .ok st∧st.i<ts.length∧takeX ts R u= .ok ⟨st.i+1,st.ns⟩∧(peekX ts en R).at_=hereP ts en st.i:=by
 obtain⟨st,hR,hi,hx⟩:=isX_ok h
 subst hR
 exact⟨st,rfl,hi,hx,peek_here ts en st⟩
theorem rindex_0 (w:World):Calls Tryz.prog 105 #[.string ⟨#[43,45,42,47,61,60]⟩, .int .u8 43] w fun e w'=>e= .returned (.int .i64 0)∧w=w':=by
 go_enter Tryz.func105,Tryz.ntmps105
 go_wp2
 refine wp_loop_rounds 1 ?_
 rw[rounds_succ]
 go_wp2
 go_ret
 exact⟨rfl,rfl⟩
theorem rindex_1 (w:World):Calls Tryz.prog 105 #[.string ⟨#[43,45,42,47,61,60]⟩, .int .u8 45] w fun e w'=>e= .returned (.int .i64 1)∧w=w':=by
 go_enter Tryz.func105,Tryz.ntmps105
 go_wp2
 refine wp_loop_rounds 2 ?_
 rw[rounds_succ]
 go_wp2
 rw[rounds_succ]
 go_wp2
 go_ret
 exact⟨rfl,rfl⟩
theorem rindex_2 (w:World):Calls Tryz.prog 105 #[.string ⟨#[43,45,42,47,61,60]⟩, .int .u8 42] w fun e w'=>e= .returned (.int .i64 2)∧w=w':=by
 go_enter Tryz.func105,Tryz.ntmps105
 go_wp2
 refine wp_loop_rounds 3 ?_
 rw[rounds_succ]
 go_wp2
 rw[rounds_succ]
 go_wp2
 rw[rounds_succ]
 go_wp2
 go_ret
 exact⟨rfl,rfl⟩
theorem rindex_3 (w:World):Calls Tryz.prog 105 #[.string ⟨#[43,45,42,47,61,60]⟩, .int .u8 47] w fun e w'=>e= .returned (.int .i64 3)∧w=w':=by
 go_enter Tryz.func105,Tryz.ntmps105
 go_wp2
 refine wp_loop_rounds 4 ?_
 rw[rounds_succ]
 go_wp2
 rw[rounds_succ]
 go_wp2
 rw[rounds_succ]
 go_wp2
 rw[rounds_succ]
 go_wp2
 go_ret
 exact⟨rfl,rfl⟩
theorem rindex_4 (w:World):Calls Tryz.prog 105 #[.string ⟨#[43,45,42,47,61,60]⟩, .int .u8 61] w fun e w'=>e= .returned (.int .i64 4)∧w=w':=by
 go_enter Tryz.func105,Tryz.ntmps105
 go_wp2
 refine wp_loop_rounds 5 ?_
 rw[rounds_succ]
 go_wp2
 rw[rounds_succ]
 go_wp2
 rw[rounds_succ]
 go_wp2
 rw[rounds_succ]
 go_wp2
 rw[rounds_succ]
 go_wp2
 go_ret
 exact⟨rfl,rfl⟩
theorem rindex_5 (w:World):Calls Tryz.prog 105 #[.string ⟨#[43,45,42,47,61,60]⟩, .int .u8 60] w fun e w'=>e= .returned (.int .i64 5)∧w=w':=by
 go_enter Tryz.func105,Tryz.ntmps105
 go_wp2
 refine wp_loop_rounds 6 ?_
 rw[rounds_succ]
 go_wp2
 rw[rounds_succ]
 go_wp2
 rw[rounds_succ]
 go_wp2
 rw[rounds_succ]
 go_wp2
 rw[rounds_succ]
 go_wp2
 rw[rounds_succ]
 go_wp2
 go_ret
 exact⟨rfl,rfl⟩
theorem ext_cmp0:((⟨#[61,60]⟩:ByteArray).extract 0 1)=⟨#[61]⟩:=by decide
theorem ext_cmp1:((⟨#[61,60]⟩:ByteArray).extract 1 2)=⟨#[60]⟩:=by decide
theorem rprim_cmp (B G:Nat) (tv:Value) (ts:List Tk) (en:Int) (w:World) (nv:Value) (R:Except PE PS) (h:Hid (PkX B G tv ts en w nv R)) :
  Calls Tryz.prog 95 #[.pointer (some ⟨G,0,none⟩), .string ⟨#[61,60]⟩] w fun e w'=>e= .returned (.int .i64 (if isX ts R sgEq2 then 4 else if isX ts R sgLess then 5 else -1))∧Below w.heap.size w w':=by
 have k1:=bH (ris_any B G tv ts en w nv R sgEq2 h)
 have k2:=bH fun (W:World) (hb:Below w.heap.size w W)=>ris_any B G tv ts en W nv R sgLess (bH (h.out.below hb))
 generalize isX ts R sgEq2=q1 at k1 ⊢
 generalize isX ts R sgLess=q2 at k2 ⊢
 have x0:=ext_cmp0
 have x1:=ext_cmp1
 go_enter Tryz.func95,Tryz.ntmps95
 go_wp2_with fail
 refine wp_loop_rounds 3 ?_
 rw[rounds_succ]
 go_wp2_with fail
 refine k1.out.mono ?_
 rintro e1 w1 ⟨rfl,hb1⟩
 have hb1:=bH hb1
 clear k1
 cases q1
 ·go_wp2_with fail
  rw[rounds_succ]
  go_wp2_with fail
  refine(k2.out w1 hb1.out).mono ?_
  rintro e2 w2 ⟨rfl,hb2⟩
  have hb2:=bH (belT hb1.out hb2)
  clear k2
  cases q2
  ·go_wp2_with fail
   rw[rounds_succ]
   go_wp2_with fail
   go_ret
   exact⟨rfl,hb2.out⟩
  ·go_wp2_with fail
   refine(rindex_5 w2).mono ?_
   rintro e3 w3 ⟨rfl,rfl⟩
   go_wp2_with fail
   go_ret
   exact⟨rfl,hb2.out⟩
 ·go_wp2_with fail
  refine(rindex_4 w1).mono ?_
  rintro e3 w3 ⟨rfl,rfl⟩
  go_wp2_with fail
  go_ret
  exact⟨rfl,hb1.out⟩
theorem ext_sum0:((⟨#[43,45]⟩:ByteArray).extract 0 1)=⟨#[43]⟩:=by decide
theorem ext_sum1:((⟨#[43,45]⟩:ByteArray).extract 1 2)=⟨#[45]⟩:=by decide
theorem rprim_sum (B G:Nat) (tv:Value) (ts:List Tk) (en:Int) (w:World) (nv:Value) (R:Except PE PS) (h:Hid (PkX B G tv ts en w nv R)) :
  Calls Tryz.prog 95 #[.pointer (some ⟨G,0,none⟩), .string ⟨#[43,45]⟩] w fun e w'=>e= .returned (.int .i64 (if isX ts R sgAdd then 0 else if isX ts R sgSub then 1 else -1))∧Below w.heap.size w w':=by
 have k1:=bH (ris_any B G tv ts en w nv R sgAdd h)
 have k2:=bH fun (W:World) (hb:Below w.heap.size w W)=>ris_any B G tv ts en W nv R sgSub (bH (h.out.below hb))
 generalize isX ts R sgAdd=q1 at k1 ⊢
 generalize isX ts R sgSub=q2 at k2 ⊢
 have x0:=ext_sum0
 have x1:=ext_sum1
 go_enter Tryz.func95,Tryz.ntmps95
 go_wp2_with fail
 refine wp_loop_rounds 3 ?_
 rw[rounds_succ]
 go_wp2_with fail
 refine k1.out.mono ?_
 rintro e1 w1 ⟨rfl,hb1⟩
 have hb1:=bH hb1
 clear k1
 cases q1
 ·go_wp2_with fail
  rw[rounds_succ]
  go_wp2_with fail
  refine(k2.out w1 hb1.out).mono ?_
  rintro e2 w2 ⟨rfl,hb2⟩
  have hb2:=bH (belT hb1.out hb2)
  clear k2
  cases q2
  ·go_wp2_with fail
   rw[rounds_succ]
   go_wp2_with fail
   go_ret
   exact⟨rfl,hb2.out⟩
  ·go_wp2_with fail
   refine(rindex_1 w2).mono ?_
   rintro e3 w3 ⟨rfl,rfl⟩
   go_wp2_with fail
   go_ret
   exact⟨rfl,hb2.out⟩
 ·go_wp2_with fail
  refine(rindex_0 w1).mono ?_
  rintro e3 w3 ⟨rfl,rfl⟩
  go_wp2_with fail
  go_ret
  exact⟨rfl,hb1.out⟩
theorem ext_mul0:((⟨#[42,47]⟩:ByteArray).extract 0 1)=⟨#[42]⟩:=by decide
theorem ext_mul1:((⟨#[42,47]⟩:ByteArray).extract 1 2)=⟨#[47]⟩:=by decide
theorem rprim_mul (B G:Nat) (tv:Value) (ts:List Tk) (en:Int) (w:World) (nv:Value) (R:Except PE PS) (h:Hid (PkX B G tv ts en w nv R)) :
  Calls Tryz.prog 95 #[.pointer (some ⟨G,0,none⟩), .string ⟨#[42,47]⟩] w fun e w'=>e= .returned (.int .i64 (if isX ts R sgMul then 2 else if isX ts R sgDiv then 3 else -1))∧Below w.heap.size w w':=by
 have k1:=bH (ris_any B G tv ts en w nv R sgMul h)
 have k2:=bH fun (W:World) (hb:Below w.heap.size w W)=>ris_any B G tv ts en W nv R sgDiv (bH (h.out.below hb))
 generalize isX ts R sgMul=q1 at k1 ⊢
 generalize isX ts R sgDiv=q2 at k2 ⊢
 have x0:=ext_mul0
 have x1:=ext_mul1
 go_enter Tryz.func95,Tryz.ntmps95
 go_wp2_with fail
 refine wp_loop_rounds 3 ?_
 rw[rounds_succ]
 go_wp2_with fail
 refine k1.out.mono ?_
 rintro e1 w1 ⟨rfl,hb1⟩
 have hb1:=bH hb1
 clear k1
 cases q1
 ·go_wp2_with fail
  rw[rounds_succ]
  go_wp2_with fail
  refine(k2.out w1 hb1.out).mono ?_
  rintro e2 w2 ⟨rfl,hb2⟩
  have hb2:=bH (belT hb1.out hb2)
  clear k2
  cases q2
  ·go_wp2_with fail
   rw[rounds_succ]
   go_wp2_with fail
   go_ret
   exact⟨rfl,hb2.out⟩
  ·go_wp2_with fail
   refine(rindex_3 w2).mono ?_
   rintro e3 w3 ⟨rfl,rfl⟩
   go_wp2_with fail
   go_ret
   exact⟨rfl,hb2.out⟩
 ·go_wp2_with fail
  refine(rindex_2 w1).mono ?_
  rintro e3 w3 ⟨rfl,rfl⟩
  go_wp2_with fail
  go_ret
  exact⟨rfl,hb1.out⟩
theorem rbinary_0 (B G:Nat) (tv:Value) (ts:List Tk) (en:Int) (dd:Int) (htl:ts.length≤1000000) (o:PS→Except PE (Nat × PS)) (kO:Hid (ExK B G tv ts en 94 dd o)) (k a:Int) (w:World) (nv:Value) (st:PS) (hlt:st.i<ts.length) (h:Hid (PkX B G tv ts en w nv (.ok st))) :
  Calls Tryz.prog 96 #[.pointer (some ⟨G,0,none⟩), .int .i64 k, .int .i64 a, .int .i64 dd, .int .i64 0] w (RkN B G tv ts en w nv (Except.ok ⟨st.i+1,st.ns⟩ >>= primV ts en k (hereP ts en st.i) a o)):=by
 obtain⟨p,h1⟩:=h.out
 have k0:=bH (rhere_st B G tv ts en w nv st _ (bH h1))
 have h1:=bH h1
 have hlt:=bH hlt
 generalize hereP ts en st.i=z at k0 ⊢
 go_enter Tryz.func96,Tryz.ntmps96
 go_wp2_with fail
 refine k0.out.mono ?_
 rintro e1 w1 ⟨rfl,hb1⟩
 have h2:=bH (h1.out.below hb1)
 have h4:=bH (h2.out.setI (st.i+1) hlt.out)
 have h3:=h2.out.i
 have hf:=h2.out.fg
 have hgl:G<w1.heap.size:=by have:=h2.out.gB;have:=h2.out.bl;omega
 have hr1:(st.i:Int)≤1000000:=by have:=h2.out.il;omega
 have hr0:(0:Int)≤(st.i:Int):=by omega
 have hS:=bH ((show Stp G w nv w1 nv from Stp.below hb1).trans (Stp.of (nv:=nv) h4.out.2))
 have kO':=bH (kO.out _ nv (.ok ⟨st.i+1,st.ns⟩) ⟨p,h4.out.1⟩)
 push_cast at kO' hS
 clear hb1 k0
 go_wp2_with fail
 refine kO'.out.mono ?_
 rintro e2 w2 ⟨b,nv2,rfl,hp2,hs2,hv2⟩
 have he:=bH (prim_eq (ts:=ts) (en:=en) (num:=k) (at_:=z) (l:=a) hv2)
 have k4:=bH (rput_any B G tv ts en _ nv2 _ ⟨8,a,b,0,k,⟨#[]⟩,⟨#[]⟩,⟨#[]⟩,⟨#[]⟩,z⟩ (bH hp2))
 have hS2:=bH (hS.out.trans hs2)
 clear hp2 hs2 hv2 h3 hf hgl kO' hS
 go_wp2_with fail
 refine k4.out.mono ?_
 rintro e4 w4 ⟨v,nv4,rfl,hp4,hs4,hv4⟩
 have hfin:Hid (RkN B G tv ts en w nv (Except.ok ⟨st.i+1,st.ns⟩ >>= primV ts en k z a o) (.returned (.int .i64 v)) w4):=bH (by rw[← he.out];exact⟨v,nv4,rfl,hp4,hS2.out.trans hs4,hv4⟩)
 clear k4 hp4 hs4 hv4 he
 go_wp2_with fail
 go_ret
 exact hfin.out
theorem rbinary_1 (B G:Nat) (tv:Value) (ts:List Tk) (en:Int) (dd:Int) (htl:ts.length≤1000000) (o:PS→Except PE (Nat × PS)) (kO:Hid (ExK B G tv ts en 104 dd o)) (k a:Int) (w:World) (nv:Value) (st:PS) (hlt:st.i<ts.length) (h:Hid (PkX B G tv ts en w nv (.ok st))) :
  Calls Tryz.prog 96 #[.pointer (some ⟨G,0,none⟩), .int .i64 k, .int .i64 a, .int .i64 dd, .int .i64 1] w (RkN B G tv ts en w nv (Except.ok ⟨st.i+1,st.ns⟩ >>= primV ts en k (hereP ts en st.i) a o)):=by
 obtain⟨p,h1⟩:=h.out
 have k0:=bH (rhere_st B G tv ts en w nv st _ (bH h1))
 have h1:=bH h1
 have hlt:=bH hlt
 generalize hereP ts en st.i=z at k0 ⊢
 go_enter Tryz.func96,Tryz.ntmps96
 go_wp2_with fail
 refine k0.out.mono ?_
 rintro e1 w1 ⟨rfl,hb1⟩
 have h2:=bH (h1.out.below hb1)
 have h4:=bH (h2.out.setI (st.i+1) hlt.out)
 have h3:=h2.out.i
 have hf:=h2.out.fg
 have hgl:G<w1.heap.size:=by have:=h2.out.gB;have:=h2.out.bl;omega
 have hr1:(st.i:Int)≤1000000:=by have:=h2.out.il;omega
 have hr0:(0:Int)≤(st.i:Int):=by omega
 have hS:=bH ((show Stp G w nv w1 nv from Stp.below hb1).trans (Stp.of (nv:=nv) h4.out.2))
 have kO':=bH (kO.out _ nv (.ok ⟨st.i+1,st.ns⟩) ⟨p,h4.out.1⟩)
 push_cast at kO' hS
 clear hb1 k0
 go_wp2_with fail
 refine kO'.out.mono ?_
 rintro e2 w2 ⟨b,nv2,rfl,hp2,hs2,hv2⟩
 have he:=bH (prim_eq (ts:=ts) (en:=en) (num:=k) (at_:=z) (l:=a) hv2)
 have k4:=bH (rput_any B G tv ts en _ nv2 _ ⟨8,a,b,0,k,⟨#[]⟩,⟨#[]⟩,⟨#[]⟩,⟨#[]⟩,z⟩ (bH hp2))
 have hS2:=bH (hS.out.trans hs2)
 clear hp2 hs2 hv2 h3 hf hgl kO' hS
 go_wp2_with fail
 refine k4.out.mono ?_
 rintro e4 w4 ⟨v,nv4,rfl,hp4,hs4,hv4⟩
 have hfin:Hid (RkN B G tv ts en w nv (Except.ok ⟨st.i+1,st.ns⟩ >>= primV ts en k z a o) (.returned (.int .i64 v)) w4):=bH (by rw[← he.out];exact⟨v,nv4,rfl,hp4,hS2.out.trans hs4,hv4⟩)
 clear k4 hp4 hs4 hv4 he
 go_wp2_with fail
 go_ret
 exact hfin.out
theorem rbinary_2 (B G:Nat) (tv:Value) (ts:List Tk) (en:Int) (dd:Int) (htl:ts.length≤1000000) (o:PS→Except PE (Nat × PS)) (kO:Hid (ExK B G tv ts en 106 dd o)) (k a:Int) (w:World) (nv:Value) (st:PS) (hlt:st.i<ts.length) (h:Hid (PkX B G tv ts en w nv (.ok st))) :
  Calls Tryz.prog 96 #[.pointer (some ⟨G,0,none⟩), .int .i64 k, .int .i64 a, .int .i64 dd, .int .i64 2] w (RkN B G tv ts en w nv (Except.ok ⟨st.i+1,st.ns⟩ >>= primV ts en k (hereP ts en st.i) a o)):=by
 obtain⟨p,h1⟩:=h.out
 have k0:=bH (rhere_st B G tv ts en w nv st _ (bH h1))
 have h1:=bH h1
 have hlt:=bH hlt
 generalize hereP ts en st.i=z at k0 ⊢
 go_enter Tryz.func96,Tryz.ntmps96
 go_wp2_with fail
 refine k0.out.mono ?_
 rintro e1 w1 ⟨rfl,hb1⟩
 have h2:=bH (h1.out.below hb1)
 have h4:=bH (h2.out.setI (st.i+1) hlt.out)
 have h3:=h2.out.i
 have hf:=h2.out.fg
 have hgl:G<w1.heap.size:=by have:=h2.out.gB;have:=h2.out.bl;omega
 have hr1:(st.i:Int)≤1000000:=by have:=h2.out.il;omega
 have hr0:(0:Int)≤(st.i:Int):=by omega
 have hS:=bH ((show Stp G w nv w1 nv from Stp.below hb1).trans (Stp.of (nv:=nv) h4.out.2))
 have kO':=bH (kO.out _ nv (.ok ⟨st.i+1,st.ns⟩) ⟨p,h4.out.1⟩)
 push_cast at kO' hS
 clear hb1 k0
 go_wp2_with fail
 refine kO'.out.mono ?_
 rintro e2 w2 ⟨b,nv2,rfl,hp2,hs2,hv2⟩
 have he:=bH (prim_eq (ts:=ts) (en:=en) (num:=k) (at_:=z) (l:=a) hv2)
 have k4:=bH (rput_any B G tv ts en _ nv2 _ ⟨8,a,b,0,k,⟨#[]⟩,⟨#[]⟩,⟨#[]⟩,⟨#[]⟩,z⟩ (bH hp2))
 have hS2:=bH (hS.out.trans hs2)
 clear hp2 hs2 hv2 h3 hf hgl kO' hS
 go_wp2_with fail
 refine k4.out.mono ?_
 rintro e4 w4 ⟨v,nv4,rfl,hp4,hs4,hv4⟩
 have hfin:Hid (RkN B G tv ts en w nv (Except.ok ⟨st.i+1,st.ns⟩ >>= primV ts en k z a o) (.returned (.int .i64 v)) w4):=bH (by rw[← he.out];exact⟨v,nv4,rfl,hp4,hS2.out.trans hs4,hv4⟩)
 clear k4 hp4 hs4 hv4 he
 go_wp2_with fail
 go_ret
 exact hfin.out
theorem rapply_false (B G:Nat) (tv:Value) (ts:List Tk) (en:Int) (dd:Int) (hd0:0≤dd) (hd:dd≤40) (htl:ts.length≤1000000) (e:PS→Except PE (Nat × PS)) (he:Mono ts e) (kA:Hid (ExK B G tv ts en 109 dd (atomP ts en e))) (w:World) (nv:Value) (R:Except PE PS) (hq0:Hid (isX ts R kwDo=false)) (h:Hid (PkX B G tv ts en w nv R)) :
  Calls Tryz.prog 106 #[.pointer (some ⟨G,0,none⟩), .int .i64 dd] w (RkN B G tv ts en w nv (R >>= applyP ts en e)):=by
 have k:=bH (rhere_any B G tv ts en w nv R h)
 have he:=bH he
 go_enter Tryz.func106,Tryz.ntmps106
 go_wp2_with fail
 refine k.out.mono ?_
 rintro e0 v0 ⟨z,rfl,hb0,hz0⟩
 have hz:=bH hz0
 have hb0':=bH hb0
 have k1:=bH (rtake_any B G tv ts en v0 nv R htl kwDo (bH (h.out.below hb0)))
 rw[hq0.out] at k1
 clear k hb0 hz0
 go_wp2_with fail
 refine k1.out.mono ?_
 rintro e1 v1w ⟨rfl,hr,hb⟩
 have hT:=bH ((show Stp G w nv v0 nv from Stp.below hb0'.out).trans (Stp.of (nv:=nv) hb))
 clear hb k1 hb0'
 have hf:=bH (first_no (en:=en) (e:=e) hq0.out)
 rw[take_no hq0.out] at hr
 have hr:=bH hr
 go_wp2_with fail
 refine(kA.out _ nv _ hr.out).mono ?_
 rintro e4 w4 ⟨v1,nv1,rfl,hp4,hs4,hv4⟩
 have hI0:Hid (LkI B G tv ts en w nv (R >>= applyP ts en e) (appLoop ts en e z) (ts.length+1) v1 w4 nv1 (R >>= firstP ts en e)):=bH ⟨by rw[hf.out];exact hp4,hT.out.trans hs4,fun n st hr=>⟨hv4 n st (by rw[← hf.out];exact hr),by rw[hf.out] at hr;exact hp4.le n st hr,by omega⟩,app_startK hz.out⟩
 clear hp4 hs4 hv4 hf hT hr
 go_wp2_with fail
 go_loopg [6,8] (ts.length+1) (fun k lv rv wr=> ∃(y:Int) (nvr:Value) (Rr:Except PE (Nat × PS)),lv= .int .i64 y∧Hid (LkI B G tv ts en w nv (R >>= applyP ts en e) (appLoop ts en e z) k y wr nvr Rr))
 case atStart=>exact⟨v1,nv1,_,rfl,hI0⟩
 case round=>
  obtain⟨y,nvr,Rr,rfl,hI⟩:=hrel
  clear hI0
  have k2:=bH (rstarts_any B G tv ts en wr nvr _ (bH hI.out.x))
  obtain⟨q,hq⟩ : ∃q,startsX ts (stX Rr)=q:=⟨_,rfl⟩
  rw[hq] at k2
  have hq:=bH hq
  go_wp2_with fail
  refine k2.out.mono ?_
  rintro e2 w2 ⟨rfl,hb2⟩
  have hb2:=bH hb2
  clear k2
  cases q
  ·have hfin:Hid (RkN B G tv ts en w nv (R >>= applyP ts en e) (.returned (.int .i64 y)) w2):=bH (by rw[← hI.out.app_end hq.out];exact⟨y,nvr,rfl,hI.out.x.below hb2.out,hI.out.s.next hb2.out,fun x st' hr=>(hI.out.v x st' hr).1⟩)
   clear hI
   go_wp2_with fail
   go_ret
   exact hfin.out
  ·have hk0:=bH (hI.out.app_ok hq.out)
   have kA2:=bH (kA.out w2 nvr _ (hI.out.x.below hb2.out))
   go_wp2_with fail
   refine kA2.out.mono ?_
   rintro e3 w3 ⟨a3,nv3,rfl,hp3,hs3,hv3⟩
   have k4:=bH (rput_any B G tv ts en _ nv3 _ ⟨4,y,a3,0,0,⟨#[]⟩,⟨#[]⟩,⟨#[]⟩,⟨#[]⟩,z⟩ (bH hp3))
   have hS3:=bH ((hI.out.s.next hb2.out).trans hs3)
   have hv3:=bH hv3
   clear kA2 hp3 hs3
   go_wp2_with fail
   refine k4.out.mono ?_
   rintro e4 w4 ⟨a4,nv4,rfl,hp4,hs4,hv4⟩
   have hI4:=bH (hI.out.app_next he.out hq.out hv3.out (hS3.out.trans hs4) hp4 hv4)
   clear k4 hp4 hs4 hv4 hS3 hv3
   go_wp2_with fail
   go_roundg (gk-1)
   case measure=>obtain⟨_,_,_,hk⟩:=hk0.out;omega
   case rel=>exact⟨a4,nv4,_,rfl,hI4⟩
theorem rapply_true (B G:Nat) (tv:Value) (ts:List Tk) (en:Int) (dd:Int) (hd0:0≤dd) (hd:dd≤40) (htl:ts.length≤1000000) (e:PS→Except PE (Nat × PS)) (he:Mono ts e) (kA:Hid (ExK B G tv ts en 109 dd (atomP ts en e))) (w:World) (nv:Value) (R:Except PE PS) (hq0:Hid (isX ts R kwDo=true)) (h:Hid (PkX B G tv ts en w nv R)) :
  Calls Tryz.prog 106 #[.pointer (some ⟨G,0,none⟩), .int .i64 dd] w (RkN B G tv ts en w nv (R >>= applyP ts en e)):=by
 have k:=bH (rhere_any B G tv ts en w nv R h)
 have he:=bH he
 go_enter Tryz.func106,Tryz.ntmps106
 go_wp2_with fail
 refine k.out.mono ?_
 rintro e0 v0 ⟨z,rfl,hb0,hz0⟩
 have hz:=bH hz0
 have hb0':=bH hb0
 have k1:=bH (rtake_any B G tv ts en v0 nv R htl kwDo (bH (h.out.below hb0)))
 rw[hq0.out] at k1
 clear k hb0 hz0
 go_wp2_with fail
 refine k1.out.mono ?_
 rintro e1 v1w ⟨rfl,hr,hb⟩
 have hT:=bH ((show Stp G w nv v0 nv from Stp.below hb0'.out).trans (Stp.of (nv:=nv) hb))
 clear hb k1 hb0'
 have hf:=first_yes (en:=en) (e:=e) hq0.out
 rw[here_at hq0.out hz.out] at hf
 have hf:=bH hf
 generalize takeX ts R kwDo=R' at hr hf
 have hr:=bH hr
 have k2:=bH (rname_any B G tv ts en _ nv _ htl hr)
 go_wp2_with fail
 refine k2.out.mono ?_
 rintro e2 w2 ⟨x1,rfl,⟨hq1,hb1⟩,hv1⟩
 have hv1:=bH hv1
 have hT2:=bH (hT.out.trans (Stp.of (nv:=nv) hb1))
 have hx1:=bH (NdBox.newK hq1 ⟨9,0,0,0,0,x1,⟨#[]⟩,⟨#[]⟩,⟨#[]⟩,z⟩)
 have hp1:=bH (hq1.below (below_alc w2 (.cells #[.int .i64 9, .int .i64 0, .int .i64 0, .int .i64 0, .int .i64 0, .string x1, .string ⟨#[]⟩, .string ⟨#[]⟩, .string ⟨#[]⟩, .int .i64 z] 45)))
 have hS1:=bH (show Stp G w nv (w2.alloc (.cells #[.int .i64 9, .int .i64 0, .int .i64 0, .int .i64 0, .int .i64 0, .string x1, .string ⟨#[]⟩, .string ⟨#[]⟩, .string ⟨#[]⟩, .int .i64 z] 45)) nv from hT2.out.next (below_alc w2 (.cells #[.int .i64 9, .int .i64 0, .int .i64 0, .int .i64 0, .int .i64 0, .string x1, .string ⟨#[]⟩, .string ⟨#[]⟩, .string ⟨#[]⟩, .int .i64 z] 45)))
 have hBw:=bH hq1.lt.2.1
 have hbb:=bH hT2.out.1.size
 clear k2 hq1 hb1 hT hr
 go_wp2_with fail
 refine(kA.out _ nv _ hp1.out).mono ?_
 rintro e3 w3 ⟨a2,nv2,rfl,hq2,hs2,hv2⟩
 have hs2:=bH hs2
 have hv2:=bH hv2
 have hy2:=bH (hx1.out.step hs2.out)
 have hx2:=bH (hy2.out.set1 a2)
 have hp2:=bH (hq2.box hy2.out hBw.out 1 (.int .i64 a2))
 have hS2:=bH ((hS1.out.trans hs2.out).store hbb.out 1 (.int .i64 a2))
 clear hx1 hS1 hp1 hs2 hq2
 have c0:=hy2.out.c0
 have c1:=hy2.out.c1
 have c2:=hy2.out.c2
 have c3:=hy2.out.c3
 have c4:=hy2.out.c4
 have c5:=hy2.out.c5
 have c6:=hy2.out.c6
 have c7:=hy2.out.c7
 have c8:=hy2.out.c8
 have c9:=hy2.out.c9
 have cf:=hy2.out.fz;have cl:=hy2.out.lt
 dsimp only at c0 c1 c2 c3 c4 c5 c6 c7 c8 c9
 have k4:=bH (rput_any B G tv ts en _ nv2 _ ⟨9,a2,0,0,0,x1,⟨#[]⟩,⟨#[]⟩,⟨#[]⟩,z⟩ hp2)
 have heq:=bH (pdo_eq (ts:=ts) (en:=en) (e:=atomP ts en e) (beg:=z) (R:=R') hv1.out hv2.out)
 go_wp2_with fail
 refine k4.out.mono ?_
 rintro e4 w4 ⟨v1,nv1,rfl,hp4,hs4,hv4⟩
 rw[heq.out, ← hf.out] at hp4 hv4
 have hI0:Hid (LkI B G tv ts en w nv (R >>= applyP ts en e) (appLoop ts en e z) (ts.length+1) v1 w4 nv1 (R >>= firstP ts en e)):=bH ⟨hp4,hS2.out.trans hs4,fun n st hr=>⟨hv4 n st hr,hp4.le n st hr,by omega⟩,app_startK hz.out⟩
 clear k4 hp4 hs4 hv4 heq hf c0 c1 c2 c3 c4 c5 c6 c7 c8 c9 cf cl hx2 hp2 hS2 hy2 hv1 hv2 hT2
 go_wp2_with fail
 go_loopg [6,8] (ts.length+1) (fun k lv rv wr=> ∃(y:Int) (nvr:Value) (Rr:Except PE (Nat × PS)),lv= .int .i64 y∧Hid (LkI B G tv ts en w nv (R >>= applyP ts en e) (appLoop ts en e z) k y wr nvr Rr))
 case atStart=>exact⟨v1,nv1,_,rfl,hI0⟩
 case round=>
  obtain⟨y,nvr,Rr,rfl,hI⟩:=hrel
  clear hI0
  have k2:=bH (rstarts_any B G tv ts en wr nvr _ (bH hI.out.x))
  obtain⟨q,hq⟩ : ∃q,startsX ts (stX Rr)=q:=⟨_,rfl⟩
  rw[hq] at k2
  have hq:=bH hq
  go_wp2_with fail
  refine k2.out.mono ?_
  rintro e2 w2 ⟨rfl,hb2⟩
  have hb2:=bH hb2
  clear k2
  cases q
  ·have hfin:Hid (RkN B G tv ts en w nv (R >>= applyP ts en e) (.returned (.int .i64 y)) w2):=bH (by rw[← hI.out.app_end hq.out];exact⟨y,nvr,rfl,hI.out.x.below hb2.out,hI.out.s.next hb2.out,fun x st' hr=>(hI.out.v x st' hr).1⟩)
   clear hI
   go_wp2_with fail
   go_ret
   exact hfin.out
  ·have hk0:=bH (hI.out.app_ok hq.out)
   have kA2:=bH (kA.out w2 nvr _ (hI.out.x.below hb2.out))
   go_wp2_with fail
   refine kA2.out.mono ?_
   rintro e3 w3 ⟨a3,nv3,rfl,hp3,hs3,hv3⟩
   have k4:=bH (rput_any B G tv ts en _ nv3 _ ⟨4,y,a3,0,0,⟨#[]⟩,⟨#[]⟩,⟨#[]⟩,⟨#[]⟩,z⟩ (bH hp3))
   have hS3:=bH ((hI.out.s.next hb2.out).trans hs3)
   have hv3:=bH hv3
   clear kA2 hp3 hs3
   go_wp2_with fail
   refine k4.out.mono ?_
   rintro e4 w4 ⟨a4,nv4,rfl,hp4,hs4,hv4⟩
   have hI4:=bH (hI.out.app_next he.out hq.out hv3.out (hS3.out.trans hs4) hp4 hv4)
   clear k4 hp4 hs4 hv4 hS3 hv3
   go_wp2_with fail
   go_roundg (gk-1)
   case measure=>obtain⟨_,_,_,hk⟩:=hk0.out;omega
   case rel=>exact⟨a4,nv4,_,rfl,hI4⟩
theorem rapply_ex {B G:Nat} {tv:Value} {ts:List Tk} {en:Int} {dd:Int} (hd0:0≤dd) (hd:dd≤40) (htl:ts.length≤1000000) {e:PS→Except PE (Nat × PS)} (he:Mono ts e) (kA:Hid (ExK B G tv ts en 109 dd (atomP ts en e))):ExK B G tv ts en 106 dd (applyP ts en e):=by
 intro w nv R h
 cases hq:isX ts R kwDo
 ·exact rapply_false B G tv ts en dd hd0 hd htl e he kA w nv R (bH hq) (bH h)
 ·exact rapply_true B G tv ts en dd hd0 hd htl e he kA w nv R (bH hq) (bH h)
theorem rproduct_any (B G:Nat) (tv:Value) (ts:List Tk) (en:Int) (dd:Int) (hd0:0≤dd) (hd:dd≤40) (htl:ts.length≤1000000) (e:PS→Except PE (Nat × PS)) (he:Mono ts e) (kA:Hid (ExK B G tv ts en 106 dd (applyP ts en e))) (w:World) (nv:Value) (R:Except PE PS) (h:Hid (PkX B G tv ts en w nv R)) :
  Calls Tryz.prog 104 #[.pointer (some ⟨G,0,none⟩), .int .i64 dd] w (RkN B G tv ts en w nv (R >>= productP ts en e)):=by
 have k1:=bH (kA.out w nv R h.out)
 have hm:=bH (applyP_fwd (en:=en) he)
 go_enter Tryz.func104,Tryz.ntmps104
 go_wp2_with fail
 refine k1.out.mono ?_
 rintro e1 w1 ⟨v1,nv1,rfl,hp1,hs1,hv1⟩
 have hI0:Hid (LkI B G tv ts en w nv (R >>= productP ts en e) (rankLoop ts en sgMul sgDiv 2 3 (applyP ts en e)) (ts.length+1) v1 w1 nv1 (R >>= applyP ts en e)):=bH ⟨hp1,hs1,fun n st hr=>⟨hv1 n st hr,hp1.le n st hr,by omega⟩,rk_start fun st=>rfl⟩
 clear k1 hp1 hs1 hv1
 go_wp2_with fail
 go_loopg [5,6] (ts.length+1) (fun k lv av wr=> ∃(y:Int) (nvr:Value) (Rr:Except PE (Nat × PS)),lv= .int .i64 y∧Hid (LkI B G tv ts en w nv (R >>= productP ts en e) (rankLoop ts en sgMul sgDiv 2 3 (applyP ts en e)) k y wr nvr Rr))
 case atStart=>exact⟨v1,nv1,_,rfl,hI0⟩
 case round=>
  obtain⟨y,nvr,Rr,rfl,hI⟩:=hrel
  clear hI0
  have k2:=bH (rprim_mul B G tv ts en wr nvr _ (bH hI.out.x))
  cases hu:isX ts (stX Rr) sgMul
  ·rw[hu] at k2
   cases hv:isX ts (stX Rr) sgDiv
   ·rw[hv] at k2
    simp only[Bool.false_eq_true,if_false] at k2
    have hu:=bH hu;have hv:=bH hv
    go_wp2_with fail
    refine k2.out.mono ?_
    rintro e2 w2 ⟨rfl,hb2⟩
    have hfin:Hid (RkN B G tv ts en w nv (R >>= productP ts en e) (.returned (.int .i64 y)) w2):=bH (by rw[← hI.out.rk_end hu.out hv.out];exact⟨y,nvr,rfl,hI.out.x.below hb2,hI.out.s.next hb2,fun x st' hr=>(hI.out.v x st' hr).1⟩)
    clear hI k2 hb2
    go_wp2_with fail
    go_ret
    exact hfin.out
   ·rw[hv] at k2
    simp only[Bool.false_eq_true,if_false,if_true] at k2
    have hk0:=bH (hI.out.rk_ok hv)
    obtain⟨st,hR,hlt,htk,hat⟩:=sign_at (en:=en) hv
    have hu:=bH hu;have hv:=bH hv;have htk:=bH htk;have hat:=bH hat;have hR:=bH hR;have hlt:=bH hlt
    go_wp2_with fail
    refine k2.out.mono ?_
    rintro e2 w2 ⟨rfl,hb2⟩
    have hS2:=bH (hI.out.s.next hb2)
    have k5:=bH (rbinary_2 B G tv ts en dd htl _ kA 3 y w2 nvr st hlt.out (bH (by have:=hI.out.x.below hb2;rw[hR.out] at this;exact this)))
    rw[← htk.out, ← hat.out] at k5
    clear k2 hb2
    go_wp2_with fail
    refine k5.out.mono ?_
    rintro e5 w5 ⟨a5,nv5,rfl,hp5,hs5,hv5⟩
    have hI5:=bH (hI.out.rk_v hm.out hu.out hv.out (hS2.out.trans hs5) hp5 hv5)
    clear k5 hp5 hs5 hv5 hS2
    go_wp2_with fail
    go_roundg (gk-1)
    case measure=>obtain⟨_,_,_,hk⟩:=hk0.out;omega
    case rel=>exact⟨a5,nv5,_,rfl,hI5⟩
  ·rw[hu] at k2
   simp only[if_true] at k2
   have hk0:=bH (hI.out.rk_ok hu)
   obtain⟨st,hR,hlt,htk,hat⟩:=sign_at (en:=en) hu
   have hu:=bH hu;have htk:=bH htk;have hat:=bH hat;have hR:=bH hR;have hlt:=bH hlt
   go_wp2_with fail
   refine k2.out.mono ?_
   rintro e2 w2 ⟨rfl,hb2⟩
   have hS2:=bH (hI.out.s.next hb2)
   have k5:=bH (rbinary_2 B G tv ts en dd htl _ kA 2 y w2 nvr st hlt.out (bH (by have:=hI.out.x.below hb2;rw[hR.out] at this;exact this)))
   rw[← htk.out, ← hat.out] at k5
   clear k2 hb2
   go_wp2_with fail
   refine k5.out.mono ?_
   rintro e5 w5 ⟨a5,nv5,rfl,hp5,hs5,hv5⟩
   have hI5:=bH (hI.out.rk_u hm.out hu.out (hS2.out.trans hs5) hp5 hv5)
   clear k5 hp5 hs5 hv5 hS2
   go_wp2_with fail
   go_roundg (gk-1)
   case measure=>obtain⟨_,_,_,hk⟩:=hk0.out;omega
   case rel=>exact⟨a5,nv5,_,rfl,hI5⟩
theorem rproduct_ex {B G:Nat} {tv:Value} {ts:List Tk} {en:Int} {dd:Int} (hd0:0≤dd) (hd:dd≤40) (htl:ts.length≤1000000) {e:PS→Except PE (Nat × PS)} (he:Mono ts e) (kA:Hid (ExK B G tv ts en 106 dd (applyP ts en e))):ExK B G tv ts en 104 dd (productP ts en e):=fun w nv R h=>rproduct_any B G tv ts en dd hd0 hd htl e he kA w nv R (bH h)
theorem rsum_any (B G:Nat) (tv:Value) (ts:List Tk) (en:Int) (dd:Int) (hd0:0≤dd) (hd:dd≤40) (htl:ts.length≤1000000) (e:PS→Except PE (Nat × PS)) (he:Mono ts e) (kA:Hid (ExK B G tv ts en 104 dd (productP ts en e))) (w:World) (nv:Value) (R:Except PE PS) (h:Hid (PkX B G tv ts en w nv R)) :
  Calls Tryz.prog 94 #[.pointer (some ⟨G,0,none⟩), .int .i64 dd] w (RkN B G tv ts en w nv (R >>= sumP ts en e)):=by
 have k1:=bH (kA.out w nv R h.out)
 have hm:=bH (productP_fwd (en:=en) he)
 go_enter Tryz.func94,Tryz.ntmps94
 go_wp2_with fail
 refine k1.out.mono ?_
 rintro e1 w1 ⟨v1,nv1,rfl,hp1,hs1,hv1⟩
 have hI0:Hid (LkI B G tv ts en w nv (R >>= sumP ts en e) (rankLoop ts en sgAdd sgSub 0 1 (productP ts en e)) (ts.length+1) v1 w1 nv1 (R >>= productP ts en e)):=bH ⟨hp1,hs1,fun n st hr=>⟨hv1 n st hr,hp1.le n st hr,by omega⟩,rk_start fun st=>rfl⟩
 clear k1 hp1 hs1 hv1
 go_wp2_with fail
 go_loopg [5,6] (ts.length+1) (fun k lv av wr=> ∃(y:Int) (nvr:Value) (Rr:Except PE (Nat × PS)),lv= .int .i64 y∧Hid (LkI B G tv ts en w nv (R >>= sumP ts en e) (rankLoop ts en sgAdd sgSub 0 1 (productP ts en e)) k y wr nvr Rr))
 case atStart=>exact⟨v1,nv1,_,rfl,hI0⟩
 case round=>
  obtain⟨y,nvr,Rr,rfl,hI⟩:=hrel
  clear hI0
  have k2:=bH (rprim_sum B G tv ts en wr nvr _ (bH hI.out.x))
  cases hu:isX ts (stX Rr) sgAdd
  ·rw[hu] at k2
   cases hv:isX ts (stX Rr) sgSub
   ·rw[hv] at k2
    simp only[Bool.false_eq_true,if_false] at k2
    have hu:=bH hu;have hv:=bH hv
    go_wp2_with fail
    refine k2.out.mono ?_
    rintro e2 w2 ⟨rfl,hb2⟩
    have hfin:Hid (RkN B G tv ts en w nv (R >>= sumP ts en e) (.returned (.int .i64 y)) w2):=bH (by rw[← hI.out.rk_end hu.out hv.out];exact⟨y,nvr,rfl,hI.out.x.below hb2,hI.out.s.next hb2,fun x st' hr=>(hI.out.v x st' hr).1⟩)
    clear hI k2 hb2
    go_wp2_with fail
    go_ret
    exact hfin.out
   ·rw[hv] at k2
    simp only[Bool.false_eq_true,if_false,if_true] at k2
    have hk0:=bH (hI.out.rk_ok hv)
    obtain⟨st,hR,hlt,htk,hat⟩:=sign_at (en:=en) hv
    have hu:=bH hu;have hv:=bH hv;have htk:=bH htk;have hat:=bH hat;have hR:=bH hR;have hlt:=bH hlt
    go_wp2_with fail
    refine k2.out.mono ?_
    rintro e2 w2 ⟨rfl,hb2⟩
    have hS2:=bH (hI.out.s.next hb2)
    have k5:=bH (rbinary_1 B G tv ts en dd htl _ kA 1 y w2 nvr st hlt.out (bH (by have:=hI.out.x.below hb2;rw[hR.out] at this;exact this)))
    rw[← htk.out, ← hat.out] at k5
    clear k2 hb2
    go_wp2_with fail
    refine k5.out.mono ?_
    rintro e5 w5 ⟨a5,nv5,rfl,hp5,hs5,hv5⟩
    have hI5:=bH (hI.out.rk_v hm.out hu.out hv.out (hS2.out.trans hs5) hp5 hv5)
    clear k5 hp5 hs5 hv5 hS2
    go_wp2_with fail
    go_roundg (gk-1)
    case measure=>obtain⟨_,_,_,hk⟩:=hk0.out;omega
    case rel=>exact⟨a5,nv5,_,rfl,hI5⟩
  ·rw[hu] at k2
   simp only[if_true] at k2
   have hk0:=bH (hI.out.rk_ok hu)
   obtain⟨st,hR,hlt,htk,hat⟩:=sign_at (en:=en) hu
   have hu:=bH hu;have htk:=bH htk;have hat:=bH hat;have hR:=bH hR;have hlt:=bH hlt
   go_wp2_with fail
   refine k2.out.mono ?_
   rintro e2 w2 ⟨rfl,hb2⟩
   have hS2:=bH (hI.out.s.next hb2)
   have k5:=bH (rbinary_1 B G tv ts en dd htl _ kA 0 y w2 nvr st hlt.out (bH (by have:=hI.out.x.below hb2;rw[hR.out] at this;exact this)))
   rw[← htk.out, ← hat.out] at k5
   clear k2 hb2
   go_wp2_with fail
   refine k5.out.mono ?_
   rintro e5 w5 ⟨a5,nv5,rfl,hp5,hs5,hv5⟩
   have hI5:=bH (hI.out.rk_u hm.out hu.out (hS2.out.trans hs5) hp5 hv5)
   clear k5 hp5 hs5 hv5 hS2
   go_wp2_with fail
   go_roundg (gk-1)
   case measure=>obtain⟨_,_,_,hk⟩:=hk0.out;omega
   case rel=>exact⟨a5,nv5,_,rfl,hI5⟩
theorem rsum_ex {B G:Nat} {tv:Value} {ts:List Tk} {en:Int} {dd:Int} (hd0:0≤dd) (hd:dd≤40) (htl:ts.length≤1000000) {e:PS→Except PE (Nat × PS)} (he:Mono ts e) (kA:Hid (ExK B G tv ts en 104 dd (productP ts en e))):ExK B G tv ts en 94 dd (sumP ts en e):=fun w nv R h=>rsum_any B G tv ts en dd hd0 hd htl e he kA w nv R (bH h)
open Go.RowKit
theorem rcompare_any (B G:Nat) (tv:Value) (ts:List Tk) (en:Int) (dd:Int) (hd0:0≤dd) (hd:dd≤40) (htl:ts.length≤1000000) (e:PS→Except PE (Nat × PS)) (kA:Hid (ExK B G tv ts en 94 dd (sumP ts en e))) (w:World) (nv:Value) (R:Except PE PS) (h:Hid (PkX B G tv ts en w nv R)) :
  Calls Tryz.prog 71 #[.pointer (some ⟨G,0,none⟩), .int .i64 dd] w (RkN B G tv ts en w nv (R >>= compareP ts en e)):=by
 have k1:=bH (kA.out w nv R h.out)
 have cU:=bH (fun z=>cmp_u (ts:=ts) (en:=en) (e:=e) (R:=R) (z:=z))
 have cV:=bH (fun z=>cmp_v (ts:=ts) (en:=en) (e:=e) (R:=R) (z:=z))
 have cE:=bH (cmp_end (ts:=ts) (en:=en) (e:=e) (R:=R))
 obtain⟨T,hT⟩ : ∃T,(R >>= compareP ts en e)=T:=⟨_,rfl⟩
 rw[hT] at cU cV cE ⊢
 obtain⟨R1,hR1⟩ : ∃T,(R >>= sumP ts en e)=T:=⟨_,rfl⟩
 rw[hR1] at k1 cU cV cE
 clear hT hR1
 go_enter Tryz.func71,Tryz.ntmps71
 go_wp2_with fail
 refine k1.out.mono ?_
 rintro e1 w1 ⟨z,nvr,rfl,hp1,hs1,hv1⟩
 have hv1:=bH hv1
 have hp1:=bH hp1
 have hs1:=bH hs1
 clear k1
 have k2:=bH (rprim_cmp B G tv ts en w1 nvr _ hp1)
 cases hu:isX ts (stX R1) sgEq2
 ·rw[hu] at k2
  cases hv:isX ts (stX R1) sgLess
  ·rw[hv] at k2
   simp only[Bool.false_eq_true,if_false] at k2
   have hc:=bH (cE.out hu hv)
   clear cE cU cV
   go_wp2_with fail
   refine k2.out.mono ?_
   rintro e2 w2 ⟨rfl,hb2⟩
   have hfin:Hid (RkN B G tv ts en w nv T (.returned (.int .i64 z)) w2):=bH (by rw[← hc.out];exact⟨z,nvr,rfl,hp1.out.below hb2,hs1.out.next hb2,hv1.out⟩)
   clear k2 hb2
   go_wp2_with fail
   go_ret
   exact hfin.out
  ·rw[hv] at k2
   simp only[Bool.false_eq_true,if_false,if_true] at k2
   obtain⟨st,hR,hlt,htk,hat⟩:=sign_at (en:=en) hv
   have hc:=bH (cV.out z hv1.out hu hv)
   have htk:=bH htk;have hat:=bH hat;have hR:=bH hR;have hlt:=bH hlt
   clear cE cU cV
   go_wp2_with fail
   refine k2.out.mono ?_
   rintro e2 w2 ⟨rfl,hb2⟩
   have hS2:=bH (hs1.out.next hb2)
   have k5:=bH (rbinary_0 B G tv ts en dd htl _ kA 5 z w2 nvr st hlt.out (bH (by have:=hp1.out.below hb2;rw[hR.out] at this;exact this)))
   rw[← htk.out, ← hat.out,hc.out] at k5
   clear k2 hb2
   go_wp2_with fail
   refine k5.out.mono ?_
   rintro e5 w5 ⟨a5,nv5,rfl,hp5,hs5,hv5⟩
   have hfin:Hid (RkN B G tv ts en w nv T (.returned (.int .i64 a5)) w5):=bH ⟨a5,nv5,rfl,hp5,hS2.out.trans hs5,hv5⟩
   clear k5 hp5 hs5 hv5 hS2
   go_wp2_with fail
   go_ret
   exact hfin.out
 ·rw[hu] at k2
  simp only[if_true] at k2
  obtain⟨st,hR,hlt,htk,hat⟩:=sign_at (en:=en) hu
  have hc:=bH (cU.out z hv1.out hu)
  have htk:=bH htk;have hat:=bH hat;have hR:=bH hR;have hlt:=bH hlt
  clear cE cU cV
  go_wp2_with fail
  refine k2.out.mono ?_
  rintro e2 w2 ⟨rfl,hb2⟩
  have hS2:=bH (hs1.out.next hb2)
  have k5:=bH (rbinary_0 B G tv ts en dd htl _ kA 4 z w2 nvr st hlt.out (bH (by have:=hp1.out.below hb2;rw[hR.out] at this;exact this)))
  rw[← htk.out, ← hat.out,hc.out] at k5
  clear k2 hb2
  go_wp2_with fail
  refine k5.out.mono ?_
  rintro e5 w5 ⟨a5,nv5,rfl,hp5,hs5,hv5⟩
  have hfin:Hid (RkN B G tv ts en w nv T (.returned (.int .i64 a5)) w5):=bH ⟨a5,nv5,rfl,hp5,hS2.out.trans hs5,hv5⟩
  clear k5 hp5 hs5 hv5 hS2
  go_wp2_with fail
  go_ret
  exact hfin.out
theorem rcompare_ex {B G:Nat} {tv:Value} {ts:List Tk} {en:Int} {dd:Int} (hd0:0≤dd) (hd:dd≤40) (htl:ts.length≤1000000) {e:PS→Except PE (Nat × PS)} (kA:Hid (ExK B G tv ts en 94 dd (sumP ts en e))):ExK B G tv ts en 71 dd (compareP ts en e):=fun w nv R h=>rcompare_any B G tv ts en dd hd0 hd htl e kA w nv R (bH h)
theorem rexpr_at (B G:Nat) (tv:Value) (ts:List Tk) (en:Int) (htl:ts.length≤1000000) : ∀(r:Nat),r≤40→ExK B G tv ts en 53 (41-(r:Int)) (exprP ts en r)
 | 0,_=>by simpa using rexpr_deep B G tv ts en
 | r+1,hr=>by
  have ih:=rexpr_at B G tv ts en htl r (by omega)
  have e1:(41:Int)-(r:Nat)=(41-((r+1:Nat):Int))+1:=by omega
  rw[e1] at ih
  have h0:0≤(41-((r+1:Nat):Int)):=by omega
  have h1:(41-((r+1:Nat):Int))≤40:=by omega
  have kE:=bH ih
  have hm:=exprP_fwd (ts:=ts) (en:=en) r
  have k1:=bH (ratom_ex h0 h1 htl kE)
  have k2:=bH (rapply_ex h0 h1 htl hm k1)
  have k3:=bH (rproduct_ex h0 h1 htl hm k2)
  have k4:=bH (rsum_ex h0 h1 htl hm k3)
  exact rexpr_ex B G tv ts en _ h0 h1 htl r kE (bH (rcompare_ex h0 h1 htl k4))
theorem rexpr_any (B G:Nat) (tv:Value) (ts:List Tk) (en:Int) (htl:ts.length≤1000000) (w:World) (nv:Value) (R:Except PE PS) (h:Hid (PkX B G tv ts en w nv R)) :
  Calls Tryz.prog 53 #[.pointer (some ⟨G,0,none⟩), .int .i64 1] w (RkN B G tv ts en w nv (R >>= exprP ts en 40)):=by
 have k:=rexpr_at B G tv ts en htl 40 (by omega)
 simp only[show (41:Int)-(40:Nat)=1 from rfl] at k
 exact k w nv R h.out
end Go.Proofs.YthpcbgljbpmafaaGreatDoor
