/- Two nodes: whether they are the same. -/
import Derived.Test.YthpcbgljbpmafaaGreatDoorW11
set_option maxRecDepth 100000
set_option maxHeartbeats 8000000
namespace Go.Proofs.YthpcbgljbpmafaaGreatDoor
open Go.RowKit
set_option linter.unusedVariables false
set_option linter.unusedSimpArgs false
def ndQ (x0 x1 x2 x3 x4:Int) (x5 x6 x7 x8:ByteArray) (x9 y0 y1 y2 y3 y4:Int) (y5 y6 y7 y8:ByteArray) (y9:Int):Bool:=
 x0==y0 && (x1==y1 && (x2==y2 && (x3==y3 && (x4==y4 && (x5.toList==y5.toList && (x6.toList==y6.toList && (x7.toList==y7.toList && (x8.toList==y8.toList && x9==y9))))))))
theorem nd_in (x0 x1 x2 x3 x4:Int) (x5 x6 x7 x8:ByteArray) (x9 y0 y1 y2 y3 y4:Int) (y5 y6 y7 y8:ByteArray) (y9:Int) (w:World) :
  (Op.equalIn 10000 45 (.agg #[.int .i64 x0, .int .i64 x1, .int .i64 x2, .int .i64 x3, .int .i64 x4, .string x5, .string x6, .string x7, .string x8, .int .i64 x9]) (.agg #[.int .i64 y0, .int .i64 y1, .int .i64 y2, .int .i64 y3, .int .i64 y4, .string y5, .string y6, .string y7, .string y8, .int .i64 y9])).run Tryz.prog w= .ok (ndQ x0 x1 x2 x3 x4 x5 x6 x7 x8 x9 y0 y1 y2 y3 y4 y5 y6 y7 y8 y9) w:=by
 have he : ∀(a b:Int) (W:World),(Op.equalIn 9999 3 (.int .i64 a) (.int .i64 b)).run Tryz.prog W= .ok (a==b) W:=fun a b W=>run_equalIn_int W 9998 3 .i64 .i64 a b Tryz.underlying3
 have hs : ∀(a b:ByteArray) (W:World),(Op.equalIn 9999 9 (.string a) (.string b)).run Tryz.prog W= .ok (a.toList==b.toList) W:=fun a b W=>run_equalIn_string W 9998 9 a b Tryz.underlying9
 have hst:Tryz.prog.stoodInHeld 45=false:=by kernel_rfl
 have p0 : ∀(z0 z1 z2 z3 z4:Int) (z5 z6 z7 z8:ByteArray) (z9:Int) (W:World),(part 3 #[.int .i64 z0, .int .i64 z1, .int .i64 z2, .int .i64 z3, .int .i64 z4, .string z5, .string z6, .string z7, .string z8, .int .i64 z9] 0).run Tryz.prog W= .ok (.int .i64 z0) W:=fun _ _ _ _ _ _ _ _ _ _ _=>by kernel_rfl
 have p1 : ∀(z0 z1 z2 z3 z4:Int) (z5 z6 z7 z8:ByteArray) (z9:Int) (W:World),(part 3 #[.int .i64 z0, .int .i64 z1, .int .i64 z2, .int .i64 z3, .int .i64 z4, .string z5, .string z6, .string z7, .string z8, .int .i64 z9] 1).run Tryz.prog W= .ok (.int .i64 z1) W:=fun _ _ _ _ _ _ _ _ _ _ _=>by kernel_rfl
 have p2 : ∀(z0 z1 z2 z3 z4:Int) (z5 z6 z7 z8:ByteArray) (z9:Int) (W:World),(part 3 #[.int .i64 z0, .int .i64 z1, .int .i64 z2, .int .i64 z3, .int .i64 z4, .string z5, .string z6, .string z7, .string z8, .int .i64 z9] 2).run Tryz.prog W= .ok (.int .i64 z2) W:=fun _ _ _ _ _ _ _ _ _ _ _=>by kernel_rfl
 have p3 : ∀(z0 z1 z2 z3 z4:Int) (z5 z6 z7 z8:ByteArray) (z9:Int) (W:World),(part 3 #[.int .i64 z0, .int .i64 z1, .int .i64 z2, .int .i64 z3, .int .i64 z4, .string z5, .string z6, .string z7, .string z8, .int .i64 z9] 3).run Tryz.prog W= .ok (.int .i64 z3) W:=fun _ _ _ _ _ _ _ _ _ _ _=>by kernel_rfl
 have p4 : ∀(z0 z1 z2 z3 z4:Int) (z5 z6 z7 z8:ByteArray) (z9:Int) (W:World),(part 3 #[.int .i64 z0, .int .i64 z1, .int .i64 z2, .int .i64 z3, .int .i64 z4, .string z5, .string z6, .string z7, .string z8, .int .i64 z9] 4).run Tryz.prog W= .ok (.int .i64 z4) W:=fun _ _ _ _ _ _ _ _ _ _ _=>by kernel_rfl
 have p5 : ∀(z0 z1 z2 z3 z4:Int) (z5 z6 z7 z8:ByteArray) (z9:Int) (W:World),(part 9 #[.int .i64 z0, .int .i64 z1, .int .i64 z2, .int .i64 z3, .int .i64 z4, .string z5, .string z6, .string z7, .string z8, .int .i64 z9] 5).run Tryz.prog W= .ok (.string z5) W:=fun _ _ _ _ _ _ _ _ _ _ _=>by kernel_rfl
 have p6 : ∀(z0 z1 z2 z3 z4:Int) (z5 z6 z7 z8:ByteArray) (z9:Int) (W:World),(part 9 #[.int .i64 z0, .int .i64 z1, .int .i64 z2, .int .i64 z3, .int .i64 z4, .string z5, .string z6, .string z7, .string z8, .int .i64 z9] 6).run Tryz.prog W= .ok (.string z6) W:=fun _ _ _ _ _ _ _ _ _ _ _=>by kernel_rfl
 have p7 : ∀(z0 z1 z2 z3 z4:Int) (z5 z6 z7 z8:ByteArray) (z9:Int) (W:World),(part 9 #[.int .i64 z0, .int .i64 z1, .int .i64 z2, .int .i64 z3, .int .i64 z4, .string z5, .string z6, .string z7, .string z8, .int .i64 z9] 7).run Tryz.prog W= .ok (.string z7) W:=fun _ _ _ _ _ _ _ _ _ _ _=>by kernel_rfl
 have p8 : ∀(z0 z1 z2 z3 z4:Int) (z5 z6 z7 z8:ByteArray) (z9:Int) (W:World),(part 9 #[.int .i64 z0, .int .i64 z1, .int .i64 z2, .int .i64 z3, .int .i64 z4, .string z5, .string z6, .string z7, .string z8, .int .i64 z9] 8).run Tryz.prog W= .ok (.string z8) W:=fun _ _ _ _ _ _ _ _ _ _ _=>by kernel_rfl
 have p9 : ∀(z0 z1 z2 z3 z4:Int) (z5 z6 z7 z8:ByteArray) (z9:Int) (W:World),(part 3 #[.int .i64 z0, .int .i64 z1, .int .i64 z2, .int .i64 z3, .int .i64 z4, .string z5, .string z6, .string z7, .string z8, .int .i64 z9] 9).run Tryz.prog W= .ok (.int .i64 z9) W:=fun _ _ _ _ _ _ _ _ _ _ _=>by kernel_rfl
 rw[show (10000:Nat)=9999+1 from rfl]
 unfold Op.equalIn
 unfold ndQ
 have hpr : ∀W:World,(program).run Tryz.prog W= .ok Tryz.prog W:=fun _=>by kernel_rfl
 cases h0:(x0==y0)
 ·simp[run_underlying Tryz.underlying45,Sem.run_bind,hpr,hst,Result.andThen,he,hs,p0,p1,p2,p3,p4,p5,p6,p7,p8,p9,h0]
 cases h1:(x1==y1)
 ·simp[run_underlying Tryz.underlying45,Sem.run_bind,hpr,hst,Result.andThen,he,hs,p0,p1,p2,p3,p4,p5,p6,p7,p8,p9,h0,h1]
 cases h2:(x2==y2)
 ·simp[run_underlying Tryz.underlying45,Sem.run_bind,hpr,hst,Result.andThen,he,hs,p0,p1,p2,p3,p4,p5,p6,p7,p8,p9,h0,h1,h2]
 cases h3:(x3==y3)
 ·simp[run_underlying Tryz.underlying45,Sem.run_bind,hpr,hst,Result.andThen,he,hs,p0,p1,p2,p3,p4,p5,p6,p7,p8,p9,h0,h1,h2,h3]
 cases h4:(x4==y4)
 ·simp[run_underlying Tryz.underlying45,Sem.run_bind,hpr,hst,Result.andThen,he,hs,p0,p1,p2,p3,p4,p5,p6,p7,p8,p9,h0,h1,h2,h3,h4]
 cases h5:(x5.toList==y5.toList)
 ·simp[run_underlying Tryz.underlying45,Sem.run_bind,hpr,hst,Result.andThen,he,hs,p0,p1,p2,p3,p4,p5,p6,p7,p8,p9,h0,h1,h2,h3,h4,h5]
 cases h6:(x6.toList==y6.toList)
 ·simp[run_underlying Tryz.underlying45,Sem.run_bind,hpr,hst,Result.andThen,he,hs,p0,p1,p2,p3,p4,p5,p6,p7,p8,p9,h0,h1,h2,h3,h4,h5,h6]
 cases h7:(x7.toList==y7.toList)
 ·simp[run_underlying Tryz.underlying45,Sem.run_bind,hpr,hst,Result.andThen,he,hs,p0,p1,p2,p3,p4,p5,p6,p7,p8,p9,h0,h1,h2,h3,h4,h5,h6,h7]
 cases h8:(x8.toList==y8.toList)
 ·simp[run_underlying Tryz.underlying45,Sem.run_bind,hpr,hst,Result.andThen,he,hs,p0,p1,p2,p3,p4,p5,p6,p7,p8,p9,h0,h1,h2,h3,h4,h5,h6,h7,h8]
 cases h9:(x9==y9)
 ·simp[run_underlying Tryz.underlying45,Sem.run_bind,hpr,hst,Result.andThen,he,hs,p0,p1,p2,p3,p4,p5,p6,p7,p8,p9,h0,h1,h2,h3,h4,h5,h6,h7,h8,h9]
 simp[run_underlying Tryz.underlying45,Sem.run_bind,hpr,hst,Result.andThen,he,hs,p0,p1,p2,p3,p4,p5,p6,p7,p8,p9,h0,h1,h2,h3,h4,h5,h6,h7,h8,h9]
open Go.RowKit
def ndE (t u:Nd):Bool:=ndQ t.k t.a t.b t.c t.n t.nm t.x t.y t.z t.p u.k u.a u.b u.c u.n u.nm u.x u.y u.z u.p
def allR (f:Nd→Nd→Bool) (l m:List Nd) (n:Nat):Bool:=(List.range n).all fun j=>f (l.getD j nd0) (m.getD j nd0)
def sameV (f:Nd→Nd→Bool) (l m:List Nd):Bool:=decide (l.length=m.length) && allR f l m l.length
theorem allR_succ (f:Nd→Nd→Bool) (l m:List Nd) (j:Nat):allR f l m (j+1)=(allR f l m j && f (l.getD j nd0) (m.getD j nd0)):=by
 unfold allR
 rw[List.range_succ,List.all_append];simp
theorem allR_stop {f:Nd→Nd→Bool} {l m:List Nd} {j n:Nat} (hj:j<n) (h:f (l.getD j nd0) (m.getD j nd0)=false):allR f l m n=false:=by
 unfold allR
 rw[List.all_eq_false]
 exact⟨j,List.mem_range.2 hj,by rw[h];simp⟩
def NArg (w:World) (a:Option Addr) (n:Nat) (ts:List Nd):Prop:=n=ts.length∧(ts=[] ∨ ∃b off,a=some ⟨b,off,none⟩∧NdSl w b off ts∧b<w.heap.size)
theorem NArg.below {w w':World} {a:Option Addr} {n:Nat} {ts:List Nd} (h:NArg w a n ts) (hb:Below w.heap.size w w'):NArg w' a n ts:=by
 obtain⟨h1,h|⟨b,off,h2,h3,h4⟩⟩:=h
 ·exact⟨h1, .inl h⟩
 ·exact⟨h1, .inr ⟨b,off,h2,h3.below hb h4,by have:=hb.size;omega⟩⟩
theorem sameNodes_nil (a1 a2:Option Addr) (c1 c2:Nat) (w:World) :
  Calls Tryz.prog 18 #[.slice a1 0 c1, .slice a2 0 c2] w fun e w'=>e= .returned (.bool true)∧Below w.heap.size w w':=by
 go_enter Tryz.func18,Tryz.ntmps18
 go_wp2_with fail
 go_loop [5] (fun i=>i= .int .i64 0) (fun _=>0)
 case atStart=>rfl
 case round=>
  obtain rfl:=hrel
  go_wp2_with fail
  go_ret
  exact⟨rfl,Below.refl _ _⟩
theorem sameNodes_len (a1 a2:Option Addr) (n1 n2 c1 c2:Nat) (w:World) (h:n1≠n2) :
  Calls Tryz.prog 18 #[.slice a1 n1 c1, .slice a2 n2 c2] w fun e w'=>e= .returned (.bool false)∧Below w.heap.size w w':=by
 have h1:((n1:Int)==(n2:Int))=false:=by rw[beq_eq_false_iff_ne];omega
 have h2:((n1:Int) != (n2:Int))=true:=by rw[bne_iff_ne];omega
 have h3:(n1==n2)=false:=by simpa using h
 have h4:(n1 != n2)=true:=by simpa using h
 clear h
 go_enter Tryz.func18,Tryz.ntmps18
 go_wp2_with fail
 go_ret
 exact⟨rfl,Below.refl _ _⟩
theorem sameNodes_sl (b off cp b' off' cp':Nat) (l m:List Nd) (w:World) (h:Hid (NdSl w b off l)) (h':Hid (NdSl w b' off' m)) (hbs:b<w.heap.size) (hbs':b'<w.heap.size) (hlm:l.length=m.length) (hl:l.length≤140737488351232) :
  Calls Tryz.prog 18 #[.slice (some ⟨b,off,none⟩) l.length cp, .slice (some ⟨b',off',none⟩) l.length cp'] w fun e w'=>e= .returned (.bool (allR ndE l m l.length))∧Below w.heap.size w w':=by
 obtain⟨A,hA⟩ : ∃x,allR ndE l m l.length=x:=⟨_,rfl⟩
 rw[hA]
 have hA':=bH hA
 have hlm':=bH hlm
 clear hA hlm
 go_enter Tryz.func18,Tryz.ntmps18
 go_wp2_with fail
 go_loopw [5] (fun i wr=> ∃j:Nat,j≤l.length∧i= .int .i64 j∧Below w.heap.size w wr∧Hid (allR ndE l m j=true)) (fun i _=>l.length-(intOf i).toNat)
 case atStart=>exact⟨0,by omega,rfl,Below.refl _ _,bH rfl⟩
 case round=>
  obtain⟨j,hj,rfl,hbw,hall⟩:=hrel
  by_cases hlt:j<l.length
  ·have hT:=(h.out j hlt).below hbw hbs
   have hU:=(h'.out j (by rw[← hlm'.out];exact hlt)).below hbw hbs'
   have hsuc:=bH (allR_succ ndE l m j)
   have hstop:=bH (allR_stop (f:=ndE) (l:=l) (m:=m) hlt)
   generalize l.getD j nd0=t at hT hsuc hstop
   generalize m.getD j nd0=u at hU hsuc hstop
   obtain⟨bq,hq⟩ : ∃x,ndE t u=x:=⟨_,rfl⟩
   rw[hq] at hsuc hstop
   have hq:=(show ndQ t.k t.a t.b t.c t.n t.nm t.x t.y t.z t.p u.k u.a u.b u.c u.n u.nm u.x u.y u.z u.p=bq from hq)
   have hws:=hbw.size
   have hbr:b<wr.heap.size:=by omega
   have hbr2:b'<wr.heap.size:=by omega
   have hndq:=fun x0 x1 x2 x3 x4 x5 x6 x7 x8 x9 y0 y1 y2 y3 y4 y5 y6 y7 y8 y9 W=>nd_in x0 x1 x2 x3 x4 x5 x6 x7 x8 x9 y0 y1 y2 y3 y4 y5 y6 y7 y8 y9 W
   obtain⟨e0,e1,e2,e3,e4,e5,e6,e7,e8,e9⟩:=hT
   obtain⟨d0,d1,d2,d3,d4,d5,d6,d7,d8,d9⟩:=hU
   have hlt':(j:Int)<(l.length:Int):=by omega
   have hj0:(0:Int)≤(j:Int):=by omega
   cases bq
   ·have hf:Hid (A=false):=bH (by rw[← hA'.out];exact hstop.out rfl)
    clear hstop hsuc
    go_wp2_with fail
    go_quiet (fail)
    go_wp2_with fail
    go_ret
    exact⟨ret_b hf.out.symm,bZ⟩
   ·have hf:Hid (allR ndE l m (j+1)=true):=bH (by rw[hsuc.out,hall.out];rfl)
    clear hstop hsuc
    go_wp2_with fail
    go_quiet (fail)
    go_wp2_with fail
    go_roundw
    case rel=>exact⟨j+1,by omega,by go_num,bZ,hf⟩
    case measure=>simp[intOf];omega
  ·have hf:Hid (A=true):=bH (by rw[← hA'.out,show l.length=j by omega];exact hall.out)
   go_wp2_with fail
   go_ret
   exact⟨ret_b hf.out.symm,hbw⟩
theorem sameNodes_any (a1 a2:Option Addr) (n1 n2 c1 c2:Nat) (l m:List Nd) (w:World) (h:Hid (NArg w a1 n1 l)) (h':Hid (NArg w a2 n2 m)) (hl:n1≤140737488351232) :
  Calls Tryz.prog 18 #[.slice a1 n1 c1, .slice a2 n2 c2] w fun e w'=>e= .returned (.bool (sameV ndE l m))∧Below w.heap.size w w':=by
 obtain⟨h1,h2⟩:=h.out
 obtain⟨h3,h4⟩:=h'.out
 by_cases hn:n1=n2
 ·subst hn
  by_cases h0:n1=0
  ·obtain rfl:l=[]:=List.eq_nil_of_length_eq_zero (by omega)
   obtain rfl:m=[]:=List.eq_nil_of_length_eq_zero (by omega)
   subst h0
   exact sameNodes_nil a1 a2 c1 c2 w
  ·obtain⟨b,off,rfl,h5,h6⟩ : ∃b off,a1=some ⟨b,off,none⟩∧NdSl w b off l∧b<w.heap.size:=by
    rcases h2 with rfl|h2
    ·simp at h1;omega
    ·exact h2
   obtain⟨b',off',rfl,h7,h8⟩ : ∃b off,a2=some ⟨b,off,none⟩∧NdSl w b off m∧b<w.heap.size:=by
    rcases h4 with rfl|h4
    ·simp at h3;omega
    ·exact h4
   subst h1
   have:sameV ndE l m=allR ndE l m l.length:=by unfold sameV;rw[decide_eq_true h3];rfl
   rw[this]
   exact sameNodes_sl b off c1 b' off' c2 l m w (bH h5) (bH h7) h6 h8 h3 hl
 ·have:sameV ndE l m=false:=by unfold sameV;rw[decide_eq_false (by omega)];rfl
  rw[this]
  exact sameNodes_len a1 a2 n1 n2 c1 c2 w hn
end Go.Proofs.YthpcbgljbpmafaaGreatDoor
