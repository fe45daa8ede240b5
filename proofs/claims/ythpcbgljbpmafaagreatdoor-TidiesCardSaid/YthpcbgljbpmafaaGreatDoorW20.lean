/- The program's parser in memory; its small functions. -/
import Derived.Test.YthpcbgljbpmafaaGreatDoorW5
import Derived.Test.YthpcbgljbpmafaaGreatDoorW9
import Derived.Test.YthpcbgljbpmafaaGreatDoorW16
import Derived.Test.YthpcbgljbpmafaaGreatDoorW19
import Derived.Deep.RegionLaw
import Derived.Deep.LoopGhost
set_option maxRecDepth 100000
set_option maxHeartbeats 8000000
namespace Go.Proofs.YthpcbgljbpmafaaGreatDoor
open Go.RowKit
set_option linter.unusedVariables false
set_option linter.unusedSimpArgs false
def TyAt (w:World) (b:Nat) (T:TypeId):Prop:= ∃arr fz,w.heap[b]? = some (.cells arr T fz)
theorem TyAt.bar {S:Nat→Prop} {w w':World} {b:Nat} {T:TypeId} (h:TyAt w b T) (hb:Bar S w w') (hn : ¬ S b):TyAt w' b T:=by
 obtain⟨arr,fz,h⟩:=h
 exact⟨arr,fz,(hb.block b (Array.getElem?_eq_some_iff.1 h).1 hn).trans h⟩
theorem TyAt.set {w:World} {b:Nat} {T:TypeId} (h:TyAt w b T) (a:Addr) (v:Value):TyAt (w.setCell a v) b T:=by
 obtain⟨arr,fz,h⟩:=h
 by_cases e:a.block=b
 ·subst e
  refine⟨if a.spot.isSome then arr else arr.setIfInBounds a.off v,fz, ?_⟩
  show (w.heap.modify a.block _)[a.block]? = _
  rw[Array.getElem?_modify,if_pos rfl,h]
  rfl
 ·exact⟨arr,fz,by
   show (w.heap.modify a.block _)[b]? = _
   rw[Array.getElem?_modify,if_neg e,h]⟩
theorem TyAt.ne {w:World} {b b':Nat} {T T':TypeId} (h:TyAt w b T) (h':TyAt w b' T') (hT:T≠T'):b≠b':=by
 rintro rfl
 obtain⟨_,_,h⟩:=h
 obtain⟨_,_,h'⟩:=h'
 rw[h] at h'
 injection h' with h'
 injection h' with _ h' _
 exact hT h'
theorem TyAt.new (w:World) (arr:Array Value) (T:TypeId):TyAt (w.alloc (.cells arr T)) w.heap.size T:=⟨arr,(0,0),by show (w.heap.push _)[w.heap.size]? = _;simp⟩
section
variable {B G : Nat} {tv : Value} {ts : List Tk} {en : Int} {ov : Value} {d : Int} {w : World} {nv : Value}
end
def Stp (G:Nat) (w:World) (nv:Value) (w':World) (nv':Value):Prop:=Bar (PFr G nv) w w'∧PHop nv nv' w
theorem Stp.refl (G:Nat) (w:World) (nv:Value):Stp G w nv w nv:=⟨Bar.refl _ _,fun _ hg=> .inl hg⟩
theorem Stp.trans {G:Nat} {w w1 w2:World} {nv nv1 nv2:Value} (h:Stp G w nv w1 nv1) (h':Stp G w1 nv1 w2 nv2):Stp G w nv w2 nv2:=
 ⟨h.1.trans h'.1 fun k hk hs=>by
  rcases hs with hs|hs
  ·exact .inl hs
  ·rcases h.2 k hs with hg|hg
   ·exact .inr hg
   ·omega,fun g hg=>by
  rcases h'.2 g hg with hg|hg
  ·exact h.2 g hg
  ·exact .inr (by have:=h.1.size;omega)⟩
theorem Stp.of {G:Nat} {w w':World} {nv:Value} (h:Bar (fun k=>k=G) w w'):Stp G w nv w' nv:=⟨(Bar.refl (PFr G nv) w).trans h fun _ _ hs=> .inl hs,fun _ hg=> .inl hg⟩
theorem Stp.below {G:Nat} {w w':World} {nv:Value} (h:Below w.heap.size w w'):Stp G w nv w' nv:=⟨Bar.of_below h,fun _ hg=> .inl hg⟩
theorem Stp.next {G:Nat} {w w1 w2:World} {nv nv1:Value} (h:Stp G w nv w1 nv1) (hb:Below w1.heap.size w1 w2):Stp G w nv w2 nv1:=h.trans (Stp.below hb)
def peekX (ts:List Tk) (en:Int) (R:Except PE PS):Tk:=match R with
 | .ok st=>(ts[st.i]?).getD ⟨-1,[],0,en⟩
 | .error _=>⟨-1,[],0,en⟩
theorem peek_ok (ts:List Tk) (en:Int) (st:PS):peekX ts en (.ok st)=(ts[st.i]?).getD ⟨-1,[],0,en⟩:=rfl
theorem peek_here (ts:List Tk) (en:Int) (st:PS):(peekX ts en (.ok st)).at_=hereP ts en st.i:=by
 rw[peek_ok];unfold hereP;cases ts[st.i]? <;> rfl
def takeX (ts:List Tk) (R:Except PE PS) (u:List UInt8):Except PE PS:=match R with
 | .ok st=>if isP ts st.i u then .ok ⟨st.i+1,st.ns⟩ else .ok st
 | .error e=> .error e
theorem take_no {ts:List Tk} {R:Except PE PS} {u:List UInt8} (h:isX ts R u=false):takeX ts R u=R:=by
 cases R with
 | error e=>rfl
 | ok st=>have h:isP ts st.i u=false:=h;show (if isP ts st.i u then _ else _)=_;rw[if_neg (by rw[h];decide)]
theorem want_no {ts:List Tk} {en:Int} {R:Except PE PS} {u:List UInt8} (h:isX ts R u=false):(R >>= wantP ts en u)=failX ts en R 403:=by
 cases R with
 | error e=>rfl
 | ok st=>have h:isP ts st.i u=false:=h;show (if isP ts st.i u then _ else _)=_;rw[if_neg (by rw[h];decide)];rfl
theorem want_yes {ts:List Tk} {en:Int} {R:Except PE PS} {u:List UInt8} (h:isX ts R u=true):(R >>= wantP ts en u)=takeX ts R u:=by
 cases R with
 | error e=>rfl
 | ok st=>have h:isP ts st.i u=true:=h;show (if isP ts st.i u then _ else _)=(if isP ts st.i u then _ else _);rw[if_pos h,if_pos h]
theorem isX_ok {ts:List Tk} {R:Except PE PS} {u:List UInt8} (h:isX ts R u=true) : ∃st,R= .ok st∧st.i<ts.length∧takeX ts R u= .ok ⟨st.i+1,st.ns⟩:=by
 cases R with
 | error e=>cases h
 | ok st=>have h:isP ts st.i u=true:=h;exact⟨st,rfl,isP_lt h,by show (if isP ts st.i u then _ else _)=_;rw[if_pos h]⟩
open Go.RowKit
open Go.RowKit
open Go.RowKit
theorem name_no {ts:List Tk} {en:Int} {R:Except PE PS} (h:(peekX ts en R).kind≠0):stX (R >>= nameP ts en)=failX ts en R 403∧ ∀y st',(R >>= nameP ts en) ≠ .ok (y,st'):=by
 cases R with
 | error e=>exact⟨rfl,fun y st' hc=>by cases hc⟩
 | ok st=>
  have e:nameP ts en st= .error (403,hereP ts en st.i):=by
   rw[peek_ok] at h
   unfold nameP
   cases hg:ts[st.i]? with
   | none=>rfl
   | some t=>rw[hg] at h;exact if_neg h
  exact⟨by show stX (nameP ts en st)=_;rw[e];rfl,fun y st' hc=>by have hc:nameP ts en st=_:=hc;rw[e] at hc;cases hc⟩
theorem name_yes {ts:List Tk} {en:Int} {R:Except PE PS} (h:(peekX ts en R).kind=0) : ∃st,R= .ok st∧st.i<ts.length∧(R >>= nameP ts en)= .ok (bs (peekX ts en R).text,⟨st.i+1,st.ns⟩):=by
 cases R with
 | error e=>cases h
 | ok st=>
  rw[peek_ok] at h ⊢
  cases hg:ts[st.i]? with
  | none=>rw[hg] at h;cases h
  | some t=>
   rw[hg] at h
   refine⟨st,rfl,(List.getElem?_eq_some_iff.1 hg).1, ?_⟩
   show nameP ts en st=_
   unfold nameP
   rw[hg]
   exact if_pos h
open Go.RowKit
theorem step_ndr {ops:Array Oper} {o:Oper} {a:Act} {K:Act→World→Prop} {Q:Exit→Act→World→Prop} {E:Prop} (hgd:o.guard=none) (s x:Operand) (W:World) (B:Nat) (hB:B≤W.heap.size) (ov:Value) (l ys:List Nd) (arr:Array Value)
  (ho:o.op= .call { callee:= .builtin .append,args:= #[s,x],argTypes:= #[23,23] })
  (hs:a.eval s=ov) (m:Nat) (hm:m=ys.length) (hx:a.eval x= .slice (some ⟨W.heap.size,0,none⟩) m m) (harr:arr.toList=ndL ys) (hown:OwnN B W ov l) (hlen:l.length+ys.length≤1000000)
  (h : ∀v' w',OwnN B w' v' (l++ys)→Bar (fun k=>ov.ownBlock=some k) W w'→(∀g,v'.ownBlock=some g→ov.ownBlock=some g∨W.heap.size≤g)→K (a.put o.dst v') w') :
  if Region.wanted o (yielded ops a.tmps)=true then Oper.wp Tryz.prog o a (W.alloc (.cells arr 45)) K Q else E:=by
 subst hm
 have hw:Region.wanted o (yielded ops a.tmps)=true:=by simp[Region.wanted,hgd]
 rw[if_pos hw]
 obtain⟨v',w',hr,h1,h2,h3⟩:=run_appN2 (W:=W.alloc (.cells arr 45)) B (by simp;omega) o.type ov l (hown.below (below_alc W _)) ⟨W.heap.size,0,none⟩ ys.length ys.length ys rfl (fun j u hj=>by
  have e:(⟨W.heap.size,0,none⟩:Addr).add j=⟨W.heap.size,j,none⟩:=by simp[Addr.add];try omega
  rw[e,World.cell?_alloc_at _ _ _ _ rfl, ← hj, ← harr,Array.getElem?_toList]) hlen
 unfold Oper.wp
 simp[execOp,ho,resolve,invoke,builtin,hs,hx,hr,Result.andThen]
 refine h v' w' h1 ?_ fun g hg=> ?_
 ·have hsz:=h2.size
  simp at hsz
  exact⟨h2.os,h2.tape,h2.output,by omega,fun k hk hn=>(h2.block k (by simp;omega) hn).trans (Below.heap_alloc W _ k (by omega))⟩
 ·rcases h3 g hg with h|h
  ·exact .inl h
  ·exact .inr (by simp at h;omega)
theorem own_sl {B:Nat} {w:World} {v:Value} {l:List Nd} (h:OwnN B w v l) : ∃a c,v= .slice a l.length c:=by
 rcases h.cases with ⟨rfl,rfl⟩|⟨g,c,rfl,_⟩
 ·exact⟨none,0,rfl⟩
 ·exact⟨_,c,rfl⟩
theorem nd_box (w W:World) (t:Nd) (hW:w.alloc (.cells #[.int .i64 t.k, .int .i64 t.a, .int .i64 t.b, .int .i64 t.c, .int .i64 t.n, .string t.nm, .string t.x, .string t.y, .string t.z, .int .i64 t.p] 45)=W):(W.cell? ⟨w.heap.size,0,none⟩=some (.int .i64 t.k)∧W.cell? ⟨w.heap.size,1,none⟩=some (.int .i64 t.a)∧W.cell? ⟨w.heap.size,2,none⟩=some (.int .i64 t.b)∧W.cell? ⟨w.heap.size,3,none⟩=some (.int .i64 t.c)∧W.cell? ⟨w.heap.size,4,none⟩=some (.int .i64 t.n)∧W.cell? ⟨w.heap.size,5,none⟩=some (.string t.nm)∧W.cell? ⟨w.heap.size,6,none⟩=some (.string t.x)∧W.cell? ⟨w.heap.size,7,none⟩=some (.string t.y)∧W.cell? ⟨w.heap.size,8,none⟩=some (.string t.z)∧W.cell? ⟨w.heap.size,9,none⟩=some (.int .i64 t.p))∧Below w.heap.size w W∧w.heap.size<W.heap.size:=by
 subst hW
 refine⟨⟨?_, ?_, ?_, ?_, ?_, ?_, ?_, ?_, ?_, ?_⟩,below_alc _ _,by simp⟩<;>(rw[World.cell?_alloc_at _ _ _ _ rfl];rfl)
open Go.RowKit
structure NdBox (G:Nat) (w:World) (nv:Value) (b:Nat) (t:Nd):Prop where
 c0:w.cell? ⟨b,0,none⟩=some (.int .i64 t.k)
 c1:w.cell? ⟨b,1,none⟩=some (.int .i64 t.a)
 c2:w.cell? ⟨b,2,none⟩=some (.int .i64 t.b)
 c3:w.cell? ⟨b,3,none⟩=some (.int .i64 t.c)
 c4:w.cell? ⟨b,4,none⟩=some (.int .i64 t.n)
 c5:w.cell? ⟨b,5,none⟩=some (.string t.nm)
 c6:w.cell? ⟨b,6,none⟩=some (.string t.x)
 c7:w.cell? ⟨b,7,none⟩=some (.string t.y)
 c8:w.cell? ⟨b,8,none⟩=some (.string t.z)
 c9:w.cell? ⟨b,9,none⟩=some (.int .i64 t.p)
 fz : ∀o,w.frozen? ⟨b,o,none⟩=false
 gb:b≠G
 ob:nv.ownBlock≠some b
 lt:b<w.heap.size
 ty:TyAt w b 45
theorem NdBox.step {G b:Nat} {w w':World} {nv nv':Value} {t:Nd} (h:NdBox G w nv b t) (hs:Stp G w nv w' nv'):NdBox G w' nv' b t:=by
 have hp : ¬ PFr G nv b:=fun hc=>by rcases hc with hc|hc;exact h.gb hc;exact h.ob hc
 exact⟨hs.1.cell h.c0 hp,hs.1.cell h.c1 hp,hs.1.cell h.c2 hp,hs.1.cell h.c3 hp,hs.1.cell h.c4 hp,hs.1.cell h.c5 hp,hs.1.cell h.c6 hp,hs.1.cell h.c7 hp,hs.1.cell h.c8 hp,hs.1.cell h.c9 hp,fun o=>by rw[hs.1.frozen (a:=⟨b,o,none⟩) h.lt hp];exact h.fz o,h.gb,fun e=>by rcases hs.2 b e with e|e;exact h.ob e;have:=h.lt;omega,by have:=hs.1.size;have:=h.lt;omega,h.ty.bar hs.1 hp⟩
theorem NdBox.set0 {G b:Nat} {w:World} {nv:Value} {t:Nd} (h:NdBox G w nv b t) (v:Int):NdBox G (w.setCell ⟨b,0,none⟩ (.int .i64 v)) nv b { t with k:=v }:=by
 have ne : ∀a c:Nat,a≠c→(⟨b,a,none⟩:Addr)≠⟨b,c,none⟩:=fun a c hab e=>by injection e with _ e2 _;exact hab e2
 exact⟨setS h.c0,setO h.c1 (ne _ _ (by decide)),setO h.c2 (ne _ _ (by decide)),setO h.c3 (ne _ _ (by decide)),setO h.c4 (ne _ _ (by decide)),setO h.c5 (ne _ _ (by decide)),setO h.c6 (ne _ _ (by decide)),setO h.c7 (ne _ _ (by decide)),setO h.c8 (ne _ _ (by decide)),setO h.c9 (ne _ _ (by decide)),fun o=>by simp only[World.frozen?_setCell];exact h.fz o,h.gb,h.ob,by have:=h.lt;simpa using this,h.ty.set _ _⟩
theorem NdBox.set1 {G b:Nat} {w:World} {nv:Value} {t:Nd} (h:NdBox G w nv b t) (v:Int):NdBox G (w.setCell ⟨b,1,none⟩ (.int .i64 v)) nv b { t with a:=v }:=by
 have ne : ∀a c:Nat,a≠c→(⟨b,a,none⟩:Addr)≠⟨b,c,none⟩:=fun a c hab e=>by injection e with _ e2 _;exact hab e2
 exact⟨setO h.c0 (ne _ _ (by decide)),setS h.c1,setO h.c2 (ne _ _ (by decide)),setO h.c3 (ne _ _ (by decide)),setO h.c4 (ne _ _ (by decide)),setO h.c5 (ne _ _ (by decide)),setO h.c6 (ne _ _ (by decide)),setO h.c7 (ne _ _ (by decide)),setO h.c8 (ne _ _ (by decide)),setO h.c9 (ne _ _ (by decide)),fun o=>by simp only[World.frozen?_setCell];exact h.fz o,h.gb,h.ob,by have:=h.lt;simpa using this,h.ty.set _ _⟩
theorem NdBox.set2 {G b:Nat} {w:World} {nv:Value} {t:Nd} (h:NdBox G w nv b t) (v:Int):NdBox G (w.setCell ⟨b,2,none⟩ (.int .i64 v)) nv b { t with b:=v }:=by
 have ne : ∀a c:Nat,a≠c→(⟨b,a,none⟩:Addr)≠⟨b,c,none⟩:=fun a c hab e=>by injection e with _ e2 _;exact hab e2
 exact⟨setO h.c0 (ne _ _ (by decide)),setO h.c1 (ne _ _ (by decide)),setS h.c2,setO h.c3 (ne _ _ (by decide)),setO h.c4 (ne _ _ (by decide)),setO h.c5 (ne _ _ (by decide)),setO h.c6 (ne _ _ (by decide)),setO h.c7 (ne _ _ (by decide)),setO h.c8 (ne _ _ (by decide)),setO h.c9 (ne _ _ (by decide)),fun o=>by simp only[World.frozen?_setCell];exact h.fz o,h.gb,h.ob,by have:=h.lt;simpa using this,h.ty.set _ _⟩
theorem NdBox.set3 {G b:Nat} {w:World} {nv:Value} {t:Nd} (h:NdBox G w nv b t) (v:Int):NdBox G (w.setCell ⟨b,3,none⟩ (.int .i64 v)) nv b { t with c:=v }:=by
 have ne : ∀a c:Nat,a≠c→(⟨b,a,none⟩:Addr)≠⟨b,c,none⟩:=fun a c hab e=>by injection e with _ e2 _;exact hab e2
 exact⟨setO h.c0 (ne _ _ (by decide)),setO h.c1 (ne _ _ (by decide)),setO h.c2 (ne _ _ (by decide)),setS h.c3,setO h.c4 (ne _ _ (by decide)),setO h.c5 (ne _ _ (by decide)),setO h.c6 (ne _ _ (by decide)),setO h.c7 (ne _ _ (by decide)),setO h.c8 (ne _ _ (by decide)),setO h.c9 (ne _ _ (by decide)),fun o=>by simp only[World.frozen?_setCell];exact h.fz o,h.gb,h.ob,by have:=h.lt;simpa using this,h.ty.set _ _⟩
theorem NdBox.set4 {G b:Nat} {w:World} {nv:Value} {t:Nd} (h:NdBox G w nv b t) (v:Int):NdBox G (w.setCell ⟨b,4,none⟩ (.int .i64 v)) nv b { t with n:=v }:=by
 have ne : ∀a c:Nat,a≠c→(⟨b,a,none⟩:Addr)≠⟨b,c,none⟩:=fun a c hab e=>by injection e with _ e2 _;exact hab e2
 exact⟨setO h.c0 (ne _ _ (by decide)),setO h.c1 (ne _ _ (by decide)),setO h.c2 (ne _ _ (by decide)),setO h.c3 (ne _ _ (by decide)),setS h.c4,setO h.c5 (ne _ _ (by decide)),setO h.c6 (ne _ _ (by decide)),setO h.c7 (ne _ _ (by decide)),setO h.c8 (ne _ _ (by decide)),setO h.c9 (ne _ _ (by decide)),fun o=>by simp only[World.frozen?_setCell];exact h.fz o,h.gb,h.ob,by have:=h.lt;simpa using this,h.ty.set _ _⟩
theorem NdBox.set5 {G b:Nat} {w:World} {nv:Value} {t:Nd} (h:NdBox G w nv b t) (v:ByteArray):NdBox G (w.setCell ⟨b,5,none⟩ (.string v)) nv b { t with nm:=v }:=by
 have ne : ∀a c:Nat,a≠c→(⟨b,a,none⟩:Addr)≠⟨b,c,none⟩:=fun a c hab e=>by injection e with _ e2 _;exact hab e2
 exact⟨setO h.c0 (ne _ _ (by decide)),setO h.c1 (ne _ _ (by decide)),setO h.c2 (ne _ _ (by decide)),setO h.c3 (ne _ _ (by decide)),setO h.c4 (ne _ _ (by decide)),setS h.c5,setO h.c6 (ne _ _ (by decide)),setO h.c7 (ne _ _ (by decide)),setO h.c8 (ne _ _ (by decide)),setO h.c9 (ne _ _ (by decide)),fun o=>by simp only[World.frozen?_setCell];exact h.fz o,h.gb,h.ob,by have:=h.lt;simpa using this,h.ty.set _ _⟩
theorem NdBox.set6 {G b:Nat} {w:World} {nv:Value} {t:Nd} (h:NdBox G w nv b t) (v:ByteArray):NdBox G (w.setCell ⟨b,6,none⟩ (.string v)) nv b { t with x:=v }:=by
 have ne : ∀a c:Nat,a≠c→(⟨b,a,none⟩:Addr)≠⟨b,c,none⟩:=fun a c hab e=>by injection e with _ e2 _;exact hab e2
 exact⟨setO h.c0 (ne _ _ (by decide)),setO h.c1 (ne _ _ (by decide)),setO h.c2 (ne _ _ (by decide)),setO h.c3 (ne _ _ (by decide)),setO h.c4 (ne _ _ (by decide)),setO h.c5 (ne _ _ (by decide)),setS h.c6,setO h.c7 (ne _ _ (by decide)),setO h.c8 (ne _ _ (by decide)),setO h.c9 (ne _ _ (by decide)),fun o=>by simp only[World.frozen?_setCell];exact h.fz o,h.gb,h.ob,by have:=h.lt;simpa using this,h.ty.set _ _⟩
theorem NdBox.set7 {G b:Nat} {w:World} {nv:Value} {t:Nd} (h:NdBox G w nv b t) (v:ByteArray):NdBox G (w.setCell ⟨b,7,none⟩ (.string v)) nv b { t with y:=v }:=by
 have ne : ∀a c:Nat,a≠c→(⟨b,a,none⟩:Addr)≠⟨b,c,none⟩:=fun a c hab e=>by injection e with _ e2 _;exact hab e2
 exact⟨setO h.c0 (ne _ _ (by decide)),setO h.c1 (ne _ _ (by decide)),setO h.c2 (ne _ _ (by decide)),setO h.c3 (ne _ _ (by decide)),setO h.c4 (ne _ _ (by decide)),setO h.c5 (ne _ _ (by decide)),setO h.c6 (ne _ _ (by decide)),setS h.c7,setO h.c8 (ne _ _ (by decide)),setO h.c9 (ne _ _ (by decide)),fun o=>by simp only[World.frozen?_setCell];exact h.fz o,h.gb,h.ob,by have:=h.lt;simpa using this,h.ty.set _ _⟩
theorem NdBox.set8 {G b:Nat} {w:World} {nv:Value} {t:Nd} (h:NdBox G w nv b t) (v:ByteArray):NdBox G (w.setCell ⟨b,8,none⟩ (.string v)) nv b { t with z:=v }:=by
 have ne : ∀a c:Nat,a≠c→(⟨b,a,none⟩:Addr)≠⟨b,c,none⟩:=fun a c hab e=>by injection e with _ e2 _;exact hab e2
 exact⟨setO h.c0 (ne _ _ (by decide)),setO h.c1 (ne _ _ (by decide)),setO h.c2 (ne _ _ (by decide)),setO h.c3 (ne _ _ (by decide)),setO h.c4 (ne _ _ (by decide)),setO h.c5 (ne _ _ (by decide)),setO h.c6 (ne _ _ (by decide)),setO h.c7 (ne _ _ (by decide)),setS h.c8,setO h.c9 (ne _ _ (by decide)),fun o=>by simp only[World.frozen?_setCell];exact h.fz o,h.gb,h.ob,by have:=h.lt;simpa using this,h.ty.set _ _⟩
open Go.RowKit
theorem Stp.store {G:Nat} {w W:World} {nv nv':Value} (h:Stp G w nv W nv') {b:Nat} (hb:w.heap.size≤b) (o:Nat) (v:Value):Stp G w nv (W.setCell ⟨b,o,none⟩ v) nv':=
 ⟨h.1.trans (Bar.set (S:=fun k=>k=b) ⟨b,o,none⟩ v rfl) fun k hk e=>by omega,h.2⟩
theorem fun_eq {ts:List Tk} {en:Int} {e:PS→Except PE (Nat × PS)} {beg:Int} {R:Except PE PS} {x:ByteArray} {a:Int} (hv1 : ∀y st',(R >>= nameP ts en)= .ok (y,st')→x=y) (hv3 : ∀n st',((stX (R >>= nameP ts en) >>= wantP ts en sgArrow) >>= e)= .ok (n,st')→a=(n:Nat)) :
  (stX ((stX (R >>= nameP ts en) >>= wantP ts en sgArrow) >>= e) >>= putP ts en ⟨3,a,0,0,0,ba0,x,ba0,ba0,beg⟩)=(R >>= funP ts en e beg):=by
 cases R with
 | error _=>rfl
 | ok st=>
  have h1:(Except.ok st >>= nameP ts en)=nameP ts en st:=rfl
  have h2:(Except.ok st >>= funP ts en e beg)=funP ts en e beg st:=rfl
  rw[h1] at hv1 hv3 ⊢
  rw[h2];unfold funP
  cases hn:nameP ts en st with
  | error er=>rfl
  | ok y=>
   obtain⟨y,s1⟩:=y
   rw[hn] at hv3
   obtain rfl:=hv1 _ _ hn
   have h3:(stX (Except.ok (x,s1):Except PE (ByteArray × PS)) >>= wantP ts en sgArrow)=wantP ts en sgArrow s1:=rfl
   rw[h3] at hv3 ⊢
   show _=(wantP ts en sgArrow s1 >>= fun st=>e st >>= fun a=>putP ts en ⟨3,(a.1:Nat),0,0,0,ba0,x,ba0,ba0,beg⟩ a.2)
   cases hw:wantP ts en sgArrow s1 with
   | error er=>rfl
   | ok s2=>
    rw[hw] at hv3
    have h4 : ∀ {β:Type} (f:PS→Except PE β),(Except.ok s2 >>= f)=f s2:=fun f=>rfl
    rw[h4] at hv3 ⊢
    rw[h4]
    cases he:e s2 with
    | error er=>rfl
    | ok n=>
     obtain⟨n,s3⟩:=n
     obtain rfl:=hv3 _ _ he
     rfl
open Go.RowKit
theorem plet_eq {ts:List Tk} {en:Int} {e:PS→Except PE (Nat × PS)} {beg:Int} {R:Except PE PS} {x1:ByteArray} {a3:Int} {a5:Int} (hv1 : ∀y st',(R >>= nameP ts en)= .ok (y,st')→x1=y) (hv3 : ∀n st',(((stX (R >>= nameP ts en)) >>= wantP ts en sgEq) >>= e)= .ok (n,st')→a3=(n:Nat)) (hv5 : ∀n st',(((stX (((stX (R >>= nameP ts en)) >>= wantP ts en sgEq) >>= e)) >>= wantP ts en kwIn) >>= e)= .ok (n,st')→a5=(n:Nat)) :
  ((stX (((stX (((stX (R >>= nameP ts en)) >>= wantP ts en sgEq) >>= e)) >>= wantP ts en kwIn) >>= e)) >>= putP ts en ⟨5,a3,a5,0,0,⟨#[]⟩,x1,⟨#[]⟩,⟨#[]⟩,beg⟩)=(R >>= letP ts en e beg):=by
 rcases R with _|st
 ·rfl
 simp only[bind,Except.bind,stX] at hv1 hv3 hv5 ⊢
 simp only[letP,bind,Except.bind]
 rcases h1:nameP ts en st with _|⟨y1,s1⟩
 ·simp only[h1]
 simp only[h1]
 try simp only[h1] at hv1
 try simp only[h1] at hv3
 try simp only[h1] at hv5
 obtain rfl:=hv1 _ _ rfl
 rcases h2:wantP ts en sgEq s1 with _|s2
 ·simp only[h2]
 simp only[h2]
 try simp only[h2] at hv3
 try simp only[h2] at hv5
 rcases h3:e s2 with _|⟨y3,s3⟩
 ·simp only[h3]
 simp only[h3]
 try simp only[h3] at hv3
 try simp only[h3] at hv5
 obtain rfl:=hv3 _ _ rfl
 rcases h4:wantP ts en kwIn s3 with _|s4
 ·simp only[h4]
 simp only[h4]
 try simp only[h4] at hv5
 rcases h5:e s4 with _|⟨y5,s5⟩
 ·simp only[h5]
 simp only[h5]
 try simp only[h5] at hv5
 obtain rfl:=hv5 _ _ rfl
 first|rfl|done
theorem pif_eq {ts:List Tk} {en:Int} {e:PS→Except PE (Nat × PS)} {beg:Int} {R:Except PE PS} {a1:Int} {a3:Int} {a5:Int} (hv1 : ∀n st',(R >>= e)= .ok (n,st')→a1=(n:Nat)) (hv3 : ∀n st',(((stX (R >>= e)) >>= wantP ts en kwThen) >>= e)= .ok (n,st')→a3=(n:Nat)) (hv5 : ∀n st',(((stX (((stX (R >>= e)) >>= wantP ts en kwThen) >>= e)) >>= wantP ts en kwElse) >>= e)= .ok (n,st')→a5=(n:Nat)) :
  ((stX (((stX (((stX (R >>= e)) >>= wantP ts en kwThen) >>= e)) >>= wantP ts en kwElse) >>= e)) >>= putP ts en ⟨7,a1,a3,a5,0,⟨#[]⟩,⟨#[]⟩,⟨#[]⟩,⟨#[]⟩,beg⟩)=(R >>= ifP ts en e beg):=by
 rcases R with _|st
 ·rfl
 simp only[bind,Except.bind,stX] at hv1 hv3 hv5 ⊢
 simp only[ifP,bind,Except.bind]
 rcases h1:e st with _|⟨y1,s1⟩
 ·simp only[h1]
 simp only[h1]
 try simp only[h1] at hv1
 try simp only[h1] at hv3
 try simp only[h1] at hv5
 obtain rfl:=hv1 _ _ rfl
 rcases h2:wantP ts en kwThen s1 with _|s2
 ·simp only[h2]
 simp only[h2]
 try simp only[h2] at hv3
 try simp only[h2] at hv5
 rcases h3:e s2 with _|⟨y3,s3⟩
 ·simp only[h3]
 simp only[h3]
 try simp only[h3] at hv3
 try simp only[h3] at hv5
 obtain rfl:=hv3 _ _ rfl
 rcases h4:wantP ts en kwElse s3 with _|s4
 ·simp only[h4]
 simp only[h4]
 try simp only[h4] at hv5
 rcases h5:e s4 with _|⟨y5,s5⟩
 ·simp only[h5]
 simp only[h5]
 try simp only[h5] at hv5
 obtain rfl:=hv5 _ _ rfl
 first|rfl|done
theorem prec_eq {ts:List Tk} {en:Int} {e:PS→Except PE (Nat × PS)} {beg:Int} {R:Except PE PS} {x1:ByteArray} {x2:ByteArray} {a4:Int} {a6:Int} (hv1 : ∀y st',(R >>= nameP ts en)= .ok (y,st')→x1=y) (hv2 : ∀y st',((stX (R >>= nameP ts en)) >>= nameP ts en)= .ok (y,st')→x2=y) (hv4 : ∀n st',(((stX ((stX (R >>= nameP ts en)) >>= nameP ts en)) >>= wantP ts en sgEq) >>= e)= .ok (n,st')→a4=(n:Nat)) (hv6 : ∀n st',(((stX (((stX ((stX (R >>= nameP ts en)) >>= nameP ts en)) >>= wantP ts en sgEq) >>= e)) >>= wantP ts en kwIn) >>= e)= .ok (n,st')→a6=(n:Nat)) :
  ((stX (((stX (((stX ((stX (R >>= nameP ts en)) >>= nameP ts en)) >>= wantP ts en sgEq) >>= e)) >>= wantP ts en kwIn) >>= e)) >>= putP ts en ⟨6,a4,a6,0,0,⟨#[]⟩,x1,x2,⟨#[]⟩,beg⟩)=(R >>= recP ts en e beg):=by
 rcases R with _|st
 ·rfl
 simp only[bind,Except.bind,stX] at hv1 hv2 hv4 hv6 ⊢
 simp only[recP,bind,Except.bind]
 rcases h1:nameP ts en st with _|⟨y1,s1⟩
 ·simp only[h1]
 simp only[h1]
 try simp only[h1] at hv1
 try simp only[h1] at hv2
 try simp only[h1] at hv4
 try simp only[h1] at hv6
 obtain rfl:=hv1 _ _ rfl
 rcases h2:nameP ts en s1 with _|⟨y2,s2⟩
 ·simp only[h2]
 simp only[h2]
 try simp only[h2] at hv2
 try simp only[h2] at hv4
 try simp only[h2] at hv6
 obtain rfl:=hv2 _ _ rfl
 rcases h3:wantP ts en sgEq s2 with _|s3
 ·simp only[h3]
 simp only[h3]
 try simp only[h3] at hv4
 try simp only[h3] at hv6
 rcases h4:e s3 with _|⟨y4,s4⟩
 ·simp only[h4]
 simp only[h4]
 try simp only[h4] at hv4
 try simp only[h4] at hv6
 obtain rfl:=hv4 _ _ rfl
 rcases h5:wantP ts en kwIn s4 with _|s5
 ·simp only[h5]
 simp only[h5]
 try simp only[h5] at hv6
 rcases h6:e s5 with _|⟨y6,s6⟩
 ·simp only[h6]
 simp only[h6]
 try simp only[h6] at hv6
 obtain rfl:=hv6 _ _ rfl
 first|rfl|done
theorem phandle_eq {ts:List Tk} {en:Int} {e:PS→Except PE (Nat × PS)} {beg:Int} {R:Except PE PS} {a1:Int} {x3:ByteArray} {x4:ByteArray} {x5:ByteArray} {a7:Int} {x9:ByteArray} {a11:Int} (hv1 : ∀n st',(R >>= e)= .ok (n,st')→a1=(n:Nat)) (hv3 : ∀y st',(((stX (R >>= e)) >>= wantP ts en kwWith) >>= nameP ts en)= .ok (y,st')→x3=y) (hv4 : ∀y st',((stX (((stX (R >>= e)) >>= wantP ts en kwWith) >>= nameP ts en)) >>= nameP ts en)= .ok (y,st')→x4=y) (hv5 : ∀y st',((stX ((stX (((stX (R >>= e)) >>= wantP ts en kwWith) >>= nameP ts en)) >>= nameP ts en)) >>= nameP ts en)= .ok (y,st')→x5=y) (hv7 : ∀n st',(((stX ((stX ((stX (((stX (R >>= e)) >>= wantP ts en kwWith) >>= nameP ts en)) >>= nameP ts en)) >>= nameP ts en)) >>= wantP ts en sgArrow) >>= e)= .ok (n,st')→a7=(n:Nat)) (hv9 : ∀y st',(((stX (((stX ((stX ((stX (((stX (R >>= e)) >>= wantP ts en kwWith) >>= nameP ts en)) >>= nameP ts en)) >>= nameP ts en)) >>= wantP ts en sgArrow) >>= e)) >>= wantP ts en kwReturn) >>= nameP ts en)= .ok (y,st')→x9=y) (hv11 : ∀n st',(((stX (((stX (((stX ((stX ((stX (((stX (R >>= e)) >>= wantP ts en kwWith) >>= nameP ts en)) >>= nameP ts en)) >>= nameP ts en)) >>= wantP ts en sgArrow) >>= e)) >>= wantP ts en kwReturn) >>= nameP ts en)) >>= wantP ts en sgArrow) >>= e)= .ok (n,st')→a11=(n:Nat)) :
  (((stX (((stX (((stX (((stX ((stX ((stX (((stX (R >>= e)) >>= wantP ts en kwWith) >>= nameP ts en)) >>= nameP ts en)) >>= nameP ts en)) >>= wantP ts en sgArrow) >>= e)) >>= wantP ts en kwReturn) >>= nameP ts en)) >>= wantP ts en sgArrow) >>= e)) >>= wantP ts en kwEnd) >>= putP ts en ⟨10,a1,a7,a11,0,x3,x4,x5,x9,beg⟩)=(R >>= handleP ts en e beg):=by
 rcases R with _|st
 ·rfl
 simp only[bind,Except.bind,stX] at hv1 hv3 hv4 hv5 hv7 hv9 hv11 ⊢
 simp only[handleP,bind,Except.bind]
 rcases h1:e st with _|⟨y1,s1⟩
 ·simp only[h1]
 simp only[h1]
 try simp only[h1] at hv1
 try simp only[h1] at hv3
 try simp only[h1] at hv4
 try simp only[h1] at hv5
 try simp only[h1] at hv7
 try simp only[h1] at hv9
 try simp only[h1] at hv11
 obtain rfl:=hv1 _ _ rfl
 rcases h2:wantP ts en kwWith s1 with _|s2
 ·simp only[h2]
 simp only[h2]
 try simp only[h2] at hv3
 try simp only[h2] at hv4
 try simp only[h2] at hv5
 try simp only[h2] at hv7
 try simp only[h2] at hv9
 try simp only[h2] at hv11
 rcases h3:nameP ts en s2 with _|⟨y3,s3⟩
 ·simp only[h3]
 simp only[h3]
 try simp only[h3] at hv3
 try simp only[h3] at hv4
 try simp only[h3] at hv5
 try simp only[h3] at hv7
 try simp only[h3] at hv9
 try simp only[h3] at hv11
 obtain rfl:=hv3 _ _ rfl
 rcases h4:nameP ts en s3 with _|⟨y4,s4⟩
 ·simp only[h4]
 simp only[h4]
 try simp only[h4] at hv4
 try simp only[h4] at hv5
 try simp only[h4] at hv7
 try simp only[h4] at hv9
 try simp only[h4] at hv11
 obtain rfl:=hv4 _ _ rfl
 rcases h5:nameP ts en s4 with _|⟨y5,s5⟩
 ·simp only[h5]
 simp only[h5]
 try simp only[h5] at hv5
 try simp only[h5] at hv7
 try simp only[h5] at hv9
 try simp only[h5] at hv11
 obtain rfl:=hv5 _ _ rfl
 rcases h6:wantP ts en sgArrow s5 with _|s6
 ·simp only[h6]
 simp only[h6]
 try simp only[h6] at hv7
 try simp only[h6] at hv9
 try simp only[h6] at hv11
 rcases h7:e s6 with _|⟨y7,s7⟩
 ·simp only[h7]
 simp only[h7]
 try simp only[h7] at hv7
 try simp only[h7] at hv9
 try simp only[h7] at hv11
 obtain rfl:=hv7 _ _ rfl
 rcases h8:wantP ts en kwReturn s7 with _|s8
 ·simp only[h8]
 simp only[h8]
 try simp only[h8] at hv9
 try simp only[h8] at hv11
 rcases h9:nameP ts en s8 with _|⟨y9,s9⟩
 ·simp only[h9]
 simp only[h9]
 try simp only[h9] at hv9
 try simp only[h9] at hv11
 obtain rfl:=hv9 _ _ rfl
 rcases h10:wantP ts en sgArrow s9 with _|s10
 ·simp only[h10]
 simp only[h10]
 try simp only[h10] at hv11
 rcases h11:e s10 with _|⟨y11,s11⟩
 ·simp only[h11]
 simp only[h11]
 try simp only[h11] at hv11
 obtain rfl:=hv11 _ _ rfl
 rcases h12:wantP ts en kwEnd s11 with _|s12
 ·simp only[h12]
 simp only[h12]
 first|rfl|done
open Go.RowKit
def startsX (ts:List Tk) (R:Except PE PS):Bool:=match R with
 | .ok st=>startsP ts st.i
 | .error _=>false
theorem start_eq (ts:List Tk) (en:Int) (R:Except PE PS):startsX ts R=((peekX ts en R).kind==0 || (peekX ts en R).kind==1 || isX ts R kwTrue || isX ts R kwFalse || isX ts R sgOpen || isX ts R kwHandle):=by
 cases R with
 | error e=>rfl
 | ok st=>
  show startsP ts st.i=(_ || _ || isP ts st.i kwTrue || isP ts st.i kwFalse || isP ts st.i sgOpen || isP ts st.i kwHandle)
  rw[peek_ok]
  unfold startsP
  cases hg:ts[st.i]? with
  | some t=>rfl
  | none=>
   have e : ∀u,isP ts st.i u=false:=fun u=>by unfold isP;rw[hg]
   simp only[e];rfl
open Go.RowKit
section
variable {ts : List Tk} {en : Int} {e : PS → Except PE (Nat × PS)} {R : Except PE PS}
theorem at_some {st:PS} {t:Tk} (hg:ts[st.i]? = some t):(Except.ok st >>= atomP ts en e)=(if t.kind=0 then putP ts en ⟨0,0,0,0,0,bs t.text,ba0,ba0,ba0,t.at_⟩ ⟨st.i+1,st.ns⟩
  else if t.kind=1 then putP ts en ⟨1,0,0,0,t.num,ba0,ba0,ba0,ba0,t.at_⟩ ⟨st.i+1,st.ns⟩
  else if isP ts st.i kwTrue then putP ts en ⟨2,0,0,0,1,ba0,ba0,ba0,ba0,t.at_⟩ ⟨st.i+1,st.ns⟩
  else if isP ts st.i kwFalse then putP ts en ⟨2,0,0,0,0,ba0,ba0,ba0,ba0,t.at_⟩ ⟨st.i+1,st.ns⟩
  else if isP ts st.i sgOpen then (do
   let (a,st) ← e ⟨st.i+1,st.ns⟩
   let st ← wantP ts en sgShut st
   .ok (a,st))
  else if isP ts st.i kwHandle then handleP ts en e t.at_ ⟨st.i+1,st.ns⟩
  else .error (403,hereP ts en st.i)):=by
 show atomP ts en e st=_
 unfold atomP
 rw[hg]
theorem at_peek {t:Tk} (hp:peekX ts en R=t) (hk:t.kind ≠ -1) : ∃st,R= .ok st∧ts[st.i]? = some t:=by
 cases R with
 | error e=>exact absurd (hp▸rfl) hk
 | ok st=>
  rw[peek_ok] at hp
  cases hg:ts[st.i]? with
  | none=>rw[hg] at hp;exact absurd (hp▸rfl) hk
  | some u=>rw[hg] at hp;exact⟨st,rfl,by rw[hg];exact congrArg some hp⟩
theorem at_is {t:Tk} {u:List UInt8} (hp:peekX ts en R=t) (hu:isX ts R u=true) : ∃st,R= .ok st∧ts[st.i]? = some t∧isP ts st.i u=true∧takeX ts R u= .ok ⟨st.i+1,st.ns⟩:=by
 obtain⟨st,rfl,hi,hx⟩:=isX_ok hu
 rw[peek_ok,List.getElem?_eq_getElem hi] at hp
 exact⟨st,rfl,by rw[List.getElem?_eq_getElem hi];exact congrArg some hp,hu,hx⟩
theorem at0 {t:Tk} (hp:peekX ts en R=t) (hk:t.kind=0) : ∃st,R= .ok st∧st.i<ts.length∧(R >>= atomP ts en e)=putP ts en ⟨0,0,0,0,0,bs t.text,⟨#[]⟩,⟨#[]⟩,⟨#[]⟩,t.at_⟩ ⟨st.i+1,st.ns⟩:=by
 obtain⟨st,rfl,hg⟩:=at_peek hp (by rw[hk];decide)
 exact⟨st,rfl,(List.getElem?_eq_some_iff.1 hg).1,by rw[at_some hg,if_pos hk];rfl⟩
theorem at1 {t:Tk} (hp:peekX ts en R=t) (hk:t.kind=1) : ∃st,R= .ok st∧st.i<ts.length∧(R >>= atomP ts en e)=putP ts en ⟨1,0,0,0,t.num,⟨#[]⟩,⟨#[]⟩,⟨#[]⟩,⟨#[]⟩,t.at_⟩ ⟨st.i+1,st.ns⟩:=by
 obtain⟨st,rfl,hg⟩:=at_peek hp (by rw[hk];decide)
 exact⟨st,rfl,(List.getElem?_eq_some_iff.1 hg).1,by rw[at_some hg,if_neg (by rw[hk];decide),if_pos hk];rfl⟩
theorem at2 {t:Tk} (hp:peekX ts en R=t) (h0:t.kind≠0) (h1:t.kind≠1) (h2:isX ts R kwTrue=true):(R >>= atomP ts en e)=(takeX ts R kwTrue >>= putP ts en ⟨2,0,0,0,1,⟨#[]⟩,⟨#[]⟩,⟨#[]⟩,⟨#[]⟩,t.at_⟩):=by
 obtain⟨st,rfl,hg,hu,hx⟩:=at_is hp h2
 rw[hx,at_some hg,if_neg h0,if_neg h1,if_pos hu];rfl
theorem at3 {t:Tk} (hp:peekX ts en R=t) (h0:t.kind≠0) (h1:t.kind≠1) (h2:isX ts R kwTrue=false) (h3:isX ts R kwFalse=true):(R >>= atomP ts en e)=(takeX ts R kwFalse >>= putP ts en ⟨2,0,0,0,0,⟨#[]⟩,⟨#[]⟩,⟨#[]⟩,⟨#[]⟩,t.at_⟩):=by
 obtain⟨st,rfl,hg,hu,hx⟩:=at_is hp h3
 have h2:isP ts st.i kwTrue=false:=h2
 rw[hx,at_some hg,if_neg h0,if_neg h1,if_neg (by rw[h2];decide),if_pos hu];rfl
theorem at4 {t:Tk} (hp:peekX ts en R=t) (h0:t.kind≠0) (h1:t.kind≠1) (h2:isX ts R kwTrue=false) (h3:isX ts R kwFalse=false) (h4:isX ts R sgOpen=true):(R >>= atomP ts en e)=((takeX ts R sgOpen >>= e) >>= fun p=>wantP ts en sgShut p.2 >>= fun s=> .ok (p.1,s)):=by
 obtain⟨st,rfl,hg,hu,hx⟩:=at_is hp h4
 have h2:isP ts st.i kwTrue=false:=h2
 have h3:isP ts st.i kwFalse=false:=h3
 rw[hx,at_some hg,if_neg h0,if_neg h1,if_neg (by rw[h2];decide),if_neg (by rw[h3];decide),if_pos hu];rfl
theorem at5 {t:Tk} (hp:peekX ts en R=t) (h0:t.kind≠0) (h1:t.kind≠1) (h2:isX ts R kwTrue=false) (h3:isX ts R kwFalse=false) (h4:isX ts R sgOpen=false) (h5:isX ts R kwHandle=true):(R >>= atomP ts en e)=(takeX ts R kwHandle >>= handleP ts en e t.at_):=by
 obtain⟨st,rfl,hg,hu,hx⟩:=at_is hp h5
 have h2:isP ts st.i kwTrue=false:=h2
 have h3:isP ts st.i kwFalse=false:=h3
 have h4:isP ts st.i sgOpen=false:=h4
 rw[hx,at_some hg,if_neg h0,if_neg h1,if_neg (by rw[h2];decide),if_neg (by rw[h3];decide),if_neg (by rw[h4];decide),if_pos hu];rfl
theorem at6 {t:Tk} (hp:peekX ts en R=t) (h0:t.kind≠0) (h1:t.kind≠1) (h2:isX ts R kwTrue=false) (h3:isX ts R kwFalse=false) (h4:isX ts R sgOpen=false) (h5:isX ts R kwHandle=false):stX (R >>= atomP ts en e)=failX ts en R 403∧ ∀x st',(R >>= atomP ts en e) ≠ .ok (x,st'):=by
 cases R with
 | error e=>exact⟨rfl,fun x st' hc=>by cases hc⟩
 | ok st=>
  have h2:isP ts st.i kwTrue=false:=h2
  have h3:isP ts st.i kwFalse=false:=h3
  have h4:isP ts st.i sgOpen=false:=h4
  have h5:isP ts st.i kwHandle=false:=h5
  have k:(Except.ok st >>= atomP ts en e)= .error (403,hereP ts en st.i):=by
   cases hg:ts[st.i]? with
   | none=>show atomP ts en e st=_;unfold atomP;rw[hg]
   | some u=>
    have hu:u=t:=by rw[peek_ok,hg] at hp;exact hp
    subst hu
    rw[at_some hg,if_neg h0,if_neg h1,if_neg (by rw[h2];decide),if_neg (by rw[h3];decide),if_neg (by rw[h4];decide),if_neg (by rw[h5];decide)]
  rw[k]
  exact⟨rfl,fun x st' hc=>by cases hc⟩
theorem shut_st {R':Except PE (Nat × PS)}:stX (R' >>= fun p=>wantP ts en sgShut p.2 >>= fun s=>(Except.ok (p.1,s):Except PE (Nat × PS)))=(stX R' >>= wantP ts en sgShut):=by
 cases R' with
 | error e=>rfl
 | ok p=>
  show stX (wantP ts en sgShut p.2 >>= _)=wantP ts en sgShut p.2
  cases wantP ts en sgShut p.2<;>rfl
theorem shut_ok {R':Except PE (Nat × PS)} {x:Nat} {st':PS} (h:(R' >>= fun p=>wantP ts en sgShut p.2 >>= fun s=>(Except.ok (p.1,s):Except PE (Nat × PS)))= .ok (x,st')) : ∃s,R'= .ok (x,s):=by
 cases R' with
 | error e=>cases h
 | ok p=>
  obtain⟨a,s⟩:=p
  have h':(wantP ts en sgShut s >>= fun u=>(Except.ok (a,u):Except PE (Nat × PS)))= .ok (x,st'):=h
  cases hw:wantP ts en sgShut s with
  | error e=>rw[hw] at h';cases h'
  | ok u=>
   rw[hw] at h'
   have h2:(Except.ok (a,u):Except PE (Nat × PS))= .ok (x,st'):=h'
   injection h2 with h2
   injection h2 with h2 _
   exact⟨s,by rw[h2]⟩
end
open Go.RowKit
structure TkB (G:Nat) (w:World) (g:Nat) (t:Tk):Prop where
 c0:w.cell? ⟨g,0,none⟩=some (.int .i64 t.kind)
 c1:w.cell? ⟨g,1,none⟩=some (.string (bs t.text))
 c2:w.cell? ⟨g,2,none⟩=some (.int .i64 t.num)
 c3:w.cell? ⟨g,3,none⟩=some (.int .i64 t.at_)
 gb:g≠G
 lt:g<w.heap.size
theorem TkB.step {G g:Nat} {w w':World} {t:Tk} (h:TkB G w g t) (hb:Bar (fun k=>k=G) w w'):TkB G w' g t:=
 ⟨hb.cell h.c0 h.gb,hb.cell h.c1 h.gb,hb.cell h.c2 h.gb,hb.cell h.c3 h.gb,h.gb,by have:=hb.size;have:=h.lt;omega⟩
theorem TkB.new (G:Nat) (w:World) (t:Tk) (hG:G<w.heap.size):TkB G (w.alloc (.cells #[.int .i64 t.kind, .string (bs t.text), .int .i64 t.num, .int .i64 t.at_] 114)) w.heap.size t:=by
 refine⟨?_, ?_, ?_, ?_,by omega,by simp⟩<;>(rw[World.cell?_alloc_at _ _ _ _ rfl];rfl)
open Go.RowKit
def doP (ts:List Tk) (en:Int) (e:PS→Except PE (Nat × PS)) (beg:Int) (st:PS):Except PE (Nat × PS):=do
 let (x,st) ← nameP ts en st
 let (a,st) ← e st
 putP ts en ⟨9,(a:Nat),0,0,0,x,ba0,ba0,ba0,beg⟩ st
theorem pdo_eq {ts:List Tk} {en:Int} {e:PS→Except PE (Nat × PS)} {beg:Int} {R:Except PE PS} {x1:ByteArray} {a2:Int} (hv1 : ∀y st',(R >>= nameP ts en)= .ok (y,st')→x1=y) (hv2 : ∀n st',((stX (R >>= nameP ts en)) >>= e)= .ok (n,st')→a2=(n:Nat)) :
  ((stX ((stX (R >>= nameP ts en)) >>= e)) >>= putP ts en ⟨9,a2,0,0,0,x1,⟨#[]⟩,⟨#[]⟩,⟨#[]⟩,beg⟩)=(R >>= doP ts en e beg):=by
 rcases R with _|st
 ·rfl
 simp only[bind,Except.bind,stX] at hv1 hv2 ⊢
 simp only[doP,bind,Except.bind]
 rcases h1:nameP ts en st with _|⟨y1,s1⟩
 ·simp only[h1]
 simp only[h1]
 try simp only[h1] at hv1
 try simp only[h1] at hv2
 obtain rfl:=hv1 _ _ rfl
 rcases h2:e s1 with _|⟨y2,s2⟩
 ·simp only[h2]
 simp only[h2]
 try simp only[h2] at hv2
 obtain rfl:=hv2 _ _ rfl
 first|rfl|done
theorem first_no {ts:List Tk} {en:Int} {e:PS→Except PE (Nat × PS)} {R:Except PE PS} (h:isX ts R kwDo=false):(R >>= firstP ts en e)=(R >>= atomP ts en e):=by
 cases R with
 | error e=>rfl
 | ok st=>
  have h:isP ts st.i kwDo=false:=h
  show firstP ts en e st=atomP ts en e st
  unfold firstP
  rw[if_neg (by rw[h];decide)]
theorem first_yes {ts:List Tk} {en:Int} {e:PS→Except PE (Nat × PS)} {R:Except PE PS} (h:isX ts R kwDo=true):(R >>= firstP ts en e)=(takeX ts R kwDo >>= doP ts en (atomP ts en e) (peekX ts en R).at_):=by
 obtain⟨st,rfl,hi,hx⟩:=isX_ok h
 have h:isP ts st.i kwDo=true:=h
 rw[hx,peek_here]
 show firstP ts en e st=_
 unfold firstP
 rw[if_pos h]
 rfl
open Go.RowKit
def primV (ts:List Tk) (en:Int) (num at_ l:Int) (o:PS→Except PE (Nat × PS)) (st:PS):Except PE (Nat × PS):=do
 let (b,st) ← o st
 putP ts en ⟨8,l,(b:Nat),0,num,ba0,ba0,ba0,ba0,at_⟩ st
theorem prim_eq {ts:List Tk} {en:Int} {o:PS→Except PE (Nat × PS)} {num at_ l a:Int} {R:Except PE PS} (hv : ∀n st',(R >>= o)= .ok (n,st')→a=(n:Nat)):(stX (R >>= o) >>= putP ts en ⟨8,l,a,0,num,⟨#[]⟩,⟨#[]⟩,⟨#[]⟩,⟨#[]⟩,at_⟩)=(R >>= primV ts en num at_ l o):=by
 rcases R with _|st
 ·rfl
 simp only[bind,Except.bind,stX] at hv ⊢
 simp only[primV,bind,Except.bind]
 rcases h1:o st with _|⟨y,s⟩
 ·simp only[]
 simp only[]
 rw[h1] at hv
 obtain rfl:=hv _ _ rfl
 rfl
open Go.RowKit
open Go.RowKit
theorem base1 {ts:List Tk} {en:Int} {R:Except PE PS} (h:isX ts R kwInt=true) : ∃s,takeX ts R kwInt= .ok s∧(R >>= baseP ts en)= .ok (0,s):=by
 obtain⟨st,rfl,hi,hx⟩:=isX_ok h
 have h:isP ts st.i kwInt=true:=h
 exact⟨_,hx,by show baseP ts en st=_;unfold baseP;rw[if_pos h]⟩
open Go.RowKit
section
variable {B G : Nat} {tv : Value} {ts : List Tk} {en : Int} {ov : Value} {d : Int} {w : World} {nv : Value} {T : Except PE (Nat × PS)} {k : Nat} {z : Int} {wr : World} {nvr : Value} {Rr : Except PE (Nat × PS)} {e o : PS → Except PE (Nat × PS)} {beg : Int}
end
theorem rk_start {ts:List Tk} {en:Int} {o f:PS→Except PE (Nat × PS)} {R:Except PE PS} {u v:List UInt8} {nu nw:Int} (hf : ∀st,f st=(do
 let (l,st) ← o st
 rankLoop ts en u v nu nw o (ts.length+1) l st)):((R >>= o) >>= fun p=>rankLoop ts en u v nu nw o (ts.length+1) p.1 p.2)=(R >>= f):=by
 rcases R with _|st
 ·rfl
 show _=f st
 rw[hf]
 rfl
open Go.RowKit
open Go.RowKit
open Go.RowKit
section
variable {ts : List Tk} {en : Int} {e : PS → Except PE (Nat × PS)} {R : Except PE PS} {z : Int}
theorem cmp_u (hz : ∀n st,(R >>= sumP ts en e)= .ok (n,st)→z=(n:Nat)) (hu:isX ts (stX (R >>= sumP ts en e)) sgEq2=true):(takeX ts (stX (R >>= sumP ts en e)) sgEq2 >>= primV ts en 4 (peekX ts en (stX (R >>= sumP ts en e))).at_ z (sumP ts en e))=(R >>= compareP ts en e):=by
 rcases R with _|st
 ·cases hu
 have hz : ∀n s1,sumP ts en e st= .ok (n,s1)→z=(n:Nat):=hz
 have hu:isX ts (stX (sumP ts en e st)) sgEq2=true:=hu
 show (takeX ts (stX (sumP ts en e st)) sgEq2 >>= primV ts en 4 (peekX ts en (stX (sumP ts en e st))).at_ z (sumP ts en e))=compareP ts en e st
 unfold compareP
 rcases ha:sumP ts en e st with _|⟨n,s1⟩
 ·rw[ha] at hu;cases hu
 rw[ha] at hu
 obtain rfl:=hz _ _ ha
 have hu:isP ts s1.i sgEq2=true:=hu
 have hx0:takeX ts (stX (.ok (n,s1):Except PE (Nat × PS))) sgEq2= .ok ⟨s1.i+1,s1.ns⟩:=by
  show (if isP ts s1.i sgEq2 then _ else _)=_
  rw[if_pos hu]
 have hp0:(peekX ts en (stX (.ok (n,s1):Except PE (Nat × PS)))).at_=hereP ts en s1.i:=peek_here ts en s1
 rw[hx0,hp0]
 show primV ts en 4 (hereP ts en s1.i) n (sumP ts en e) ⟨s1.i+1,s1.ns⟩=(if isP ts s1.i sgEq2 then _ else _)
 rw[if_pos hu]
 rfl
theorem cmp_v (hz : ∀n st,(R >>= sumP ts en e)= .ok (n,st)→z=(n:Nat)) (hu:isX ts (stX (R >>= sumP ts en e)) sgEq2=false) (hv:isX ts (stX (R >>= sumP ts en e)) sgLess=true):(takeX ts (stX (R >>= sumP ts en e)) sgLess >>= primV ts en 5 (peekX ts en (stX (R >>= sumP ts en e))).at_ z (sumP ts en e))=(R >>= compareP ts en e):=by
 rcases R with _|st
 ·cases hv
 have hz : ∀n s1,sumP ts en e st= .ok (n,s1)→z=(n:Nat):=hz
 have hu:isX ts (stX (sumP ts en e st)) sgEq2=false:=hu
 have hv:isX ts (stX (sumP ts en e st)) sgLess=true:=hv
 show (takeX ts (stX (sumP ts en e st)) sgLess >>= primV ts en 5 (peekX ts en (stX (sumP ts en e st))).at_ z (sumP ts en e))=compareP ts en e st
 unfold compareP
 rcases ha:sumP ts en e st with _|⟨n,s1⟩
 ·rw[ha] at hv;cases hv
 rw[ha] at hu hv
 obtain rfl:=hz _ _ ha
 have hu:isP ts s1.i sgEq2=false:=hu
 have hv:isP ts s1.i sgLess=true:=hv
 have hx0:takeX ts (stX (.ok (n,s1):Except PE (Nat × PS))) sgLess= .ok ⟨s1.i+1,s1.ns⟩:=by
  show (if isP ts s1.i sgLess then _ else _)=_
  rw[if_pos hv]
 have hp0:(peekX ts en (stX (.ok (n,s1):Except PE (Nat × PS)))).at_=hereP ts en s1.i:=peek_here ts en s1
 rw[hx0,hp0]
 show primV ts en 5 (hereP ts en s1.i) n (sumP ts en e) ⟨s1.i+1,s1.ns⟩=(if isP ts s1.i sgEq2 then _ else if isP ts s1.i sgLess then _ else _)
 rw[if_neg (by rw[hu];decide),if_pos hv]
 rfl
theorem cmp_end (hu:isX ts (stX (R >>= sumP ts en e)) sgEq2=false) (hv:isX ts (stX (R >>= sumP ts en e)) sgLess=false):(R >>= sumP ts en e)=(R >>= compareP ts en e):=by
 rcases R with _|st
 ·rfl
 have hu:isX ts (stX (sumP ts en e st)) sgEq2=false:=hu
 have hv:isX ts (stX (sumP ts en e st)) sgLess=false:=hv
 show sumP ts en e st=compareP ts en e st
 unfold compareP
 rcases ha:sumP ts en e st with _|⟨n,s1⟩
 ·rfl
 rw[ha] at hu hv
 have hu:isP ts s1.i sgEq2=false:=hu
 have hv:isP ts s1.i sgLess=false:=hv
 show _=(if isP ts s1.i sgEq2 then _ else if isP ts s1.i sgLess then _ else _)
 rw[if_neg (by rw[hu];decide),if_neg (by rw[hv];decide)]
theorem op_fun (h0:isX ts R kwFun=true):(takeX ts R kwFun >>= funP ts en e (peekX ts en R).at_)=(R >>= openP ts en e):=by
 obtain⟨st,rfl,_,hx⟩:=isX_ok h0
 have h0:isP ts st.i kwFun=true:=h0
 rw[hx,peek_here]
 show _=openP ts en e st
 unfold openP
 rw[if_pos h0]
 rfl
theorem op_rec (h0:isX ts R kwFun=false) (h1:isX ts R kwLet=true) (h2:isX ts (takeX ts R kwLet) kwRec=true):(takeX ts (takeX ts R kwLet) kwRec >>= recP ts en e (peekX ts en R).at_)=(R >>= openP ts en e):=by
 obtain⟨st,rfl,_,hx⟩:=isX_ok h1
 have h0:isP ts st.i kwFun=false:=h0
 have h1:isP ts st.i kwLet=true:=h1
 rw[hx] at h2 ⊢
 have h2:isP ts (st.i+1) kwRec=true:=h2
 have hx2:takeX ts (.ok ⟨st.i+1,st.ns⟩) kwRec= .ok ⟨st.i+2,st.ns⟩:=by
  show (if isP ts (st.i+1) kwRec then _ else _)=_
  rw[if_pos h2]
 rw[hx2,peek_here]
 show _=openP ts en e st
 unfold openP
 rw[if_neg (by rw[h0];decide),if_pos h1,if_pos h2]
 rfl
theorem op_let (h0:isX ts R kwFun=false) (h1:isX ts R kwLet=true) (h2:isX ts (takeX ts R kwLet) kwRec=false):(takeX ts R kwLet >>= letP ts en e (peekX ts en R).at_)=(R >>= openP ts en e):=by
 obtain⟨st,rfl,_,hx⟩:=isX_ok h1
 have h0:isP ts st.i kwFun=false:=h0
 have h1:isP ts st.i kwLet=true:=h1
 rw[hx] at h2 ⊢
 have h2:isP ts (st.i+1) kwRec=false:=h2
 rw[peek_here]
 show _=openP ts en e st
 unfold openP
 rw[if_neg (by rw[h0];decide),if_pos h1,if_neg (by rw[h2];decide)]
 rfl
theorem op_if (h0:isX ts R kwFun=false) (h1:isX ts R kwLet=false) (h2:isX ts R kwIf=true):(takeX ts R kwIf >>= ifP ts en e (peekX ts en R).at_)=(R >>= openP ts en e):=by
 obtain⟨st,rfl,_,hx⟩:=isX_ok h2
 have h0:isP ts st.i kwFun=false:=h0
 have h1:isP ts st.i kwLet=false:=h1
 have h2:isP ts st.i kwIf=true:=h2
 rw[hx,peek_here]
 show _=openP ts en e st
 unfold openP
 rw[if_neg (by rw[h0];decide),if_neg (by rw[h1];decide),if_pos h2]
 rfl
theorem op_cmp (h0:isX ts R kwFun=false) (h1:isX ts R kwLet=false) (h2:isX ts R kwIf=false):(R >>= compareP ts en e)=(R >>= openP ts en e):=by
 rcases R with _|st
 ·rfl
 have h0:isP ts st.i kwFun=false:=h0
 have h1:isP ts st.i kwLet=false:=h1
 have h2:isP ts st.i kwIf=false:=h2
 show _=openP ts en e st
 unfold openP
 rw[if_neg (by rw[h0];decide),if_neg (by rw[h1];decide),if_neg (by rw[h2];decide)]
 rfl
end
open Go.RowKit
theorem run_appO2 {W:World} (B:Nat) (hB:B≤W.heap.size) (ty:TypeId) (v:Value) (l:List Or) (hown:OwnO B W v l) (ad:Addr) (m c:Nat) (ys:List Or) (hm:m=ys.length) (hnews : ∀j u,(orL ys)[j]? = some u→W.cell? (ad.add j)=some u) (hlen:l.length+ys.length≤1000000) :
  ∃v' w',(Builtin.append_ #[22,22] ty #[v, .slice (some ad) m c]).run Tryz.prog W= .ok v' w'∧OwnO B w' v' (l++ys)∧Bar (fun k=>v.ownBlock=some k) W w'∧(∀g,v'.ownBlock=some g→v.ownBlock=some g∨W.heap.size≤g):=by
 subst hm
 obtain⟨i0,hi,hz0,hz1,hz2⟩:=info_parts infoOr
 obtain⟨v',w',hr,h1,h2,h3⟩:=run_append_own (P:=Tryz.prog) (w:=W) B 22 ty 54 i0 (.agg #[.string ByteArray.empty, .int .i64 0, .int .i64 0]) 3 32 Tryz.underlying22 hi hz0 hz1 hz2 rfl (by decide) v l.length (orL l) hown ad ys.length c (orL ys) (orL_len ys) hnews (orL_one ys) (by unfold maxLen;omega) (by omega) hB
 have h1':OwnO B w' v' (l++ys):=by unfold OwnO;rw[orL_app,List.length_append];exact h1
 have hbar:Bar (fun k=>v.ownBlock=some k) W w':=⟨h2.os,h2.tape,h2.output,h2.size,fun k hk hn=>h2.block k hk (fun e=>hn e.symm)⟩
 refine⟨v',w',hr,h1',hbar, ?_⟩
 rcases hown.2 with ⟨e1,e0⟩|⟨g,cap,cur,e1,hBg,hg,hc,hcm,hcs,htk⟩
 ·have hl0:l=[]:=List.eq_nil_of_length_eq_zero e0
  subst hl0;subst e1
  intro k hk
  by_cases h0:ys.length=0
  ·have:=h3.2 ⟨rfl,h0⟩;rw[this] at hk;cases hk
  ·have hr2:=run_append_nil (P:=Tryz.prog) W 22 ty 54 i0 (.agg #[.string ByteArray.empty, .int .i64 0, .int .i64 0]) Tryz.underlying22 hi hz0 ad ys.length c (orL ys) (by rw[orL_len,hz1]) hnews (by omega) (by omega) (by rw[hz2];omega)
   rw[hr] at hr2
   injection hr2 with e1 e2
   subst e1
   have hk:W.heap.size=k:=Option.some.inj hk
   exact .inr (by omega)
 ·subst e1
  by_cases hroom:l.length+ys.length≤cap
  ·have hfit:l.length*i0.size+(orL ys).length≤cur.size:=by
    rw[hz1,hcs,orL_len]
    have:=Nat.mul_le_mul_right 3 hroom
    rw[Nat.add_mul] at this;omega
   have hr2:=run_append_room (P:=Tryz.prog) W 22 ty 54 i0 Tryz.underlying22 hi g l.length cap cur hg ad ys.length c (orL ys) (by rw[orL_len,hz1]) hnews (orL_one ys) hroom hfit
   rw[hr] at hr2
   injection hr2 with e1 e2
   intro k hk
   exact .inl (by rw[e1] at hk;exact hk)
  ·have hr2:=run_append_grow (P:=Tryz.prog) W 22 ty 54 i0 (.agg #[.string ByteArray.empty, .int .i64 0, .int .i64 0]) Tryz.underlying22 hi hz0 ⟨g,0,none⟩ l.length cap (orL l) (by rw[orL_len,hz1]) (fun j u hj=>World.ownsRow.cells (show W.ownsRow B 54 3 (.slice (some ⟨g,0,none⟩) l.length cap) l.length (orL l) from hown) rfl j u hj) ad ys.length c (orL ys) (by rw[orL_len,hz1]) hnews (by omega) (by omega) (by rw[hz2];exact growslice_fits (by omega) (by omega))
   rw[hr] at hr2
   injection hr2 with e1 e2
   have hob:v'.ownBlock=some W.heap.size:=by rw[e1];rfl
   intro k hk
   exact .inr (by rw[hob] at hk;injection hk with hk;omega)
theorem op_orr {ops:Array Oper} {rest:List Oper} {o:Oper} {a:Act} {Q:Exit→Act→World→Prop} (hgd:o.guard=none) (s x:Operand) (W:World) (B:Nat) (hB:B≤W.heap.size) (ov:Value) (l ys:List Or) (arr:Array Value)
  (ho:o.op= .call { callee:= .builtin .append,args:= #[s,x],argTypes:= #[22,22] })
  (hs:a.eval s=ov) (m:Nat) (hm:m=ys.length) (hx:a.eval x= .slice (some ⟨W.heap.size,0,none⟩) m m) (harr:arr.toList=orL ys) (hown:OwnO B W ov l) (hlen:l.length+ys.length≤1000000)
  (h : ∀v' w',OwnO B w' v' (l++ys)→Bar (fun k=>ov.ownBlock=some k) W w'→(∀g,v'.ownBlock=some g→ov.ownBlock=some g∨W.heap.size≤g)→wpList Tryz.prog ops Q rest (a.put o.dst v') w') :
  wpList Tryz.prog ops Q (o :: rest) a (W.alloc (.cells arr 54)):=by
 subst hm
 refine wpList_plain hgd fun K hK=> ?_
 obtain⟨v',w',hr,h1,h2,h3⟩:=run_appO2 (W:=W.alloc (.cells arr 54)) B (by simp;omega) o.type ov l (hown.below (below_alc W _)) ⟨W.heap.size,0,none⟩ ys.length ys.length ys rfl (fun j u hj=>by
  have e:(⟨W.heap.size,0,none⟩:Addr).add j=⟨W.heap.size,j,none⟩:=by simp[Addr.add];try omega
  rw[e,World.cell?_alloc_at _ _ _ _ rfl, ← hj, ← harr,Array.getElem?_toList]) hlen
 unfold Oper.wp execOp
 simp only[ho,resolve,invoke,builtin,Sem.run_bind,Sem.run_pure,Result.andThen_ok,List.map_toArray,List.map_cons,List.map_nil,hs,hx,hr]
 refine hK _ _ (h v' w' h1 ?_ fun g hg=> ?_)
 ·have hsz:=h2.size
  simp at hsz
  exact⟨h2.os,h2.tape,h2.output,by omega,fun k hk hn=>(h2.block k (by simp;omega) hn).trans (Below.heap_alloc W _ k (by omega))⟩
 ·rcases h3 g hg with h|h
  ·exact .inl h
  ·exact .inr (by simp at h;omega)
theorem owno_sl {B:Nat} {w:World} {v:Value} {l:List Or} (h:OwnO B w v l) : ∃a c,v= .slice a l.length c:=by
 rcases h.cases with ⟨rfl,rfl⟩|⟨g,c,rfl,_⟩
 ·exact⟨none,0,rfl⟩
 ·exact⟨_,c,rfl⟩
theorem owno_lt {B:Nat} {w:World} {v:Value} {l:List Or} (h:OwnO B w v l) : ∀k,v.ownBlock=some k→B≤k∧k<w.heap.size:=by
 intro k hk
 rcases h.cases with ⟨rfl,_⟩|⟨g,c,rfl,h1,h2,_⟩
 ·cases hk
 ·have hk:g=k:=Option.some.inj hk
  omega
def declQ (ts:List Tk) (en:Int) (st:PS):Except PE (Or × PS):=do
 let (o,st) ← nameP ts en st
 let st ← wantP ts en sgColon st
 let (a,st) ← baseP ts en st
 let st ← wantP ts en sgArrow st
 let (b,st) ← baseP ts en st
 let st ← wantP ts en sgSemi st
 .ok (⟨o,a,b⟩,st)
theorem decl_chain {ts:List Tk} {en:Int} {R:Except PE PS} {x:ByteArray} {a b:Int} (hv1 : ∀y st',(R >>= nameP ts en)= .ok (y,st')→x=y) (hv2 : ∀y st',((stX (R >>= nameP ts en) >>= wantP ts en sgColon) >>= baseP ts en)= .ok (y,st')→a=y) (hv3 : ∀y st',((stX ((stX (R >>= nameP ts en) >>= wantP ts en sgColon) >>= baseP ts en) >>= wantP ts en sgArrow) >>= baseP ts en)= .ok (y,st')→b=y) :
  (stX ((stX ((stX (R >>= nameP ts en) >>= wantP ts en sgColon) >>= baseP ts en) >>= wantP ts en sgArrow) >>= baseP ts en) >>= wantP ts en sgSemi)=stX (R >>= declQ ts en)∧ ∀o st',(R >>= declQ ts en)= .ok (o,st')→(⟨x,a,b⟩:Or)=o:=by
 rcases R with _|st
 ·exact⟨rfl,fun o st' hc=>by cases hc⟩
 simp only[bind,Except.bind,stX] at hv1 hv2 hv3 ⊢
 simp only[declQ,bind,Except.bind]
 rcases h1:nameP ts en st with _|⟨y1,s1⟩
 ·exact⟨by simp only[h1],fun o st' hc=>by simp only[h1] at hc;cases hc⟩
 simp only[h1] at hv1 hv2 hv3 ⊢
 obtain rfl:=hv1 _ _ rfl
 rcases h2:wantP ts en sgColon s1 with _|s2
 ·exact⟨by simp only[h2],fun o st' hc=>by simp only[h2] at hc;cases hc⟩
 simp only[h2] at hv2 hv3 ⊢
 rcases h3:baseP ts en s2 with _|⟨y3,s3⟩
 ·exact⟨by simp only[h3],fun o st' hc=>by simp only[h3] at hc;cases hc⟩
 simp only[h3] at hv2 hv3 ⊢
 obtain rfl:=hv2 _ _ rfl
 rcases h4:wantP ts en sgArrow s3 with _|s4
 ·exact⟨by simp only[h4],fun o st' hc=>by simp only[h4] at hc;cases hc⟩
 simp only[h4] at hv3 ⊢
 rcases h5:baseP ts en s4 with _|⟨y5,s5⟩
 ·exact⟨by simp only[h5],fun o st' hc=>by simp only[h5] at hc;cases hc⟩
 simp only[h5] at hv3 ⊢
 obtain rfl:=hv3 _ _ rfl
 rcases h6:wantP ts en sgSemi s5 with _|s6
 ·exact⟨by simp only[h6],fun o st' hc=>by simp only[h6] at hc;cases hc⟩
 simp only[h6]
 exact⟨trivial,fun o st' hc=>by injection hc with hc;injection hc⟩
theorem decl_lt {ts:List Tk} {en:Int} {R:Except PE PS} {os:List Or} (h:isX ts R kwOp=true) (hl:os.length<4):(R >>= declP ts en os)=((takeX ts R kwOp >>= declQ ts en) >>= fun p=> .ok (os++[p.1],p.2)):=by
 obtain⟨st,rfl,hi,hx⟩:=isX_ok h
 rw[hx]
 show declP ts en os st=(declQ ts en ⟨st.i+1,st.ns⟩ >>= _)
 unfold declP declQ
 rw[if_neg (by omega)]
 simp only[bind,Except.bind]
 rcases h1:nameP ts en ⟨st.i+1,st.ns⟩ with _|⟨y1,s1⟩
 ·simp only[h1]
 simp only[h1]
 rcases h2:wantP ts en sgColon s1 with _|s2
 ·simp only[h2]
 simp only[h2]
 rcases h3:baseP ts en s2 with _|⟨y3,s3⟩
 ·simp only[h3]
 simp only[h3]
 rcases h4:wantP ts en sgArrow s3 with _|s4
 ·simp only[h4]
 simp only[h4]
 rcases h5:baseP ts en s4 with _|⟨y5,s5⟩
 ·simp only[h5]
 simp only[h5]
 rcases h6:wantP ts en sgSemi s5 with _|s6
 ·simp only[h6]
 simp only[h6]
theorem decl_ge {ts:List Tk} {en:Int} {R:Except PE PS} {os:List Or} (h:isX ts R kwOp=true) (hl:4≤os.length) : ∃e,failX ts en R 402= .error e∧(R >>= declP ts en os)= .error e:=by
 obtain⟨st,rfl,hi,hx⟩:=isX_ok h
 refine⟨(402,hereP ts en st.i),rfl, ?_⟩
 show declP ts en os st=_
 unfold declP
 rw[if_pos hl]
theorem decl_all {ts:List Tk} {en:Int} {R R0:Except PE PS} {os:List Or} (h:isX ts R kwOp=true) (h0:R0=if os.length=4 then failX ts en R 402 else R) (hl:os.length≤4) {x:ByteArray} {a b:Int} (hv1 : ∀y st',((R0 >>= wantP ts en kwOp) >>= nameP ts en)= .ok (y,st')→x=y) (hv2 : ∀y st',((stX ((R0 >>= wantP ts en kwOp) >>= nameP ts en) >>= wantP ts en sgColon) >>= baseP ts en)= .ok (y,st')→a=y) (hv3 : ∀y st',((stX ((stX ((R0 >>= wantP ts en kwOp) >>= nameP ts en) >>= wantP ts en sgColon) >>= baseP ts en) >>= wantP ts en sgArrow) >>= baseP ts en)= .ok (y,st')→b=y) :
  (stX ((stX ((stX ((R0 >>= wantP ts en kwOp) >>= nameP ts en) >>= wantP ts en sgColon) >>= baseP ts en) >>= wantP ts en sgArrow) >>= baseP ts en) >>= wantP ts en sgSemi)=stX (R >>= declP ts en os)∧ ∀l st',(R >>= declP ts en os)= .ok (l,st')→os++[⟨x,a,b⟩]=l:=by
 by_cases h4:os.length=4
 ·rw[if_pos h4] at h0
  obtain⟨e,he1,he2⟩:=decl_ge (en:=en) h (Nat.le_of_eq h4.symm)
  rw[h0,he1,he2]
  exact⟨rfl,fun l st' hc=>by cases hc⟩
 ·rw[if_neg h4] at h0
  obtain⟨k1,k2⟩:=decl_chain hv1 hv2 hv3
  subst h0
  rw[decl_lt h (by omega)]
  rw[want_yes h] at k1 k2 ⊢
  refine⟨k1.trans ?_, ?_⟩
  ·rcases(takeX ts R0 kwOp >>= declQ ts en) with _|⟨o,s⟩<;>rfl
  ·intro l st' hc
   obtain⟨⟨o,s⟩,hd,hc⟩:=ex_ok.1 hc
   rw[k2 _ _ hd]
   injection hc with hc
   injection hc
open Go.RowKit
open Go.RowKit
theorem prog_err {ts:List Tk} {en:Int} {R:Except PE PS} {os:List Or} {T:Except PE (List Or × PS)} (hT:declLoop ts en (ts.length+1) [] ⟨0,[]⟩=T) (hR:T=(R >>= fun st=> .ok (os,st))) {e:PE} (he:stX (R >>= exprP ts en 40)= .error e):progP ts en= .error e:=by
 unfold progP
 rw[hT,hR]
 rcases R with _|st
 ·exact congrArg Except.error (Except.error.inj he)
 have he:stX (exprP ts en 40 st)= .error e:=he
 rcases hx:exprP ts en 40 st with _|⟨n,s⟩
 ·rw[hx] at he
  simp only[bind,Except.bind,hx]
  exact congrArg Except.error (Except.error.inj he)
 ·rw[hx] at he;cases he
theorem prog_ok {ts:List Tk} {en:Int} {R:Except PE PS} {os:List Or} {T:Except PE (List Or × PS)} (hT:declLoop ts en (ts.length+1) [] ⟨0,[]⟩=T) (hR:T=(R >>= fun st=> .ok (os,st))) {st:PS} (he:stX (R >>= exprP ts en 40)= .ok st):progP ts en=(if st.i<ts.length then .error (403,hereP ts en st.i) else .ok (os,st.ns)):=by
 unfold progP
 rw[hT,hR]
 rcases R with _|s0
 ·cases he
 have he:stX (exprP ts en 40 s0)= .ok st:=he
 rcases hx:exprP ts en 40 s0 with _|⟨n,s⟩
 ·rw[hx] at he;cases he
 ·rw[hx] at he
  injection he with he
  subst he
  simp only[bind,Except.bind,hx]
open Go.RowKit
def ocV (o:Int × Int):Value:= .agg #[.int .i64 o.1, .int .i64 o.2]
theorem pmNum_any (n:Int) (w:World) (h1 : -9223372036854775808≤n) (h2:n≤9223372036854775807) :
  Calls Tryz.prog 81 #[.int .i64 n] w fun e w'=>e= .returned (ocV (numO n))∧Below w.heap.size w w':=by
 obtain⟨r,hr⟩ : ∃r,numO n=r:=⟨_,rfl⟩
 have hrr:=bH (show r=if n < -1073741824∨1073741823<n then (3,0) else (0,n) from hr.symm)
 rw[hr]
 clear hr
 by_cases ha:n < -1073741824
 ·go_enter Tryz.func81,Tryz.ntmps81
  go_wp2_with fail
  refine bodyPost_ret (v:=ocV (3,0)) (by simp[results,Tryz.results81,go_sem,ocV]) rfl ⟨by rw[hrr.out,if_pos (.inl ha)],bZ⟩
 ·by_cases hb:1073741823<n
  ·go_enter Tryz.func81,Tryz.ntmps81
   go_wp2_with fail
   refine bodyPost_ret (v:=ocV (3,0)) (by simp[results,Tryz.results81,go_sem,ocV]) rfl ⟨by rw[hrr.out,if_pos (.inr hb)],bZ⟩
  ·go_enter Tryz.func81,Tryz.ntmps81
   go_wp2_with fail
   refine bodyPost_ret (v:=ocV (0,n)) (by simp[results,Tryz.results81,go_sem,ocV]) rfl ⟨by rw[hrr.out,if_neg (by omega)],bZ⟩
theorem pmTru_any (b:Bool) (w:World) :
  Calls Tryz.prog 82 #[.bool b] w fun e w'=>e= .returned (ocV (truO b))∧Below w.heap.size w w':=by
 cases b
 ·go_enter Tryz.func82,Tryz.ntmps82
  go_wp2_with fail
  refine bodyPost_ret (v:=ocV (1,0)) (by simp[results,Tryz.results82,go_sem,ocV]) rfl ⟨rfl,bZ⟩
 ·go_enter Tryz.func82,Tryz.ntmps82
  go_wp2_with fail
  refine bodyPost_ret (v:=ocV (1,1)) (by simp[results,Tryz.results82,go_sem,ocV]) rfl ⟨rfl,bZ⟩
theorem bx2 {w w9:World} {a b:Value} {T:TypeId} (hb:Below (w.alloc (.cells #[a,b] T)).heap.size (w.alloc (.cells #[a,b] T)) w9) :
  w9.cell? ⟨w.heap.size,0,none⟩=some a∧w9.cell? ⟨w.heap.size,1,none⟩=some b∧(∀o,w9.frozen? ⟨w.heap.size,o,none⟩=false)∧Below w.heap.size w w9∧w.heap.size<w9.heap.size:=by
 have hB:=Bar.of_below (S:=fun _=>False) hb
 have hsz:=hb.size
 simp at hsz
 refine⟨hB.cell (by simp[go_sem]) id,hB.cell (by simp[go_sem]) id,fun o=> ?_,belT (below_alc w _) hb,by omega⟩
 rw[hB.frozen (a:=⟨w.heap.size,o,none⟩) (by simp) id]
 simp[go_sem]
theorem apply_any (p u v:Int) (w:World) (hp:0≤p∧p≤5) (hu:0≤u∧u≤1073741823) (hv:0≤v∧v≤1073741823) :
  Calls Tryz.prog 60 #[.int .i64 p, .int .i64 u, .int .i64 v] w fun e w'=>e= .returned (ocV (prmV p u v))∧Below w.heap.size w w':=by
 have hm:0≤u*v∧u*v≤1152921504606846976:=⟨Int.mul_nonneg hu.1 hv.1,Int.le_trans (Int.mul_le_mul hu.2 hv.2 hv.1 (by omega)) (by decide)⟩
 have hd:v≠0→0≤u.tdiv v∧u.tdiv v≤1073741823:=fun _=>⟨Int.tdiv_nonneg hu.1 hv.1,Int.le_trans (Int.tdiv_le_self v hu.1) hu.2⟩
 have kN:=fun (n:Int) (h1 : -9223372036854775808≤n) (h2:n≤9223372036854775807) (W:World)=>bH (pmNum_any n W h1 h2)
 have kT:=fun (b:Bool) (W:World)=>bH (pmTru_any b W)
 have w1:IntKind.i64.wrap (u+v)=u+v:=IntWalk.i64_in _ (by omega)
 have w2:IntKind.i64.wrap (u-v)=u-v:=IntWalk.i64_in _ (by omega)
 have w3:IntKind.i64.wrap (u*v)=u*v:=IntWalk.i64_in _ (by omega)
 have hc:p=0∨p=1∨p=2∨p=3∨p=4∨p=5:=by omega
 rcases hc with rfl|rfl|rfl|rfl|rfl|rfl
 ·have hV:prmV 0 u v=numO (u+v):=rfl
  rw[hV]
  go_enter Tryz.func60,Tryz.ntmps60
  go_wp2_with fail
  refine(kN (u+v) (by omega) (by omega) _).out.mono ?_
  rintro e w9 ⟨he,hb⟩
  obtain⟨x0,x1,x2,x3,x4⟩:=bx2 hb
  clear hb
  obtain⟨o,ho⟩ : ∃o,numO (u+v)=o:=⟨_,rfl⟩
  rw[ho] at he
  obtain⟨o1,o2⟩:=o
  have e9:ocV (o1,o2)= .agg #[.int .i64 o1, .int .i64 o2]:=rfl
  rw[e9] at he
  subst he
  go_wp2_with fail
  refine bodyPost_ret (v:=ocV (o1,o2)) (by simp[results,Tryz.results60,go_sem,ocV,x0,x1,x2,x3,x4]) rfl ⟨by rw[ho],bZ⟩
 ·have hV:prmV 1 u v=numO (u-v):=rfl
  rw[hV]
  go_enter Tryz.func60,Tryz.ntmps60
  go_wp2_with fail
  refine(kN (u-v) (by omega) (by omega) _).out.mono ?_
  rintro e w9 ⟨he,hb⟩
  obtain⟨x0,x1,x2,x3,x4⟩:=bx2 hb
  clear hb
  obtain⟨o,ho⟩ : ∃o,numO (u-v)=o:=⟨_,rfl⟩
  rw[ho] at he
  obtain⟨o1,o2⟩:=o
  have e9:ocV (o1,o2)= .agg #[.int .i64 o1, .int .i64 o2]:=rfl
  rw[e9] at he
  subst he
  go_wp2_with fail
  refine bodyPost_ret (v:=ocV (o1,o2)) (by simp[results,Tryz.results60,go_sem,ocV,x0,x1,x2,x3,x4]) rfl ⟨by rw[ho],bZ⟩
 ·have hV:prmV 2 u v=numO (u*v):=rfl
  rw[hV]
  go_enter Tryz.func60,Tryz.ntmps60
  go_wp2_with fail
  refine(kN (u*v) (by omega) (by omega) _).out.mono ?_
  rintro e w9 ⟨he,hb⟩
  obtain⟨x0,x1,x2,x3,x4⟩:=bx2 hb
  clear hb
  obtain⟨o,ho⟩ : ∃o,numO (u*v)=o:=⟨_,rfl⟩
  rw[ho] at he
  obtain⟨o1,o2⟩:=o
  have e9:ocV (o1,o2)= .agg #[.int .i64 o1, .int .i64 o2]:=rfl
  rw[e9] at he
  subst he
  go_wp2_with fail
  refine bodyPost_ret (v:=ocV (o1,o2)) (by simp[results,Tryz.results60,go_sem,ocV,x0,x1,x2,x3,x4]) rfl ⟨by rw[ho],bZ⟩
 ·by_cases hz:v=0
  ·subst hz
   go_enter Tryz.func60,Tryz.ntmps60
   go_wp2_with fail
   refine bodyPost_ret (v:=ocV (3,1)) (by simp[results,Tryz.results60,go_sem,ocV]) rfl ⟨rfl,bZ⟩
  ·have hd:=hd hz
   have hV:prmV 3 u v=numO (u.tdiv v):=if_neg hz
   rw[hV]
   have w4:IntKind.i64.wrap (u.tdiv v)=u.tdiv v:=IntWalk.i64_in _ (by omega)
   go_enter Tryz.func60,Tryz.ntmps60
   go_wp2_with fail
   refine(kN (u.tdiv v) (by omega) (by omega) _).out.mono ?_
   rintro e w9 ⟨he,hb⟩
   obtain⟨x0,x1,x2,x3,x4⟩:=bx2 hb
   clear hb
   obtain⟨o,ho⟩ : ∃o,numO (u.tdiv v)=o:=⟨_,rfl⟩
   rw[ho] at he
   obtain⟨o1,o2⟩:=o
   have e9:ocV (o1,o2)= .agg #[.int .i64 o1, .int .i64 o2]:=rfl
   rw[e9] at he
   subst he
   go_wp2_with fail
   refine bodyPost_ret (v:=ocV (o1,o2)) (by simp[results,Tryz.results60,go_sem,ocV,x0,x1,x2,x3,x4]) rfl ⟨by rw[ho],bZ⟩
 ·have hV:prmV 4 u v=truO (decide (u=v)):=rfl
  rw[hV]
  go_enter Tryz.func60,Tryz.ntmps60
  go_wp2_with fail
  refine(kT (decide (u=v)) _).out.mono ?_
  rintro e w9 ⟨he,hb⟩
  obtain⟨x0,x1,x2,x3,x4⟩:=bx2 hb
  clear hb
  obtain⟨o,ho⟩ : ∃o,truO (decide (u=v))=o:=⟨_,rfl⟩
  rw[ho] at he
  obtain⟨o1,o2⟩:=o
  have e9:ocV (o1,o2)= .agg #[.int .i64 o1, .int .i64 o2]:=rfl
  rw[e9] at he
  subst he
  go_wp2_with fail
  refine bodyPost_ret (v:=ocV (o1,o2)) (by simp[results,Tryz.results60,go_sem,ocV,x0,x1,x2,x3,x4]) rfl ⟨by rw[ho],bZ⟩
 ·have hV:prmV 5 u v=truO (decide (u<v)):=rfl
  rw[hV]
  go_enter Tryz.func60,Tryz.ntmps60
  go_wp2_with fail
  refine(kT (decide (u<v)) _).out.mono ?_
  rintro e w9 ⟨he,hb⟩
  obtain⟨x0,x1,x2,x3,x4⟩:=bx2 hb
  clear hb
  obtain⟨o,ho⟩ : ∃o,truO (decide (u<v))=o:=⟨_,rfl⟩
  rw[ho] at he
  obtain⟨o1,o2⟩:=o
  have e9:ocV (o1,o2)= .agg #[.int .i64 o1, .int .i64 o2]:=rfl
  rw[e9] at he
  subst he
  go_wp2_with fail
  refine bodyPost_ret (v:=ocV (o1,o2)) (by simp[results,Tryz.results60,go_sem,ocV,x0,x1,x2,x3,x4]) rfl ⟨by rw[ho],bZ⟩
end Go.Proofs.YthpcbgljbpmafaaGreatDoor
