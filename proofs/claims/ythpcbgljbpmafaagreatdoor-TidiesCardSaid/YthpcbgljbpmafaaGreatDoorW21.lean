/- Regions that draw their order, walked operation by operation: guards that are false, too. -/
import Derived.Test.YthpcbgljbpmafaaGreatDoorW4
import Derived.Test.YthpcbgljbpmafaaGreatDoorW5
import Derived.Test.YthpcbgljbpmafaaGreatDoorW9
import Derived.Test.YthpcbgljbpmafaaGreatDoorW16
import Derived.Test.YthpcbgljbpmafaaGreatDoorW17
import Derived.Test.YthpcbgljbpmafaaGreatDoorW18
import Derived.Test.YthpcbgljbpmafaaGreatDoorW19
import Derived.Test.YthpcbgljbpmafaaGreatDoorW20
import Derived.Test.YthpcbgljbpmafaaGreatDoorChecked
import Derived.Deep.RegionHeld3
import Derived.BigRegion
import Derived.Deep.RegionWith
set_option maxRecDepth 100000
set_option maxHeartbeats 8000000
namespace Go.Proofs.YthpcbgljbpmafaaGreatDoor
open Go.RowKit
set_option linter.unusedVariables false
set_option linter.unusedSimpArgs false
section
variable {P : Program} {ops : Array Oper} {Q : Exit → Act → World → Prop} {md : Region.Mode} {S : World → Prop}
theorem rg_take (i:Nat) (d:Option Tmp) {oi:Oper} {v:Value} {fuel:Nat} {listed:Array Bool} {a:Act} {w:World} (hi:ops[i]? = some oi) (hd:oi.dst=d)
  (hs:Region.noSelect ops=true) (hf:Region.free md ops listed i=true) (hr:(Region.ready md ops listed).contains i=true)
  (hQ : ∀c a w,Q (.panic c) (a.put d v) w→Q (.panic c) a w) (hw:Region.wanted oi (yielded ops a.tmps)=true) (hy : ∀w,S w→(execOp a.eval oi).run P w= .ok (.value v) w) (hS:S w)
  (h:wpAnyH P md ops Q S fuel (listed.setIfInBounds i true) (a.put d v) w):wpAnyH P md ops Q S (fuel+1) listed a w:=by
 subst hd
 exact wpAnyH_take hi hs hf hr hQ (.inl ⟨hw,hy⟩) hS h
theorem rg_skip (i:Nat) (d:Option Tmp) {oi:Oper} {fuel:Nat} {listed:Array Bool} {a:Act} {w:World} (hi:ops[i]? = some oi) (hd:oi.dst=d)
  (hs:Region.noSelect ops=true) (hf:Region.free md ops listed i=true) (hr:(Region.ready md ops listed).contains i=true)
  (hQ : ∀c a w,Q (.panic c) (a.put d undef) w→Q (.panic c) a w) (hw:Region.wanted oi (yielded ops a.tmps)=false) (hS:S w)
  (h:wpAnyH P md ops Q S fuel (listed.setIfInBounds i true) (a.put d undef) w):wpAnyH P md ops Q S (fuel+1) listed a w:=by
 subst hd
 exact wpAnyH_take hi hs hf hr hQ (.inr ⟨hw,rfl⟩) hS h
theorem rg_one (i:Nat) {o:Oper} {fuel:Nat} {listed:Array Bool} {a:Act} {w:World} (hi:ops[i]? = some o) (hr:Region.ready md ops listed=[i]) (hw:Region.wanted o (yielded ops a.tmps)=true)
  (h : ∀K':Act→World→Prop,Shut (∀a w,S w→(S w→wpAnyH P md ops Q S fuel (listed.setIfInBounds i true) a w)→K' a w)→Oper.wp P o a w K' Q):wpAnyH P md ops Q S (fuel+1) listed a w:=by
 refine wpAnyH_ready hr (by simp) (AllReadyH.cons hi (fun K hK=> ?_) AllReadyH.nil)
 rw[if_pos hw]
 exact h K hK
end
open Go.RowKit
def st10 (W:World) (g o:Nat) (t:Nd):World:=((((((((((W.setCell ⟨g,o,none⟩ (.int .i64 t.k)).setCell ⟨g,o+1,none⟩ (.int .i64 t.a)).setCell ⟨g,o+2,none⟩ (.int .i64 t.b)).setCell ⟨g,o+3,none⟩ (.int .i64 t.c)).setCell ⟨g,o+4,none⟩ (.int .i64 t.n)).setCell ⟨g,o+5,none⟩ (.string t.nm)).setCell ⟨g,o+6,none⟩ (.string t.x)).setCell ⟨g,o+7,none⟩ (.string t.y)).setCell ⟨g,o+8,none⟩ (.string t.z)).setCell ⟨g,o+9,none⟩ (.int .i64 t.p))
theorem st10_at {W:World} {g o:Nat} {t u:Nd} (h:W.cell? ⟨g,o,none⟩=some (.int .i64 u.k)∧W.cell? ⟨g,o+1,none⟩=some (.int .i64 u.a)∧W.cell? ⟨g,o+2,none⟩=some (.int .i64 u.b)∧W.cell? ⟨g,o+3,none⟩=some (.int .i64 u.c)∧W.cell? ⟨g,o+4,none⟩=some (.int .i64 u.n)∧W.cell? ⟨g,o+5,none⟩=some (.string u.nm)∧W.cell? ⟨g,o+6,none⟩=some (.string u.x)∧W.cell? ⟨g,o+7,none⟩=some (.string u.y)∧W.cell? ⟨g,o+8,none⟩=some (.string u.z)∧W.cell? ⟨g,o+9,none⟩=some (.int .i64 u.p)):(st10 W g o t).cell? ⟨g,o,none⟩=some (.int .i64 t.k)∧(st10 W g o t).cell? ⟨g,o+1,none⟩=some (.int .i64 t.a)∧(st10 W g o t).cell? ⟨g,o+2,none⟩=some (.int .i64 t.b)∧(st10 W g o t).cell? ⟨g,o+3,none⟩=some (.int .i64 t.c)∧(st10 W g o t).cell? ⟨g,o+4,none⟩=some (.int .i64 t.n)∧(st10 W g o t).cell? ⟨g,o+5,none⟩=some (.string t.nm)∧(st10 W g o t).cell? ⟨g,o+6,none⟩=some (.string t.x)∧(st10 W g o t).cell? ⟨g,o+7,none⟩=some (.string t.y)∧(st10 W g o t).cell? ⟨g,o+8,none⟩=some (.string t.z)∧(st10 W g o t).cell? ⟨g,o+9,none⟩=some (.int .i64 t.p):=by
 obtain⟨h0,h1,h2,h3,h4,h5,h6,h7,h8,h9⟩:=h
 unfold st10
 have ne : ∀a b:Nat,a≠b→(⟨g,a,none⟩:Addr)≠⟨g,b,none⟩:=fun a b hab e=>by injection e with _ e2 _;exact hab e2
 refine⟨?_, ?_, ?_, ?_, ?_, ?_, ?_, ?_, ?_, ?_⟩
 ·exact(setO (setO (setO (setO (setO (setO (setO (setO (setO (setS h0) (ne _ _ (by omega))) (ne _ _ (by omega))) (ne _ _ (by omega))) (ne _ _ (by omega))) (ne _ _ (by omega))) (ne _ _ (by omega))) (ne _ _ (by omega))) (ne _ _ (by omega))) (ne _ _ (by omega)))
 ·exact(setO (setO (setO (setO (setO (setO (setO (setO (setS (setO h1 (ne _ _ (by omega)))) (ne _ _ (by omega))) (ne _ _ (by omega))) (ne _ _ (by omega))) (ne _ _ (by omega))) (ne _ _ (by omega))) (ne _ _ (by omega))) (ne _ _ (by omega))) (ne _ _ (by omega)))
 ·exact(setO (setO (setO (setO (setO (setO (setO (setS (setO (setO h2 (ne _ _ (by omega))) (ne _ _ (by omega)))) (ne _ _ (by omega))) (ne _ _ (by omega))) (ne _ _ (by omega))) (ne _ _ (by omega))) (ne _ _ (by omega))) (ne _ _ (by omega))) (ne _ _ (by omega)))
 ·exact(setO (setO (setO (setO (setO (setO (setS (setO (setO (setO h3 (ne _ _ (by omega))) (ne _ _ (by omega))) (ne _ _ (by omega)))) (ne _ _ (by omega))) (ne _ _ (by omega))) (ne _ _ (by omega))) (ne _ _ (by omega))) (ne _ _ (by omega))) (ne _ _ (by omega)))
 ·exact(setO (setO (setO (setO (setO (setS (setO (setO (setO (setO h4 (ne _ _ (by omega))) (ne _ _ (by omega))) (ne _ _ (by omega))) (ne _ _ (by omega)))) (ne _ _ (by omega))) (ne _ _ (by omega))) (ne _ _ (by omega))) (ne _ _ (by omega))) (ne _ _ (by omega)))
 ·exact(setO (setO (setO (setO (setS (setO (setO (setO (setO (setO h5 (ne _ _ (by omega))) (ne _ _ (by omega))) (ne _ _ (by omega))) (ne _ _ (by omega))) (ne _ _ (by omega)))) (ne _ _ (by omega))) (ne _ _ (by omega))) (ne _ _ (by omega))) (ne _ _ (by omega)))
 ·exact(setO (setO (setO (setS (setO (setO (setO (setO (setO (setO h6 (ne _ _ (by omega))) (ne _ _ (by omega))) (ne _ _ (by omega))) (ne _ _ (by omega))) (ne _ _ (by omega))) (ne _ _ (by omega)))) (ne _ _ (by omega))) (ne _ _ (by omega))) (ne _ _ (by omega)))
 ·exact(setO (setO (setS (setO (setO (setO (setO (setO (setO (setO h7 (ne _ _ (by omega))) (ne _ _ (by omega))) (ne _ _ (by omega))) (ne _ _ (by omega))) (ne _ _ (by omega))) (ne _ _ (by omega))) (ne _ _ (by omega)))) (ne _ _ (by omega))) (ne _ _ (by omega)))
 ·exact(setO (setS (setO (setO (setO (setO (setO (setO (setO (setO h8 (ne _ _ (by omega))) (ne _ _ (by omega))) (ne _ _ (by omega))) (ne _ _ (by omega))) (ne _ _ (by omega))) (ne _ _ (by omega))) (ne _ _ (by omega))) (ne _ _ (by omega)))) (ne _ _ (by omega)))
 ·exact(setS (setO (setO (setO (setO (setO (setO (setO (setO (setO h9 (ne _ _ (by omega))) (ne _ _ (by omega))) (ne _ _ (by omega))) (ne _ _ (by omega))) (ne _ _ (by omega))) (ne _ _ (by omega))) (ne _ _ (by omega))) (ne _ _ (by omega))) (ne _ _ (by omega))))
theorem st10_else {W:World} {g o:Nat} {t:Nd} {q:Addr} {v:Value} (h:W.cell? q=some v) (hq : ∀k,k<10→q≠⟨g,o+k,none⟩):(st10 W g o t).cell? q=some v:=by
 unfold st10
 exact(setO (setO (setO (setO (setO (setO (setO (setO (setO (setO h (Ne.symm (hq 0 (by omega)))) (Ne.symm (hq 1 (by omega)))) (Ne.symm (hq 2 (by omega)))) (Ne.symm (hq 3 (by omega)))) (Ne.symm (hq 4 (by omega)))) (Ne.symm (hq 5 (by omega)))) (Ne.symm (hq 6 (by omega)))) (Ne.symm (hq 7 (by omega)))) (Ne.symm (hq 8 (by omega)))) (Ne.symm (hq 9 (by omega))))
theorem st10_sl {W:World} {g i:Nat} {t:Nd} {l:List Nd} (h:NdSl W g 0 l) (hi:i<l.length):NdSl (st10 W g (i*10) t) g 0 (l.set i t):=by
 intro m hm
 rw[List.length_set] at hm
 have hx:=h m hm
 unfold NdAt at hx ⊢
 simp only[Nat.zero_add] at hx ⊢
 by_cases hmi:m=i
 ·subst hmi
  rw[List.getD_eq_getElem?_getD,List.getElem?_set_self hm]
  exact st10_at hx
 ·rw[List.getD_eq_getElem?_getD,List.getElem?_set_ne (Ne.symm hmi), ← List.getD_eq_getElem?_getD]
  have ne : ∀f,f<10→ ∀k,k<10→(⟨g,m*10+f,none⟩:Addr)≠⟨g,i*10+k,none⟩:=fun f hf k hk e=>by injection e with _ e2 _;omega
  obtain⟨h0,h1,h2,h3,h4,h5,h6,h7,h8,h9⟩:=hx
  exact⟨st10_else h0 (ne 0 (by omega)),st10_else h1 (ne 1 (by omega)),st10_else h2 (ne 2 (by omega)),st10_else h3 (ne 3 (by omega)),st10_else h4 (ne 4 (by omega)),st10_else h5 (ne 5 (by omega)),st10_else h6 (ne 6 (by omega)),st10_else h7 (ne 7 (by omega)),st10_else h8 (ne 8 (by omega)),st10_else h9 (ne 9 (by omega))⟩
theorem st10_rest (W:World) (g o:Nat) (t:Nd):(∀q,(st10 W g o t).frozen? q=W.frozen? q)∧(st10 W g o t).heap.size=W.heap.size∧Bar (fun k=>k=g) W (st10 W g o t):=by
 unfold st10
 refine⟨fun q=>by simp only[World.frozen?_setCell],by simp, ?_⟩
 have s : ∀(V:World) (p:Nat) (u:Value),Bar (fun k=>k=g) V (V.setCell ⟨g,p,none⟩ u):=fun V p u=>Bar.set ⟨g,p,none⟩ u rfl
 exact((((((((((s W o _).trans (s _ _ _) fun _ _ h=>h).trans (s _ _ _) fun _ _ h=>h).trans (s _ _ _) fun _ _ h=>h).trans (s _ _ _) fun _ _ h=>h).trans (s _ _ _) fun _ _ h=>h).trans (s _ _ _) fun _ _ h=>h).trans (s _ _ _) fun _ _ h=>h).trans (s _ _ _) fun _ _ h=>h).trans (s _ _ _) fun _ _ h=>h)
open Go.RowKit
theorem Same.set {st st':List Nd} (h:Same st st') {at_:Nat} (m:Int):Same st (st'.set at_ (bare (st.getD at_ nd0) m)):=by
 refine⟨by rw[List.length_set];exact h.len,fun i=> ?_⟩
 by_cases e:i=at_
 ·subst e
  by_cases hl:i<st'.length
  ·rw[List.getD_eq_getElem?_getD,List.getElem?_set_self hl,Option.getD_some,kidsS_bare]
  ·rw[List.set_eq_of_length_le (by omega)];exact h.shape i
 ·rw[List.getD_eq_getElem?_getD,List.getElem?_set_ne (Ne.symm e), ← List.getD_eq_getElem?_getD];exact h.shape i
theorem NdSl.bar {S:Nat→Prop} {w w':World} {b off:Nat} {ts:List Nd} (h:NdSl w b off ts) (hb:Bar S w w') (hn : ¬ S b):NdSl w' b off ts:=by
 intro i hi
 obtain⟨h0,h1,h2,h3,h4,h5,h6,h7,h8,h9⟩:=h i hi
 exact⟨hb.cell h0 hn,hb.cell h1 hn,hb.cell h2 hn,hb.cell h3 hn,hb.cell h4 hn,hb.cell h5 hn,hb.cell h6 hn,hb.cell h7 hn,hb.cell h8 hn,hb.cell h9 hn⟩
theorem OwnS.bar {S:Nat→Prop} {B:Nat} {w w':World} {v:Value} {l:List ByteArray} (h:OwnS B w v l) (hb:Bar S w w') (hn : ∀k,v.ownBlock=some k→ ¬ S k):OwnS B w' v l:=Bar.own hb h hn
theorem OwnS.below {B:Nat} {w w':World} {v:Value} {l:List ByteArray} (h:OwnS B w v l) (hb:Below w.heap.size w w'):OwnS B w' v l:=h.bar (Bar.of_below (S:=fun _=>False) hb) fun _ _=>id
def Nd10 (W:World) (g:Nat) (t:Nd):Prop:=g<W.heap.size∧W.cell? ⟨g,0,none⟩=some (.int .i64 t.k)∧W.cell? ⟨g,1,none⟩=some (.int .i64 t.a)∧W.cell? ⟨g,2,none⟩=some (.int .i64 t.b)∧W.cell? ⟨g,3,none⟩=some (.int .i64 t.c)∧W.cell? ⟨g,4,none⟩=some (.int .i64 t.n)∧W.cell? ⟨g,5,none⟩=some (.string t.nm)∧W.cell? ⟨g,6,none⟩=some (.string t.x)∧W.cell? ⟨g,7,none⟩=some (.string t.y)∧W.cell? ⟨g,8,none⟩=some (.string t.z)∧W.cell? ⟨g,9,none⟩=some (.int .i64 t.p)∧ ∀o,W.frozen? ⟨g,o,none⟩=false
theorem nd10_lit (W:World) (arr:Array Value) (T:TypeId) (g:Nat) (t:Nd) (hg:g=W.heap.size) (h:arr.toList=ndL1 t):Nd10 (W.alloc (.cells arr T)) g t:=by
 subst hg
 refine⟨by simp, ?_, ?_, ?_, ?_, ?_, ?_, ?_, ?_, ?_, ?_,fun o=>by simp[go_sem]⟩<;>(rw[World.cell?_alloc_at _ _ _ _ rfl, ← Array.getElem?_toList,h];rfl)
theorem Nd10.bar {S:Nat→Prop} {W W':World} {g:Nat} {t:Nd} (h:Nd10 W g t) (hb:Bar S W W') (hn : ¬ S g):Nd10 W' g t:=by
 obtain⟨hl,h0,h1,h2,h3,h4,h5,h6,h7,h8,h9,hf⟩:=h
 exact⟨by have:=hb.size;omega,hb.cell h0 hn,hb.cell h1 hn,hb.cell h2 hn,hb.cell h3 hn,hb.cell h4 hn,hb.cell h5 hn,hb.cell h6 hn,hb.cell h7 hn,hb.cell h8 hn,hb.cell h9 hn,fun o=>by rw[hb.frozen (a:=⟨g,o,none⟩) hl hn];exact hf o⟩
theorem Nd10.below {W W':World} {g:Nat} {t:Nd} (h:Nd10 W g t) (hb:Below W.heap.size W W'):Nd10 W' g t:=h.bar (Bar.of_below (S:=fun _=>False) hb) id
theorem kidsS_two (t:Nd) : ∀c∈kidsS t,c.2.length≤2:=by
 intro c hc
 unfold kidsS at hc
 (repeat' split at hc)<;>simp only[List.mem_cons,List.not_mem_nil,or_false] at hc<;>first|(exact absurd hc id)|(rcases hc with rfl|rfl|rfl<;>simp)|(rcases hc with rfl|rfl<;>simp)|(subst hc;simp)
theorem Bar.mono {S S':Nat→Prop} {w w':World} (h:Bar S w w') (hs : ∀k,S k→S' k):Bar S' w w':=⟨h.os,h.tape,h.output,h.size,fun k hk hn=>h.block k hk (fun hc=>hn (hs k hc))⟩
open Go.RowKit
open Go.RowKit
theorem ndL_take : ∀(l:List Nd) (j:Nat),ndL (l.take j)=(ndL l).take (j*10)
 | [],j=>by simp[ndL]
 | t :: l,0=>by simp[ndL]
 | t :: l,j+1=>by
  have h:=ndL_take l j
  rw[List.take_succ_cons]
  have e : ∀(t:Nd) (l:List Nd),ndL (t :: l)=ndL1 t++ndL l:=fun t l=>by simp[ndL]
  rw[e,e,h,List.take_append]
  have h1:(ndL1 t).length=10:=rfl
  rw[h1,List.take_of_length_le (l:=ndL1 t) (by rw[h1];omega),show (j+1)*10-10=j*10 by omega]
theorem OwnN.take {B:Nat} {w:World} {a:Option Addr} {n c:Nat} {l:List Nd} (h:OwnN B w (.slice a n c) l) (j:Nat) (hj:j≤l.length):OwnN B w (.slice a j c) (l.take j):=by
 have hl:(l.take j).length=j:=by rw[List.length_take];omega
 refine⟨by rw[ndL_len], ?_⟩
 rw[hl]
 rcases h.2 with ⟨h1,h0⟩|⟨g,cap,cur,h1,hb,hg,hc,hm,hsz,htk⟩
 ·injection h1 with h1 h2 h3
  subst h1 h2 h3
  exact .inl ⟨by rw[show j=0 by omega],by omega⟩
 ·injection h1 with h1 h2 h3
  subst h1 h2 h3
  refine .inr ⟨g,c,cur,rfl,hb,hg,by omega,hm,hsz, ?_⟩
  rw[ndL_take, ← htk,List.take_take,Nat.min_eq_left (by omega)]
theorem OwnN.len {B:Nat} {w:World} {a:Option Addr} {n c:Nat} {l:List Nd} (h:OwnN B w (.slice a n c) l):n=l.length∧n≤c:=by
 rcases h.2 with ⟨h1,h0⟩|⟨g,cap,cur,h1,_,_,hc,_⟩
 ·injection h1 with h1 h2 h3;omega
 ·injection h1 with h1 h2 h3;omega
def NdI (B G:Nat) (w:World) (sv:Value) (ts:List Nd):Prop:= ∃T off c,sv= .slice (some ⟨T,off,none⟩) ts.length c∧T<B∧T≠G∧T<w.heap.size∧NdSl w T off ts
theorem NdI.bar {S:Nat→Prop} {B G:Nat} {w w':World} {sv:Value} {ts:List Nd} (h:NdI B G w sv ts) (hb:Bar S w w') (hn : ∀k,k<B→k≠G→ ¬ S k):NdI B G w' sv ts:=by
 obtain⟨T,off,c,h1,h2,h3,h4,h5⟩:=h
 exact⟨T,off,c,h1,h2,h3,by have:=hb.size;omega,h5.bar hb (hn T h2 h3)⟩
structure TdW (B G:Nat) (sv:Value) (ts:List Nd) (w:World) (mv:Value) (m:List Nd):Prop where
 cn:w.cell? ⟨G,0,none⟩=some sv
 cm:w.cell? ⟨G,1,none⟩=some mv
 gB:G<B
 bl:B≤w.heap.size
 fg : ∀o,w.frozen? ⟨G,o,none⟩=false
 ni:NdI B G w sv ts
 own:OwnN B w mv m
 ml:m.length≤600
theorem TdW.bar {S:Nat→Prop} {B G:Nat} {sv:Value} {ts:List Nd} {w w':World} {mv:Value} {m:List Nd} (h:TdW B G sv ts w mv m) (hb:Bar S w w') (hG : ¬ S G) (hB : ∀k,k<B→k≠G→ ¬ S k) (hn : ∀k,mv.ownBlock=some k→ ¬ S k):TdW B G sv ts w' mv m:=
 ⟨hb.cell h.cn hG,hb.cell h.cm hG,h.gB,by have:=hb.size;have:=h.bl;omega,fun o=>by rw[hb.frozen (a:=⟨G,o,none⟩) (by have:=h.gB;have:=h.bl;show G<_;omega) hG];exact h.fg o,h.ni.bar hb hB,Bar.own hb h.own hn,h.ml⟩
theorem TdW.below {B G:Nat} {sv:Value} {ts:List Nd} {w w':World} {mv:Value} {m:List Nd} (h:TdW B G sv ts w mv m) (hb:Below w.heap.size w w'):TdW B G sv ts w' mv m:=
 h.bar (Bar.of_below (S:=fun _=>False) hb) id (fun _ _ _=>id) (fun _ _=>id)
theorem TdW.setM {B G:Nat} {sv:Value} {ts:List Nd} {w w2:World} {mv mv':Value} {m m':List Nd} (h:TdW B G sv ts w mv m) (hb:Bar (fun k=>mv.ownBlock=some k) w w2) (ho:OwnN B w2 mv' m') (hh:PHop mv mv' w) (hl:m'.length≤600) :
  TdW B G sv ts (w2.setCell ⟨G,1,none⟩ mv') mv' m'∧Stp G w mv (w2.setCell ⟨G,1,none⟩ mv') mv':=by
 have ne:(⟨G,1,none⟩:Addr)≠⟨G,0,none⟩:=fun e=>by injection e with _ e2 _;cases e2
 have hB:=fun k hk=>(own_lt h.own k hk).1
 have hGn : ¬ mv.ownBlock=some G:=fun e=>by have:=hB G e;have:=h.gB;omega
 have hb2:Bar (fun k=>k=G) w2 (w2.setCell ⟨G,1,none⟩ mv'):=Bar.set (S:=fun k=>k=G) ⟨G,1,none⟩ _ rfl
 have hsz:=hb.size
 refine⟨⟨setO (hb.cell h.cn hGn) ne,setS (hb.cell h.cm hGn),h.gB,by have:=h.bl;simp;omega,fun o=> ?_,(h.ni.bar hb (fun k hk _ e=>by have:=hB k e;omega)).bar hb2 (fun k _ hk=>hk),Bar.own hb2 ho (fun k hk e=>by have:=(own_lt ho k hk).1;have:=h.gB;omega),hl⟩, ?_, ?_⟩
 ·simp only[World.frozen?_setCell]
  rw[hb.frozen (a:=⟨G,o,none⟩) (by have:=h.gB;have:=h.bl;show G<_;omega) hGn];exact h.fg o
 ·exact(Bar.trans (S:=PFr G mv) ((Bar.refl _ _).trans hb fun _ _ hs=> .inr hs) hb2 fun _ _ hs=> .inl hs)
 ·exact hh
def TdN (B G:Nat) (sv:Value) (ts:List Nd) (w:World) (mv:Value) (m:List Nd) (e:Ending) (w':World):Prop:=e= .returned (.int .i64 (lstI m))∧ ∃mv',TdW B G sv ts w' mv' m∧Stp G w mv w' mv'
theorem tadd_any (B G:Nat) (sv:Value) (ts:List Nd) (w:World) (mv:Value) (m:List Nd) (t:Nd) (h:Hid (TdW B G sv ts w mv m)) (hf:m.length<600) :
  Calls Tryz.prog 38 #[.pointer (some ⟨G,0,none⟩), .agg #[.int .i64 t.k, .int .i64 t.a, .int .i64 t.b, .int .i64 t.c, .int .i64 t.n, .string t.nm, .string t.x, .string t.y, .string t.z, .int .i64 t.p]] w (TdN B G sv ts w mv (m++[t])):=by
 obtain⟨a,c,rfl⟩:=own_sl h.out.own
 have hn:=h.out.cm
 have hgl:G<w.heap.size:=by have:=h.out.gB;have:=h.out.bl;omega
 have hf:=bH hf
 go_enter Tryz.func38,Tryz.ntmps38
 go_upto_region 1 with fail
 obtain⟨W0,hW0⟩ : ∃W,w.alloc (.cells #[.int .i64 t.k, .int .i64 t.a, .int .i64 t.b, .int .i64 t.c, .int .i64 t.n, .string t.nm, .string t.x, .string t.y, .string t.z, .int .i64 t.p] 45)=W:=⟨_,rfl⟩
 obtain⟨⟨y0,y1,y2,y3,y4,y5,y6,y7,y8,y9⟩,hb0,hs0⟩:=nd_box w W0 t hW0
 rw[hW0]
 clear hW0 hn
 have h2:=bH (h.out.below hb0)
 have hb0:=bH hb0
 have hn:=h2.out.cm
 have hfr:=h2.out.fg
 have hgW:G<W0.heap.size:=by omega
 have hq:Hid ((m.length+[t].length)≤1000000):=bH (by have:=hf.out;simp;omega)
 have hBW:B≤W0.heap.size:=h2.out.bl
 have hnG : ¬ (Value.slice a m.length c).ownBlock=some G:=fun e=>by have:=(own_lt h.out.own G e).1;have:=h.out.gB;omega
 have hfin:Hid (∀a2 c2 w2,OwnN B w2 (.slice a2 (m.length+1) c2) (m++[t])→Bar (fun k=>(Value.slice a m.length c).ownBlock=some k) W0.drew w2→(∀g,(Value.slice a2 (m.length+1) c2).ownBlock=some g→(Value.slice a m.length c).ownBlock=some g∨W0.drew.heap.size≤g)→ ∀v:Int,v=m.length→TdN B G sv ts w (.slice a m.length c) (m++[t]) (.returned (.int .i64 v)) (w2.setCell ⟨G,1,none⟩ (.slice a2 (m.length+1) c2))):=bH fun a2 c2 w2 k1 k2 k3 v hv=>by
  have hd:Below W0.heap.size W0 W0.drew:=(Below.refl _ _).drew
  obtain⟨k4,k5⟩:=TdW.setM (h2.out.below hd) k2 k1 k3 (by have:=hf.out;simp;omega)
  exact⟨by rw[hv];unfold lstI;simp,_,k4,((Stp.below hb0.out).next hd).trans k5⟩
 have hnl:(m.length:Int)≤600:=by have:=hf.out;omega
 have hnl0:(0:Int)≤(m.length:Int):=by omega
 go_region_law ((refine step_ndr rfl (.tmp 9) (.tmp 11) W0.drew B (show B≤W0.drew.heap.size from hBW) (.slice a m.length c) m [t] _ rfl rfl 1 rfl rfl rfl (show OwnN B W0.drew (.slice a m.length c) m from h2.out.own) hq.out ?_;intro v' w2 hown2 hb2 hop2;obtain⟨a2,c2,rfl⟩:=own_sl hown2;have hc2:w2.cell? ⟨G,1,none⟩=some (.slice a m.length c):=hb2.cell hn hnG;rw[List.length_append,List.length_singleton] at hown2 hop2;have hown2:=bH hown2;have hb2':=bH hb2;have hop2:=bH hop2;have hgw2:G<w2.heap.size:=Nat.lt_of_lt_of_le hgW hb2.size;have hf2:w2.frozen? ⟨G,1,none⟩=false:=(hb2.frozen (a:=⟨G,1,none⟩) hgW hnG).trans (hfr 1)))
 all_goals
  clear hb2 hn hfr hgW y0 y1 y2 y3 y4 y5 y6 y7 y8 y9
  go_wp2_with fail
  go_ret
  exact hfin.out _ _ _ hown2.out hb2'.out hop2.out _ (by omega)
open Go.RowKit
def Pg (W:World) (g:Nat) (a:Option Addr) (n c:Nat) (a2:Option Addr) (n2 c2:Nat):Prop:=g<W.heap.size∧W.cell? ⟨g,0,none⟩=some (.slice a n c)∧W.cell? ⟨g,1,none⟩=some (.slice a2 n2 c2)
theorem Pg.below {W W':World} {g:Nat} {a a2:Option Addr} {n c n2 c2:Nat} (h:Pg W g a n c a2 n2 c2) (hb:Below W.heap.size W W'):Pg W' g a n c a2 n2 c2:=⟨by have:=hb.size;have:=h.1;omega,carry hb h.1 h.2.1,carry hb h.1 h.2.2⟩
theorem pg_lit (W:World) (T:TypeId) (g:Nat) (hg:g=W.heap.size) (a a2:Option Addr) (n c n2 c2:Nat):Pg (W.alloc (.cells #[.slice a n c, .slice a2 n2 c2] T)) g a n c a2 n2 c2:=by
 subst hg
 refine⟨by simp, ?_, ?_⟩<;>(rw[World.cell?_alloc_at _ _ _ _ rfl];rfl)
open Go.RowKit
open Go.RowKit
theorem owns_mono {w:World} {B B':Nat} {e:TypeId} {s:Nat} {v:Value} {n:Nat} {xs:List Value} (h:w.ownsRow B e s v n xs) (hb:B'≤B):w.ownsRow B' e s v n xs:=by
 refine⟨h.1, ?_⟩
 rcases h.2 with h0|⟨g,cap,cur,rfl,hB,rest⟩
 ·exact .inl h0
 ·exact .inr ⟨g,cap,cur,rfl,Nat.le_trans hb hB,rest⟩
def PrR (R:Except PE (List Or × List Nd)) (ov nv:Value) (os:List Or) (ns:List Nd) (pl er:Int):Prop:=match R with
 | .ok p=>os=p.1∧ns=p.2∧pl=0∧er=0
 | .error x=>ov= .slice none 0 0∧nv= .slice none 0 0∧os=[]∧ns=[]∧pl=x.2∧er=x.1
def PrP (R:Except PE (List Or × List Nd)) (w:World) (e:Ending) (w':World):Prop:= ∃ov nv os ns pl er,e= .returned (.tuple #[.agg #[ov,nv], .int .i64 pl, .int .i64 er])∧OwnO w.heap.size w' ov os∧OwnN w.heap.size w' nv ns∧Below w.heap.size w w'∧PrR R ov nv os ns pl er
theorem prp_ok {R:Except PE (List Or × List Nd)} {w w':World} {e:Ending} {os:List Or} {ns:List Nd} (h:PrP R w e w') (hr:R= .ok (os,ns)) : ∃a c a2 c2,e= .returned (.tuple #[.agg #[.slice a os.length c, .slice a2 ns.length c2], .int .i64 0, .int .i64 0])∧Below w.heap.size w w'∧OwnO w.heap.size w' (.slice a os.length c) os∧OwnN w.heap.size w' (.slice a2 ns.length c2) ns:=by
 subst hr
 obtain⟨ov,nv,os,ns,pl,er,rfl,ho,hn,hb,rfl,rfl,rfl,rfl⟩:=h
 obtain⟨a,c,rfl⟩:=owno_sl ho
 obtain⟨a2,c2,rfl⟩:=own_sl hn
 exact⟨a,c,a2,c2,rfl,hb,ho,hn⟩
structure KX (w:World) (P:Nat) (X:World):Prop where
 b:Bar (fun k=>k=P) w X
 c0:X.cell? ⟨P,0,none⟩=some (.slice none 0 0)
 c1:X.cell? ⟨P,1,none⟩=some (.slice none 0 0)
 f : ∀o,X.frozen? ⟨P,o,none⟩=false
theorem KX.drew {w X:World} {P:Nat} (h:KX w P X):KX w P X.drew:=⟨h.b.next ((Below.refl _ _).drew),h.c0,h.c1,h.f⟩
theorem KX.set0 {w X:World} {P:Nat} (h:KX w P X):KX w P (X.setCell ⟨P,0,none⟩ (.slice none 0 0)):=⟨h.b.trans (Bar.set (S:=fun k=>k=P) ⟨P,0,none⟩ _ rfl) fun _ _ hs=>hs,setS h.c0,setO h.c1 (by simp),fun o=>by simp only[World.frozen?_setCell];exact h.f o⟩
theorem KX.set1 {w X:World} {P:Nat} (h:KX w P X):KX w P (X.setCell ⟨P,1,none⟩ (.slice none 0 0)):=⟨h.b.trans (Bar.set (S:=fun k=>k=P) ⟨P,1,none⟩ _ rfl) fun _ _ hs=>hs,setO h.c0 (by simp),setS h.c1,fun o=>by simp only[World.frozen?_setCell];exact h.f o⟩
theorem KX.next {w X Y:World} {P:Nat} (h:KX w P X) (hP:P<X.heap.size) (hb:Below X.heap.size X Y):KX w P Y:=⟨h.b.next hb,carry hb hP h.c0,carry hb hP h.c1,fun o=>(hb.frozen (p:=⟨P,o,none⟩) hP).trans (h.f o)⟩
open Go.RowKit
open Go.RowKit
structure PrK (n:Nat) (os:List Or) (ns:List Nd):Prop where
 sz : ∀t∈ns,NdSz t
 oz : ∀o∈os,OrSz o
 may:mayV os ns=true
 at_ : ∀j,j<ns.length→0≤(ns.getD j nd0).p∧(ns.getD j nd0).p<n
 l0:1≤ns.length
 l1:ns.length≤512
 ol:os.length≤4
theorem parse_k {s:ByteArray} {os:List Or} {ns:List Nd} (h:parseV s= .ok (os,ns)):PrK s.size os ns:=by
 obtain⟨h1,h2,h3,h4⟩:=parseV_may h
 have hl:1≤ns.length∧ns.length≤512:=by
  unfold treeV at h1
  simp only[Bool.and_eq_true,decide_eq_true_eq] at h1
  exact h1.1.1
 refine⟨fun t ht=>ok_sz (h2 t ht).1,fun o ho=>nm_sz (h4 o ho).2.2, ?_,fun j hj=> ?_,hl.1,hl.2,h3⟩
 ·unfold mayV
  rw[h1,opsV_ok h3,Bool.and_true]
  rw[List.all_eq_true]
  intro o ho
  obtain⟨a1,a2,a3⟩:=h4 o ho
  unfold opOk baseB
  rw[a3]
  rcases a1 with e1|e1<;>rcases a2 with e2|e2<;>(rw[e1,e2];rfl)
 ·have hm:ns.getD j nd0∈ns:=by
   rw[List.getD_eq_getElem?_getD,List.getElem?_eq_getElem hj];exact List.getElem_mem hj
  exact(h2 _ hm).2
open Go.RowKit
open Go.RowKit
section
variable {ts : List Tk} {en : Int} {E : PS → Except PE (Nat × PS)}
end
open Go.RowKit
section
variable {ts : List Tk} {en : Int} {E : PS → Except PE (Nat × PS)}
end
end Go.Proofs.YthpcbgljbpmafaaGreatDoor
