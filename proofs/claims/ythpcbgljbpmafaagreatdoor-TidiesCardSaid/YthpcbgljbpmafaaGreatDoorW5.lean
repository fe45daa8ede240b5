/- Contract of package lex: Tokens. -/
import Derived.Test.YthpcbgljbpmafaaGreatDoorW3
import Derived.Test.YthpcbgljbpmafaaGreatDoorW4
import Derived.Test.YthpcbgljbpmafaaGreatDoorChecked
import Derived.Test.YthpcbgljbpmafaaGreatDoorRows
import Derived.LaidLaws
import Derived.LaidHandle
import Derived.Stop.Joined
set_option maxRecDepth 100000
set_option maxHeartbeats 8000000
namespace Go.Proofs.YthpcbgljbpmafaaGreatDoor
open Go.RowKit
set_option linter.unusedVariables false
set_option linter.unusedSimpArgs false
theorem set_old {W W0:World} {t:Addr} {v old:Value} (hb:Below W.heap.size W W0) (ht:t.block<W.heap.size) (ho:W.cell? t=some old):(W0.setCell t v).cell? t=some v:=by
 have h:W0.cell? t=some old:=by rw[hb.cell ht];exact ho
 rw[World.cell?_setCell_same _ _ _ h]
theorem set_oth {W W0:World} {t p:Addr} {v:Value} (hb:Below W.heap.size W W0) (hp:p.block<W.heap.size) (hne:t≠p):(W0.setCell t v).cell? p=W.cell? p:=
 (World.cell?_setCell_other _ _ _ _ hne).trans (hb.cell hp)
theorem set_froz {W W0:World} {t p:Addr} {v:Value} (hb:Below W.heap.size W W0) (hp:p.block<W.heap.size):(W0.setCell t v).frozen? p=W.frozen? p:=by
 rw[show (W0.setCell t v).frozen? p=W0.frozen? p from by simp[go_sem]]
 exact hb.frozen hp
theorem set_below {B:Nat} {w W W0:World} {t:Addr} {v:Value} (h:Below B w W) (hb:Below W.heap.size W W0) (ht:B≤t.block) (hB:B≤W.heap.size):Below B w (W0.setCell t v):=
 (h.trans (hb.mono hB)).setCell ht _
theorem errTy_below {w w1:World} (h:errTy w) (hb:Below w.heap.size w w1):errTy w1:=by
 unfold errTy at *
 rw[hb.cell (p:=⟨0,0,none⟩) (hgl h)];exact h
def TokPost (R:List Tk × Int × Int) (w:World) (e:Ending) (w':World):Prop:=
 ∃v,e= .returned (.tuple #[v, .int .i64 R.2.1, .int .i64 R.2.2])∧OwnK w.heap.size w' v R.1∧Below w.heap.size w w'
theorem tok_post {R:List Tk × Int × Int} {w w':World} {v:Value} {a b:Int} (ha:a=R.2.1) (hb:b=R.2.2) (ho:OwnK w.heap.size w' v R.1) (hbl:Below w.heap.size w w'):TokPost R w (.returned (.tuple #[v, .int .i64 a, .int .i64 b])) w':=by
 subst ha hb;exact⟨v,rfl,ho,hbl⟩
theorem tokens_any (s:ByteArray) (w:World) (hs:s.size≤1125899906842624) (hg:errTy w) :
  Calls Tryz.prog 102 #[.string s] w (TokPost (lexR s) w):=by
 obtain⟨R,hR⟩ : ∃R,lexR s=R:=⟨_,rfl⟩
 have hsc:=bH fun (W:World)=>scan_any s W hs
 rw[hR] at hsc ⊢
 clear hR
 have hg':=bH hg
 have h0l:=hgl hg
 clear hg
 go_enter Tryz.func102,Tryz.ntmps102
 go_wp2_with fail
 refine(hsc.out _).mono ?_
 rintro e w1 ⟨hb1,⟨h0,h1,v,rfl,hown⟩|⟨hl,he,g,hg0,hg1,rfl,hc0,hc1⟩⟩
 ·have h0':=bH h0;have h1':=bH h1;have ho:=bH hown
  clear h0 h1 hown
  have hB:=hb1.size
  go_wp2_with fail
  refine(as_nil _ _).mono ?_
  rintro e w' ⟨rfl,rfl⟩
  go_wp2_with fail
  go_ret3
  exact tok_post h1'.out.symm h0'.out.symm (World.ownsRow.alloc (World.ownsRow.alloc ho.out _) _) (bZ)
 ·have hl':=bH hl
  have hB:=hb1.size
  have hg1t:Hid (errTy w1):=bH (errTy_below hg'.out hb1)
  obtain⟨er,her⟩ : ∃x,R.2.2=x:=⟨_,rfl⟩
  obtain⟨pl,hpl⟩ : ∃x,R.2.1=x:=⟨_,rfl⟩
  rw[her] at hc1
  rw[hpl] at hc0
  have her':=bH her;have hpl':=bH hpl
  clear hl he her hpl
  go_wp2_with fail
  refine(as_hit ⟨g,0,none⟩ ⟨w1.heap.size,0,none⟩ (.pointer none) _ (errTy_below hg1t.out (bZ)) (by simp) (by simp)).mono ?_
  rintro e w2' ⟨rfl,W0,hW0,hw2⟩
  have p0:w2'.cell? ⟨w1.heap.size,0,none⟩=some (.pointer (some ⟨g,0,none⟩)):=by rw[hw2];exact set_old hW0 (by first|(simp;done)|(simp;omega)) (by simp;rfl)
  have p1:w2'.cell? ⟨w1.heap.size+1,0,none⟩=some (.int .i64 0):=by rw[hw2,set_oth hW0 (by first|(simp;done)|(simp;omega)) (by simp)];simp
  have p2:w2'.frozen? ⟨w1.heap.size+1,0,none⟩=false:=by rw[hw2,set_froz hW0 (by first|(simp;done)|(simp;omega))];simp
  have hbel2:Below w1.heap.size w1 w2':=by rw[hw2];exact set_below (bZ) hW0 (by first|(simp;done)|(simp;omega)) (by first|(simp;done)|(simp;omega))
  have hz2:w1.heap.size+1<w2'.heap.size:=by rw[hw2];have:=hW0.size;simp at this ⊢;omega
  clear hw2 hW0
  have q0:=carry hbel2 hg1 hc0
  have q1:=carry hbel2 hg1 hc1
  clear hc0 hc1
  have hg2t:Hid (errTy w2'):=bH (errTy_below hg1t.out hbel2)
  go_wp2_with fail
  refine(as_wrap g er ⟨w1.heap.size+1,0,none⟩ (.int .i64 0) _ hg2t.out q1 p1 p2).mono ?_
  rintro e w3' ⟨rfl,W0,hW0,hw3⟩
  have r0:w3'.cell? ⟨w1.heap.size,0,none⟩=some (.pointer (some ⟨g,0,none⟩)):=by rw[hw3,set_oth hW0 (by show w1.heap.size<_;omega) (by simp)];exact p0
  have r1:w3'.cell? ⟨w1.heap.size+1,0,none⟩=some (.int .i64 er):=by rw[hw3];exact set_old hW0 hz2 p1
  have r2:w3'.cell? ⟨g,0,none⟩=some (.int .i64 pl):=by rw[hw3,set_oth hW0 (by show g<_;omega) (by first|(simp;done)|(simp;omega))];exact q0
  have hbel3:Below w1.heap.size w1 w3':=by rw[hw3];exact set_below hbel2 hW0 (by simp) (by omega)
  clear hw3 hW0 p0 p1 p2 q0 q1
  have hbel:Below w.heap.size w w3':=belT hb1 hbel3
  go_wp2_with fail
  go_region
  all_goals
   go_wp2_with fail
   go_ret3
   exact tok_post hpl'.out.symm her'.out.symm (by rw[hl'.out];exact ownK_nil _ _) (bZ)
open Go.RowKit
def tk0:Tk:=⟨0,[],0,0⟩
def TkAt (w:World) (b off:Nat) (t:Tk) (i:Nat):Prop:=
 w.cell? ⟨b,off+i*4,none⟩=some (.int .i64 t.kind)∧w.cell? ⟨b,off+i*4+1,none⟩=some (.string (bs t.text))∧w.cell? ⟨b,off+i*4+2,none⟩=some (.int .i64 t.num)∧w.cell? ⟨b,off+i*4+3,none⟩=some (.int .i64 t.at_)
def TkSl (w:World) (b off:Nat) (l:List Tk):Prop:= ∀i,i<l.length→TkAt w b off (l.getD i tk0) i
theorem TkAt.below {B:Nat} {w w':World} {b off i:Nat} {t:Tk} (h:TkAt w b off t i) (hb:Below B w w') (hB:b<B):TkAt w' b off t i:=by
 unfold TkAt at *
 have e : ∀o,w'.cell? ⟨b,o,none⟩=w.cell? ⟨b,o,none⟩:=fun o=>hb.cell (p:=⟨b,o,none⟩) hB
 simp only[e];exact h
theorem TkSl.below {B:Nat} {w w':World} {b off:Nat} {l:List Tk} (h:TkSl w b off l) (hb:Below B w w') (hB:b<B):TkSl w' b off l:=fun i hi=>(h i hi).below hb hB
def RdK (w:World) (v:Value) (l:List Tk):Prop:=(l=[]∧ ∃ad c,v= .slice ad 0 c) ∨ ∃g c,v= .slice (some ⟨g,0,none⟩) l.length c∧g<w.heap.size∧TkSl w g 0 l
theorem RdK.below {w w':World} {v:Value} {l:List Tk} (h:RdK w v l) (hb:Below w.heap.size w w'):RdK w' v l:=by
 rcases h with h|⟨g,c,h1,h2,h3⟩
 ·exact .inl h
 ·exact .inr ⟨g,c,h1,by have:=hb.size;omega,h3.below hb h2⟩
theorem tkL_get : ∀(l:List Tk) (i k:Nat),k<4→(tkL l)[i*4+k]? = (l[i]?).bind fun t=>(tk4 t)[k]?
 | [],i,k,_=>by simp[tkL]
 | t :: l,0,k,hk=>by
  simp only[tkL,List.flatMap_cons,Nat.zero_mul,Nat.zero_add]
  rw[List.getElem?_append_left (by simp[tk4];omega)];rfl
 | t :: l,i+1,k,hk=>by
  have h:=tkL_get l i k hk
  simp only[tkL,List.flatMap_cons] at *
  rw[List.getElem?_append_right (by simp[tk4];omega),show (i+1)*4+k-(tk4 t).length=i*4+k by simp[tk4];omega,h]
  simp
theorem tkSl_of {w:World} {g off:Nat} {l:List Tk} (h : ∀j u,(tkL l)[j]? = some u→w.cell? ⟨g,off+j,none⟩=some u):TkSl w g off l:=by
 intro i hi
 have hg:l[i]? = some (l.getD i tk0):=by rw[List.getD_eq_getElem?_getD,List.getElem?_eq_getElem hi];rfl
 have k0:=h (i*4+0) (.int .i64 (l.getD i tk0).kind) (by rw[tkL_get l i 0 (by omega),hg];rfl)
 have k1:=h (i*4+1) (.string (bs (l.getD i tk0).text)) (by rw[tkL_get l i 1 (by omega),hg];rfl)
 have k2:=h (i*4+2) (.int .i64 (l.getD i tk0).num) (by rw[tkL_get l i 2 (by omega),hg];rfl)
 have k3:=h (i*4+3) (.int .i64 (l.getD i tk0).at_) (by rw[tkL_get l i 3 (by omega),hg];rfl)
 exact⟨k0,k1,k2,k3⟩
theorem OwnK.rd {B:Nat} {w:World} {v:Value} {l:List Tk} (h:OwnK B w v l):RdK w v l:=by
 rcases h.2 with ⟨rfl,h0⟩|⟨g,cap,cur,rfl,hb,hg,hc,hm,hsz,htk⟩
 ·exact .inl ⟨List.eq_nil_of_length_eq_zero h0,_,_,rfl⟩
 ·refine .inr ⟨g,cap,rfl,(Array.getElem?_eq_some_iff.1 hg).1,tkSl_of fun j u hj=> ?_⟩
  have:=World.ownsRow.cells (show w.ownsRow B 114 4 (.slice (some ⟨g,0,none⟩) l.length cap) l.length (tkL l) from h) rfl j u hj
  by_cases hj0:j=0
  ·subst hj0;simpa [Addr.add] using this
  ·simpa [Addr.add,hj0] using this
def Only (g:Nat) (w w':World):Prop:=w.heap.size≤w'.heap.size∧(∀p:Addr,p.block≠g→w'.cell? p=w.cell? p)∧(∀p:Addr,w'.frozen? p=w.frozen? p)
theorem Only.refl (g:Nat) (w:World):Only g w w:=⟨Nat.le_refl _,fun _ _=>rfl,fun _=>rfl⟩
theorem Only.set {g o:Nat} {w w':World} (h:Only g w w') (v:Value):Only g w (w'.setCell ⟨g,o,none⟩ v):=
 ⟨by have:=h.1;simpa using this,fun p hp=>by rw[World.cell?_setCell_other _ _ _ _ (by intro e;apply hp;rw[← e])];exact h.2.1 p hp,fun p=>by rw[show (w'.setCell ⟨g,o,none⟩ v).frozen? p=w'.frozen? p from by simp[go_sem]];exact h.2.2 p⟩
def bgK (g:Nat→Int):List Int→Int→Int
 | [],k=>k
 | c :: cs,k=>if c=k-1∧1≤k then (if g (k-1).toNat<0 then -1 else bgK g cs (g (k-1).toNat)) else -1
def bgF (ks:Nat→List Int):Nat→Nat→Int
 | 0,_=> -1
 | f+1,i=>bgK (bgF ks f) (ks i).reverse i
def bg (ks:Nat→List Int) (i:Nat):Int:=bgF ks (i+1) i
theorem bgK_le (g:Nat→Int) (hg : ∀j,g j≤j) : ∀(cs:List Int) (k:Int),0≤k→bgK g cs k≤k:=by
 intro cs
 induction cs with
 | nil=>intro k _;exact Int.le_refl k
 | cons c cs ih=>
  intro k hk
  unfold bgK
  by_cases h1:c=k-1∧1≤k
  ·rw[if_pos h1]
   have hgk:=hg (k-1).toNat
   by_cases h2:g (k-1).toNat<0
   ·rw[if_pos h2];omega
   ·rw[if_neg h2]
    have:=ih (g (k-1).toNat) (by omega)
    omega
  ·rw[if_neg h1];omega
theorem bgK_congr (g h:Nat→Int) (hg : ∀j,g j≤j) : ∀(cs:List Int) (k:Int),(∀j:Nat,(j:Int)<k→g j=h j)→bgK g cs k=bgK h cs k:=by
 intro cs
 induction cs with
 | nil=>intro k _;rfl
 | cons c cs ih=>
  intro k hk
  unfold bgK
  by_cases h1:c=k-1∧1≤k
  ·rw[if_pos h1,if_pos h1, ← hk (k-1).toNat (by omega)]
   have hgk:=hg (k-1).toNat
   by_cases h2:g (k-1).toNat<0
   ·rw[if_pos h2,if_pos h2]
   ·rw[if_neg h2,if_neg h2]
    exact ih _ (fun j hj=>hk j (by omega))
  ·rw[if_neg h1,if_neg h1]
theorem bgF_le (ks:Nat→List Int) : ∀(f i:Nat),bgF ks f i≤i:=by
 intro f
 induction f with
 | zero=>intro i;unfold bgF;omega
 | succ f ih=>intro i;unfold bgF;exact bgK_le _ ih _ _ (by omega)
theorem bgF_fuel (ks:Nat→List Int) : ∀(f i g:Nat),i<f→i<g→bgF ks f i=bgF ks g i:=by
 intro f
 induction f with
 | zero=>intro i g h;omega
 | succ f ih=>
  intro i g h1 h2
  cases g with
  | zero=>omega
  | succ g=>
   unfold bgF
   apply bgK_congr _ _ (bgF_le ks f)
   intro j hj
   exact ih j g (by omega) (by omega)
theorem bg_eq (ks:Nat→List Int) (i:Nat):bg ks i=bgK (bg ks) (ks i).reverse i:=by
 conv=>lhs;unfold bg bgF
 apply bgK_congr _ _ (bgF_le ks i)
 intro j hj
 unfold bg
 exact bgF_fuel ks _ _ _ (by omega) (by omega)
theorem bg_le (ks:Nat→List Int) (i:Nat):bg ks i≤i:=bgF_le ks _ i
theorem bgK_cover (g:Nat→Int) (hg : ∀j,g j≤j) : ∀(cs:List Int) (k:Int),0≤k→0≤bgK g cs k→
  (∀j:Nat,(j:Int)<k→0≤g j→ ∀m:Nat,g j≤m→m≤j→0≤g m)→
  ∀m:Nat,bgK g cs k≤m→(m:Int)<k→0≤g m:=by
 intro cs
 induction cs with
 | nil=>intro k _ _ _ m h1 h2;unfold bgK at h1;omega
 | cons c cs ih=>
  intro k hk hpos hcov m h1 h2
  unfold bgK at hpos h1
  by_cases hc:c=k-1∧1≤k
  ·rw[if_pos hc] at hpos h1
   by_cases hn:g (k-1).toNat<0
   ·rw[if_pos hn] at hpos;omega
   ·rw[if_neg hn] at hpos h1
    by_cases hm:(m:Int)<g (k-1).toNat
    ·have hgk:=hg (k-1).toNat
     exact ih _ (by omega) hpos (fun j hj h0=>hcov j (by omega) h0) m h1 hm
    ·exact hcov (k-1).toNat (by omega) (by omega) m (by omega) (by omega)
  ·rw[if_neg hc] at hpos;omega
theorem bg_cover (ks:Nat→List Int) : ∀(n i:Nat),i<n→0≤bg ks i→ ∀m:Nat,bg ks i≤m→m≤i→0≤bg ks m:=by
 intro n
 induction n with
 | zero=>intro i h;omega
 | succ n ih=>
  intro i hi h0 m h1 h2
  by_cases hm:m=i
  ·rw[hm];exact h0
  ·rw[bg_eq] at h0 h1
   exact bgK_cover (bg ks) (bg_le ks) _ i (by omega) h0 (fun j hj h0j m' h1' h2'=>ih j (by omega) h0j m' h1' h2') m h1 (by omega)
theorem bg_all {ks:Nat→List Int} {n:Nat} (h:bg ks n=0) (m:Nat) (hm:m≤n):0≤bg ks m:=
 bg_cover ks (n+1) n (by omega) (by omega) m (by omega) hm
open Go.RowKit
theorem et_name:Tryz.prog.globalNamed "errors.errorType" = some 0:=by kernel_rfl
theorem et_rt:(Tryz.prog.cutTypes.find? (·.1 == "internal/reflectlite.rtype")).map (·.2)=some 170:=by kernel_rfl
theorem et_row:((List.range 219).filter fun t=>Tryz.prog.rowNamed t [101,114,114,111,114])=[141]:=by kernel_rfl
theorem et_size:Tryz.prog.types.size=219:=by kernel_rfl
theorem et_hd:typeHandle Tryz.prog 141= .pointer (some ⟨1,141,none⟩):=by kernel_rfl
theorem errTy_of {W:World} {l:List (String × DataW Unit)} (h:laidMetH Tryz.prog l W) (hm:("errors.errorType",(Rows.laid_errors_errorType:DataW Unit))∈l):errTy W:=by
 have hf:("errors.errorType",(Rows.laid_errors_errorType:DataW Unit))∈l.filter fun x=>x.2.handleName?.isSome:=List.mem_filter.2 ⟨hm,rfl⟩
 have hall:handlesMet Tryz.prog (l.filter fun x=>x.2.handleName?.isSome) W:=by
  unfold laidMetH at h
  generalize (l.filter fun x=>x.2.handleName?.isSome)=fl at h hf
  cases fl with
  | nil=>cases hf
  | cons a r=>exact h.2
 obtain⟨name,u,ty,e1,e2,e3,e4,e5⟩:=hall _ hf
 obtain rfl:name=[101,114,114,111,114]:=(Option.some.inj e1).symm
 obtain rfl:=Option.some.inj (et_rt.symm.trans e2)
 have hmem:ty∈(List.range 219).filter fun t=>Tryz.prog.rowNamed t [101,114,114,111,114]:=List.mem_filter.2 ⟨List.mem_range.2 (by rw[← et_size];exact e3),e4⟩
 rw[et_row] at hmem
 obtain rfl:=List.mem_singleton.1 hmem
 rw[et_hd] at e5
 unfold errTy rT
 simpa using World.var?_cell et_name e5 0
noncomputable def handleWorld (os:Os):World:= { World.holding Tryz.prog os ⟨#[], #[],[]⟩ with heap:=(World.holding Tryz.prog os ⟨#[], #[],[]⟩).heap.modify 0 fun | .cells _ t frozen=> .cells #[.iface 170 (.agg #[.pointer (some ⟨1,141,none⟩)])] t frozen|o=>o }
end Go.Proofs.YthpcbgljbpmafaaGreatDoor
