/- Nodes: plain facts, and contracts of tree's and the reference's functions on one node (numbers, kinds). -/
import Derived.Test.YthpcbgljbpmafaaGreatDoorW2
import Derived.Laws.CopyRow
import Derived.Deep.WholeRow
import Derived.Deep.DeepCutAuto
set_option maxRecDepth 100000
set_option maxHeartbeats 8000000
namespace Go.Proofs.YthpcbgljbpmafaaGreatDoor
open Go.RowKit
set_option linter.unusedVariables false
set_option linter.unusedSimpArgs false
def numB (kd nm:Int):Bool:=if kd=1 then decide (0≤nm∧nm≤1073741823) else if kd=2 then decide (nm=0∨nm=1) else if kd=8 then decide (0≤nm∧nm≤5) else true
def kidsI (kd:Int):Int:=if kd=0∨kd=1∨kd=2 then 0 else if kd=3∨kd=9 then 1 else if kd=4∨kd=5∨kd=6∨kd=8 then 2 else if kd=7∨kd=10 then 3 else -1
def baseB (k:Int):Bool:=decide (k=0∨k=1)
theorem ret_bb {a b:Bool} (h:a=b):Ending.returned (.bool a)= .returned (.bool b):=by rw[h]
theorem ret_ii0 {a b:Int} (h:a=b):Ending.returned (.int .i64 a)= .returned (.int .i64 b):=by rw[h]
theorem isNum_any (kd a b c nm at_:Int) (s1 s2 s3 s4:ByteArray) (w:World) :
  Calls Tryz.prog 98 #[.agg #[.int .i64 kd, .int .i64 a, .int .i64 b, .int .i64 c, .int .i64 nm, .string s1, .string s2, .string s3, .string s4, .int .i64 at_]] w fun e w'=>e= .returned (.bool (numB kd nm))∧Below w.heap.size w w':=by
 go_enter Tryz.func98,Tryz.ntmps98
 by_cases k1:kd=1
 ·subst k1
  by_cases h0:nm<0
  ·go_wp2_with fail
   go_ret
   exact⟨ret_bb (by unfold numB;simp;omega),bZ⟩
  by_cases h1:nm≤1073741823
  ·go_wp2_with fail
   go_ret
   exact⟨ret_bb (by unfold numB;simp;omega),bZ⟩
  ·go_wp2_with fail
   go_ret
   exact⟨ret_bb (by unfold numB;simp;omega),bZ⟩
 by_cases k2:kd=2
 ·subst k2
  by_cases h0:nm=0
  ·subst h0
   go_wp2_with fail
   go_ret
   exact⟨ret_bb (by unfold numB;simp),bZ⟩
  ·have h0b:(nm==0)=false:=by simpa using h0
   by_cases h1:nm=1
   ·subst h1
    go_wp2_with fail
    go_ret
    exact⟨ret_bb (by unfold numB;simp),bZ⟩
   ·have h1b:(nm==1)=false:=by simpa using h1
    go_wp2_with fail
    go_ret
    exact⟨ret_bb (by unfold numB;simp;omega),bZ⟩
 by_cases k8:kd=8
 ·subst k8
  by_cases h0:nm<0
  ·go_wp2_with fail
   go_ret
   exact⟨ret_bb (by unfold numB;simp;omega),bZ⟩
  by_cases h1:nm≤5
  ·go_wp2_with fail
   go_ret
   exact⟨ret_bb (by unfold numB;simp;omega),bZ⟩
  ·go_wp2_with fail
   go_ret
   exact⟨ret_bb (by unfold numB;simp;omega),bZ⟩
 ·have b1:(kd==1)=false:=by simpa using k1
  have b2:(kd==2)=false:=by simpa using k2
  have b8:(kd==8)=false:=by simpa using k8
  go_wp2_with fail
  go_ret
  exact⟨ret_bb (by unfold numB;rw[if_neg k1,if_neg k2,if_neg k8]),bZ⟩
theorem nums_any (kd a b c nm at_:Int) (s1 s2 s3 s4:ByteArray) (w:World) :
  Calls Tryz.prog 64 #[.agg #[.int .i64 kd, .int .i64 a, .int .i64 b, .int .i64 c, .int .i64 nm, .string s1, .string s2, .string s3, .string s4, .int .i64 at_]] w fun e w'=>e= .returned (.bool (numB kd nm))∧Below w.heap.size w w':=by
 go_enter Tryz.func64,Tryz.ntmps64
 by_cases k1:kd=1
 ·subst k1
  by_cases h0:nm<0
  ·go_wp2_with fail
   go_ret
   exact⟨ret_bb (by unfold numB;simp;omega),bZ⟩
  by_cases h1:nm≤1073741823
  ·go_wp2_with fail
   go_ret
   exact⟨ret_bb (by unfold numB;simp;omega),bZ⟩
  ·go_wp2_with fail
   go_ret
   exact⟨ret_bb (by unfold numB;simp;omega),bZ⟩
 by_cases k2:kd=2
 ·subst k2
  by_cases h0:nm=0
  ·subst h0
   go_wp2_with fail
   go_ret
   exact⟨ret_bb (by unfold numB;simp),bZ⟩
  ·have h0b:(nm==0)=false:=by simpa using h0
   by_cases h1:nm=1
   ·subst h1
    go_wp2_with fail
    go_ret
    exact⟨ret_bb (by unfold numB;simp),bZ⟩
   ·have h1b:(nm==1)=false:=by simpa using h1
    go_wp2_with fail
    go_ret
    exact⟨ret_bb (by unfold numB;simp;omega),bZ⟩
 by_cases k8:kd=8
 ·subst k8
  by_cases h0:nm<0
  ·go_wp2_with fail
   go_ret
   exact⟨ret_bb (by unfold numB;simp;omega),bZ⟩
  by_cases h1:nm≤5
  ·go_wp2_with fail
   go_ret
   exact⟨ret_bb (by unfold numB;simp;omega),bZ⟩
  ·go_wp2_with fail
   go_ret
   exact⟨ret_bb (by unfold numB;simp;omega),bZ⟩
 ·have b1:(kd==1)=false:=by simpa using k1
  have b2:(kd==2)=false:=by simpa using k2
  have b8:(kd==8)=false:=by simpa using k8
  go_wp2_with fail
  go_ret
  exact⟨ret_bb (by unfold numB;rw[if_neg k1,if_neg k2,if_neg k8]),bZ⟩
theorem kids_any (kd:Int) (w:World):Calls Tryz.prog 85 #[.int .i64 kd] w fun e w'=>e= .returned (.int .i64 (kidsI kd))∧Below w.heap.size w w':=by
 by_cases hk:0≤kd∧kd≤10
 ·have h11:kd=0∨kd=1∨kd=2∨kd=3∨kd=4∨kd=5∨kd=6∨kd=7∨kd=8∨kd=9∨kd=10:=by omega
  rcases h11 with rfl|rfl|rfl|rfl|rfl|rfl|rfl|rfl|rfl|rfl|rfl
  all_goals
   go_enter Tryz.func85,Tryz.ntmps85
   go_wp2_with fail
   go_ret
   exact⟨rfl,bZ⟩
 ·have b0:(kd==0)=false:=beq_eq_false_iff_ne.2 (by omega)
  have b1:(kd==1)=false:=beq_eq_false_iff_ne.2 (by omega)
  have b2:(kd==2)=false:=beq_eq_false_iff_ne.2 (by omega)
  have b3:(kd==3)=false:=beq_eq_false_iff_ne.2 (by omega)
  have b4:(kd==4)=false:=beq_eq_false_iff_ne.2 (by omega)
  have b5:(kd==5)=false:=beq_eq_false_iff_ne.2 (by omega)
  have b6:(kd==6)=false:=beq_eq_false_iff_ne.2 (by omega)
  have b7:(kd==7)=false:=beq_eq_false_iff_ne.2 (by omega)
  have b8:(kd==8)=false:=beq_eq_false_iff_ne.2 (by omega)
  have b9:(kd==9)=false:=beq_eq_false_iff_ne.2 (by omega)
  have b10:(kd==10)=false:=beq_eq_false_iff_ne.2 (by omega)
  go_enter Tryz.func85,Tryz.ntmps85
  go_wp2_with fail
  go_ret
  exact⟨ret_ii0 (by unfold kidsI;(repeat' rw[if_neg (by omega)])),bZ⟩
open Go.RowKit
theorem lit_cells (W:World) (g:Nat) (l:List Int) (T:TypeId) (hg:g=W.heap.size) {arr:Array Value} (ha:arr=(l.map (Value.int .i64)).toArray) : ∀i,i<l.length→(W.alloc (.cells arr T)).cell? ⟨g,i,none⟩=some (.int .i64 (l.getD i 0)):=by
 intro i hi
 subst hg ha
 rw[World.cell?_alloc_new]
 simp[hi]
theorem copy_of (W:World) (g:Nat) (l:List Int) (n:Nat) (hn:l.length=n) (h3:n≤3) (hg:g<W.heap.size) (hc : ∀i,i<l.length→W.cell? ⟨g,i,none⟩=some (.int .i64 (l.getD i 0))) (T:TypeId) (G:Nat) (hG:G=W.heap.size) :
  (Builtin.copy_ #[47,47] 3 #[.slice (some ⟨G,1,none⟩) 3 3, .slice (some ⟨g,0,none⟩) n n]).run Tryz.prog (W.alloc (.cells #[.int .i64 0, .int .i64 0, .int .i64 0, .int .i64 0] T))=
   .ok (goInt n) (W.alloc (.cells ([Value.int .i64 0]++l.map (Value.int .i64)++[Value.int .i64 0, .int .i64 0, .int .i64 0, .int .i64 0].drop (1+n)).toArray T)):=by
 subst hG
 have h:=run_copy_row (P:=Tryz.prog) (W.alloc (.cells #[.int .i64 0, .int .i64 0, .int .i64 0, .int .i64 0] T)) 47 47 3 3 W.heap.size 1 3 3 ⟨g,0,none⟩ n n #[.int .i64 0, .int .i64 0, .int .i64 0, .int .i64 0] T (l.map (Value.int .i64)) Tryz.underlying47 (by kernel_rfl) (MapKept.heap_alloc W _).1 (by rw[List.length_map,hn];show n=min n 3;omega) ?_ (by simp;omega) (by simp[Value.oneCell'])
 ·rw[h,World.setRow_alloc_new]
  simp[hn]
 ·intro j v hj
  have hj':j<l.length:=by
   have:=List.getElem?_eq_some_iff.1 hj
   simpa using this.1
  have e:(⟨g,0,none⟩:Addr).add j=⟨g,j,none⟩:=by simp[Addr.add];try omega
  rw[e,World.cell?_alloc_past _ _ _ hg,hc j hj']
  rw[List.getElem?_map,List.getElem?_eq_getElem hj'] at hj
  simp at hj
  rw[← hj];simp[hj']
def kidV (l:List Int):Value:= .agg #[.int .i64 l.length, .int .i64 (l.getD 0 0), .int .i64 (l.getD 1 0), .int .i64 (l.getD 2 0)]
theorem of1 (g:Nat) (p:Int) (w:World) (hg:g<w.heap.size) (hc : ∀i,i<[p].length→w.cell? ⟨g,i,none⟩=some (.int .i64 ([p].getD i 0))) :
  Calls Tryz.prog 103 #[.slice (some ⟨g,0,none⟩) 1 1] w fun e w'=>e= .returned (kidV [p])∧Below w.heap.size w w':=by
 have hcp:=copy_of (w.alloc (.cells #[.int .i64 0, .int .i64 0, .int .i64 0, .int .i64 0] 123)) g [p] 1 rfl (by omega) (by simp;omega) (fun i hi=>by rw[World.cell?_alloc_past _ _ _ hg];exact hc i hi) 123 (w.heap.size+1) (by simp)
 simp only[List.map_cons,List.map_nil,List.cons_append,List.nil_append,List.drop_succ_cons,List.drop_zero,Nat.reduceAdd,List.append_nil,List.drop_nil] at hcp
 clear hc
 go_enter Tryz.func103,Tryz.ntmps103
 go_wp2_with fail
 exact bodyPost_ret (v:=kidV [p]) (by simp[results,Tryz.results103,go_sem,kidV]) rfl ⟨rfl,bZ⟩
theorem of2 (g:Nat) (p q:Int) (w:World) (hg:g<w.heap.size) (hc : ∀i,i<[p,q].length→w.cell? ⟨g,i,none⟩=some (.int .i64 ([p,q].getD i 0))) :
  Calls Tryz.prog 103 #[.slice (some ⟨g,0,none⟩) 2 2] w fun e w'=>e= .returned (kidV [p,q])∧Below w.heap.size w w':=by
 have hcp:=copy_of (w.alloc (.cells #[.int .i64 0, .int .i64 0, .int .i64 0, .int .i64 0] 123)) g [p,q] 2 rfl (by omega) (by simp;omega) (fun i hi=>by rw[World.cell?_alloc_past _ _ _ hg];exact hc i hi) 123 (w.heap.size+1) (by simp)
 simp only[List.map_cons,List.map_nil,List.cons_append,List.nil_append,List.drop_succ_cons,List.drop_zero,Nat.reduceAdd,List.append_nil,List.drop_nil] at hcp
 clear hc
 go_enter Tryz.func103,Tryz.ntmps103
 go_wp2_with fail
 exact bodyPost_ret (v:=kidV [p,q]) (by simp[results,Tryz.results103,go_sem,kidV]) rfl ⟨rfl,bZ⟩
theorem of3 (g:Nat) (p q r:Int) (w:World) (hg:g<w.heap.size) (hc : ∀i,i<[p,q,r].length→w.cell? ⟨g,i,none⟩=some (.int .i64 ([p,q,r].getD i 0))) :
  Calls Tryz.prog 103 #[.slice (some ⟨g,0,none⟩) 3 3] w fun e w'=>e= .returned (kidV [p,q,r])∧Below w.heap.size w w':=by
 have hcp:=copy_of (w.alloc (.cells #[.int .i64 0, .int .i64 0, .int .i64 0, .int .i64 0] 123)) g [p,q,r] 3 rfl (by omega) (by simp;omega) (fun i hi=>by rw[World.cell?_alloc_past _ _ _ hg];exact hc i hi) 123 (w.heap.size+1) (by simp)
 simp only[List.map_cons,List.map_nil,List.cons_append,List.nil_append,List.drop_succ_cons,List.drop_zero,Nat.reduceAdd,List.append_nil,List.drop_nil] at hcp
 clear hc
 go_enter Tryz.func103,Tryz.ntmps103
 go_wp2_with fail
 exact bodyPost_ret (v:=kidV [p,q,r]) (by simp[results,Tryz.results103,go_sem,kidV]) rfl ⟨rfl,bZ⟩
theorem of0 (w:World) :
  Calls Tryz.prog 103 #[.slice none 0 0] w fun e w'=>e= .returned (kidV [])∧Below w.heap.size w w':=by
 have hcp:=fun (W:World) (a:Addr)=>run_copy_nil (P:=Tryz.prog) W 47 47 3 3 a 3 3 Tryz.underlying47 (by kernel_rfl)
 go_enter Tryz.func103,Tryz.ntmps103
 go_wp2_with fail
 exact bodyPost_ret (v:=kidV []) (by simp[results,Tryz.results103,go_sem,kidV]) rfl ⟨rfl,bZ⟩
theorem kidV_eq (l:List Int):kidV l= .agg #[.int .i64 l.length, .int .i64 (l.getD 0 0), .int .i64 (l.getD 1 0), .int .i64 (l.getD 2 0)]:=rfl
def kidsL (k a b c:Int):List Int:=if k=3∨k=9 then [a] else if k=4∨k=5∨k=6∨k=8 then [a,b] else if k=7∨k=10 then [a,b,c] else []
theorem tchildren_any (k a b c nm at_:Int) (s1 s2 s3 s4:ByteArray) (w:World) :
  Calls Tryz.prog 80 #[.agg #[.int .i64 k, .int .i64 a, .int .i64 b, .int .i64 c, .int .i64 nm, .string s1, .string s2, .string s3, .string s4, .int .i64 at_]] w fun e w'=>e= .returned (kidV (kidsL k a b c))∧Below w.heap.size w w':=by
 go_enter Tryz.func80,Tryz.ntmps80
 have hk:(k=3∨k=9)∨(k=4∨k=5∨k=6∨k=8)∨(k=7∨k=10)∨(¬ (k=3∨k=9)∧ ¬ (k=4∨k=5∨k=6∨k=8)∧ ¬ (k=7∨k=10)):=by omega
 rcases hk with hk|hk|hk|⟨h1,h2,h3⟩
 ·have hkl:Hid (kidsL k a b c=[a]):=bH (by unfold kidsL;rw[if_pos hk])
  rcases hk with rfl|rfl
  all_goals
   go_wp2_with fail
   refine(of1 _ _ _ (by simp) (lit_cells _ _ [a] _ (by simp) rfl)).mono ?_
   rintro e w1 ⟨rfl,hb1⟩
   obtain⟨hc1,hf1⟩:=bcell hb1
   have hz1:w.heap.size+1<w1.heap.size:=by have:=hb1.size;(try simp at this);omega
   rw[kidV_eq]
   simp only[List.length_cons,List.length_nil,List.getD_cons_zero,List.getD_cons_succ,List.getD_nil,Nat.reduceAdd]
   go_wp2_with fail
   exact bodyPost_ret (v:=kidV [a]) (by simp[results,Tryz.results80,go_sem,kidV,hc1,hf1,hz1]) rfl ⟨by rw[hkl.out],by(repeat' (first|with_reducible exact Below.refl _ _|with_reducible assumption|with_reducible apply Below.setCell|with_reducible apply Below.alloc|with_reducible apply Below.drew|with_reducible apply below_drewN|with_reducible exact Nat.le_refl _|(simp;done)|(simp;omega)|omega|exact Nat.le_refl _));exact belT (bZ) hb1⟩
 ·have hkl:Hid (kidsL k a b c=[a,b]):=bH (by unfold kidsL;rw[if_neg (by omega),if_pos hk])
  rcases hk with rfl|rfl|rfl|rfl
  all_goals
   go_wp2_with fail
   refine(of2 _ _ _ _ (by simp) (lit_cells _ _ [a,b] _ (by simp) rfl)).mono ?_
   rintro e w1 ⟨rfl,hb1⟩
   obtain⟨hc1,hf1⟩:=bcell hb1
   have hz1:w.heap.size+1<w1.heap.size:=by have:=hb1.size;(try simp at this);omega
   rw[kidV_eq]
   simp only[List.length_cons,List.length_nil,List.getD_cons_zero,List.getD_cons_succ,List.getD_nil,Nat.reduceAdd]
   go_wp2_with fail
   exact bodyPost_ret (v:=kidV [a,b]) (by simp[results,Tryz.results80,go_sem,kidV,hc1,hf1,hz1]) rfl ⟨by rw[hkl.out],by(repeat' (first|with_reducible exact Below.refl _ _|with_reducible assumption|with_reducible apply Below.setCell|with_reducible apply Below.alloc|with_reducible apply Below.drew|with_reducible apply below_drewN|with_reducible exact Nat.le_refl _|(simp;done)|(simp;omega)|omega|exact Nat.le_refl _));exact belT (bZ) hb1⟩
 ·have hkl:Hid (kidsL k a b c=[a,b,c]):=bH (by unfold kidsL;rw[if_neg (by omega),if_neg (by omega),if_pos hk])
  rcases hk with rfl|rfl
  all_goals
   go_wp2_with fail
   refine(of3 _ _ _ _ _ (by simp) (lit_cells _ _ [a,b,c] _ (by simp) rfl)).mono ?_
   rintro e w1 ⟨rfl,hb1⟩
   obtain⟨hc1,hf1⟩:=bcell hb1
   have hz1:w.heap.size+1<w1.heap.size:=by have:=hb1.size;(try simp at this);omega
   rw[kidV_eq]
   simp only[List.length_cons,List.length_nil,List.getD_cons_zero,List.getD_cons_succ,List.getD_nil,Nat.reduceAdd]
   go_wp2_with fail
   exact bodyPost_ret (v:=kidV [a,b,c]) (by simp[results,Tryz.results80,go_sem,kidV,hc1,hf1,hz1]) rfl ⟨by rw[hkl.out],by(repeat' (first|with_reducible exact Below.refl _ _|with_reducible assumption|with_reducible apply Below.setCell|with_reducible apply Below.alloc|with_reducible apply Below.drew|with_reducible apply below_drewN|with_reducible exact Nat.le_refl _|(simp;done)|(simp;omega)|omega|exact Nat.le_refl _));exact belT (bZ) hb1⟩
 ·have hkl:Hid (kidsL k a b c=[]):=bH (by unfold kidsL;rw[if_neg h1,if_neg h2,if_neg h3])
  have e3:(k==3)=false:=by simp;omega
  have e4:(k==4)=false:=by simp;omega
  have e9:(k==9)=false:=by simp;omega
  have e5:(k==5)=false:=by simp;omega
  have e6:(k==6)=false:=by simp;omega
  have e8:(k==8)=false:=by simp;omega
  have e10:(k==10)=false:=by simp;omega
  have e7:(k==7)=false:=by simp;omega
  clear h1 h2 h3
  go_wp2_with fail
  refine(of0 _).mono ?_
  rintro e w1 ⟨rfl,hb1⟩
  obtain⟨hc1,hf1⟩:=bcell hb1
  have hz1:w.heap.size+1<w1.heap.size:=by have:=hb1.size;(try simp at this);omega
  rw[kidV_eq]
  simp only[List.length_cons,List.length_nil,List.getD_cons_zero,List.getD_cons_succ,List.getD_nil,Nat.reduceAdd]
  go_wp2_with fail
  exact bodyPost_ret (v:=kidV []) (by simp[results,Tryz.results80,go_sem,kidV,hc1,hf1,hz1]) rfl ⟨by rw[hkl.out],by(repeat' (first|with_reducible exact Below.refl _ _|with_reducible assumption|with_reducible apply Below.setCell|with_reducible apply Below.alloc|with_reducible apply Below.drew|with_reducible apply below_drewN|with_reducible exact Nat.le_refl _|(simp;done)|(simp;omega)|omega|exact Nat.le_refl _));exact belT (bZ) hb1⟩
open Go.RowKit
def plainB (kd a b c nm:Int) (s1 s2 s3 s4:ByteArray):Bool:=
 if kd=0 then decide (a=0∧b=0∧c=0∧s2.toList=[]∧s3.toList=[]∧s4.toList=[])
 else if kd=1∨kd=2 then decide (a=0∧b=0∧c=0∧s1.toList=[]∧s2.toList=[]∧s3.toList=[]∧s4.toList=[])
 else if kd=3 then decide (b=0∧c=0∧nm=0∧s1.toList=[]∧s3.toList=[]∧s4.toList=[])
 else if kd=4 then decide (c=0∧nm=0∧s1.toList=[]∧s2.toList=[]∧s3.toList=[]∧s4.toList=[])
 else if kd=5 then decide (c=0∧nm=0∧s1.toList=[]∧s3.toList=[]∧s4.toList=[])
 else if kd=6 then decide (c=0∧nm=0∧s1.toList=[]∧s4.toList=[])
 else if kd=7 then decide (nm=0∧s1.toList=[]∧s2.toList=[]∧s3.toList=[]∧s4.toList=[])
 else if kd=8 then decide (c=0∧s1.toList=[]∧s2.toList=[]∧s3.toList=[]∧s4.toList=[])
 else if kd=9 then decide (b=0∧c=0∧s2.toList=[]∧s3.toList=[]∧s4.toList=[])
 else decide (kd=10)
theorem plain0 (a b c nm at_:Int) (s1 s2 s3 s4:ByteArray) (w:World) :
  Calls Tryz.prog 97 #[.agg #[.int .i64 0, .int .i64 a, .int .i64 b, .int .i64 c, .int .i64 nm, .string s1, .string s2, .string s3, .string s4, .int .i64 at_]] w fun e w'=>e= .returned (.bool (plainB 0 a b c nm s1 s2 s3 s4))∧Below w.heap.size w w':=by
 have hpl:Hid (∀x:Bool,x=plainB 0 a b c nm s1 s2 s3 s4→Ending.returned (.bool x)= .returned (.bool (plainB 0 a b c nm s1 s2 s3 s4))):=bH fun x h=>by rw[h]
 have hdf:Hid (plainB 0 a b c nm s1 s2 s3 s4=plainB 0 a b c nm s1 s2 s3 s4):=bH rfl
 generalize hPB:plainB 0 a b c nm s1 s2 s3 s4=PB
 have hPB':=bH hPB;clear hPB hpl hdf
 go_enter Tryz.func97,Tryz.ntmps97
 go_wp2_with fail
 go_region
 go_wp2_with fail
 all_goals
  go_ret
  exact⟨ret_bb (by rw[← hPB'.out];unfold plainB;simp[*]),bZ⟩
theorem plain1 (a b c nm at_:Int) (s1 s2 s3 s4:ByteArray) (w:World) :
  Calls Tryz.prog 97 #[.agg #[.int .i64 1, .int .i64 a, .int .i64 b, .int .i64 c, .int .i64 nm, .string s1, .string s2, .string s3, .string s4, .int .i64 at_]] w fun e w'=>e= .returned (.bool (plainB 1 a b c nm s1 s2 s3 s4))∧Below w.heap.size w w':=by
 have hpl:Hid (∀x:Bool,x=plainB 1 a b c nm s1 s2 s3 s4→Ending.returned (.bool x)= .returned (.bool (plainB 1 a b c nm s1 s2 s3 s4))):=bH fun x h=>by rw[h]
 have hdf:Hid (plainB 1 a b c nm s1 s2 s3 s4=plainB 1 a b c nm s1 s2 s3 s4):=bH rfl
 generalize hPB:plainB 1 a b c nm s1 s2 s3 s4=PB
 have hPB':=bH hPB;clear hPB hpl hdf
 go_enter Tryz.func97,Tryz.ntmps97
 go_wp2_with fail
 all_goals
  go_ret
  exact⟨ret_bb (by rw[← hPB'.out];unfold plainB;simp[*]),bZ⟩
theorem plain2 (a b c nm at_:Int) (s1 s2 s3 s4:ByteArray) (w:World) :
  Calls Tryz.prog 97 #[.agg #[.int .i64 2, .int .i64 a, .int .i64 b, .int .i64 c, .int .i64 nm, .string s1, .string s2, .string s3, .string s4, .int .i64 at_]] w fun e w'=>e= .returned (.bool (plainB 2 a b c nm s1 s2 s3 s4))∧Below w.heap.size w w':=by
 have hpl:Hid (∀x:Bool,x=plainB 2 a b c nm s1 s2 s3 s4→Ending.returned (.bool x)= .returned (.bool (plainB 2 a b c nm s1 s2 s3 s4))):=bH fun x h=>by rw[h]
 have hdf:Hid (plainB 2 a b c nm s1 s2 s3 s4=plainB 2 a b c nm s1 s2 s3 s4):=bH rfl
 generalize hPB:plainB 2 a b c nm s1 s2 s3 s4=PB
 have hPB':=bH hPB;clear hPB hpl hdf
 go_enter Tryz.func97,Tryz.ntmps97
 go_wp2_with fail
 all_goals
  go_ret
  exact⟨ret_bb (by rw[← hPB'.out];unfold plainB;simp[*]),bZ⟩
theorem plain3 (a b c nm at_:Int) (s1 s2 s3 s4:ByteArray) (w:World) :
  Calls Tryz.prog 97 #[.agg #[.int .i64 3, .int .i64 a, .int .i64 b, .int .i64 c, .int .i64 nm, .string s1, .string s2, .string s3, .string s4, .int .i64 at_]] w fun e w'=>e= .returned (.bool (plainB 3 a b c nm s1 s2 s3 s4))∧Below w.heap.size w w':=by
 have hpl:Hid (∀x:Bool,x=plainB 3 a b c nm s1 s2 s3 s4→Ending.returned (.bool x)= .returned (.bool (plainB 3 a b c nm s1 s2 s3 s4))):=bH fun x h=>by rw[h]
 have hdf:Hid (plainB 3 a b c nm s1 s2 s3 s4=plainB 3 a b c nm s1 s2 s3 s4):=bH rfl
 generalize hPB:plainB 3 a b c nm s1 s2 s3 s4=PB
 have hPB':=bH hPB;clear hPB hpl hdf
 go_enter Tryz.func97,Tryz.ntmps97
 go_wp2_with fail
 go_region
 go_wp2_with fail
 all_goals
  go_ret
  exact⟨ret_bb (by rw[← hPB'.out];unfold plainB;simp[*]),bZ⟩
theorem plain4 (a b c nm at_:Int) (s1 s2 s3 s4:ByteArray) (w:World) :
  Calls Tryz.prog 97 #[.agg #[.int .i64 4, .int .i64 a, .int .i64 b, .int .i64 c, .int .i64 nm, .string s1, .string s2, .string s3, .string s4, .int .i64 at_]] w fun e w'=>e= .returned (.bool (plainB 4 a b c nm s1 s2 s3 s4))∧Below w.heap.size w w':=by
 have hpl:Hid (∀x:Bool,x=plainB 4 a b c nm s1 s2 s3 s4→Ending.returned (.bool x)= .returned (.bool (plainB 4 a b c nm s1 s2 s3 s4))):=bH fun x h=>by rw[h]
 have hdf:Hid (plainB 4 a b c nm s1 s2 s3 s4=plainB 4 a b c nm s1 s2 s3 s4):=bH rfl
 generalize hPB:plainB 4 a b c nm s1 s2 s3 s4=PB
 have hPB':=bH hPB;clear hPB hpl hdf
 go_enter Tryz.func97,Tryz.ntmps97
 go_wp2_with fail
 go_region
 go_wp2_with fail
 all_goals
  go_ret
  exact⟨ret_bb (by rw[← hPB'.out];unfold plainB;simp[*]),bZ⟩
theorem plain5 (a b c nm at_:Int) (s1 s2 s3 s4:ByteArray) (w:World) :
  Calls Tryz.prog 97 #[.agg #[.int .i64 5, .int .i64 a, .int .i64 b, .int .i64 c, .int .i64 nm, .string s1, .string s2, .string s3, .string s4, .int .i64 at_]] w fun e w'=>e= .returned (.bool (plainB 5 a b c nm s1 s2 s3 s4))∧Below w.heap.size w w':=by
 have hpl:Hid (∀x:Bool,x=plainB 5 a b c nm s1 s2 s3 s4→Ending.returned (.bool x)= .returned (.bool (plainB 5 a b c nm s1 s2 s3 s4))):=bH fun x h=>by rw[h]
 have hdf:Hid (plainB 5 a b c nm s1 s2 s3 s4=plainB 5 a b c nm s1 s2 s3 s4):=bH rfl
 generalize hPB:plainB 5 a b c nm s1 s2 s3 s4=PB
 have hPB':=bH hPB;clear hPB hpl hdf
 go_enter Tryz.func97,Tryz.ntmps97
 go_wp2_with fail
 go_region
 go_wp2_with fail
 all_goals
  go_ret
  exact⟨ret_bb (by rw[← hPB'.out];unfold plainB;simp[*]),bZ⟩
theorem plain6 (a b c nm at_:Int) (s1 s2 s3 s4:ByteArray) (w:World) :
  Calls Tryz.prog 97 #[.agg #[.int .i64 6, .int .i64 a, .int .i64 b, .int .i64 c, .int .i64 nm, .string s1, .string s2, .string s3, .string s4, .int .i64 at_]] w fun e w'=>e= .returned (.bool (plainB 6 a b c nm s1 s2 s3 s4))∧Below w.heap.size w w':=by
 have hpl:Hid (∀x:Bool,x=plainB 6 a b c nm s1 s2 s3 s4→Ending.returned (.bool x)= .returned (.bool (plainB 6 a b c nm s1 s2 s3 s4))):=bH fun x h=>by rw[h]
 have hdf:Hid (plainB 6 a b c nm s1 s2 s3 s4=plainB 6 a b c nm s1 s2 s3 s4):=bH rfl
 generalize hPB:plainB 6 a b c nm s1 s2 s3 s4=PB
 have hPB':=bH hPB;clear hPB hpl hdf
 go_enter Tryz.func97,Tryz.ntmps97
 go_wp2_with fail
 go_region
 go_wp2_with fail
 all_goals
  go_ret
  exact⟨ret_bb (by rw[← hPB'.out];unfold plainB;simp[*]),bZ⟩
theorem plain7 (a b c nm at_:Int) (s1 s2 s3 s4:ByteArray) (w:World) :
  Calls Tryz.prog 97 #[.agg #[.int .i64 7, .int .i64 a, .int .i64 b, .int .i64 c, .int .i64 nm, .string s1, .string s2, .string s3, .string s4, .int .i64 at_]] w fun e w'=>e= .returned (.bool (plainB 7 a b c nm s1 s2 s3 s4))∧Below w.heap.size w w':=by
 have hpl:Hid (∀x:Bool,x=plainB 7 a b c nm s1 s2 s3 s4→Ending.returned (.bool x)= .returned (.bool (plainB 7 a b c nm s1 s2 s3 s4))):=bH fun x h=>by rw[h]
 have hdf:Hid (plainB 7 a b c nm s1 s2 s3 s4=plainB 7 a b c nm s1 s2 s3 s4):=bH rfl
 generalize hPB:plainB 7 a b c nm s1 s2 s3 s4=PB
 have hPB':=bH hPB;clear hPB hpl hdf
 go_enter Tryz.func97,Tryz.ntmps97
 go_wp2_with fail
 go_region
 go_wp2_with fail
 all_goals
  go_ret
  exact⟨ret_bb (by rw[← hPB'.out];unfold plainB;simp[*]),bZ⟩
theorem plain8 (a b c nm at_:Int) (s1 s2 s3 s4:ByteArray) (w:World) :
  Calls Tryz.prog 97 #[.agg #[.int .i64 8, .int .i64 a, .int .i64 b, .int .i64 c, .int .i64 nm, .string s1, .string s2, .string s3, .string s4, .int .i64 at_]] w fun e w'=>e= .returned (.bool (plainB 8 a b c nm s1 s2 s3 s4))∧Below w.heap.size w w':=by
 have hpl:Hid (∀x:Bool,x=plainB 8 a b c nm s1 s2 s3 s4→Ending.returned (.bool x)= .returned (.bool (plainB 8 a b c nm s1 s2 s3 s4))):=bH fun x h=>by rw[h]
 have hdf:Hid (plainB 8 a b c nm s1 s2 s3 s4=plainB 8 a b c nm s1 s2 s3 s4):=bH rfl
 generalize hPB:plainB 8 a b c nm s1 s2 s3 s4=PB
 have hPB':=bH hPB;clear hPB hpl hdf
 go_enter Tryz.func97,Tryz.ntmps97
 go_wp2_with fail
 go_region
 go_wp2_with fail
 all_goals
  go_ret
  exact⟨ret_bb (by rw[← hPB'.out];unfold plainB;simp[*]),bZ⟩
theorem plain9 (a b c nm at_:Int) (s1 s2 s3 s4:ByteArray) (w:World) :
  Calls Tryz.prog 97 #[.agg #[.int .i64 9, .int .i64 a, .int .i64 b, .int .i64 c, .int .i64 nm, .string s1, .string s2, .string s3, .string s4, .int .i64 at_]] w fun e w'=>e= .returned (.bool (plainB 9 a b c nm s1 s2 s3 s4))∧Below w.heap.size w w':=by
 have hpl:Hid (∀x:Bool,x=plainB 9 a b c nm s1 s2 s3 s4→Ending.returned (.bool x)= .returned (.bool (plainB 9 a b c nm s1 s2 s3 s4))):=bH fun x h=>by rw[h]
 have hdf:Hid (plainB 9 a b c nm s1 s2 s3 s4=plainB 9 a b c nm s1 s2 s3 s4):=bH rfl
 generalize hPB:plainB 9 a b c nm s1 s2 s3 s4=PB
 have hPB':=bH hPB;clear hPB hpl hdf
 go_enter Tryz.func97,Tryz.ntmps97
 go_wp2_with fail
 go_region
 go_wp2_with fail
 all_goals
  go_ret
  exact⟨ret_bb (by rw[← hPB'.out];unfold plainB;simp[*]),bZ⟩
theorem plain10 (a b c nm at_:Int) (s1 s2 s3 s4:ByteArray) (w:World) :
  Calls Tryz.prog 97 #[.agg #[.int .i64 10, .int .i64 a, .int .i64 b, .int .i64 c, .int .i64 nm, .string s1, .string s2, .string s3, .string s4, .int .i64 at_]] w fun e w'=>e= .returned (.bool (plainB 10 a b c nm s1 s2 s3 s4))∧Below w.heap.size w w':=by
 have hpl:Hid (∀x:Bool,x=plainB 10 a b c nm s1 s2 s3 s4→Ending.returned (.bool x)= .returned (.bool (plainB 10 a b c nm s1 s2 s3 s4))):=bH fun x h=>by rw[h]
 have hdf:Hid (plainB 10 a b c nm s1 s2 s3 s4=plainB 10 a b c nm s1 s2 s3 s4):=bH rfl
 generalize hPB:plainB 10 a b c nm s1 s2 s3 s4=PB
 have hPB':=bH hPB;clear hPB hpl hdf
 go_enter Tryz.func97,Tryz.ntmps97
 go_wp2_with fail
 all_goals
  go_ret
  exact⟨ret_bb (by rw[← hPB'.out];unfold plainB;simp[*]),bZ⟩
theorem isPlain_any (kd:Int) (a b c nm at_:Int) (s1 s2 s3 s4:ByteArray) (w:World) :
  Calls Tryz.prog 97 #[.agg #[.int .i64 kd, .int .i64 a, .int .i64 b, .int .i64 c, .int .i64 nm, .string s1, .string s2, .string s3, .string s4, .int .i64 at_]] w fun e w'=>e= .returned (.bool (plainB kd a b c nm s1 s2 s3 s4))∧Below w.heap.size w w':=by
 by_cases hk:0≤kd∧kd≤10
 ·have h11:kd=0∨kd=1∨kd=2∨kd=3∨kd=4∨kd=5∨kd=6∨kd=7∨kd=8∨kd=9∨kd=10:=by omega
  rcases h11 with rfl|rfl|rfl|rfl|rfl|rfl|rfl|rfl|rfl|rfl|rfl
  ·exact plain0 a b c nm at_ s1 s2 s3 s4 w
  ·exact plain1 a b c nm at_ s1 s2 s3 s4 w
  ·exact plain2 a b c nm at_ s1 s2 s3 s4 w
  ·exact plain3 a b c nm at_ s1 s2 s3 s4 w
  ·exact plain4 a b c nm at_ s1 s2 s3 s4 w
  ·exact plain5 a b c nm at_ s1 s2 s3 s4 w
  ·exact plain6 a b c nm at_ s1 s2 s3 s4 w
  ·exact plain7 a b c nm at_ s1 s2 s3 s4 w
  ·exact plain8 a b c nm at_ s1 s2 s3 s4 w
  ·exact plain9 a b c nm at_ s1 s2 s3 s4 w
  ·exact plain10 a b c nm at_ s1 s2 s3 s4 w
 have hno:plainB kd a b c nm s1 s2 s3 s4=false:=by
  unfold plainB
  (repeat' rw[if_neg (by omega)])
  exact decide_eq_false (by omega)
 rw[hno]
 have b0:(kd==0)=false:=beq_eq_false_iff_ne.2 (by omega)
 have b1:(kd==1)=false:=beq_eq_false_iff_ne.2 (by omega)
 have b2:(kd==2)=false:=beq_eq_false_iff_ne.2 (by omega)
 have b3:(kd==3)=false:=beq_eq_false_iff_ne.2 (by omega)
 have b4:(kd==4)=false:=beq_eq_false_iff_ne.2 (by omega)
 have b5:(kd==5)=false:=beq_eq_false_iff_ne.2 (by omega)
 have b6:(kd==6)=false:=beq_eq_false_iff_ne.2 (by omega)
 have b7:(kd==7)=false:=beq_eq_false_iff_ne.2 (by omega)
 have b8:(kd==8)=false:=beq_eq_false_iff_ne.2 (by omega)
 have b9:(kd==9)=false:=beq_eq_false_iff_ne.2 (by omega)
 have b10:(kd==10)=false:=beq_eq_false_iff_ne.2 (by omega)
 go_enter Tryz.func97,Tryz.ntmps97
 go_wp2_with fail
 go_ret
 exact⟨rfl,bZ⟩
end Go.Proofs.YthpcbgljbpmafaaGreatDoor
