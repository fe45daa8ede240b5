/- The reference's bound. -/
import Derived.Test.YthpcbgljbpmafaaGreatDoorW12
set_option maxRecDepth 100000
set_option maxHeartbeats 8000000
namespace Go.Proofs.YthpcbgljbpmafaaGreatDoor
open Go.RowKit
set_option linter.unusedVariables false
set_option linter.unusedSimpArgs false
theorem cell_set (w:World) (g o:Nat) (v:Value) (b q:Nat) (old:Value) (h:w.cell? ⟨g,o,none⟩=some old):(w.setCell ⟨g,o,none⟩ v).cell? ⟨b,q,none⟩=if b=g∧q=o then some v else w.cell? ⟨b,q,none⟩:=by
 unfold World.cell? World.setCell at *
 simp only[Array.getElem?_modify,Option.isSome_none,Bool.false_eq_true,if_false] at *
 by_cases hb:g=b
 ·subst hb
  cases hh:w.heap[g]? with
  | none=>rw[hh] at h;cases h
  | some ob=>
   cases ob with
   | cells c T f=>
    rw[hh] at h
    simp only at h
    simp only[if_true,Option.map_some,true_and,Array.getElem?_setIfInBounds]
    have hlt:o<c.size:=(Array.getElem?_eq_some_iff.1 h).1
    by_cases hq:o=q
    ·subst hq;simp[hlt]
    ·rw[if_neg hq,if_neg (fun e=>hq e.symm)]
   | _=>rw[hh] at h;cases h
 ·rw[if_neg hb,if_neg (fun e=>hb e.1.symm)]
def BdPost (w:World) (g:Nat) (ok:Bool) (s6 s7 s8:ByteArray) (e:Ending) (w':World):Prop:=
 e= .returned (.bool ok)∧w.heap.size≤w'.heap.size∧(∀b o,b<w.heap.size→(b≠g∨(o≠6∧o≠7∧o≠8))→w'.cell? ⟨b,o,none⟩=w.cell? ⟨b,o,none⟩)∧w'.cell? ⟨g,6,none⟩=some (.string s6)∧w'.cell? ⟨g,7,none⟩=some (.string s7)∧w'.cell? ⟨g,8,none⟩=some (.string s8)∧
 ∀w0:World,Below w0.heap.size w0 w→w0.heap.size≤g→Below w0.heap.size w0 w'
theorem bd_fin {w W1 w':World} {g:Nat} {ok ok':Bool} {s6 s7 s8:ByteArray} (hg:g<w.heap.size) (hok:ok'=ok) (hsz:w.heap.size≤W1.heap.size) (h1 : ∀b o,b<w.heap.size→(b≠g∨(o≠6∧o≠7∧o≠8))→W1.cell? ⟨b,o,none⟩=w.cell? ⟨b,o,none⟩)
  (c6:W1.cell? ⟨g,6,none⟩=some (.string s6)) (c7:W1.cell? ⟨g,7,none⟩=some (.string s7)) (c8:W1.cell? ⟨g,8,none⟩=some (.string s8)) (hw : ∀w0:World,Below w0.heap.size w0 w→w0.heap.size≤g→Below w0.heap.size w0 W1) (hb:Below W1.heap.size W1 w') :
  BdPost w g ok s6 s7 s8 (.returned (.bool ok')) w':=by
 have hsz2:=hb.size
 refine⟨by rw[hok],by omega,fun b o h h2=> ?_, ?_, ?_, ?_,fun w0 h h2=>belT (hw w0 h h2) hb⟩
 ·rw[hb.cell (p:=⟨b,o,none⟩) (by show b<_;omega)];exact h1 b o h h2
 ·rw[hb.cell (p:=⟨g,6,none⟩) (by show g<_;omega)];exact c6
 ·rw[hb.cell (p:=⟨g,7,none⟩) (by show g<_;omega)];exact c7
 ·rw[hb.cell (p:=⟨g,8,none⟩) (by show g<_;omega)];exact c8
theorem bound0 (a b c nm at_:Int) (s1 s2 s3 s4 t6 t7 t8:ByteArray) (g:Nat) (w:World) (hg:g<w.heap.size) (hf : ∀o,w.frozen? ⟨g,o,none⟩=false) (h6:w.cell? ⟨g,6,none⟩=some (.string t6)) (h7:w.cell? ⟨g,7,none⟩=some (.string t7)) (h8:w.cell? ⟨g,8,none⟩=some (.string t8)) (hz:s1.size≤1125899906842624∧s2.size≤1125899906842624∧s3.size≤1125899906842624∧s4.size≤1125899906842624) :
  Calls Tryz.prog 86 #[.agg #[.int .i64 0, .int .i64 a, .int .i64 b, .int .i64 c, .int .i64 nm, .string s1, .string s2, .string s3, .string s4, .int .i64 at_], .pointer (some ⟨g,0,none⟩)] w (BdPost w g (nmB s1.data.toList) t6 t7 t8):=by
 obtain⟨z1,z2,z3,z4⟩:=hz
 have ks1:=bH fun (W:World)=>nameMay_any s1 W z1
 generalize nmB s1.data.toList=ns1 at ks1 ⊢
 have hf6:=hf 6;have hf7:=hf 7;have hf8:=hf 8;clear hf
 have hw1:=bH (show ∀W1:World,W1=(w.alloc (.cells #[.int .i64 0, .int .i64 a, .int .i64 b, .int .i64 c, .int .i64 nm, .string s1, .string s2, .string s3, .string s4, .int .i64 at_] 45))→(w.heap.size≤W1.heap.size∧(∀bb o,bb<w.heap.size→(bb≠g∨(o≠6∧o≠7∧o≠8))→W1.cell? ⟨bb,o,none⟩=w.cell? ⟨bb,o,none⟩)∧W1.cell? ⟨g,6,none⟩=some (.string t6)∧W1.cell? ⟨g,7,none⟩=some (.string t7)∧W1.cell? ⟨g,8,none⟩=some (.string t8)∧(∀w0:World,Below w0.heap.size w0 w→w0.heap.size≤g→Below w0.heap.size w0 W1)) from by
  rintro W1 rfl
  have A : ∀bb q,bb<w.heap.size→((w.alloc (.cells #[.int .i64 0, .int .i64 a, .int .i64 b, .int .i64 c, .int .i64 nm, .string s1, .string s2, .string s3, .string s4, .int .i64 at_] 45))).cell? ⟨bb,q,none⟩=w.cell? ⟨bb,q,none⟩:=by
   intro bb q hb
   rw[World.cell?_alloc_past _ _ _ (by simpa using hb)]
  refine⟨by simp,fun bb o h h2=> ?_, ?_, ?_, ?_,fun w0 h h2=> ?_⟩
  ·rw[A bb o h];(repeat rw[if_neg (by omega)])
  ·rw[A g 6 hg];(repeat rw[if_neg (by omega)]);first|(rw[if_pos ⟨rfl,rfl⟩])|exact h6
  ·rw[A g 7 hg];(repeat rw[if_neg (by omega)]);first|(rw[if_pos ⟨rfl,rfl⟩])|exact h7
  ·rw[A g 8 hg];(repeat rw[if_neg (by omega)]);first|(rw[if_pos ⟨rfl,rfl⟩])|exact h8
  ·have:=h.size;exact bZ)
 have hH:=bH (And.intro h6 (And.intro h7 h8))
 go_enter Tryz.func86,Tryz.ntmps86
 obtain⟨W1,hW1⟩ : ∃W1,(w.alloc (.cells #[.int .i64 0, .int .i64 a, .int .i64 b, .int .i64 c, .int .i64 nm, .string s1, .string s2, .string s3, .string s4, .int .i64 at_] 45))=W1:=⟨_,rfl⟩
 have hQ:=bH (hw1.out _ hW1.symm)
 clear hw1
 have b5:W1.cell? ⟨w.heap.size,5,none⟩=some (.string s1):=by rw[← hW1,World.cell?_alloc_at _ _ _ _ (by simp)];rfl
 have hz0:w.heap.size<W1.heap.size:=by rw[← hW1];simp
 have hW1':=bH hW1;clear hW1
 have hbb:=bH (Below.refl W1.heap.size W1)
 go_wp2_with fail
 rw[hW1'.out]
 refine(ks1.out _).mono ?_
 rintro e v0 ⟨rfl,hb0⟩
 have hbb0:=bH (belT hbb.out hb0)
 have hz1:w.heap.size<v0.heap.size:=by have:=hb0.size;omega
 clear hb0
 go_wp2_with fail
 go_ret
 obtain⟨q1,q2,q3,q4,q5,q6⟩:=hQ.out
 exact bd_fin hg (by first|rfl|simp) q1 q2 q3 q4 q5 q6 hbb0.out
theorem bound1 (a b c nm at_:Int) (s1 s2 s3 s4 t6 t7 t8:ByteArray) (g:Nat) (w:World) (hg:g<w.heap.size) (hf : ∀o,w.frozen? ⟨g,o,none⟩=false) (h6:w.cell? ⟨g,6,none⟩=some (.string t6)) (h7:w.cell? ⟨g,7,none⟩=some (.string t7)) (h8:w.cell? ⟨g,8,none⟩=some (.string t8)) (hz:s1.size≤1125899906842624∧s2.size≤1125899906842624∧s3.size≤1125899906842624∧s4.size≤1125899906842624) :
  Calls Tryz.prog 86 #[.agg #[.int .i64 1, .int .i64 a, .int .i64 b, .int .i64 c, .int .i64 nm, .string s1, .string s2, .string s3, .string s4, .int .i64 at_], .pointer (some ⟨g,0,none⟩)] w (BdPost w g (true) t6 t7 t8):=by
 obtain⟨z1,z2,z3,z4⟩:=hz
 have hf6:=hf 6;have hf7:=hf 7;have hf8:=hf 8;clear hf
 have hw1:=bH (show ∀W1:World,W1=(w.alloc (.cells #[.int .i64 1, .int .i64 a, .int .i64 b, .int .i64 c, .int .i64 nm, .string s1, .string s2, .string s3, .string s4, .int .i64 at_] 45))→(w.heap.size≤W1.heap.size∧(∀bb o,bb<w.heap.size→(bb≠g∨(o≠6∧o≠7∧o≠8))→W1.cell? ⟨bb,o,none⟩=w.cell? ⟨bb,o,none⟩)∧W1.cell? ⟨g,6,none⟩=some (.string t6)∧W1.cell? ⟨g,7,none⟩=some (.string t7)∧W1.cell? ⟨g,8,none⟩=some (.string t8)∧(∀w0:World,Below w0.heap.size w0 w→w0.heap.size≤g→Below w0.heap.size w0 W1)) from by
  rintro W1 rfl
  have A : ∀bb q,bb<w.heap.size→((w.alloc (.cells #[.int .i64 1, .int .i64 a, .int .i64 b, .int .i64 c, .int .i64 nm, .string s1, .string s2, .string s3, .string s4, .int .i64 at_] 45))).cell? ⟨bb,q,none⟩=w.cell? ⟨bb,q,none⟩:=by
   intro bb q hb
   rw[World.cell?_alloc_past _ _ _ (by simpa using hb)]
  refine⟨by simp,fun bb o h h2=> ?_, ?_, ?_, ?_,fun w0 h h2=> ?_⟩
  ·rw[A bb o h];(repeat rw[if_neg (by omega)])
  ·rw[A g 6 hg];(repeat rw[if_neg (by omega)]);first|(rw[if_pos ⟨rfl,rfl⟩])|exact h6
  ·rw[A g 7 hg];(repeat rw[if_neg (by omega)]);first|(rw[if_pos ⟨rfl,rfl⟩])|exact h7
  ·rw[A g 8 hg];(repeat rw[if_neg (by omega)]);first|(rw[if_pos ⟨rfl,rfl⟩])|exact h8
  ·have:=h.size;exact bZ)
 have hH:=bH (And.intro h6 (And.intro h7 h8))
 go_enter Tryz.func86,Tryz.ntmps86
 go_wp2_with fail
 go_ret
 obtain⟨q1,q2,q3,q4,q5,q6⟩:=hw1.out _ rfl
 exact bd_fin hg rfl q1 q2 q3 q4 q5 q6 (Below.refl _ _)
theorem bound2 (a b c nm at_:Int) (s1 s2 s3 s4 t6 t7 t8:ByteArray) (g:Nat) (w:World) (hg:g<w.heap.size) (hf : ∀o,w.frozen? ⟨g,o,none⟩=false) (h6:w.cell? ⟨g,6,none⟩=some (.string t6)) (h7:w.cell? ⟨g,7,none⟩=some (.string t7)) (h8:w.cell? ⟨g,8,none⟩=some (.string t8)) (hz:s1.size≤1125899906842624∧s2.size≤1125899906842624∧s3.size≤1125899906842624∧s4.size≤1125899906842624) :
  Calls Tryz.prog 86 #[.agg #[.int .i64 2, .int .i64 a, .int .i64 b, .int .i64 c, .int .i64 nm, .string s1, .string s2, .string s3, .string s4, .int .i64 at_], .pointer (some ⟨g,0,none⟩)] w (BdPost w g (true) t6 t7 t8):=by
 obtain⟨z1,z2,z3,z4⟩:=hz
 have hf6:=hf 6;have hf7:=hf 7;have hf8:=hf 8;clear hf
 have hw1:=bH (show ∀W1:World,W1=(w.alloc (.cells #[.int .i64 2, .int .i64 a, .int .i64 b, .int .i64 c, .int .i64 nm, .string s1, .string s2, .string s3, .string s4, .int .i64 at_] 45))→(w.heap.size≤W1.heap.size∧(∀bb o,bb<w.heap.size→(bb≠g∨(o≠6∧o≠7∧o≠8))→W1.cell? ⟨bb,o,none⟩=w.cell? ⟨bb,o,none⟩)∧W1.cell? ⟨g,6,none⟩=some (.string t6)∧W1.cell? ⟨g,7,none⟩=some (.string t7)∧W1.cell? ⟨g,8,none⟩=some (.string t8)∧(∀w0:World,Below w0.heap.size w0 w→w0.heap.size≤g→Below w0.heap.size w0 W1)) from by
  rintro W1 rfl
  have A : ∀bb q,bb<w.heap.size→((w.alloc (.cells #[.int .i64 2, .int .i64 a, .int .i64 b, .int .i64 c, .int .i64 nm, .string s1, .string s2, .string s3, .string s4, .int .i64 at_] 45))).cell? ⟨bb,q,none⟩=w.cell? ⟨bb,q,none⟩:=by
   intro bb q hb
   rw[World.cell?_alloc_past _ _ _ (by simpa using hb)]
  refine⟨by simp,fun bb o h h2=> ?_, ?_, ?_, ?_,fun w0 h h2=> ?_⟩
  ·rw[A bb o h];(repeat rw[if_neg (by omega)])
  ·rw[A g 6 hg];(repeat rw[if_neg (by omega)]);first|(rw[if_pos ⟨rfl,rfl⟩])|exact h6
  ·rw[A g 7 hg];(repeat rw[if_neg (by omega)]);first|(rw[if_pos ⟨rfl,rfl⟩])|exact h7
  ·rw[A g 8 hg];(repeat rw[if_neg (by omega)]);first|(rw[if_pos ⟨rfl,rfl⟩])|exact h8
  ·have:=h.size;exact bZ)
 have hH:=bH (And.intro h6 (And.intro h7 h8))
 go_enter Tryz.func86,Tryz.ntmps86
 go_wp2_with fail
 go_ret
 obtain⟨q1,q2,q3,q4,q5,q6⟩:=hw1.out _ rfl
 exact bd_fin hg rfl q1 q2 q3 q4 q5 q6 (Below.refl _ _)
theorem bound3 (a b c nm at_:Int) (s1 s2 s3 s4 t6 t7 t8:ByteArray) (g:Nat) (w:World) (hg:g<w.heap.size) (hf : ∀o,w.frozen? ⟨g,o,none⟩=false) (h6:w.cell? ⟨g,6,none⟩=some (.string t6)) (h7:w.cell? ⟨g,7,none⟩=some (.string t7)) (h8:w.cell? ⟨g,8,none⟩=some (.string t8)) (hz:s1.size≤1125899906842624∧s2.size≤1125899906842624∧s3.size≤1125899906842624∧s4.size≤1125899906842624) :
  Calls Tryz.prog 86 #[.agg #[.int .i64 3, .int .i64 a, .int .i64 b, .int .i64 c, .int .i64 nm, .string s1, .string s2, .string s3, .string s4, .int .i64 at_], .pointer (some ⟨g,0,none⟩)] w (BdPost w g (nmB s2.data.toList) s2 t7 t8):=by
 obtain⟨z1,z2,z3,z4⟩:=hz
 have ks2:=bH fun (W:World)=>nameMay_any s2 W z2
 generalize nmB s2.data.toList=ns2 at ks2 ⊢
 have hf6:=hf 6;have hf7:=hf 7;have hf8:=hf 8;clear hf
 have hw1:=bH (show ∀W1:World,W1=((w.setCell ⟨g,6,none⟩ (.string s2)).alloc (.cells #[.int .i64 3, .int .i64 a, .int .i64 b, .int .i64 c, .int .i64 nm, .string s1, .string s2, .string s3, .string s4, .int .i64 at_] 45))→(w.heap.size≤W1.heap.size∧(∀bb o,bb<w.heap.size→(bb≠g∨(o≠6∧o≠7∧o≠8))→W1.cell? ⟨bb,o,none⟩=w.cell? ⟨bb,o,none⟩)∧W1.cell? ⟨g,6,none⟩=some (.string s2)∧W1.cell? ⟨g,7,none⟩=some (.string t7)∧W1.cell? ⟨g,8,none⟩=some (.string t8)∧(∀w0:World,Below w0.heap.size w0 w→w0.heap.size≤g→Below w0.heap.size w0 W1)) from by
  rintro W1 rfl
  have A : ∀bb q,bb<w.heap.size→(((w.setCell ⟨g,6,none⟩ (.string s2)).alloc (.cells #[.int .i64 3, .int .i64 a, .int .i64 b, .int .i64 c, .int .i64 nm, .string s1, .string s2, .string s3, .string s4, .int .i64 at_] 45))).cell? ⟨bb,q,none⟩=(if bb=g∧q=6 then some (.string s2) else w.cell? ⟨bb,q,none⟩):=by
   intro bb q hb
   rw[World.cell?_alloc_past _ _ _ (by simpa using hb)]
   rw[cell_set _ _ _ _ _ _ _ h6]
  refine⟨by simp,fun bb o h h2=> ?_, ?_, ?_, ?_,fun w0 h h2=> ?_⟩
  ·rw[A bb o h];(repeat rw[if_neg (by omega)])
  ·rw[A g 6 hg];(repeat rw[if_neg (by omega)]);first|(rw[if_pos ⟨rfl,rfl⟩])|exact h6
  ·rw[A g 7 hg];(repeat rw[if_neg (by omega)]);first|(rw[if_pos ⟨rfl,rfl⟩])|exact h7
  ·rw[A g 8 hg];(repeat rw[if_neg (by omega)]);first|(rw[if_pos ⟨rfl,rfl⟩])|exact h8
  ·have:=h.size;exact bZ)
 have hH:=bH (And.intro h6 (And.intro h7 h8))
 go_enter Tryz.func86,Tryz.ntmps86
 obtain⟨W1,hW1⟩ : ∃W1,((w.setCell ⟨g,6,none⟩ (.string s2)).alloc (.cells #[.int .i64 3, .int .i64 a, .int .i64 b, .int .i64 c, .int .i64 nm, .string s1, .string s2, .string s3, .string s4, .int .i64 at_] 45))=W1:=⟨_,rfl⟩
 have hQ:=bH (hw1.out _ hW1.symm)
 clear hw1
 have b6:W1.cell? ⟨w.heap.size,6,none⟩=some (.string s2):=by rw[← hW1,World.cell?_alloc_at _ _ _ _ (by simp)];rfl
 have hz0:w.heap.size<W1.heap.size:=by rw[← hW1];simp
 have hW1':=bH hW1;clear hW1
 have hbb:=bH (Below.refl W1.heap.size W1)
 go_wp2_with fail
 rw[hW1'.out]
 refine(ks2.out _).mono ?_
 rintro e v0 ⟨rfl,hb0⟩
 have hbb0:=bH (belT hbb.out hb0)
 have hz1:w.heap.size<v0.heap.size:=by have:=hb0.size;omega
 clear hb0
 go_wp2_with fail
 go_ret
 obtain⟨q1,q2,q3,q4,q5,q6⟩:=hQ.out
 exact bd_fin hg (by first|rfl|simp) q1 q2 q3 q4 q5 q6 hbb0.out
theorem bound4 (a b c nm at_:Int) (s1 s2 s3 s4 t6 t7 t8:ByteArray) (g:Nat) (w:World) (hg:g<w.heap.size) (hf : ∀o,w.frozen? ⟨g,o,none⟩=false) (h6:w.cell? ⟨g,6,none⟩=some (.string t6)) (h7:w.cell? ⟨g,7,none⟩=some (.string t7)) (h8:w.cell? ⟨g,8,none⟩=some (.string t8)) (hz:s1.size≤1125899906842624∧s2.size≤1125899906842624∧s3.size≤1125899906842624∧s4.size≤1125899906842624) :
  Calls Tryz.prog 86 #[.agg #[.int .i64 4, .int .i64 a, .int .i64 b, .int .i64 c, .int .i64 nm, .string s1, .string s2, .string s3, .string s4, .int .i64 at_], .pointer (some ⟨g,0,none⟩)] w (BdPost w g (true) t6 t7 t8):=by
 obtain⟨z1,z2,z3,z4⟩:=hz
 have hf6:=hf 6;have hf7:=hf 7;have hf8:=hf 8;clear hf
 have hw1:=bH (show ∀W1:World,W1=(w.alloc (.cells #[.int .i64 4, .int .i64 a, .int .i64 b, .int .i64 c, .int .i64 nm, .string s1, .string s2, .string s3, .string s4, .int .i64 at_] 45))→(w.heap.size≤W1.heap.size∧(∀bb o,bb<w.heap.size→(bb≠g∨(o≠6∧o≠7∧o≠8))→W1.cell? ⟨bb,o,none⟩=w.cell? ⟨bb,o,none⟩)∧W1.cell? ⟨g,6,none⟩=some (.string t6)∧W1.cell? ⟨g,7,none⟩=some (.string t7)∧W1.cell? ⟨g,8,none⟩=some (.string t8)∧(∀w0:World,Below w0.heap.size w0 w→w0.heap.size≤g→Below w0.heap.size w0 W1)) from by
  rintro W1 rfl
  have A : ∀bb q,bb<w.heap.size→((w.alloc (.cells #[.int .i64 4, .int .i64 a, .int .i64 b, .int .i64 c, .int .i64 nm, .string s1, .string s2, .string s3, .string s4, .int .i64 at_] 45))).cell? ⟨bb,q,none⟩=w.cell? ⟨bb,q,none⟩:=by
   intro bb q hb
   rw[World.cell?_alloc_past _ _ _ (by simpa using hb)]
  refine⟨by simp,fun bb o h h2=> ?_, ?_, ?_, ?_,fun w0 h h2=> ?_⟩
  ·rw[A bb o h];(repeat rw[if_neg (by omega)])
  ·rw[A g 6 hg];(repeat rw[if_neg (by omega)]);first|(rw[if_pos ⟨rfl,rfl⟩])|exact h6
  ·rw[A g 7 hg];(repeat rw[if_neg (by omega)]);first|(rw[if_pos ⟨rfl,rfl⟩])|exact h7
  ·rw[A g 8 hg];(repeat rw[if_neg (by omega)]);first|(rw[if_pos ⟨rfl,rfl⟩])|exact h8
  ·have:=h.size;exact bZ)
 have hH:=bH (And.intro h6 (And.intro h7 h8))
 go_enter Tryz.func86,Tryz.ntmps86
 go_wp2_with fail
 go_ret
 obtain⟨q1,q2,q3,q4,q5,q6⟩:=hw1.out _ rfl
 exact bd_fin hg rfl q1 q2 q3 q4 q5 q6 (Below.refl _ _)
theorem bound5 (a b c nm at_:Int) (s1 s2 s3 s4 t6 t7 t8:ByteArray) (g:Nat) (w:World) (hg:g<w.heap.size) (hf : ∀o,w.frozen? ⟨g,o,none⟩=false) (h6:w.cell? ⟨g,6,none⟩=some (.string t6)) (h7:w.cell? ⟨g,7,none⟩=some (.string t7)) (h8:w.cell? ⟨g,8,none⟩=some (.string t8)) (hz:s1.size≤1125899906842624∧s2.size≤1125899906842624∧s3.size≤1125899906842624∧s4.size≤1125899906842624) :
  Calls Tryz.prog 86 #[.agg #[.int .i64 5, .int .i64 a, .int .i64 b, .int .i64 c, .int .i64 nm, .string s1, .string s2, .string s3, .string s4, .int .i64 at_], .pointer (some ⟨g,0,none⟩)] w (BdPost w g (nmB s2.data.toList) s2 t7 t8):=by
 obtain⟨z1,z2,z3,z4⟩:=hz
 have ks2:=bH fun (W:World)=>nameMay_any s2 W z2
 generalize nmB s2.data.toList=ns2 at ks2 ⊢
 have hf6:=hf 6;have hf7:=hf 7;have hf8:=hf 8;clear hf
 have hw1:=bH (show ∀W1:World,W1=((w.setCell ⟨g,6,none⟩ (.string s2)).alloc (.cells #[.int .i64 5, .int .i64 a, .int .i64 b, .int .i64 c, .int .i64 nm, .string s1, .string s2, .string s3, .string s4, .int .i64 at_] 45))→(w.heap.size≤W1.heap.size∧(∀bb o,bb<w.heap.size→(bb≠g∨(o≠6∧o≠7∧o≠8))→W1.cell? ⟨bb,o,none⟩=w.cell? ⟨bb,o,none⟩)∧W1.cell? ⟨g,6,none⟩=some (.string s2)∧W1.cell? ⟨g,7,none⟩=some (.string t7)∧W1.cell? ⟨g,8,none⟩=some (.string t8)∧(∀w0:World,Below w0.heap.size w0 w→w0.heap.size≤g→Below w0.heap.size w0 W1)) from by
  rintro W1 rfl
  have A : ∀bb q,bb<w.heap.size→(((w.setCell ⟨g,6,none⟩ (.string s2)).alloc (.cells #[.int .i64 5, .int .i64 a, .int .i64 b, .int .i64 c, .int .i64 nm, .string s1, .string s2, .string s3, .string s4, .int .i64 at_] 45))).cell? ⟨bb,q,none⟩=(if bb=g∧q=6 then some (.string s2) else w.cell? ⟨bb,q,none⟩):=by
   intro bb q hb
   rw[World.cell?_alloc_past _ _ _ (by simpa using hb)]
   rw[cell_set _ _ _ _ _ _ _ h6]
  refine⟨by simp,fun bb o h h2=> ?_, ?_, ?_, ?_,fun w0 h h2=> ?_⟩
  ·rw[A bb o h];(repeat rw[if_neg (by omega)])
  ·rw[A g 6 hg];(repeat rw[if_neg (by omega)]);first|(rw[if_pos ⟨rfl,rfl⟩])|exact h6
  ·rw[A g 7 hg];(repeat rw[if_neg (by omega)]);first|(rw[if_pos ⟨rfl,rfl⟩])|exact h7
  ·rw[A g 8 hg];(repeat rw[if_neg (by omega)]);first|(rw[if_pos ⟨rfl,rfl⟩])|exact h8
  ·have:=h.size;exact bZ)
 have hH:=bH (And.intro h6 (And.intro h7 h8))
 go_enter Tryz.func86,Tryz.ntmps86
 obtain⟨W1,hW1⟩ : ∃W1,((w.setCell ⟨g,6,none⟩ (.string s2)).alloc (.cells #[.int .i64 5, .int .i64 a, .int .i64 b, .int .i64 c, .int .i64 nm, .string s1, .string s2, .string s3, .string s4, .int .i64 at_] 45))=W1:=⟨_,rfl⟩
 have hQ:=bH (hw1.out _ hW1.symm)
 clear hw1
 have b6:W1.cell? ⟨w.heap.size,6,none⟩=some (.string s2):=by rw[← hW1,World.cell?_alloc_at _ _ _ _ (by simp)];rfl
 have hz0:w.heap.size<W1.heap.size:=by rw[← hW1];simp
 have hW1':=bH hW1;clear hW1
 have hbb:=bH (Below.refl W1.heap.size W1)
 go_wp2_with fail
 rw[hW1'.out]
 refine(ks2.out _).mono ?_
 rintro e v0 ⟨rfl,hb0⟩
 have hbb0:=bH (belT hbb.out hb0)
 have hz1:w.heap.size<v0.heap.size:=by have:=hb0.size;omega
 clear hb0
 go_wp2_with fail
 go_ret
 obtain⟨q1,q2,q3,q4,q5,q6⟩:=hQ.out
 exact bd_fin hg (by first|rfl|simp) q1 q2 q3 q4 q5 q6 hbb0.out
theorem bound6 (a b c nm at_:Int) (s1 s2 s3 s4 t6 t7 t8:ByteArray) (g:Nat) (w:World) (hg:g<w.heap.size) (hf : ∀o,w.frozen? ⟨g,o,none⟩=false) (h6:w.cell? ⟨g,6,none⟩=some (.string t6)) (h7:w.cell? ⟨g,7,none⟩=some (.string t7)) (h8:w.cell? ⟨g,8,none⟩=some (.string t8)) (hz:s1.size≤1125899906842624∧s2.size≤1125899906842624∧s3.size≤1125899906842624∧s4.size≤1125899906842624) :
  Calls Tryz.prog 86 #[.agg #[.int .i64 6, .int .i64 a, .int .i64 b, .int .i64 c, .int .i64 nm, .string s1, .string s2, .string s3, .string s4, .int .i64 at_], .pointer (some ⟨g,0,none⟩)] w (BdPost w g (nmB s2.data.toList && nmB s3.data.toList) s2 s3 t8):=by
 obtain⟨z1,z2,z3,z4⟩:=hz
 have ks2:=bH fun (W:World)=>nameMay_any s2 W z2
 generalize nmB s2.data.toList=ns2 at ks2 ⊢
 have ks3:=bH fun (W:World)=>nameMay_any s3 W z3
 generalize nmB s3.data.toList=ns3 at ks3 ⊢
 have hf6:=hf 6;have hf7:=hf 7;have hf8:=hf 8;clear hf
 have hw1:=bH (show ∀W1:World,W1=(((w.setCell ⟨g,6,none⟩ (.string s2)).setCell ⟨g,7,none⟩ (.string s3)).alloc (.cells #[.int .i64 6, .int .i64 a, .int .i64 b, .int .i64 c, .int .i64 nm, .string s1, .string s2, .string s3, .string s4, .int .i64 at_] 45))→(w.heap.size≤W1.heap.size∧(∀bb o,bb<w.heap.size→(bb≠g∨(o≠6∧o≠7∧o≠8))→W1.cell? ⟨bb,o,none⟩=w.cell? ⟨bb,o,none⟩)∧W1.cell? ⟨g,6,none⟩=some (.string s2)∧W1.cell? ⟨g,7,none⟩=some (.string s3)∧W1.cell? ⟨g,8,none⟩=some (.string t8)∧(∀w0:World,Below w0.heap.size w0 w→w0.heap.size≤g→Below w0.heap.size w0 W1)) from by
  rintro W1 rfl
  have A : ∀bb q,bb<w.heap.size→((((w.setCell ⟨g,6,none⟩ (.string s2)).setCell ⟨g,7,none⟩ (.string s3)).alloc (.cells #[.int .i64 6, .int .i64 a, .int .i64 b, .int .i64 c, .int .i64 nm, .string s1, .string s2, .string s3, .string s4, .int .i64 at_] 45))).cell? ⟨bb,q,none⟩=(if bb=g∧q=7 then some (.string s3) else (if bb=g∧q=6 then some (.string s2) else w.cell? ⟨bb,q,none⟩)):=by
   intro bb q hb
   rw[World.cell?_alloc_past _ _ _ (by simpa using hb)]
   rw[cell_set _ _ _ _ _ _ _ (show _=some (.string t7) from by rw[cell_set _ _ _ _ _ _ _ h6,if_neg (by omega)];exact h7)]
   rw[cell_set _ _ _ _ _ _ _ h6]
  refine⟨by simp,fun bb o h h2=> ?_, ?_, ?_, ?_,fun w0 h h2=> ?_⟩
  ·rw[A bb o h];(repeat rw[if_neg (by omega)])
  ·rw[A g 6 hg];(repeat rw[if_neg (by omega)]);first|(rw[if_pos ⟨rfl,rfl⟩])|exact h6
  ·rw[A g 7 hg];(repeat rw[if_neg (by omega)]);first|(rw[if_pos ⟨rfl,rfl⟩])|exact h7
  ·rw[A g 8 hg];(repeat rw[if_neg (by omega)]);first|(rw[if_pos ⟨rfl,rfl⟩])|exact h8
  ·have:=h.size;exact bZ)
 have hH:=bH (And.intro h6 (And.intro h7 h8))
 go_enter Tryz.func86,Tryz.ntmps86
 obtain⟨W1,hW1⟩ : ∃W1,(((w.setCell ⟨g,6,none⟩ (.string s2)).setCell ⟨g,7,none⟩ (.string s3)).alloc (.cells #[.int .i64 6, .int .i64 a, .int .i64 b, .int .i64 c, .int .i64 nm, .string s1, .string s2, .string s3, .string s4, .int .i64 at_] 45))=W1:=⟨_,rfl⟩
 have hQ:=bH (hw1.out _ hW1.symm)
 clear hw1
 have b6:W1.cell? ⟨w.heap.size,6,none⟩=some (.string s2):=by rw[← hW1,World.cell?_alloc_at _ _ _ _ (by simp)];rfl
 have b7:W1.cell? ⟨w.heap.size,7,none⟩=some (.string s3):=by rw[← hW1,World.cell?_alloc_at _ _ _ _ (by simp)];rfl
 have hz0:w.heap.size<W1.heap.size:=by rw[← hW1];simp
 have hW1':=bH hW1;clear hW1
 have hbb:=bH (Below.refl W1.heap.size W1)
 go_wp2_with fail
 rw[hW1'.out]
 refine(ks2.out _).mono ?_
 rintro e v0 ⟨rfl,hb0⟩
 have hbb0:=bH (belT hbb.out hb0)
 have b7:=carry hb0 hz0 b7
 have hz1:w.heap.size<v0.heap.size:=by have:=hb0.size;omega
 clear hb0
 cases ns2
 ·go_wp2_with fail
  go_ret
  obtain⟨q1,q2,q3,q4,q5,q6⟩:=hQ.out
  exact bd_fin hg (by first|rfl|simp) q1 q2 q3 q4 q5 q6 hbb0.out
 ·have hid0:=bH True.intro
  go_wp2_with fail
  refine(ks3.out _).mono ?_
  rintro e v1 ⟨rfl,hb1⟩
  have hbb1:=bH (belT hbb0.out hb1)
  have hz2:w.heap.size<v1.heap.size:=by have:=hb1.size;omega
  clear hb1
  go_wp2_with fail
  go_ret
  obtain⟨q1,q2,q3,q4,q5,q6⟩:=hQ.out
  exact bd_fin hg (by first|rfl|simp) q1 q2 q3 q4 q5 q6 hbb1.out
theorem bound7 (a b c nm at_:Int) (s1 s2 s3 s4 t6 t7 t8:ByteArray) (g:Nat) (w:World) (hg:g<w.heap.size) (hf : ∀o,w.frozen? ⟨g,o,none⟩=false) (h6:w.cell? ⟨g,6,none⟩=some (.string t6)) (h7:w.cell? ⟨g,7,none⟩=some (.string t7)) (h8:w.cell? ⟨g,8,none⟩=some (.string t8)) (hz:s1.size≤1125899906842624∧s2.size≤1125899906842624∧s3.size≤1125899906842624∧s4.size≤1125899906842624) :
  Calls Tryz.prog 86 #[.agg #[.int .i64 7, .int .i64 a, .int .i64 b, .int .i64 c, .int .i64 nm, .string s1, .string s2, .string s3, .string s4, .int .i64 at_], .pointer (some ⟨g,0,none⟩)] w (BdPost w g (true) t6 t7 t8):=by
 obtain⟨z1,z2,z3,z4⟩:=hz
 have hf6:=hf 6;have hf7:=hf 7;have hf8:=hf 8;clear hf
 have hw1:=bH (show ∀W1:World,W1=(w.alloc (.cells #[.int .i64 7, .int .i64 a, .int .i64 b, .int .i64 c, .int .i64 nm, .string s1, .string s2, .string s3, .string s4, .int .i64 at_] 45))→(w.heap.size≤W1.heap.size∧(∀bb o,bb<w.heap.size→(bb≠g∨(o≠6∧o≠7∧o≠8))→W1.cell? ⟨bb,o,none⟩=w.cell? ⟨bb,o,none⟩)∧W1.cell? ⟨g,6,none⟩=some (.string t6)∧W1.cell? ⟨g,7,none⟩=some (.string t7)∧W1.cell? ⟨g,8,none⟩=some (.string t8)∧(∀w0:World,Below w0.heap.size w0 w→w0.heap.size≤g→Below w0.heap.size w0 W1)) from by
  rintro W1 rfl
  have A : ∀bb q,bb<w.heap.size→((w.alloc (.cells #[.int .i64 7, .int .i64 a, .int .i64 b, .int .i64 c, .int .i64 nm, .string s1, .string s2, .string s3, .string s4, .int .i64 at_] 45))).cell? ⟨bb,q,none⟩=w.cell? ⟨bb,q,none⟩:=by
   intro bb q hb
   rw[World.cell?_alloc_past _ _ _ (by simpa using hb)]
  refine⟨by simp,fun bb o h h2=> ?_, ?_, ?_, ?_,fun w0 h h2=> ?_⟩
  ·rw[A bb o h];(repeat rw[if_neg (by omega)])
  ·rw[A g 6 hg];(repeat rw[if_neg (by omega)]);first|(rw[if_pos ⟨rfl,rfl⟩])|exact h6
  ·rw[A g 7 hg];(repeat rw[if_neg (by omega)]);first|(rw[if_pos ⟨rfl,rfl⟩])|exact h7
  ·rw[A g 8 hg];(repeat rw[if_neg (by omega)]);first|(rw[if_pos ⟨rfl,rfl⟩])|exact h8
  ·have:=h.size;exact bZ)
 have hH:=bH (And.intro h6 (And.intro h7 h8))
 go_enter Tryz.func86,Tryz.ntmps86
 go_wp2_with fail
 go_ret
 obtain⟨q1,q2,q3,q4,q5,q6⟩:=hw1.out _ rfl
 exact bd_fin hg rfl q1 q2 q3 q4 q5 q6 (Below.refl _ _)
theorem bound8 (a b c nm at_:Int) (s1 s2 s3 s4 t6 t7 t8:ByteArray) (g:Nat) (w:World) (hg:g<w.heap.size) (hf : ∀o,w.frozen? ⟨g,o,none⟩=false) (h6:w.cell? ⟨g,6,none⟩=some (.string t6)) (h7:w.cell? ⟨g,7,none⟩=some (.string t7)) (h8:w.cell? ⟨g,8,none⟩=some (.string t8)) (hz:s1.size≤1125899906842624∧s2.size≤1125899906842624∧s3.size≤1125899906842624∧s4.size≤1125899906842624) :
  Calls Tryz.prog 86 #[.agg #[.int .i64 8, .int .i64 a, .int .i64 b, .int .i64 c, .int .i64 nm, .string s1, .string s2, .string s3, .string s4, .int .i64 at_], .pointer (some ⟨g,0,none⟩)] w (BdPost w g (true) t6 t7 t8):=by
 obtain⟨z1,z2,z3,z4⟩:=hz
 have hf6:=hf 6;have hf7:=hf 7;have hf8:=hf 8;clear hf
 have hw1:=bH (show ∀W1:World,W1=(w.alloc (.cells #[.int .i64 8, .int .i64 a, .int .i64 b, .int .i64 c, .int .i64 nm, .string s1, .string s2, .string s3, .string s4, .int .i64 at_] 45))→(w.heap.size≤W1.heap.size∧(∀bb o,bb<w.heap.size→(bb≠g∨(o≠6∧o≠7∧o≠8))→W1.cell? ⟨bb,o,none⟩=w.cell? ⟨bb,o,none⟩)∧W1.cell? ⟨g,6,none⟩=some (.string t6)∧W1.cell? ⟨g,7,none⟩=some (.string t7)∧W1.cell? ⟨g,8,none⟩=some (.string t8)∧(∀w0:World,Below w0.heap.size w0 w→w0.heap.size≤g→Below w0.heap.size w0 W1)) from by
  rintro W1 rfl
  have A : ∀bb q,bb<w.heap.size→((w.alloc (.cells #[.int .i64 8, .int .i64 a, .int .i64 b, .int .i64 c, .int .i64 nm, .string s1, .string s2, .string s3, .string s4, .int .i64 at_] 45))).cell? ⟨bb,q,none⟩=w.cell? ⟨bb,q,none⟩:=by
   intro bb q hb
   rw[World.cell?_alloc_past _ _ _ (by simpa using hb)]
  refine⟨by simp,fun bb o h h2=> ?_, ?_, ?_, ?_,fun w0 h h2=> ?_⟩
  ·rw[A bb o h];(repeat rw[if_neg (by omega)])
  ·rw[A g 6 hg];(repeat rw[if_neg (by omega)]);first|(rw[if_pos ⟨rfl,rfl⟩])|exact h6
  ·rw[A g 7 hg];(repeat rw[if_neg (by omega)]);first|(rw[if_pos ⟨rfl,rfl⟩])|exact h7
  ·rw[A g 8 hg];(repeat rw[if_neg (by omega)]);first|(rw[if_pos ⟨rfl,rfl⟩])|exact h8
  ·have:=h.size;exact bZ)
 have hH:=bH (And.intro h6 (And.intro h7 h8))
 go_enter Tryz.func86,Tryz.ntmps86
 go_wp2_with fail
 go_ret
 obtain⟨q1,q2,q3,q4,q5,q6⟩:=hw1.out _ rfl
 exact bd_fin hg rfl q1 q2 q3 q4 q5 q6 (Below.refl _ _)
theorem bound9 (a b c nm at_:Int) (s1 s2 s3 s4 t6 t7 t8:ByteArray) (g:Nat) (w:World) (hg:g<w.heap.size) (hf : ∀o,w.frozen? ⟨g,o,none⟩=false) (h6:w.cell? ⟨g,6,none⟩=some (.string t6)) (h7:w.cell? ⟨g,7,none⟩=some (.string t7)) (h8:w.cell? ⟨g,8,none⟩=some (.string t8)) (hz:s1.size≤1125899906842624∧s2.size≤1125899906842624∧s3.size≤1125899906842624∧s4.size≤1125899906842624) :
  Calls Tryz.prog 86 #[.agg #[.int .i64 9, .int .i64 a, .int .i64 b, .int .i64 c, .int .i64 nm, .string s1, .string s2, .string s3, .string s4, .int .i64 at_], .pointer (some ⟨g,0,none⟩)] w (BdPost w g (nmB s1.data.toList) t6 t7 t8):=by
 obtain⟨z1,z2,z3,z4⟩:=hz
 have ks1:=bH fun (W:World)=>nameMay_any s1 W z1
 generalize nmB s1.data.toList=ns1 at ks1 ⊢
 have hf6:=hf 6;have hf7:=hf 7;have hf8:=hf 8;clear hf
 have hw1:=bH (show ∀W1:World,W1=(w.alloc (.cells #[.int .i64 9, .int .i64 a, .int .i64 b, .int .i64 c, .int .i64 nm, .string s1, .string s2, .string s3, .string s4, .int .i64 at_] 45))→(w.heap.size≤W1.heap.size∧(∀bb o,bb<w.heap.size→(bb≠g∨(o≠6∧o≠7∧o≠8))→W1.cell? ⟨bb,o,none⟩=w.cell? ⟨bb,o,none⟩)∧W1.cell? ⟨g,6,none⟩=some (.string t6)∧W1.cell? ⟨g,7,none⟩=some (.string t7)∧W1.cell? ⟨g,8,none⟩=some (.string t8)∧(∀w0:World,Below w0.heap.size w0 w→w0.heap.size≤g→Below w0.heap.size w0 W1)) from by
  rintro W1 rfl
  have A : ∀bb q,bb<w.heap.size→((w.alloc (.cells #[.int .i64 9, .int .i64 a, .int .i64 b, .int .i64 c, .int .i64 nm, .string s1, .string s2, .string s3, .string s4, .int .i64 at_] 45))).cell? ⟨bb,q,none⟩=w.cell? ⟨bb,q,none⟩:=by
   intro bb q hb
   rw[World.cell?_alloc_past _ _ _ (by simpa using hb)]
  refine⟨by simp,fun bb o h h2=> ?_, ?_, ?_, ?_,fun w0 h h2=> ?_⟩
  ·rw[A bb o h];(repeat rw[if_neg (by omega)])
  ·rw[A g 6 hg];(repeat rw[if_neg (by omega)]);first|(rw[if_pos ⟨rfl,rfl⟩])|exact h6
  ·rw[A g 7 hg];(repeat rw[if_neg (by omega)]);first|(rw[if_pos ⟨rfl,rfl⟩])|exact h7
  ·rw[A g 8 hg];(repeat rw[if_neg (by omega)]);first|(rw[if_pos ⟨rfl,rfl⟩])|exact h8
  ·have:=h.size;exact bZ)
 have hH:=bH (And.intro h6 (And.intro h7 h8))
 go_enter Tryz.func86,Tryz.ntmps86
 obtain⟨W1,hW1⟩ : ∃W1,(w.alloc (.cells #[.int .i64 9, .int .i64 a, .int .i64 b, .int .i64 c, .int .i64 nm, .string s1, .string s2, .string s3, .string s4, .int .i64 at_] 45))=W1:=⟨_,rfl⟩
 have hQ:=bH (hw1.out _ hW1.symm)
 clear hw1
 have b5:W1.cell? ⟨w.heap.size,5,none⟩=some (.string s1):=by rw[← hW1,World.cell?_alloc_at _ _ _ _ (by simp)];rfl
 have hz0:w.heap.size<W1.heap.size:=by rw[← hW1];simp
 have hW1':=bH hW1;clear hW1
 have hbb:=bH (Below.refl W1.heap.size W1)
 go_wp2_with fail
 rw[hW1'.out]
 refine(ks1.out _).mono ?_
 rintro e v0 ⟨rfl,hb0⟩
 have hbb0:=bH (belT hbb.out hb0)
 have hz1:w.heap.size<v0.heap.size:=by have:=hb0.size;omega
 clear hb0
 go_wp2_with fail
 go_ret
 obtain⟨q1,q2,q3,q4,q5,q6⟩:=hQ.out
 exact bd_fin hg (by first|rfl|simp) q1 q2 q3 q4 q5 q6 hbb0.out
theorem bound10 (a b c nm at_:Int) (s1 s2 s3 s4 t6 t7 t8:ByteArray) (g:Nat) (w:World) (hg:g<w.heap.size) (hf : ∀o,w.frozen? ⟨g,o,none⟩=false) (h6:w.cell? ⟨g,6,none⟩=some (.string t6)) (h7:w.cell? ⟨g,7,none⟩=some (.string t7)) (h8:w.cell? ⟨g,8,none⟩=some (.string t8)) (hz:s1.size≤1125899906842624∧s2.size≤1125899906842624∧s3.size≤1125899906842624∧s4.size≤1125899906842624) :
  Calls Tryz.prog 86 #[.agg #[.int .i64 10, .int .i64 a, .int .i64 b, .int .i64 c, .int .i64 nm, .string s1, .string s2, .string s3, .string s4, .int .i64 at_], .pointer (some ⟨g,0,none⟩)] w (BdPost w g (nmB s1.data.toList && nmB s2.data.toList && nmB s3.data.toList && nmB s4.data.toList) s2 s3 s4):=by
 obtain⟨z1,z2,z3,z4⟩:=hz
 have ks1:=bH fun (W:World)=>nameMay_any s1 W z1
 generalize nmB s1.data.toList=ns1 at ks1 ⊢
 have ks2:=bH fun (W:World)=>nameMay_any s2 W z2
 generalize nmB s2.data.toList=ns2 at ks2 ⊢
 have ks3:=bH fun (W:World)=>nameMay_any s3 W z3
 generalize nmB s3.data.toList=ns3 at ks3 ⊢
 have ks4:=bH fun (W:World)=>nameMay_any s4 W z4
 generalize nmB s4.data.toList=ns4 at ks4 ⊢
 have hf6:=hf 6;have hf7:=hf 7;have hf8:=hf 8;clear hf
 have hw1:=bH (show ∀W1:World,W1=((((w.setCell ⟨g,6,none⟩ (.string s2)).setCell ⟨g,7,none⟩ (.string s3)).setCell ⟨g,8,none⟩ (.string s4)).alloc (.cells #[.int .i64 10, .int .i64 a, .int .i64 b, .int .i64 c, .int .i64 nm, .string s1, .string s2, .string s3, .string s4, .int .i64 at_] 45))→(w.heap.size≤W1.heap.size∧(∀bb o,bb<w.heap.size→(bb≠g∨(o≠6∧o≠7∧o≠8))→W1.cell? ⟨bb,o,none⟩=w.cell? ⟨bb,o,none⟩)∧W1.cell? ⟨g,6,none⟩=some (.string s2)∧W1.cell? ⟨g,7,none⟩=some (.string s3)∧W1.cell? ⟨g,8,none⟩=some (.string s4)∧(∀w0:World,Below w0.heap.size w0 w→w0.heap.size≤g→Below w0.heap.size w0 W1)) from by
  rintro W1 rfl
  have A : ∀bb q,bb<w.heap.size→(((((w.setCell ⟨g,6,none⟩ (.string s2)).setCell ⟨g,7,none⟩ (.string s3)).setCell ⟨g,8,none⟩ (.string s4)).alloc (.cells #[.int .i64 10, .int .i64 a, .int .i64 b, .int .i64 c, .int .i64 nm, .string s1, .string s2, .string s3, .string s4, .int .i64 at_] 45))).cell? ⟨bb,q,none⟩=(if bb=g∧q=8 then some (.string s4) else (if bb=g∧q=7 then some (.string s3) else (if bb=g∧q=6 then some (.string s2) else w.cell? ⟨bb,q,none⟩))):=by
   intro bb q hb
   rw[World.cell?_alloc_past _ _ _ (by simpa using hb)]
   rw[cell_set _ _ _ _ _ _ _ (show _=some (.string t8) from by rw[cell_set _ _ _ _ _ _ _ (show _=some (.string t7) from by rw[cell_set _ _ _ _ _ _ _ h6,if_neg (by omega)];exact h7),if_neg (by omega),cell_set _ _ _ _ _ _ _ h6,if_neg (by omega)];exact h8)]
   rw[cell_set _ _ _ _ _ _ _ (show _=some (.string t7) from by rw[cell_set _ _ _ _ _ _ _ h6,if_neg (by omega)];exact h7)]
   rw[cell_set _ _ _ _ _ _ _ h6]
  refine⟨by simp,fun bb o h h2=> ?_, ?_, ?_, ?_,fun w0 h h2=> ?_⟩
  ·rw[A bb o h];(repeat rw[if_neg (by omega)])
  ·rw[A g 6 hg];(repeat rw[if_neg (by omega)]);first|(rw[if_pos ⟨rfl,rfl⟩])|exact h6
  ·rw[A g 7 hg];(repeat rw[if_neg (by omega)]);first|(rw[if_pos ⟨rfl,rfl⟩])|exact h7
  ·rw[A g 8 hg];(repeat rw[if_neg (by omega)]);first|(rw[if_pos ⟨rfl,rfl⟩])|exact h8
  ·have:=h.size;exact bZ)
 have hH:=bH (And.intro h6 (And.intro h7 h8))
 go_enter Tryz.func86,Tryz.ntmps86
 obtain⟨W1,hW1⟩ : ∃W1,((((w.setCell ⟨g,6,none⟩ (.string s2)).setCell ⟨g,7,none⟩ (.string s3)).setCell ⟨g,8,none⟩ (.string s4)).alloc (.cells #[.int .i64 10, .int .i64 a, .int .i64 b, .int .i64 c, .int .i64 nm, .string s1, .string s2, .string s3, .string s4, .int .i64 at_] 45))=W1:=⟨_,rfl⟩
 have hQ:=bH (hw1.out _ hW1.symm)
 clear hw1
 have b5:W1.cell? ⟨w.heap.size,5,none⟩=some (.string s1):=by rw[← hW1,World.cell?_alloc_at _ _ _ _ (by simp)];rfl
 have b6:W1.cell? ⟨w.heap.size,6,none⟩=some (.string s2):=by rw[← hW1,World.cell?_alloc_at _ _ _ _ (by simp)];rfl
 have b7:W1.cell? ⟨w.heap.size,7,none⟩=some (.string s3):=by rw[← hW1,World.cell?_alloc_at _ _ _ _ (by simp)];rfl
 have b8:W1.cell? ⟨w.heap.size,8,none⟩=some (.string s4):=by rw[← hW1,World.cell?_alloc_at _ _ _ _ (by simp)];rfl
 have hz0:w.heap.size<W1.heap.size:=by rw[← hW1];simp
 have hW1':=bH hW1;clear hW1
 have hbb:=bH (Below.refl W1.heap.size W1)
 go_wp2_with fail
 rw[hW1'.out]
 refine(ks1.out _).mono ?_
 rintro e v0 ⟨rfl,hb0⟩
 have hbb0:=bH (belT hbb.out hb0)
 have b6:=carry hb0 hz0 b6
 have b7:=carry hb0 hz0 b7
 have b8:=carry hb0 hz0 b8
 have hz1:w.heap.size<v0.heap.size:=by have:=hb0.size;omega
 clear hb0
 cases ns1
 ·go_wp2_with fail
  go_ret
  obtain⟨q1,q2,q3,q4,q5,q6⟩:=hQ.out
  exact bd_fin hg (by first|rfl|simp) q1 q2 q3 q4 q5 q6 hbb0.out
 ·have hid0:=bH True.intro
  go_wp2_with fail
  refine(ks2.out _).mono ?_
  rintro e v1 ⟨rfl,hb1⟩
  have hbb1:=bH (belT hbb0.out hb1)
  have b7:=carry hb1 hz1 b7
  have b8:=carry hb1 hz1 b8
  have hz2:w.heap.size<v1.heap.size:=by have:=hb1.size;omega
  clear hb1
  cases ns2
  ·go_wp2_with fail
   go_ret
   obtain⟨q1,q2,q3,q4,q5,q6⟩:=hQ.out
   exact bd_fin hg (by first|rfl|simp) q1 q2 q3 q4 q5 q6 hbb1.out
  ·have hid0:=bH True.intro
   go_wp2_with fail
   refine(ks3.out _).mono ?_
   rintro e v2 ⟨rfl,hb2⟩
   have hbb2:=bH (belT hbb1.out hb2)
   have b8:=carry hb2 hz2 b8
   have hz3:w.heap.size<v2.heap.size:=by have:=hb2.size;omega
   clear hb2
   cases ns3
   ·go_wp2_with fail
    go_ret
    obtain⟨q1,q2,q3,q4,q5,q6⟩:=hQ.out
    exact bd_fin hg (by first|rfl|simp) q1 q2 q3 q4 q5 q6 hbb2.out
   ·have hid0:=bH True.intro
    go_wp2_with fail
    refine(ks4.out _).mono ?_
    rintro e v3 ⟨rfl,hb3⟩
    have hbb3:=bH (belT hbb2.out hb3)
    have hz4:w.heap.size<v3.heap.size:=by have:=hb3.size;omega
    clear hb3
    go_wp2_with fail
    go_ret
    obtain⟨q1,q2,q3,q4,q5,q6⟩:=hQ.out
    exact bd_fin hg (by first|rfl|simp) q1 q2 q3 q4 q5 q6 hbb3.out
open Go.RowKit
def okF (named:Bool) (k a b c nm:Int) (s1 s2 s3 s4:ByteArray) (at_:Int):Bool:=
 plainB k a b c nm s1 s2 s3 s4 && decide (0≤at_) && decide (at_≤4096) && (if named then namedB k nm (namesL k s1 s2 s3 s4) else resB (namesL k s1 s2 s3 s4))
theorem emp_list:(⟨#[]⟩:ByteArray).toList=[]:=by rw[ByteArray.toList_eq]
theorem emp_is (s:ByteArray):s.toList.isEmpty=decide (s.toList=[]):=by cases s.toList<;>rfl
theorem okF0n (a b c nm at_:Int) (s1 s2 s3 s4:ByteArray):okF true 0 a b c nm s1 s2 s3 s4 at_=((nmB s1.data.toList) && (ndQ 0 a b c nm s1 s2 s3 s4 at_ 0 0 0 0 0 s1 (⟨#[]⟩:ByteArray) (⟨#[]⟩:ByteArray) (⟨#[]⟩:ByteArray) at_ && (decide (0≤at_) && decide (at_≤4096)))):=by
 unfold okF plainB namedB resB namesL ndQ
 simp only[emp_list,emp_is]
 rw[Bool.eq_iff_iff]
 simp
 try grind
theorem okF0r (a b c nm at_:Int) (s1 s2 s3 s4:ByteArray):okF false 0 a b c nm s1 s2 s3 s4 at_=((true) && (ndQ 0 a b c nm s1 s2 s3 s4 at_ 0 0 0 0 nm (⟨#[]⟩:ByteArray) (⟨#[]⟩:ByteArray) (⟨#[]⟩:ByteArray) (⟨#[]⟩:ByteArray) at_ && (decide (0≤at_) && decide (at_≤4096)))):=by
 unfold okF plainB namedB resB namesL ndQ
 simp only[emp_list,emp_is]
 rw[Bool.eq_iff_iff]
 simp
 try grind
theorem okF1n (a b c nm at_:Int) (s1 s2 s3 s4:ByteArray):okF true 1 a b c nm s1 s2 s3 s4 at_=((true) && (ndQ 1 a b c nm s1 s2 s3 s4 at_ 1 0 0 0 nm (⟨#[]⟩:ByteArray) (⟨#[]⟩:ByteArray) (⟨#[]⟩:ByteArray) (⟨#[]⟩:ByteArray) at_ && (decide (0≤at_) && decide (at_≤4096)))):=by
 unfold okF plainB namedB resB namesL ndQ
 simp only[emp_list,emp_is]
 rw[Bool.eq_iff_iff]
 simp
 try grind
theorem okF1r (a b c nm at_:Int) (s1 s2 s3 s4:ByteArray):okF false 1 a b c nm s1 s2 s3 s4 at_=((true) && (ndQ 1 a b c nm s1 s2 s3 s4 at_ 1 0 0 0 nm (⟨#[]⟩:ByteArray) (⟨#[]⟩:ByteArray) (⟨#[]⟩:ByteArray) (⟨#[]⟩:ByteArray) at_ && (decide (0≤at_) && decide (at_≤4096)))):=by
 unfold okF plainB namedB resB namesL ndQ
 simp only[emp_list,emp_is]
 rw[Bool.eq_iff_iff]
 simp
 try grind
theorem okF2n (a b c nm at_:Int) (s1 s2 s3 s4:ByteArray):okF true 2 a b c nm s1 s2 s3 s4 at_=((true) && (ndQ 2 a b c nm s1 s2 s3 s4 at_ 2 0 0 0 nm (⟨#[]⟩:ByteArray) (⟨#[]⟩:ByteArray) (⟨#[]⟩:ByteArray) (⟨#[]⟩:ByteArray) at_ && (decide (0≤at_) && decide (at_≤4096)))):=by
 unfold okF plainB namedB resB namesL ndQ
 simp only[emp_list,emp_is]
 rw[Bool.eq_iff_iff]
 simp
 try grind
theorem okF2r (a b c nm at_:Int) (s1 s2 s3 s4:ByteArray):okF false 2 a b c nm s1 s2 s3 s4 at_=((true) && (ndQ 2 a b c nm s1 s2 s3 s4 at_ 2 0 0 0 nm (⟨#[]⟩:ByteArray) (⟨#[]⟩:ByteArray) (⟨#[]⟩:ByteArray) (⟨#[]⟩:ByteArray) at_ && (decide (0≤at_) && decide (at_≤4096)))):=by
 unfold okF plainB namedB resB namesL ndQ
 simp only[emp_list,emp_is]
 rw[Bool.eq_iff_iff]
 simp
 try grind
theorem okF3n (a b c nm at_:Int) (s1 s2 s3 s4:ByteArray):okF true 3 a b c nm s1 s2 s3 s4 at_=((nmB s2.data.toList) && (ndQ 3 a b c nm s1 s2 s3 s4 at_ 3 a 0 0 0 (⟨#[]⟩:ByteArray) s2 (⟨#[]⟩:ByteArray) (⟨#[]⟩:ByteArray) at_ && (decide (0≤at_) && decide (at_≤4096)))):=by
 unfold okF plainB namedB resB namesL ndQ
 simp only[emp_list,emp_is]
 rw[Bool.eq_iff_iff]
 simp
 try grind
theorem okF3r (a b c nm at_:Int) (s1 s2 s3 s4:ByteArray):okF false 3 a b c nm s1 s2 s3 s4 at_=((true) && (ndQ 3 a b c nm s1 s2 s3 s4 at_ 3 a 0 0 0 (⟨#[]⟩:ByteArray) (⟨#[]⟩:ByteArray) (⟨#[]⟩:ByteArray) (⟨#[]⟩:ByteArray) at_ && (decide (0≤at_) && decide (at_≤4096)))):=by
 unfold okF plainB namedB resB namesL ndQ
 simp only[emp_list,emp_is]
 rw[Bool.eq_iff_iff]
 simp
 try grind
theorem okF4n (a b c nm at_:Int) (s1 s2 s3 s4:ByteArray):okF true 4 a b c nm s1 s2 s3 s4 at_=((true) && (ndQ 4 a b c nm s1 s2 s3 s4 at_ 4 a b 0 0 (⟨#[]⟩:ByteArray) (⟨#[]⟩:ByteArray) (⟨#[]⟩:ByteArray) (⟨#[]⟩:ByteArray) at_ && (decide (0≤at_) && decide (at_≤4096)))):=by
 unfold okF plainB namedB resB namesL ndQ
 simp only[emp_list,emp_is]
 rw[Bool.eq_iff_iff]
 simp
 try grind
theorem okF4r (a b c nm at_:Int) (s1 s2 s3 s4:ByteArray):okF false 4 a b c nm s1 s2 s3 s4 at_=((true) && (ndQ 4 a b c nm s1 s2 s3 s4 at_ 4 a b 0 0 (⟨#[]⟩:ByteArray) (⟨#[]⟩:ByteArray) (⟨#[]⟩:ByteArray) (⟨#[]⟩:ByteArray) at_ && (decide (0≤at_) && decide (at_≤4096)))):=by
 unfold okF plainB namedB resB namesL ndQ
 simp only[emp_list,emp_is]
 rw[Bool.eq_iff_iff]
 simp
 try grind
theorem okF5n (a b c nm at_:Int) (s1 s2 s3 s4:ByteArray):okF true 5 a b c nm s1 s2 s3 s4 at_=((nmB s2.data.toList) && (ndQ 5 a b c nm s1 s2 s3 s4 at_ 5 a b 0 0 (⟨#[]⟩:ByteArray) s2 (⟨#[]⟩:ByteArray) (⟨#[]⟩:ByteArray) at_ && (decide (0≤at_) && decide (at_≤4096)))):=by
 unfold okF plainB namedB resB namesL ndQ
 simp only[emp_list,emp_is]
 rw[Bool.eq_iff_iff]
 simp
 try grind
theorem okF5r (a b c nm at_:Int) (s1 s2 s3 s4:ByteArray):okF false 5 a b c nm s1 s2 s3 s4 at_=((true) && (ndQ 5 a b c nm s1 s2 s3 s4 at_ 5 a b 0 0 (⟨#[]⟩:ByteArray) (⟨#[]⟩:ByteArray) (⟨#[]⟩:ByteArray) (⟨#[]⟩:ByteArray) at_ && (decide (0≤at_) && decide (at_≤4096)))):=by
 unfold okF plainB namedB resB namesL ndQ
 simp only[emp_list,emp_is]
 rw[Bool.eq_iff_iff]
 simp
 try grind
theorem okF6n (a b c nm at_:Int) (s1 s2 s3 s4:ByteArray):okF true 6 a b c nm s1 s2 s3 s4 at_=((nmB s2.data.toList && nmB s3.data.toList) && (ndQ 6 a b c nm s1 s2 s3 s4 at_ 6 a b 0 0 (⟨#[]⟩:ByteArray) s2 s3 (⟨#[]⟩:ByteArray) at_ && (decide (0≤at_) && decide (at_≤4096)))):=by
 unfold okF plainB namedB resB namesL ndQ
 simp only[emp_list,emp_is]
 rw[Bool.eq_iff_iff]
 simp
 try grind
theorem okF6r (a b c nm at_:Int) (s1 s2 s3 s4:ByteArray):okF false 6 a b c nm s1 s2 s3 s4 at_=((true) && (ndQ 6 a b c nm s1 s2 s3 s4 at_ 6 a b 0 0 (⟨#[]⟩:ByteArray) (⟨#[]⟩:ByteArray) (⟨#[]⟩:ByteArray) (⟨#[]⟩:ByteArray) at_ && (decide (0≤at_) && decide (at_≤4096)))):=by
 unfold okF plainB namedB resB namesL ndQ
 simp only[emp_list,emp_is]
 rw[Bool.eq_iff_iff]
 simp
 try grind
theorem okF7n (a b c nm at_:Int) (s1 s2 s3 s4:ByteArray):okF true 7 a b c nm s1 s2 s3 s4 at_=((true) && (ndQ 7 a b c nm s1 s2 s3 s4 at_ 7 a b c 0 (⟨#[]⟩:ByteArray) (⟨#[]⟩:ByteArray) (⟨#[]⟩:ByteArray) (⟨#[]⟩:ByteArray) at_ && (decide (0≤at_) && decide (at_≤4096)))):=by
 unfold okF plainB namedB resB namesL ndQ
 simp only[emp_list,emp_is]
 rw[Bool.eq_iff_iff]
 simp
 try grind
theorem okF7r (a b c nm at_:Int) (s1 s2 s3 s4:ByteArray):okF false 7 a b c nm s1 s2 s3 s4 at_=((true) && (ndQ 7 a b c nm s1 s2 s3 s4 at_ 7 a b c 0 (⟨#[]⟩:ByteArray) (⟨#[]⟩:ByteArray) (⟨#[]⟩:ByteArray) (⟨#[]⟩:ByteArray) at_ && (decide (0≤at_) && decide (at_≤4096)))):=by
 unfold okF plainB namedB resB namesL ndQ
 simp only[emp_list,emp_is]
 rw[Bool.eq_iff_iff]
 simp
 try grind
theorem okF8n (a b c nm at_:Int) (s1 s2 s3 s4:ByteArray):okF true 8 a b c nm s1 s2 s3 s4 at_=((true) && (ndQ 8 a b c nm s1 s2 s3 s4 at_ 8 a b 0 nm (⟨#[]⟩:ByteArray) (⟨#[]⟩:ByteArray) (⟨#[]⟩:ByteArray) (⟨#[]⟩:ByteArray) at_ && (decide (0≤at_) && decide (at_≤4096)))):=by
 unfold okF plainB namedB resB namesL ndQ
 simp only[emp_list,emp_is]
 rw[Bool.eq_iff_iff]
 simp
 try grind
theorem okF8r (a b c nm at_:Int) (s1 s2 s3 s4:ByteArray):okF false 8 a b c nm s1 s2 s3 s4 at_=((true) && (ndQ 8 a b c nm s1 s2 s3 s4 at_ 8 a b 0 nm (⟨#[]⟩:ByteArray) (⟨#[]⟩:ByteArray) (⟨#[]⟩:ByteArray) (⟨#[]⟩:ByteArray) at_ && (decide (0≤at_) && decide (at_≤4096)))):=by
 unfold okF plainB namedB resB namesL ndQ
 simp only[emp_list,emp_is]
 rw[Bool.eq_iff_iff]
 simp
 try grind
theorem okF9n (a b c nm at_:Int) (s1 s2 s3 s4:ByteArray):okF true 9 a b c nm s1 s2 s3 s4 at_=((nmB s1.data.toList) && (ndQ 9 a b c nm s1 s2 s3 s4 at_ 9 a 0 0 0 s1 (⟨#[]⟩:ByteArray) (⟨#[]⟩:ByteArray) (⟨#[]⟩:ByteArray) at_ && (decide (0≤at_) && decide (at_≤4096)))):=by
 unfold okF plainB namedB resB namesL ndQ
 simp only[emp_list,emp_is]
 rw[Bool.eq_iff_iff]
 simp
 try grind
theorem okF9r (a b c nm at_:Int) (s1 s2 s3 s4:ByteArray):okF false 9 a b c nm s1 s2 s3 s4 at_=((true) && (ndQ 9 a b c nm s1 s2 s3 s4 at_ 9 a 0 0 nm (⟨#[]⟩:ByteArray) (⟨#[]⟩:ByteArray) (⟨#[]⟩:ByteArray) (⟨#[]⟩:ByteArray) at_ && (decide (0≤at_) && decide (at_≤4096)))):=by
 unfold okF plainB namedB resB namesL ndQ
 simp only[emp_list,emp_is]
 rw[Bool.eq_iff_iff]
 simp
 try grind
theorem okF10n (a b c nm at_:Int) (s1 s2 s3 s4:ByteArray):okF true 10 a b c nm s1 s2 s3 s4 at_=((nmB s1.data.toList && nmB s2.data.toList && nmB s3.data.toList && nmB s4.data.toList) && (ndQ 10 a b c nm s1 s2 s3 s4 at_ 10 a b c 0 s1 s2 s3 s4 at_ && (decide (0≤at_) && decide (at_≤4096)))):=by
 unfold okF plainB namedB resB namesL ndQ
 simp only[emp_list,emp_is]
 rw[Bool.eq_iff_iff]
 simp
 try grind
theorem okF10r (a b c nm at_:Int) (s1 s2 s3 s4:ByteArray):okF false 10 a b c nm s1 s2 s3 s4 at_=((true) && (ndQ 10 a b c nm s1 s2 s3 s4 at_ 10 a b c nm (⟨#[]⟩:ByteArray) (⟨#[]⟩:ByteArray) (⟨#[]⟩:ByteArray) (⟨#[]⟩:ByteArray) at_ && (decide (0≤at_) && decide (at_≤4096)))):=by
 unfold okF plainB namedB resB namesL ndQ
 simp only[emp_list,emp_is]
 rw[Bool.eq_iff_iff]
 simp
 try grind
open Go.RowKit
theorem bq_four (b:Bool) (a:Int):b=false∨(b=true∧ ¬ 0≤a)∨(b=true∧0≤a∧ ¬ a≤4096)∨(b=true∧0≤a∧a≤4096):=by
 cases b
 ·exact .inl rfl
 ·by_cases h0:0≤a
  ·by_cases h1:a≤4096
   ·exact .inr (.inr (.inr ⟨rfl,h0,h1⟩))
   ·exact .inr (.inr (.inl ⟨rfl,h0,h1⟩))
  ·exact .inr (.inl ⟨rfl,h0⟩)
theorem fl_two {w w1:World} {a0 a1 a2 a3 a4 a5 a6 a7 a8 a9 b0 b1 b2 b3 b4 b5 b6 b7 b8 b9:Value} {T U:TypeId} (hb1:Below ((w.alloc (.cells #[a0,a1,a2,a3,a4,a5,a6,a7,a8,a9] T)).alloc (.cells #[b0,b1,b2,b3,b4,b5,b6,b7,b8,b9] U)).heap.size ((w.alloc (.cells #[a0,a1,a2,a3,a4,a5,a6,a7,a8,a9] T)).alloc (.cells #[b0,b1,b2,b3,b4,b5,b6,b7,b8,b9] U)) w1) :
  (w1.cell? ⟨w.heap.size,0,none⟩=some a0∧w1.cell? ⟨w.heap.size,1,none⟩=some a1∧w1.cell? ⟨w.heap.size,2,none⟩=some a2∧w1.cell? ⟨w.heap.size,3,none⟩=some a3∧w1.cell? ⟨w.heap.size,4,none⟩=some a4∧w1.cell? ⟨w.heap.size,5,none⟩=some a5∧w1.cell? ⟨w.heap.size,6,none⟩=some a6∧w1.cell? ⟨w.heap.size,7,none⟩=some a7∧w1.cell? ⟨w.heap.size,8,none⟩=some a8∧w1.cell? ⟨w.heap.size,9,none⟩=some a9)∧
  (w1.cell? ⟨w.heap.size+1,0,none⟩=some b0∧w1.cell? ⟨w.heap.size+1,1,none⟩=some b1∧w1.cell? ⟨w.heap.size+1,2,none⟩=some b2∧w1.cell? ⟨w.heap.size+1,3,none⟩=some b3∧w1.cell? ⟨w.heap.size+1,4,none⟩=some b4∧w1.cell? ⟨w.heap.size+1,5,none⟩=some b5∧w1.cell? ⟨w.heap.size+1,6,none⟩=some b6∧w1.cell? ⟨w.heap.size+1,7,none⟩=some b7∧w1.cell? ⟨w.heap.size+1,8,none⟩=some b8∧w1.cell? ⟨w.heap.size+1,9,none⟩=some b9)∧
  (∀o,w1.frozen? ⟨w.heap.size+1,o,none⟩=false)∧w.heap.size+1<w1.heap.size:=by
 refine⟨⟨?_, ?_, ?_, ?_, ?_, ?_, ?_, ?_, ?_, ?_⟩,⟨?_, ?_, ?_, ?_, ?_, ?_, ?_, ?_, ?_, ?_⟩,fun o=>by rw[hb1.frozen (p:=⟨w.heap.size+1,o,none⟩) (by simp)];simp[go_sem],by have:=hb1.size;(try simp at this);omega⟩
 all_goals exact carry hb1 (by first|(simp;done)|(simp;omega)) (by simp)
open Go.RowKit
theorem fields0r (a b c nm at_:Int) (s1 s2 s3 s4:ByteArray) (w:World) (hz:s1.size≤1125899906842624∧s2.size≤1125899906842624∧s3.size≤1125899906842624∧s4.size≤1125899906842624) :
  Calls Tryz.prog 63 #[.agg #[.int .i64 0, .int .i64 a, .int .i64 b, .int .i64 c, .int .i64 nm, .string s1, .string s2, .string s3, .string s4, .int .i64 at_], .bool false] w fun e w'=>e= .returned (.bool (okF false 0 a b c nm s1 s2 s3 s4 at_))∧Below w.heap.size w w':=by
 have kK:=bH fun (W:World)=>(show Calls Tryz.prog 85 #[.int .i64 0] W fun e w'=>e= .returned (.int .i64 0)∧Below W.heap.size W w' from kids_any 0 W)
 rw[okF0r]
 obtain⟨bq,hq⟩ : ∃x,ndQ 0 a b c nm s1 s2 s3 s4 at_ 0 0 0 0 nm (⟨#[]⟩:ByteArray) (⟨#[]⟩:ByteArray) (⟨#[]⟩:ByteArray) (⟨#[]⟩:ByteArray) at_=x:=⟨_,rfl⟩
 rw[hq]
 have hq':=bH hq;clear hq hz
 go_enter Tryz.func63,Tryz.ntmps63
 go_wp2_with fail
 refine(kK.out _).mono ?_
 rintro e w1 ⟨rfl,hb1⟩
 have hB1:=bH (belT (show Below w.heap.size w _ from bZ) hb1)
 obtain⟨⟨q0,q1,q2,q3,q4,q5,q6,q7,q8,q9⟩,⟨r0,r1,r2,r3,r4,r5,r6,r7,r8,r9⟩,hfy,hs1⟩:=fl_two hb1
 have hfy:=bH hfy
 have f4:=hfy.out 4
 clear hb1 kK
 have hndq:=fun x0 x1 x2 x3 x4 x5 x6 x7 x8 x9 y0 y1 y2 y3 y4 y5 y6 y7 y8 y9 W=>nd_in x0 x1 x2 x3 x4 x5 x6 x7 x8 x9 y0 y1 y2 y3 y4 y5 y6 y7 y8 y9 W
 have hq:=hq'.out
 rcases bq_four bq at_ with rfl|⟨rfl,h0⟩|⟨rfl,h0,h1⟩|⟨rfl,h0,h1⟩
 all_goals
  go_wp2_with fail
  all_goals
   go_ret
   exact⟨ret_bb (by first|(simp[*];done)|(simp[*];omega)),by have:=hB1.out;have:=this.size;exact bZ⟩
theorem fields1r (a b c nm at_:Int) (s1 s2 s3 s4:ByteArray) (w:World) (hz:s1.size≤1125899906842624∧s2.size≤1125899906842624∧s3.size≤1125899906842624∧s4.size≤1125899906842624) :
  Calls Tryz.prog 63 #[.agg #[.int .i64 1, .int .i64 a, .int .i64 b, .int .i64 c, .int .i64 nm, .string s1, .string s2, .string s3, .string s4, .int .i64 at_], .bool false] w fun e w'=>e= .returned (.bool (okF false 1 a b c nm s1 s2 s3 s4 at_))∧Below w.heap.size w w':=by
 have kK:=bH fun (W:World)=>(show Calls Tryz.prog 85 #[.int .i64 1] W fun e w'=>e= .returned (.int .i64 0)∧Below W.heap.size W w' from kids_any 1 W)
 rw[okF1r]
 obtain⟨bq,hq⟩ : ∃x,ndQ 1 a b c nm s1 s2 s3 s4 at_ 1 0 0 0 nm (⟨#[]⟩:ByteArray) (⟨#[]⟩:ByteArray) (⟨#[]⟩:ByteArray) (⟨#[]⟩:ByteArray) at_=x:=⟨_,rfl⟩
 rw[hq]
 have hq':=bH hq;clear hq hz
 go_enter Tryz.func63,Tryz.ntmps63
 go_wp2_with fail
 refine(kK.out _).mono ?_
 rintro e w1 ⟨rfl,hb1⟩
 have hB1:=bH (belT (show Below w.heap.size w _ from bZ) hb1)
 obtain⟨⟨q0,q1,q2,q3,q4,q5,q6,q7,q8,q9⟩,⟨r0,r1,r2,r3,r4,r5,r6,r7,r8,r9⟩,hfy,hs1⟩:=fl_two hb1
 have hfy:=bH hfy
 have f4:=hfy.out 4
 clear hb1 kK
 have hndq:=fun x0 x1 x2 x3 x4 x5 x6 x7 x8 x9 y0 y1 y2 y3 y4 y5 y6 y7 y8 y9 W=>nd_in x0 x1 x2 x3 x4 x5 x6 x7 x8 x9 y0 y1 y2 y3 y4 y5 y6 y7 y8 y9 W
 have hq:=hq'.out
 rcases bq_four bq at_ with rfl|⟨rfl,h0⟩|⟨rfl,h0,h1⟩|⟨rfl,h0,h1⟩
 all_goals
  go_wp2_with fail
  all_goals
   go_ret
   exact⟨ret_bb (by first|(simp[*];done)|(simp[*];omega)),by have:=hB1.out;have:=this.size;exact bZ⟩
theorem fields2r (a b c nm at_:Int) (s1 s2 s3 s4:ByteArray) (w:World) (hz:s1.size≤1125899906842624∧s2.size≤1125899906842624∧s3.size≤1125899906842624∧s4.size≤1125899906842624) :
  Calls Tryz.prog 63 #[.agg #[.int .i64 2, .int .i64 a, .int .i64 b, .int .i64 c, .int .i64 nm, .string s1, .string s2, .string s3, .string s4, .int .i64 at_], .bool false] w fun e w'=>e= .returned (.bool (okF false 2 a b c nm s1 s2 s3 s4 at_))∧Below w.heap.size w w':=by
 have kK:=bH fun (W:World)=>(show Calls Tryz.prog 85 #[.int .i64 2] W fun e w'=>e= .returned (.int .i64 0)∧Below W.heap.size W w' from kids_any 2 W)
 rw[okF2r]
 obtain⟨bq,hq⟩ : ∃x,ndQ 2 a b c nm s1 s2 s3 s4 at_ 2 0 0 0 nm (⟨#[]⟩:ByteArray) (⟨#[]⟩:ByteArray) (⟨#[]⟩:ByteArray) (⟨#[]⟩:ByteArray) at_=x:=⟨_,rfl⟩
 rw[hq]
 have hq':=bH hq;clear hq hz
 go_enter Tryz.func63,Tryz.ntmps63
 go_wp2_with fail
 refine(kK.out _).mono ?_
 rintro e w1 ⟨rfl,hb1⟩
 have hB1:=bH (belT (show Below w.heap.size w _ from bZ) hb1)
 obtain⟨⟨q0,q1,q2,q3,q4,q5,q6,q7,q8,q9⟩,⟨r0,r1,r2,r3,r4,r5,r6,r7,r8,r9⟩,hfy,hs1⟩:=fl_two hb1
 have hfy:=bH hfy
 have f4:=hfy.out 4
 clear hb1 kK
 have hndq:=fun x0 x1 x2 x3 x4 x5 x6 x7 x8 x9 y0 y1 y2 y3 y4 y5 y6 y7 y8 y9 W=>nd_in x0 x1 x2 x3 x4 x5 x6 x7 x8 x9 y0 y1 y2 y3 y4 y5 y6 y7 y8 y9 W
 have hq:=hq'.out
 rcases bq_four bq at_ with rfl|⟨rfl,h0⟩|⟨rfl,h0,h1⟩|⟨rfl,h0,h1⟩
 all_goals
  go_wp2_with fail
  all_goals
   go_ret
   exact⟨ret_bb (by first|(simp[*];done)|(simp[*];omega)),by have:=hB1.out;have:=this.size;exact bZ⟩
theorem fields3r (a b c nm at_:Int) (s1 s2 s3 s4:ByteArray) (w:World) (hz:s1.size≤1125899906842624∧s2.size≤1125899906842624∧s3.size≤1125899906842624∧s4.size≤1125899906842624) :
  Calls Tryz.prog 63 #[.agg #[.int .i64 3, .int .i64 a, .int .i64 b, .int .i64 c, .int .i64 nm, .string s1, .string s2, .string s3, .string s4, .int .i64 at_], .bool false] w fun e w'=>e= .returned (.bool (okF false 3 a b c nm s1 s2 s3 s4 at_))∧Below w.heap.size w w':=by
 have kK:=bH fun (W:World)=>(show Calls Tryz.prog 85 #[.int .i64 3] W fun e w'=>e= .returned (.int .i64 1)∧Below W.heap.size W w' from kids_any 3 W)
 rw[okF3r]
 obtain⟨bq,hq⟩ : ∃x,ndQ 3 a b c nm s1 s2 s3 s4 at_ 3 a 0 0 0 (⟨#[]⟩:ByteArray) (⟨#[]⟩:ByteArray) (⟨#[]⟩:ByteArray) (⟨#[]⟩:ByteArray) at_=x:=⟨_,rfl⟩
 rw[hq]
 have hq':=bH hq;clear hq hz
 go_enter Tryz.func63,Tryz.ntmps63
 go_wp2_with fail
 refine(kK.out _).mono ?_
 rintro e w1 ⟨rfl,hb1⟩
 have hB1:=bH (belT (show Below w.heap.size w _ from bZ) hb1)
 obtain⟨⟨q0,q1,q2,q3,q4,q5,q6,q7,q8,q9⟩,⟨r0,r1,r2,r3,r4,r5,r6,r7,r8,r9⟩,hfy,hs1⟩:=fl_two hb1
 have hfy:=bH hfy
 have f1:=hfy.out 1
 clear hb1 kK
 have hndq:=fun x0 x1 x2 x3 x4 x5 x6 x7 x8 x9 y0 y1 y2 y3 y4 y5 y6 y7 y8 y9 W=>nd_in x0 x1 x2 x3 x4 x5 x6 x7 x8 x9 y0 y1 y2 y3 y4 y5 y6 y7 y8 y9 W
 have hq:=hq'.out
 rcases bq_four bq at_ with rfl|⟨rfl,h0⟩|⟨rfl,h0,h1⟩|⟨rfl,h0,h1⟩
 all_goals
  go_wp2_with fail
  all_goals
   go_ret
   exact⟨ret_bb (by first|(simp[*];done)|(simp[*];omega)),by have:=hB1.out;have:=this.size;exact bZ⟩
theorem fields4r (a b c nm at_:Int) (s1 s2 s3 s4:ByteArray) (w:World) (hz:s1.size≤1125899906842624∧s2.size≤1125899906842624∧s3.size≤1125899906842624∧s4.size≤1125899906842624) :
  Calls Tryz.prog 63 #[.agg #[.int .i64 4, .int .i64 a, .int .i64 b, .int .i64 c, .int .i64 nm, .string s1, .string s2, .string s3, .string s4, .int .i64 at_], .bool false] w fun e w'=>e= .returned (.bool (okF false 4 a b c nm s1 s2 s3 s4 at_))∧Below w.heap.size w w':=by
 have kK:=bH fun (W:World)=>(show Calls Tryz.prog 85 #[.int .i64 4] W fun e w'=>e= .returned (.int .i64 2)∧Below W.heap.size W w' from kids_any 4 W)
 rw[okF4r]
 obtain⟨bq,hq⟩ : ∃x,ndQ 4 a b c nm s1 s2 s3 s4 at_ 4 a b 0 0 (⟨#[]⟩:ByteArray) (⟨#[]⟩:ByteArray) (⟨#[]⟩:ByteArray) (⟨#[]⟩:ByteArray) at_=x:=⟨_,rfl⟩
 rw[hq]
 have hq':=bH hq;clear hq hz
 go_enter Tryz.func63,Tryz.ntmps63
 go_wp2_with fail
 refine(kK.out _).mono ?_
 rintro e w1 ⟨rfl,hb1⟩
 have hB1:=bH (belT (show Below w.heap.size w _ from bZ) hb1)
 obtain⟨⟨q0,q1,q2,q3,q4,q5,q6,q7,q8,q9⟩,⟨r0,r1,r2,r3,r4,r5,r6,r7,r8,r9⟩,hfy,hs1⟩:=fl_two hb1
 have hfy:=bH hfy
 have f1:=hfy.out 1
 have f2:=hfy.out 2
 clear hb1 kK
 have hndq:=fun x0 x1 x2 x3 x4 x5 x6 x7 x8 x9 y0 y1 y2 y3 y4 y5 y6 y7 y8 y9 W=>nd_in x0 x1 x2 x3 x4 x5 x6 x7 x8 x9 y0 y1 y2 y3 y4 y5 y6 y7 y8 y9 W
 have hq:=hq'.out
 rcases bq_four bq at_ with rfl|⟨rfl,h0⟩|⟨rfl,h0,h1⟩|⟨rfl,h0,h1⟩
 all_goals
  go_wp2_with fail
  all_goals
   go_ret
   exact⟨ret_bb (by first|(simp[*];done)|(simp[*];omega)),by have:=hB1.out;have:=this.size;exact bZ⟩
theorem fields5r (a b c nm at_:Int) (s1 s2 s3 s4:ByteArray) (w:World) (hz:s1.size≤1125899906842624∧s2.size≤1125899906842624∧s3.size≤1125899906842624∧s4.size≤1125899906842624) :
  Calls Tryz.prog 63 #[.agg #[.int .i64 5, .int .i64 a, .int .i64 b, .int .i64 c, .int .i64 nm, .string s1, .string s2, .string s3, .string s4, .int .i64 at_], .bool false] w fun e w'=>e= .returned (.bool (okF false 5 a b c nm s1 s2 s3 s4 at_))∧Below w.heap.size w w':=by
 have kK:=bH fun (W:World)=>(show Calls Tryz.prog 85 #[.int .i64 5] W fun e w'=>e= .returned (.int .i64 2)∧Below W.heap.size W w' from kids_any 5 W)
 rw[okF5r]
 obtain⟨bq,hq⟩ : ∃x,ndQ 5 a b c nm s1 s2 s3 s4 at_ 5 a b 0 0 (⟨#[]⟩:ByteArray) (⟨#[]⟩:ByteArray) (⟨#[]⟩:ByteArray) (⟨#[]⟩:ByteArray) at_=x:=⟨_,rfl⟩
 rw[hq]
 have hq':=bH hq;clear hq hz
 go_enter Tryz.func63,Tryz.ntmps63
 go_wp2_with fail
 refine(kK.out _).mono ?_
 rintro e w1 ⟨rfl,hb1⟩
 have hB1:=bH (belT (show Below w.heap.size w _ from bZ) hb1)
 obtain⟨⟨q0,q1,q2,q3,q4,q5,q6,q7,q8,q9⟩,⟨r0,r1,r2,r3,r4,r5,r6,r7,r8,r9⟩,hfy,hs1⟩:=fl_two hb1
 have hfy:=bH hfy
 have f1:=hfy.out 1
 have f2:=hfy.out 2
 clear hb1 kK
 have hndq:=fun x0 x1 x2 x3 x4 x5 x6 x7 x8 x9 y0 y1 y2 y3 y4 y5 y6 y7 y8 y9 W=>nd_in x0 x1 x2 x3 x4 x5 x6 x7 x8 x9 y0 y1 y2 y3 y4 y5 y6 y7 y8 y9 W
 have hq:=hq'.out
 rcases bq_four bq at_ with rfl|⟨rfl,h0⟩|⟨rfl,h0,h1⟩|⟨rfl,h0,h1⟩
 all_goals
  go_wp2_with fail
  all_goals
   go_ret
   exact⟨ret_bb (by first|(simp[*];done)|(simp[*];omega)),by have:=hB1.out;have:=this.size;exact bZ⟩
theorem fields6r (a b c nm at_:Int) (s1 s2 s3 s4:ByteArray) (w:World) (hz:s1.size≤1125899906842624∧s2.size≤1125899906842624∧s3.size≤1125899906842624∧s4.size≤1125899906842624) :
  Calls Tryz.prog 63 #[.agg #[.int .i64 6, .int .i64 a, .int .i64 b, .int .i64 c, .int .i64 nm, .string s1, .string s2, .string s3, .string s4, .int .i64 at_], .bool false] w fun e w'=>e= .returned (.bool (okF false 6 a b c nm s1 s2 s3 s4 at_))∧Below w.heap.size w w':=by
 have kK:=bH fun (W:World)=>(show Calls Tryz.prog 85 #[.int .i64 6] W fun e w'=>e= .returned (.int .i64 2)∧Below W.heap.size W w' from kids_any 6 W)
 rw[okF6r]
 obtain⟨bq,hq⟩ : ∃x,ndQ 6 a b c nm s1 s2 s3 s4 at_ 6 a b 0 0 (⟨#[]⟩:ByteArray) (⟨#[]⟩:ByteArray) (⟨#[]⟩:ByteArray) (⟨#[]⟩:ByteArray) at_=x:=⟨_,rfl⟩
 rw[hq]
 have hq':=bH hq;clear hq hz
 go_enter Tryz.func63,Tryz.ntmps63
 go_wp2_with fail
 refine(kK.out _).mono ?_
 rintro e w1 ⟨rfl,hb1⟩
 have hB1:=bH (belT (show Below w.heap.size w _ from bZ) hb1)
 obtain⟨⟨q0,q1,q2,q3,q4,q5,q6,q7,q8,q9⟩,⟨r0,r1,r2,r3,r4,r5,r6,r7,r8,r9⟩,hfy,hs1⟩:=fl_two hb1
 have hfy:=bH hfy
 have f1:=hfy.out 1
 have f2:=hfy.out 2
 clear hb1 kK
 have hndq:=fun x0 x1 x2 x3 x4 x5 x6 x7 x8 x9 y0 y1 y2 y3 y4 y5 y6 y7 y8 y9 W=>nd_in x0 x1 x2 x3 x4 x5 x6 x7 x8 x9 y0 y1 y2 y3 y4 y5 y6 y7 y8 y9 W
 have hq:=hq'.out
 rcases bq_four bq at_ with rfl|⟨rfl,h0⟩|⟨rfl,h0,h1⟩|⟨rfl,h0,h1⟩
 all_goals
  go_wp2_with fail
  all_goals
   go_ret
   exact⟨ret_bb (by first|(simp[*];done)|(simp[*];omega)),by have:=hB1.out;have:=this.size;exact bZ⟩
theorem fields7r (a b c nm at_:Int) (s1 s2 s3 s4:ByteArray) (w:World) (hz:s1.size≤1125899906842624∧s2.size≤1125899906842624∧s3.size≤1125899906842624∧s4.size≤1125899906842624) :
  Calls Tryz.prog 63 #[.agg #[.int .i64 7, .int .i64 a, .int .i64 b, .int .i64 c, .int .i64 nm, .string s1, .string s2, .string s3, .string s4, .int .i64 at_], .bool false] w fun e w'=>e= .returned (.bool (okF false 7 a b c nm s1 s2 s3 s4 at_))∧Below w.heap.size w w':=by
 have kK:=bH fun (W:World)=>(show Calls Tryz.prog 85 #[.int .i64 7] W fun e w'=>e= .returned (.int .i64 3)∧Below W.heap.size W w' from kids_any 7 W)
 rw[okF7r]
 obtain⟨bq,hq⟩ : ∃x,ndQ 7 a b c nm s1 s2 s3 s4 at_ 7 a b c 0 (⟨#[]⟩:ByteArray) (⟨#[]⟩:ByteArray) (⟨#[]⟩:ByteArray) (⟨#[]⟩:ByteArray) at_=x:=⟨_,rfl⟩
 rw[hq]
 have hq':=bH hq;clear hq hz
 go_enter Tryz.func63,Tryz.ntmps63
 go_wp2_with fail
 refine(kK.out _).mono ?_
 rintro e w1 ⟨rfl,hb1⟩
 have hB1:=bH (belT (show Below w.heap.size w _ from bZ) hb1)
 obtain⟨⟨q0,q1,q2,q3,q4,q5,q6,q7,q8,q9⟩,⟨r0,r1,r2,r3,r4,r5,r6,r7,r8,r9⟩,hfy,hs1⟩:=fl_two hb1
 have hfy:=bH hfy
 have f1:=hfy.out 1
 have f2:=hfy.out 2
 have f3:=hfy.out 3
 clear hb1 kK
 have hndq:=fun x0 x1 x2 x3 x4 x5 x6 x7 x8 x9 y0 y1 y2 y3 y4 y5 y6 y7 y8 y9 W=>nd_in x0 x1 x2 x3 x4 x5 x6 x7 x8 x9 y0 y1 y2 y3 y4 y5 y6 y7 y8 y9 W
 have hq:=hq'.out
 rcases bq_four bq at_ with rfl|⟨rfl,h0⟩|⟨rfl,h0,h1⟩|⟨rfl,h0,h1⟩
 all_goals
  go_wp2_with fail
  all_goals
   go_ret
   exact⟨ret_bb (by first|(simp[*];done)|(simp[*];omega)),by have:=hB1.out;have:=this.size;exact bZ⟩
theorem fields8r (a b c nm at_:Int) (s1 s2 s3 s4:ByteArray) (w:World) (hz:s1.size≤1125899906842624∧s2.size≤1125899906842624∧s3.size≤1125899906842624∧s4.size≤1125899906842624) :
  Calls Tryz.prog 63 #[.agg #[.int .i64 8, .int .i64 a, .int .i64 b, .int .i64 c, .int .i64 nm, .string s1, .string s2, .string s3, .string s4, .int .i64 at_], .bool false] w fun e w'=>e= .returned (.bool (okF false 8 a b c nm s1 s2 s3 s4 at_))∧Below w.heap.size w w':=by
 have kK:=bH fun (W:World)=>(show Calls Tryz.prog 85 #[.int .i64 8] W fun e w'=>e= .returned (.int .i64 2)∧Below W.heap.size W w' from kids_any 8 W)
 rw[okF8r]
 obtain⟨bq,hq⟩ : ∃x,ndQ 8 a b c nm s1 s2 s3 s4 at_ 8 a b 0 nm (⟨#[]⟩:ByteArray) (⟨#[]⟩:ByteArray) (⟨#[]⟩:ByteArray) (⟨#[]⟩:ByteArray) at_=x:=⟨_,rfl⟩
 rw[hq]
 have hq':=bH hq;clear hq hz
 go_enter Tryz.func63,Tryz.ntmps63
 go_wp2_with fail
 refine(kK.out _).mono ?_
 rintro e w1 ⟨rfl,hb1⟩
 have hB1:=bH (belT (show Below w.heap.size w _ from bZ) hb1)
 obtain⟨⟨q0,q1,q2,q3,q4,q5,q6,q7,q8,q9⟩,⟨r0,r1,r2,r3,r4,r5,r6,r7,r8,r9⟩,hfy,hs1⟩:=fl_two hb1
 have hfy:=bH hfy
 have f1:=hfy.out 1
 have f2:=hfy.out 2
 have f4:=hfy.out 4
 clear hb1 kK
 have hndq:=fun x0 x1 x2 x3 x4 x5 x6 x7 x8 x9 y0 y1 y2 y3 y4 y5 y6 y7 y8 y9 W=>nd_in x0 x1 x2 x3 x4 x5 x6 x7 x8 x9 y0 y1 y2 y3 y4 y5 y6 y7 y8 y9 W
 have hq:=hq'.out
 rcases bq_four bq at_ with rfl|⟨rfl,h0⟩|⟨rfl,h0,h1⟩|⟨rfl,h0,h1⟩
 all_goals
  go_wp2_with fail
  all_goals
   go_ret
   exact⟨ret_bb (by first|(simp[*];done)|(simp[*];omega)),by have:=hB1.out;have:=this.size;exact bZ⟩
theorem fields9r (a b c nm at_:Int) (s1 s2 s3 s4:ByteArray) (w:World) (hz:s1.size≤1125899906842624∧s2.size≤1125899906842624∧s3.size≤1125899906842624∧s4.size≤1125899906842624) :
  Calls Tryz.prog 63 #[.agg #[.int .i64 9, .int .i64 a, .int .i64 b, .int .i64 c, .int .i64 nm, .string s1, .string s2, .string s3, .string s4, .int .i64 at_], .bool false] w fun e w'=>e= .returned (.bool (okF false 9 a b c nm s1 s2 s3 s4 at_))∧Below w.heap.size w w':=by
 have kK:=bH fun (W:World)=>(show Calls Tryz.prog 85 #[.int .i64 9] W fun e w'=>e= .returned (.int .i64 1)∧Below W.heap.size W w' from kids_any 9 W)
 rw[okF9r]
 obtain⟨bq,hq⟩ : ∃x,ndQ 9 a b c nm s1 s2 s3 s4 at_ 9 a 0 0 nm (⟨#[]⟩:ByteArray) (⟨#[]⟩:ByteArray) (⟨#[]⟩:ByteArray) (⟨#[]⟩:ByteArray) at_=x:=⟨_,rfl⟩
 rw[hq]
 have hq':=bH hq;clear hq hz
 go_enter Tryz.func63,Tryz.ntmps63
 go_wp2_with fail
 refine(kK.out _).mono ?_
 rintro e w1 ⟨rfl,hb1⟩
 have hB1:=bH (belT (show Below w.heap.size w _ from bZ) hb1)
 obtain⟨⟨q0,q1,q2,q3,q4,q5,q6,q7,q8,q9⟩,⟨r0,r1,r2,r3,r4,r5,r6,r7,r8,r9⟩,hfy,hs1⟩:=fl_two hb1
 have hfy:=bH hfy
 have f1:=hfy.out 1
 have f4:=hfy.out 4
 clear hb1 kK
 have hndq:=fun x0 x1 x2 x3 x4 x5 x6 x7 x8 x9 y0 y1 y2 y3 y4 y5 y6 y7 y8 y9 W=>nd_in x0 x1 x2 x3 x4 x5 x6 x7 x8 x9 y0 y1 y2 y3 y4 y5 y6 y7 y8 y9 W
 have hq:=hq'.out
 rcases bq_four bq at_ with rfl|⟨rfl,h0⟩|⟨rfl,h0,h1⟩|⟨rfl,h0,h1⟩
 all_goals
  go_wp2_with fail
  all_goals
   go_ret
   exact⟨ret_bb (by first|(simp[*];done)|(simp[*];omega)),by have:=hB1.out;have:=this.size;exact bZ⟩
theorem fields10r (a b c nm at_:Int) (s1 s2 s3 s4:ByteArray) (w:World) (hz:s1.size≤1125899906842624∧s2.size≤1125899906842624∧s3.size≤1125899906842624∧s4.size≤1125899906842624) :
  Calls Tryz.prog 63 #[.agg #[.int .i64 10, .int .i64 a, .int .i64 b, .int .i64 c, .int .i64 nm, .string s1, .string s2, .string s3, .string s4, .int .i64 at_], .bool false] w fun e w'=>e= .returned (.bool (okF false 10 a b c nm s1 s2 s3 s4 at_))∧Below w.heap.size w w':=by
 have kK:=bH fun (W:World)=>(show Calls Tryz.prog 85 #[.int .i64 10] W fun e w'=>e= .returned (.int .i64 3)∧Below W.heap.size W w' from kids_any 10 W)
 rw[okF10r]
 obtain⟨bq,hq⟩ : ∃x,ndQ 10 a b c nm s1 s2 s3 s4 at_ 10 a b c nm (⟨#[]⟩:ByteArray) (⟨#[]⟩:ByteArray) (⟨#[]⟩:ByteArray) (⟨#[]⟩:ByteArray) at_=x:=⟨_,rfl⟩
 rw[hq]
 have hq':=bH hq;clear hq hz
 go_enter Tryz.func63,Tryz.ntmps63
 go_wp2_with fail
 refine(kK.out _).mono ?_
 rintro e w1 ⟨rfl,hb1⟩
 have hB1:=bH (belT (show Below w.heap.size w _ from bZ) hb1)
 obtain⟨⟨q0,q1,q2,q3,q4,q5,q6,q7,q8,q9⟩,⟨r0,r1,r2,r3,r4,r5,r6,r7,r8,r9⟩,hfy,hs1⟩:=fl_two hb1
 have hfy:=bH hfy
 have f1:=hfy.out 1
 have f2:=hfy.out 2
 have f3:=hfy.out 3
 have f4:=hfy.out 4
 clear hb1 kK
 have hndq:=fun x0 x1 x2 x3 x4 x5 x6 x7 x8 x9 y0 y1 y2 y3 y4 y5 y6 y7 y8 y9 W=>nd_in x0 x1 x2 x3 x4 x5 x6 x7 x8 x9 y0 y1 y2 y3 y4 y5 y6 y7 y8 y9 W
 have hq:=hq'.out
 rcases bq_four bq at_ with rfl|⟨rfl,h0⟩|⟨rfl,h0,h1⟩|⟨rfl,h0,h1⟩
 all_goals
  go_wp2_with fail
  all_goals
   go_ret
   exact⟨ret_bb (by first|(simp[*];done)|(simp[*];omega)),by have:=hB1.out;have:=this.size;exact bZ⟩
end Go.Proofs.YthpcbgljbpmafaaGreatDoor
