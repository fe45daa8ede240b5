/- The reference's fields. -/
import Derived.Test.YthpcbgljbpmafaaGreatDoorW13
set_option maxRecDepth 100000
set_option maxHeartbeats 8000000
namespace Go.Proofs.YthpcbgljbpmafaaGreatDoor
open Go.RowKit
set_option linter.unusedVariables false
set_option linter.unusedSimpArgs false
theorem fields0n (a b c nm at_:Int) (s1 s2 s3 s4:ByteArray) (w:World) (hz:s1.size≤1125899906842624∧s2.size≤1125899906842624∧s3.size≤1125899906842624∧s4.size≤1125899906842624) :
  Calls Tryz.prog 63 #[.agg #[.int .i64 0, .int .i64 a, .int .i64 b, .int .i64 c, .int .i64 nm, .string s1, .string s2, .string s3, .string s4, .int .i64 at_], .bool true] w fun e w'=>e= .returned (.bool (okF true 0 a b c nm s1 s2 s3 s4 at_))∧Below w.heap.size w w':=by
 have kK:=bH fun (W:World)=>(show Calls Tryz.prog 85 #[.int .i64 0] W fun e w'=>e= .returned (.int .i64 0)∧Below W.heap.size W w' from kids_any 0 W)
 have kB:=bH fun (g:Nat) (W:World) (hg:g<W.heap.size) (hf : ∀o,W.frozen? ⟨g,o,none⟩=false) (h6:W.cell? ⟨g,6,none⟩=some (.string ⟨#[]⟩)) (h7:W.cell? ⟨g,7,none⟩=some (.string ⟨#[]⟩)) (h8:W.cell? ⟨g,8,none⟩=some (.string ⟨#[]⟩))=>bound0 a b c nm at_ s1 s2 s3 s4 ⟨#[]⟩ ⟨#[]⟩ ⟨#[]⟩ g W hg hf h6 h7 h8 hz
 rw[okF0n]
 obtain⟨bd,hbd⟩ : ∃x,(nmB s1.data.toList)=x:=⟨_,rfl⟩
 rw[hbd]
 rw[hbd] at kB
 clear hbd
 obtain⟨bq,hq⟩ : ∃x,ndQ 0 a b c nm s1 s2 s3 s4 at_ 0 0 0 0 0 s1 (⟨#[]⟩:ByteArray) (⟨#[]⟩:ByteArray) (⟨#[]⟩:ByteArray) at_=x:=⟨_,rfl⟩
 rw[hq]
 have hq':=bH hq;clear hq hz
 go_enter Tryz.func63,Tryz.ntmps63
 go_wp2_with fail
 refine(kK.out _).mono ?_
 rintro e w1 ⟨rfl,hb1⟩
 have hB1:=bH (belT (show Below w.heap.size w _ from bZ) hb1)
 obtain⟨⟨q0,q1,q2,q3,q4,q5,q6,q7,q8,q9⟩,⟨r0,r1,r2,r3,r4,r5,r6,r7,r8,r9⟩,hfy,hs1⟩:=fl_two hb1
 have hfy:=bH hfy
 have f5:=hfy.out 5
 clear hb1 kK
 go_wp2_with fail
 refine(kB.out _ _ (by simp;omega) (fun o=>by simp[go_sem,hfy.out]) (by simp[go_sem,r6]) (by simp[go_sem,r7]) (by simp[go_sem,r8])).mono ?_
 rintro e w2 ⟨rfl,hsz2,hkeep,c6,c7,c8,hbel⟩
 have hB2:=bH (hbel w (by have:=hB1.out;have:=this.size;exact bZ) (by omega))
 have kq:=fun o v (h:w1.cell? ⟨w.heap.size,o,none⟩=some v)=>(show w2.cell? ⟨w.heap.size,o,none⟩=some v by rw[hkeep _ _ (by simp;omega) (.inl (by omega))];simp[go_sem,h])
 have q0:=kq _ _ q0;have q1:=kq _ _ q1;have q2:=kq _ _ q2;have q3:=kq _ _ q3;have q4:=kq _ _ q4;have q5:=kq _ _ q5;have q6:=kq _ _ q6;have q7:=kq _ _ q7;have q8:=kq _ _ q8;have q9:=kq _ _ q9
 have r0:w2.cell? ⟨w.heap.size+1,0,none⟩=some (.int .i64 0):=by rw[hkeep _ _ (by simp;omega) (.inr (by omega))];simp[go_sem,r0,r1,r2,r3,r4,r5,r6,r7,r8,r9]
 have r1:w2.cell? ⟨w.heap.size+1,1,none⟩=some (.int .i64 0):=by rw[hkeep _ _ (by simp;omega) (.inr (by omega))];simp[go_sem,r0,r1,r2,r3,r4,r5,r6,r7,r8,r9]
 have r2:w2.cell? ⟨w.heap.size+1,2,none⟩=some (.int .i64 0):=by rw[hkeep _ _ (by simp;omega) (.inr (by omega))];simp[go_sem,r0,r1,r2,r3,r4,r5,r6,r7,r8,r9]
 have r3:w2.cell? ⟨w.heap.size+1,3,none⟩=some (.int .i64 0):=by rw[hkeep _ _ (by simp;omega) (.inr (by omega))];simp[go_sem,r0,r1,r2,r3,r4,r5,r6,r7,r8,r9]
 have r4:w2.cell? ⟨w.heap.size+1,4,none⟩=some (.int .i64 0):=by rw[hkeep _ _ (by simp;omega) (.inr (by omega))];simp[go_sem,r0,r1,r2,r3,r4,r5,r6,r7,r8,r9]
 have r5:w2.cell? ⟨w.heap.size+1,5,none⟩=some (.string s1):=by rw[hkeep _ _ (by simp;omega) (.inr (by omega))];simp[go_sem,r0,r1,r2,r3,r4,r5,r6,r7,r8,r9]
 have r9:w2.cell? ⟨w.heap.size+1,9,none⟩=some (.int .i64 at_):=by rw[hkeep _ _ (by simp;omega) (.inr (by omega))];simp[go_sem,r0,r1,r2,r3,r4,r5,r6,r7,r8,r9]
 clear kq
 have hs2:w.heap.size+1<w2.heap.size:=by(try simp at hsz2);omega
 clear hsz2 hkeep hbel kB r6 r7 r8 hfy
 cases bd
 ·go_wp2_with fail
  go_ret
  exact⟨ret_bb (by simp),hB2.out⟩
 have hndq:=fun x0 x1 x2 x3 x4 x5 x6 x7 x8 x9 y0 y1 y2 y3 y4 y5 y6 y7 y8 y9 W=>nd_in x0 x1 x2 x3 x4 x5 x6 x7 x8 x9 y0 y1 y2 y3 y4 y5 y6 y7 y8 y9 W
 have hq:=hq'.out
 rcases bq_four bq at_ with rfl|⟨rfl,h0⟩|⟨rfl,h0,h1⟩|⟨rfl,h0,h1⟩
 all_goals
  go_wp2_with fail
  all_goals
   go_ret
   exact⟨ret_bb (by first|(simp[*];done)|(simp[*];omega)),by have:=hB2.out;have:=this.size;exact bZ⟩
theorem fields1n (a b c nm at_:Int) (s1 s2 s3 s4:ByteArray) (w:World) (hz:s1.size≤1125899906842624∧s2.size≤1125899906842624∧s3.size≤1125899906842624∧s4.size≤1125899906842624) :
  Calls Tryz.prog 63 #[.agg #[.int .i64 1, .int .i64 a, .int .i64 b, .int .i64 c, .int .i64 nm, .string s1, .string s2, .string s3, .string s4, .int .i64 at_], .bool true] w fun e w'=>e= .returned (.bool (okF true 1 a b c nm s1 s2 s3 s4 at_))∧Below w.heap.size w w':=by
 have kK:=bH fun (W:World)=>(show Calls Tryz.prog 85 #[.int .i64 1] W fun e w'=>e= .returned (.int .i64 0)∧Below W.heap.size W w' from kids_any 1 W)
 have kB:=bH fun (g:Nat) (W:World) (hg:g<W.heap.size) (hf : ∀o,W.frozen? ⟨g,o,none⟩=false) (h6:W.cell? ⟨g,6,none⟩=some (.string ⟨#[]⟩)) (h7:W.cell? ⟨g,7,none⟩=some (.string ⟨#[]⟩)) (h8:W.cell? ⟨g,8,none⟩=some (.string ⟨#[]⟩))=>bound1 a b c nm at_ s1 s2 s3 s4 ⟨#[]⟩ ⟨#[]⟩ ⟨#[]⟩ g W hg hf h6 h7 h8 hz
 rw[okF1n]
 obtain⟨bq,hq⟩ : ∃x,ndQ 1 a b c nm s1 s2 s3 s4 at_ 1 0 0 0 nm (⟨#[]⟩:ByteArray) (⟨#[]⟩:ByteArray) (⟨#[]⟩:ByteArray) (⟨#[]⟩:ByteArray) at_=x:=⟨_,rfl⟩
 rw[hq]
 have hq':=bH hq;clear hq hz
 go_enter Tryz.func63,Tryz.ntmps63
 go_wp2_with fail
 refine(kK.out _).mono ?_
 rintro e w1 ⟨rfl,hb1⟩
 have hB1:=bH (belT (show Below w.heap.size w _ from bZ) hb1)
 obtain⟨⟨q0,q1,q2,q3,q4,q5,q6,q7,q8,q9⟩,⟨r0,r1,r2,r3,r4,r5,r6,r7,r8,r9⟩,hfy,hs1⟩:=fl_two hb1
 have hfy:=bH hfy
 have f4:=hfy.out 4
 clear hb1 kK
 go_wp2_with fail
 refine(kB.out _ _ (by simp;omega) (fun o=>by simp[go_sem,hfy.out]) (by simp[go_sem,r6]) (by simp[go_sem,r7]) (by simp[go_sem,r8])).mono ?_
 rintro e w2 ⟨rfl,hsz2,hkeep,c6,c7,c8,hbel⟩
 have hB2:=bH (hbel w (by have:=hB1.out;have:=this.size;exact bZ) (by omega))
 have kq:=fun o v (h:w1.cell? ⟨w.heap.size,o,none⟩=some v)=>(show w2.cell? ⟨w.heap.size,o,none⟩=some v by rw[hkeep _ _ (by simp;omega) (.inl (by omega))];simp[go_sem,h])
 have q0:=kq _ _ q0;have q1:=kq _ _ q1;have q2:=kq _ _ q2;have q3:=kq _ _ q3;have q4:=kq _ _ q4;have q5:=kq _ _ q5;have q6:=kq _ _ q6;have q7:=kq _ _ q7;have q8:=kq _ _ q8;have q9:=kq _ _ q9
 have r0:w2.cell? ⟨w.heap.size+1,0,none⟩=some (.int .i64 1):=by rw[hkeep _ _ (by simp;omega) (.inr (by omega))];simp[go_sem,r0,r1,r2,r3,r4,r5,r6,r7,r8,r9]
 have r1:w2.cell? ⟨w.heap.size+1,1,none⟩=some (.int .i64 0):=by rw[hkeep _ _ (by simp;omega) (.inr (by omega))];simp[go_sem,r0,r1,r2,r3,r4,r5,r6,r7,r8,r9]
 have r2:w2.cell? ⟨w.heap.size+1,2,none⟩=some (.int .i64 0):=by rw[hkeep _ _ (by simp;omega) (.inr (by omega))];simp[go_sem,r0,r1,r2,r3,r4,r5,r6,r7,r8,r9]
 have r3:w2.cell? ⟨w.heap.size+1,3,none⟩=some (.int .i64 0):=by rw[hkeep _ _ (by simp;omega) (.inr (by omega))];simp[go_sem,r0,r1,r2,r3,r4,r5,r6,r7,r8,r9]
 have r4:w2.cell? ⟨w.heap.size+1,4,none⟩=some (.int .i64 nm):=by rw[hkeep _ _ (by simp;omega) (.inr (by omega))];simp[go_sem,r0,r1,r2,r3,r4,r5,r6,r7,r8,r9]
 have r5:w2.cell? ⟨w.heap.size+1,5,none⟩=some (.string ⟨#[]⟩):=by rw[hkeep _ _ (by simp;omega) (.inr (by omega))];simp[go_sem,r0,r1,r2,r3,r4,r5,r6,r7,r8,r9]
 have r9:w2.cell? ⟨w.heap.size+1,9,none⟩=some (.int .i64 at_):=by rw[hkeep _ _ (by simp;omega) (.inr (by omega))];simp[go_sem,r0,r1,r2,r3,r4,r5,r6,r7,r8,r9]
 clear kq
 have hs2:w.heap.size+1<w2.heap.size:=by(try simp at hsz2);omega
 clear hsz2 hkeep hbel kB r6 r7 r8 hfy
 have hndq:=fun x0 x1 x2 x3 x4 x5 x6 x7 x8 x9 y0 y1 y2 y3 y4 y5 y6 y7 y8 y9 W=>nd_in x0 x1 x2 x3 x4 x5 x6 x7 x8 x9 y0 y1 y2 y3 y4 y5 y6 y7 y8 y9 W
 have hq:=hq'.out
 rcases bq_four bq at_ with rfl|⟨rfl,h0⟩|⟨rfl,h0,h1⟩|⟨rfl,h0,h1⟩
 all_goals
  go_wp2_with fail
  all_goals
   go_ret
   exact⟨ret_bb (by first|(simp[*];done)|(simp[*];omega)),by have:=hB2.out;have:=this.size;exact bZ⟩
theorem fields2n (a b c nm at_:Int) (s1 s2 s3 s4:ByteArray) (w:World) (hz:s1.size≤1125899906842624∧s2.size≤1125899906842624∧s3.size≤1125899906842624∧s4.size≤1125899906842624) :
  Calls Tryz.prog 63 #[.agg #[.int .i64 2, .int .i64 a, .int .i64 b, .int .i64 c, .int .i64 nm, .string s1, .string s2, .string s3, .string s4, .int .i64 at_], .bool true] w fun e w'=>e= .returned (.bool (okF true 2 a b c nm s1 s2 s3 s4 at_))∧Below w.heap.size w w':=by
 have kK:=bH fun (W:World)=>(show Calls Tryz.prog 85 #[.int .i64 2] W fun e w'=>e= .returned (.int .i64 0)∧Below W.heap.size W w' from kids_any 2 W)
 have kB:=bH fun (g:Nat) (W:World) (hg:g<W.heap.size) (hf : ∀o,W.frozen? ⟨g,o,none⟩=false) (h6:W.cell? ⟨g,6,none⟩=some (.string ⟨#[]⟩)) (h7:W.cell? ⟨g,7,none⟩=some (.string ⟨#[]⟩)) (h8:W.cell? ⟨g,8,none⟩=some (.string ⟨#[]⟩))=>bound2 a b c nm at_ s1 s2 s3 s4 ⟨#[]⟩ ⟨#[]⟩ ⟨#[]⟩ g W hg hf h6 h7 h8 hz
 rw[okF2n]
 obtain⟨bq,hq⟩ : ∃x,ndQ 2 a b c nm s1 s2 s3 s4 at_ 2 0 0 0 nm (⟨#[]⟩:ByteArray) (⟨#[]⟩:ByteArray) (⟨#[]⟩:ByteArray) (⟨#[]⟩:ByteArray) at_=x:=⟨_,rfl⟩
 rw[hq]
 have hq':=bH hq;clear hq hz
 go_enter Tryz.func63,Tryz.ntmps63
 go_wp2_with fail
 refine(kK.out _).mono ?_
 rintro e w1 ⟨rfl,hb1⟩
 have hB1:=bH (belT (show Below w.heap.size w _ from bZ) hb1)
 obtain⟨⟨q0,q1,q2,q3,q4,q5,q6,q7,q8,q9⟩,⟨r0,r1,r2,r3,r4,r5,r6,r7,r8,r9⟩,hfy,hs1⟩:=fl_two hb1
 have hfy:=bH hfy
 have f4:=hfy.out 4
 clear hb1 kK
 go_wp2_with fail
 refine(kB.out _ _ (by simp;omega) (fun o=>by simp[go_sem,hfy.out]) (by simp[go_sem,r6]) (by simp[go_sem,r7]) (by simp[go_sem,r8])).mono ?_
 rintro e w2 ⟨rfl,hsz2,hkeep,c6,c7,c8,hbel⟩
 have hB2:=bH (hbel w (by have:=hB1.out;have:=this.size;exact bZ) (by omega))
 have kq:=fun o v (h:w1.cell? ⟨w.heap.size,o,none⟩=some v)=>(show w2.cell? ⟨w.heap.size,o,none⟩=some v by rw[hkeep _ _ (by simp;omega) (.inl (by omega))];simp[go_sem,h])
 have q0:=kq _ _ q0;have q1:=kq _ _ q1;have q2:=kq _ _ q2;have q3:=kq _ _ q3;have q4:=kq _ _ q4;have q5:=kq _ _ q5;have q6:=kq _ _ q6;have q7:=kq _ _ q7;have q8:=kq _ _ q8;have q9:=kq _ _ q9
 have r0:w2.cell? ⟨w.heap.size+1,0,none⟩=some (.int .i64 2):=by rw[hkeep _ _ (by simp;omega) (.inr (by omega))];simp[go_sem,r0,r1,r2,r3,r4,r5,r6,r7,r8,r9]
 have r1:w2.cell? ⟨w.heap.size+1,1,none⟩=some (.int .i64 0):=by rw[hkeep _ _ (by simp;omega) (.inr (by omega))];simp[go_sem,r0,r1,r2,r3,r4,r5,r6,r7,r8,r9]
 have r2:w2.cell? ⟨w.heap.size+1,2,none⟩=some (.int .i64 0):=by rw[hkeep _ _ (by simp;omega) (.inr (by omega))];simp[go_sem,r0,r1,r2,r3,r4,r5,r6,r7,r8,r9]
 have r3:w2.cell? ⟨w.heap.size+1,3,none⟩=some (.int .i64 0):=by rw[hkeep _ _ (by simp;omega) (.inr (by omega))];simp[go_sem,r0,r1,r2,r3,r4,r5,r6,r7,r8,r9]
 have r4:w2.cell? ⟨w.heap.size+1,4,none⟩=some (.int .i64 nm):=by rw[hkeep _ _ (by simp;omega) (.inr (by omega))];simp[go_sem,r0,r1,r2,r3,r4,r5,r6,r7,r8,r9]
 have r5:w2.cell? ⟨w.heap.size+1,5,none⟩=some (.string ⟨#[]⟩):=by rw[hkeep _ _ (by simp;omega) (.inr (by omega))];simp[go_sem,r0,r1,r2,r3,r4,r5,r6,r7,r8,r9]
 have r9:w2.cell? ⟨w.heap.size+1,9,none⟩=some (.int .i64 at_):=by rw[hkeep _ _ (by simp;omega) (.inr (by omega))];simp[go_sem,r0,r1,r2,r3,r4,r5,r6,r7,r8,r9]
 clear kq
 have hs2:w.heap.size+1<w2.heap.size:=by(try simp at hsz2);omega
 clear hsz2 hkeep hbel kB r6 r7 r8 hfy
 have hndq:=fun x0 x1 x2 x3 x4 x5 x6 x7 x8 x9 y0 y1 y2 y3 y4 y5 y6 y7 y8 y9 W=>nd_in x0 x1 x2 x3 x4 x5 x6 x7 x8 x9 y0 y1 y2 y3 y4 y5 y6 y7 y8 y9 W
 have hq:=hq'.out
 rcases bq_four bq at_ with rfl|⟨rfl,h0⟩|⟨rfl,h0,h1⟩|⟨rfl,h0,h1⟩
 all_goals
  go_wp2_with fail
  all_goals
   go_ret
   exact⟨ret_bb (by first|(simp[*];done)|(simp[*];omega)),by have:=hB2.out;have:=this.size;exact bZ⟩
theorem fields3n (a b c nm at_:Int) (s1 s2 s3 s4:ByteArray) (w:World) (hz:s1.size≤1125899906842624∧s2.size≤1125899906842624∧s3.size≤1125899906842624∧s4.size≤1125899906842624) :
  Calls Tryz.prog 63 #[.agg #[.int .i64 3, .int .i64 a, .int .i64 b, .int .i64 c, .int .i64 nm, .string s1, .string s2, .string s3, .string s4, .int .i64 at_], .bool true] w fun e w'=>e= .returned (.bool (okF true 3 a b c nm s1 s2 s3 s4 at_))∧Below w.heap.size w w':=by
 have kK:=bH fun (W:World)=>(show Calls Tryz.prog 85 #[.int .i64 3] W fun e w'=>e= .returned (.int .i64 1)∧Below W.heap.size W w' from kids_any 3 W)
 have kB:=bH fun (g:Nat) (W:World) (hg:g<W.heap.size) (hf : ∀o,W.frozen? ⟨g,o,none⟩=false) (h6:W.cell? ⟨g,6,none⟩=some (.string ⟨#[]⟩)) (h7:W.cell? ⟨g,7,none⟩=some (.string ⟨#[]⟩)) (h8:W.cell? ⟨g,8,none⟩=some (.string ⟨#[]⟩))=>bound3 a b c nm at_ s1 s2 s3 s4 ⟨#[]⟩ ⟨#[]⟩ ⟨#[]⟩ g W hg hf h6 h7 h8 hz
 rw[okF3n]
 obtain⟨bd,hbd⟩ : ∃x,(nmB s2.data.toList)=x:=⟨_,rfl⟩
 rw[hbd]
 rw[hbd] at kB
 clear hbd
 obtain⟨bq,hq⟩ : ∃x,ndQ 3 a b c nm s1 s2 s3 s4 at_ 3 a 0 0 0 (⟨#[]⟩:ByteArray) s2 (⟨#[]⟩:ByteArray) (⟨#[]⟩:ByteArray) at_=x:=⟨_,rfl⟩
 rw[hq]
 have hq':=bH hq;clear hq hz
 go_enter Tryz.func63,Tryz.ntmps63
 go_wp2_with fail
 refine(kK.out _).mono ?_
 rintro e w1 ⟨rfl,hb1⟩
 have hB1:=bH (belT (show Below w.heap.size w _ from bZ) hb1)
 obtain⟨⟨q0,q1,q2,q3,q4,q5,q6,q7,q8,q9⟩,⟨r0,r1,r2,r3,r4,r5,r6,r7,r8,r9⟩,hfy,hs1⟩:=fl_two hb1
 have hfy:=bH hfy
 have f1:=hfy.out 1
 clear hb1 kK
 go_wp2_with fail
 refine(kB.out _ _ (by simp;omega) (fun o=>by simp[go_sem,hfy.out]) (by simp[go_sem,r6]) (by simp[go_sem,r7]) (by simp[go_sem,r8])).mono ?_
 rintro e w2 ⟨rfl,hsz2,hkeep,c6,c7,c8,hbel⟩
 have hB2:=bH (hbel w (by have:=hB1.out;have:=this.size;exact bZ) (by omega))
 have kq:=fun o v (h:w1.cell? ⟨w.heap.size,o,none⟩=some v)=>(show w2.cell? ⟨w.heap.size,o,none⟩=some v by rw[hkeep _ _ (by simp;omega) (.inl (by omega))];simp[go_sem,h])
 have q0:=kq _ _ q0;have q1:=kq _ _ q1;have q2:=kq _ _ q2;have q3:=kq _ _ q3;have q4:=kq _ _ q4;have q5:=kq _ _ q5;have q6:=kq _ _ q6;have q7:=kq _ _ q7;have q8:=kq _ _ q8;have q9:=kq _ _ q9
 have r0:w2.cell? ⟨w.heap.size+1,0,none⟩=some (.int .i64 3):=by rw[hkeep _ _ (by simp;omega) (.inr (by omega))];simp[go_sem,r0,r1,r2,r3,r4,r5,r6,r7,r8,r9]
 have r1:w2.cell? ⟨w.heap.size+1,1,none⟩=some (.int .i64 a):=by rw[hkeep _ _ (by simp;omega) (.inr (by omega))];simp[go_sem,r0,r1,r2,r3,r4,r5,r6,r7,r8,r9]
 have r2:w2.cell? ⟨w.heap.size+1,2,none⟩=some (.int .i64 0):=by rw[hkeep _ _ (by simp;omega) (.inr (by omega))];simp[go_sem,r0,r1,r2,r3,r4,r5,r6,r7,r8,r9]
 have r3:w2.cell? ⟨w.heap.size+1,3,none⟩=some (.int .i64 0):=by rw[hkeep _ _ (by simp;omega) (.inr (by omega))];simp[go_sem,r0,r1,r2,r3,r4,r5,r6,r7,r8,r9]
 have r4:w2.cell? ⟨w.heap.size+1,4,none⟩=some (.int .i64 0):=by rw[hkeep _ _ (by simp;omega) (.inr (by omega))];simp[go_sem,r0,r1,r2,r3,r4,r5,r6,r7,r8,r9]
 have r5:w2.cell? ⟨w.heap.size+1,5,none⟩=some (.string ⟨#[]⟩):=by rw[hkeep _ _ (by simp;omega) (.inr (by omega))];simp[go_sem,r0,r1,r2,r3,r4,r5,r6,r7,r8,r9]
 have r9:w2.cell? ⟨w.heap.size+1,9,none⟩=some (.int .i64 at_):=by rw[hkeep _ _ (by simp;omega) (.inr (by omega))];simp[go_sem,r0,r1,r2,r3,r4,r5,r6,r7,r8,r9]
 clear kq
 have hs2:w.heap.size+1<w2.heap.size:=by(try simp at hsz2);omega
 clear hsz2 hkeep hbel kB r6 r7 r8 hfy
 cases bd
 ·go_wp2_with fail
  go_ret
  exact⟨ret_bb (by simp),hB2.out⟩
 have hndq:=fun x0 x1 x2 x3 x4 x5 x6 x7 x8 x9 y0 y1 y2 y3 y4 y5 y6 y7 y8 y9 W=>nd_in x0 x1 x2 x3 x4 x5 x6 x7 x8 x9 y0 y1 y2 y3 y4 y5 y6 y7 y8 y9 W
 have hq:=hq'.out
 rcases bq_four bq at_ with rfl|⟨rfl,h0⟩|⟨rfl,h0,h1⟩|⟨rfl,h0,h1⟩
 all_goals
  go_wp2_with fail
  all_goals
   go_ret
   exact⟨ret_bb (by first|(simp[*];done)|(simp[*];omega)),by have:=hB2.out;have:=this.size;exact bZ⟩
theorem fields4n (a b c nm at_:Int) (s1 s2 s3 s4:ByteArray) (w:World) (hz:s1.size≤1125899906842624∧s2.size≤1125899906842624∧s3.size≤1125899906842624∧s4.size≤1125899906842624) :
  Calls Tryz.prog 63 #[.agg #[.int .i64 4, .int .i64 a, .int .i64 b, .int .i64 c, .int .i64 nm, .string s1, .string s2, .string s3, .string s4, .int .i64 at_], .bool true] w fun e w'=>e= .returned (.bool (okF true 4 a b c nm s1 s2 s3 s4 at_))∧Below w.heap.size w w':=by
 have kK:=bH fun (W:World)=>(show Calls Tryz.prog 85 #[.int .i64 4] W fun e w'=>e= .returned (.int .i64 2)∧Below W.heap.size W w' from kids_any 4 W)
 have kB:=bH fun (g:Nat) (W:World) (hg:g<W.heap.size) (hf : ∀o,W.frozen? ⟨g,o,none⟩=false) (h6:W.cell? ⟨g,6,none⟩=some (.string ⟨#[]⟩)) (h7:W.cell? ⟨g,7,none⟩=some (.string ⟨#[]⟩)) (h8:W.cell? ⟨g,8,none⟩=some (.string ⟨#[]⟩))=>bound4 a b c nm at_ s1 s2 s3 s4 ⟨#[]⟩ ⟨#[]⟩ ⟨#[]⟩ g W hg hf h6 h7 h8 hz
 rw[okF4n]
 obtain⟨bq,hq⟩ : ∃x,ndQ 4 a b c nm s1 s2 s3 s4 at_ 4 a b 0 0 (⟨#[]⟩:ByteArray) (⟨#[]⟩:ByteArray) (⟨#[]⟩:ByteArray) (⟨#[]⟩:ByteArray) at_=x:=⟨_,rfl⟩
 rw[hq]
 have hq':=bH hq;clear hq hz
 go_enter Tryz.func63,Tryz.ntmps63
 go_wp2_with fail
 refine(kK.out _).mono ?_
 rintro e w1 ⟨rfl,hb1⟩
 have hB1:=bH (belT (show Below w.heap.size w _ from bZ) hb1)
 obtain⟨⟨q0,q1,q2,q3,q4,q5,q6,q7,q8,q9⟩,⟨r0,r1,r2,r3,r4,r5,r6,r7,r8,r9⟩,hfy,hs1⟩:=fl_two hb1
 have hfy:=bH hfy
 have f1:=hfy.out 1
 have f2:=hfy.out 2
 clear hb1 kK
 go_wp2_with fail
 refine(kB.out _ _ (by simp;omega) (fun o=>by simp[go_sem,hfy.out]) (by simp[go_sem,r6]) (by simp[go_sem,r7]) (by simp[go_sem,r8])).mono ?_
 rintro e w2 ⟨rfl,hsz2,hkeep,c6,c7,c8,hbel⟩
 have hB2:=bH (hbel w (by have:=hB1.out;have:=this.size;exact bZ) (by omega))
 have kq:=fun o v (h:w1.cell? ⟨w.heap.size,o,none⟩=some v)=>(show w2.cell? ⟨w.heap.size,o,none⟩=some v by rw[hkeep _ _ (by simp;omega) (.inl (by omega))];simp[go_sem,h])
 have q0:=kq _ _ q0;have q1:=kq _ _ q1;have q2:=kq _ _ q2;have q3:=kq _ _ q3;have q4:=kq _ _ q4;have q5:=kq _ _ q5;have q6:=kq _ _ q6;have q7:=kq _ _ q7;have q8:=kq _ _ q8;have q9:=kq _ _ q9
 have r0:w2.cell? ⟨w.heap.size+1,0,none⟩=some (.int .i64 4):=by rw[hkeep _ _ (by simp;omega) (.inr (by omega))];simp[go_sem,r0,r1,r2,r3,r4,r5,r6,r7,r8,r9]
 have r1:w2.cell? ⟨w.heap.size+1,1,none⟩=some (.int .i64 a):=by rw[hkeep _ _ (by simp;omega) (.inr (by omega))];simp[go_sem,r0,r1,r2,r3,r4,r5,r6,r7,r8,r9]
 have r2:w2.cell? ⟨w.heap.size+1,2,none⟩=some (.int .i64 b):=by rw[hkeep _ _ (by simp;omega) (.inr (by omega))];simp[go_sem,r0,r1,r2,r3,r4,r5,r6,r7,r8,r9]
 have r3:w2.cell? ⟨w.heap.size+1,3,none⟩=some (.int .i64 0):=by rw[hkeep _ _ (by simp;omega) (.inr (by omega))];simp[go_sem,r0,r1,r2,r3,r4,r5,r6,r7,r8,r9]
 have r4:w2.cell? ⟨w.heap.size+1,4,none⟩=some (.int .i64 0):=by rw[hkeep _ _ (by simp;omega) (.inr (by omega))];simp[go_sem,r0,r1,r2,r3,r4,r5,r6,r7,r8,r9]
 have r5:w2.cell? ⟨w.heap.size+1,5,none⟩=some (.string ⟨#[]⟩):=by rw[hkeep _ _ (by simp;omega) (.inr (by omega))];simp[go_sem,r0,r1,r2,r3,r4,r5,r6,r7,r8,r9]
 have r9:w2.cell? ⟨w.heap.size+1,9,none⟩=some (.int .i64 at_):=by rw[hkeep _ _ (by simp;omega) (.inr (by omega))];simp[go_sem,r0,r1,r2,r3,r4,r5,r6,r7,r8,r9]
 clear kq
 have hs2:w.heap.size+1<w2.heap.size:=by(try simp at hsz2);omega
 clear hsz2 hkeep hbel kB r6 r7 r8 hfy
 have hndq:=fun x0 x1 x2 x3 x4 x5 x6 x7 x8 x9 y0 y1 y2 y3 y4 y5 y6 y7 y8 y9 W=>nd_in x0 x1 x2 x3 x4 x5 x6 x7 x8 x9 y0 y1 y2 y3 y4 y5 y6 y7 y8 y9 W
 have hq:=hq'.out
 rcases bq_four bq at_ with rfl|⟨rfl,h0⟩|⟨rfl,h0,h1⟩|⟨rfl,h0,h1⟩
 all_goals
  go_wp2_with fail
  all_goals
   go_ret
   exact⟨ret_bb (by first|(simp[*];done)|(simp[*];omega)),by have:=hB2.out;have:=this.size;exact bZ⟩
theorem fields5n (a b c nm at_:Int) (s1 s2 s3 s4:ByteArray) (w:World) (hz:s1.size≤1125899906842624∧s2.size≤1125899906842624∧s3.size≤1125899906842624∧s4.size≤1125899906842624) :
  Calls Tryz.prog 63 #[.agg #[.int .i64 5, .int .i64 a, .int .i64 b, .int .i64 c, .int .i64 nm, .string s1, .string s2, .string s3, .string s4, .int .i64 at_], .bool true] w fun e w'=>e= .returned (.bool (okF true 5 a b c nm s1 s2 s3 s4 at_))∧Below w.heap.size w w':=by
 have kK:=bH fun (W:World)=>(show Calls Tryz.prog 85 #[.int .i64 5] W fun e w'=>e= .returned (.int .i64 2)∧Below W.heap.size W w' from kids_any 5 W)
 have kB:=bH fun (g:Nat) (W:World) (hg:g<W.heap.size) (hf : ∀o,W.frozen? ⟨g,o,none⟩=false) (h6:W.cell? ⟨g,6,none⟩=some (.string ⟨#[]⟩)) (h7:W.cell? ⟨g,7,none⟩=some (.string ⟨#[]⟩)) (h8:W.cell? ⟨g,8,none⟩=some (.string ⟨#[]⟩))=>bound5 a b c nm at_ s1 s2 s3 s4 ⟨#[]⟩ ⟨#[]⟩ ⟨#[]⟩ g W hg hf h6 h7 h8 hz
 rw[okF5n]
 obtain⟨bd,hbd⟩ : ∃x,(nmB s2.data.toList)=x:=⟨_,rfl⟩
 rw[hbd]
 rw[hbd] at kB
 clear hbd
 obtain⟨bq,hq⟩ : ∃x,ndQ 5 a b c nm s1 s2 s3 s4 at_ 5 a b 0 0 (⟨#[]⟩:ByteArray) s2 (⟨#[]⟩:ByteArray) (⟨#[]⟩:ByteArray) at_=x:=⟨_,rfl⟩
 rw[hq]
 have hq':=bH hq;clear hq hz
 go_enter Tryz.func63,Tryz.ntmps63
 go_wp2_with fail
 refine(kK.out _).mono ?_
 rintro e w1 ⟨rfl,hb1⟩
 have hB1:=bH (belT (show Below w.heap.size w _ from bZ) hb1)
 obtain⟨⟨q0,q1,q2,q3,q4,q5,q6,q7,q8,q9⟩,⟨r0,r1,r2,r3,r4,r5,r6,r7,r8,r9⟩,hfy,hs1⟩:=fl_two hb1
 have hfy:=bH hfy
 have f1:=hfy.out 1
 have f2:=hfy.out 2
 clear hb1 kK
 go_wp2_with fail
 refine(kB.out _ _ (by simp;omega) (fun o=>by simp[go_sem,hfy.out]) (by simp[go_sem,r6]) (by simp[go_sem,r7]) (by simp[go_sem,r8])).mono ?_
 rintro e w2 ⟨rfl,hsz2,hkeep,c6,c7,c8,hbel⟩
 have hB2:=bH (hbel w (by have:=hB1.out;have:=this.size;exact bZ) (by omega))
 have kq:=fun o v (h:w1.cell? ⟨w.heap.size,o,none⟩=some v)=>(show w2.cell? ⟨w.heap.size,o,none⟩=some v by rw[hkeep _ _ (by simp;omega) (.inl (by omega))];simp[go_sem,h])
 have q0:=kq _ _ q0;have q1:=kq _ _ q1;have q2:=kq _ _ q2;have q3:=kq _ _ q3;have q4:=kq _ _ q4;have q5:=kq _ _ q5;have q6:=kq _ _ q6;have q7:=kq _ _ q7;have q8:=kq _ _ q8;have q9:=kq _ _ q9
 have r0:w2.cell? ⟨w.heap.size+1,0,none⟩=some (.int .i64 5):=by rw[hkeep _ _ (by simp;omega) (.inr (by omega))];simp[go_sem,r0,r1,r2,r3,r4,r5,r6,r7,r8,r9]
 have r1:w2.cell? ⟨w.heap.size+1,1,none⟩=some (.int .i64 a):=by rw[hkeep _ _ (by simp;omega) (.inr (by omega))];simp[go_sem,r0,r1,r2,r3,r4,r5,r6,r7,r8,r9]
 have r2:w2.cell? ⟨w.heap.size+1,2,none⟩=some (.int .i64 b):=by rw[hkeep _ _ (by simp;omega) (.inr (by omega))];simp[go_sem,r0,r1,r2,r3,r4,r5,r6,r7,r8,r9]
 have r3:w2.cell? ⟨w.heap.size+1,3,none⟩=some (.int .i64 0):=by rw[hkeep _ _ (by simp;omega) (.inr (by omega))];simp[go_sem,r0,r1,r2,r3,r4,r5,r6,r7,r8,r9]
 have r4:w2.cell? ⟨w.heap.size+1,4,none⟩=some (.int .i64 0):=by rw[hkeep _ _ (by simp;omega) (.inr (by omega))];simp[go_sem,r0,r1,r2,r3,r4,r5,r6,r7,r8,r9]
 have r5:w2.cell? ⟨w.heap.size+1,5,none⟩=some (.string ⟨#[]⟩):=by rw[hkeep _ _ (by simp;omega) (.inr (by omega))];simp[go_sem,r0,r1,r2,r3,r4,r5,r6,r7,r8,r9]
 have r9:w2.cell? ⟨w.heap.size+1,9,none⟩=some (.int .i64 at_):=by rw[hkeep _ _ (by simp;omega) (.inr (by omega))];simp[go_sem,r0,r1,r2,r3,r4,r5,r6,r7,r8,r9]
 clear kq
 have hs2:w.heap.size+1<w2.heap.size:=by(try simp at hsz2);omega
 clear hsz2 hkeep hbel kB r6 r7 r8 hfy
 cases bd
 ·go_wp2_with fail
  go_ret
  exact⟨ret_bb (by simp),hB2.out⟩
 have hndq:=fun x0 x1 x2 x3 x4 x5 x6 x7 x8 x9 y0 y1 y2 y3 y4 y5 y6 y7 y8 y9 W=>nd_in x0 x1 x2 x3 x4 x5 x6 x7 x8 x9 y0 y1 y2 y3 y4 y5 y6 y7 y8 y9 W
 have hq:=hq'.out
 rcases bq_four bq at_ with rfl|⟨rfl,h0⟩|⟨rfl,h0,h1⟩|⟨rfl,h0,h1⟩
 all_goals
  go_wp2_with fail
  all_goals
   go_ret
   exact⟨ret_bb (by first|(simp[*];done)|(simp[*];omega)),by have:=hB2.out;have:=this.size;exact bZ⟩
theorem fields6n (a b c nm at_:Int) (s1 s2 s3 s4:ByteArray) (w:World) (hz:s1.size≤1125899906842624∧s2.size≤1125899906842624∧s3.size≤1125899906842624∧s4.size≤1125899906842624) :
  Calls Tryz.prog 63 #[.agg #[.int .i64 6, .int .i64 a, .int .i64 b, .int .i64 c, .int .i64 nm, .string s1, .string s2, .string s3, .string s4, .int .i64 at_], .bool true] w fun e w'=>e= .returned (.bool (okF true 6 a b c nm s1 s2 s3 s4 at_))∧Below w.heap.size w w':=by
 have kK:=bH fun (W:World)=>(show Calls Tryz.prog 85 #[.int .i64 6] W fun e w'=>e= .returned (.int .i64 2)∧Below W.heap.size W w' from kids_any 6 W)
 have kB:=bH fun (g:Nat) (W:World) (hg:g<W.heap.size) (hf : ∀o,W.frozen? ⟨g,o,none⟩=false) (h6:W.cell? ⟨g,6,none⟩=some (.string ⟨#[]⟩)) (h7:W.cell? ⟨g,7,none⟩=some (.string ⟨#[]⟩)) (h8:W.cell? ⟨g,8,none⟩=some (.string ⟨#[]⟩))=>bound6 a b c nm at_ s1 s2 s3 s4 ⟨#[]⟩ ⟨#[]⟩ ⟨#[]⟩ g W hg hf h6 h7 h8 hz
 rw[okF6n]
 obtain⟨bd,hbd⟩ : ∃x,(nmB s2.data.toList && nmB s3.data.toList)=x:=⟨_,rfl⟩
 rw[hbd]
 rw[hbd] at kB
 clear hbd
 obtain⟨bq,hq⟩ : ∃x,ndQ 6 a b c nm s1 s2 s3 s4 at_ 6 a b 0 0 (⟨#[]⟩:ByteArray) s2 s3 (⟨#[]⟩:ByteArray) at_=x:=⟨_,rfl⟩
 rw[hq]
 have hq':=bH hq;clear hq hz
 go_enter Tryz.func63,Tryz.ntmps63
 go_wp2_with fail
 refine(kK.out _).mono ?_
 rintro e w1 ⟨rfl,hb1⟩
 have hB1:=bH (belT (show Below w.heap.size w _ from bZ) hb1)
 obtain⟨⟨q0,q1,q2,q3,q4,q5,q6,q7,q8,q9⟩,⟨r0,r1,r2,r3,r4,r5,r6,r7,r8,r9⟩,hfy,hs1⟩:=fl_two hb1
 have hfy:=bH hfy
 have f1:=hfy.out 1
 have f2:=hfy.out 2
 clear hb1 kK
 go_wp2_with fail
 refine(kB.out _ _ (by simp;omega) (fun o=>by simp[go_sem,hfy.out]) (by simp[go_sem,r6]) (by simp[go_sem,r7]) (by simp[go_sem,r8])).mono ?_
 rintro e w2 ⟨rfl,hsz2,hkeep,c6,c7,c8,hbel⟩
 have hB2:=bH (hbel w (by have:=hB1.out;have:=this.size;exact bZ) (by omega))
 have kq:=fun o v (h:w1.cell? ⟨w.heap.size,o,none⟩=some v)=>(show w2.cell? ⟨w.heap.size,o,none⟩=some v by rw[hkeep _ _ (by simp;omega) (.inl (by omega))];simp[go_sem,h])
 have q0:=kq _ _ q0;have q1:=kq _ _ q1;have q2:=kq _ _ q2;have q3:=kq _ _ q3;have q4:=kq _ _ q4;have q5:=kq _ _ q5;have q6:=kq _ _ q6;have q7:=kq _ _ q7;have q8:=kq _ _ q8;have q9:=kq _ _ q9
 have r0:w2.cell? ⟨w.heap.size+1,0,none⟩=some (.int .i64 6):=by rw[hkeep _ _ (by simp;omega) (.inr (by omega))];simp[go_sem,r0,r1,r2,r3,r4,r5,r6,r7,r8,r9]
 have r1:w2.cell? ⟨w.heap.size+1,1,none⟩=some (.int .i64 a):=by rw[hkeep _ _ (by simp;omega) (.inr (by omega))];simp[go_sem,r0,r1,r2,r3,r4,r5,r6,r7,r8,r9]
 have r2:w2.cell? ⟨w.heap.size+1,2,none⟩=some (.int .i64 b):=by rw[hkeep _ _ (by simp;omega) (.inr (by omega))];simp[go_sem,r0,r1,r2,r3,r4,r5,r6,r7,r8,r9]
 have r3:w2.cell? ⟨w.heap.size+1,3,none⟩=some (.int .i64 0):=by rw[hkeep _ _ (by simp;omega) (.inr (by omega))];simp[go_sem,r0,r1,r2,r3,r4,r5,r6,r7,r8,r9]
 have r4:w2.cell? ⟨w.heap.size+1,4,none⟩=some (.int .i64 0):=by rw[hkeep _ _ (by simp;omega) (.inr (by omega))];simp[go_sem,r0,r1,r2,r3,r4,r5,r6,r7,r8,r9]
 have r5:w2.cell? ⟨w.heap.size+1,5,none⟩=some (.string ⟨#[]⟩):=by rw[hkeep _ _ (by simp;omega) (.inr (by omega))];simp[go_sem,r0,r1,r2,r3,r4,r5,r6,r7,r8,r9]
 have r9:w2.cell? ⟨w.heap.size+1,9,none⟩=some (.int .i64 at_):=by rw[hkeep _ _ (by simp;omega) (.inr (by omega))];simp[go_sem,r0,r1,r2,r3,r4,r5,r6,r7,r8,r9]
 clear kq
 have hs2:w.heap.size+1<w2.heap.size:=by(try simp at hsz2);omega
 clear hsz2 hkeep hbel kB r6 r7 r8 hfy
 cases bd
 ·go_wp2_with fail
  go_ret
  exact⟨ret_bb (by simp),hB2.out⟩
 have hndq:=fun x0 x1 x2 x3 x4 x5 x6 x7 x8 x9 y0 y1 y2 y3 y4 y5 y6 y7 y8 y9 W=>nd_in x0 x1 x2 x3 x4 x5 x6 x7 x8 x9 y0 y1 y2 y3 y4 y5 y6 y7 y8 y9 W
 have hq:=hq'.out
 rcases bq_four bq at_ with rfl|⟨rfl,h0⟩|⟨rfl,h0,h1⟩|⟨rfl,h0,h1⟩
 all_goals
  go_wp2_with fail
  all_goals
   go_ret
   exact⟨ret_bb (by first|(simp[*];done)|(simp[*];omega)),by have:=hB2.out;have:=this.size;exact bZ⟩
theorem fields7n (a b c nm at_:Int) (s1 s2 s3 s4:ByteArray) (w:World) (hz:s1.size≤1125899906842624∧s2.size≤1125899906842624∧s3.size≤1125899906842624∧s4.size≤1125899906842624) :
  Calls Tryz.prog 63 #[.agg #[.int .i64 7, .int .i64 a, .int .i64 b, .int .i64 c, .int .i64 nm, .string s1, .string s2, .string s3, .string s4, .int .i64 at_], .bool true] w fun e w'=>e= .returned (.bool (okF true 7 a b c nm s1 s2 s3 s4 at_))∧Below w.heap.size w w':=by
 have kK:=bH fun (W:World)=>(show Calls Tryz.prog 85 #[.int .i64 7] W fun e w'=>e= .returned (.int .i64 3)∧Below W.heap.size W w' from kids_any 7 W)
 have kB:=bH fun (g:Nat) (W:World) (hg:g<W.heap.size) (hf : ∀o,W.frozen? ⟨g,o,none⟩=false) (h6:W.cell? ⟨g,6,none⟩=some (.string ⟨#[]⟩)) (h7:W.cell? ⟨g,7,none⟩=some (.string ⟨#[]⟩)) (h8:W.cell? ⟨g,8,none⟩=some (.string ⟨#[]⟩))=>bound7 a b c nm at_ s1 s2 s3 s4 ⟨#[]⟩ ⟨#[]⟩ ⟨#[]⟩ g W hg hf h6 h7 h8 hz
 rw[okF7n]
 obtain⟨bq,hq⟩ : ∃x,ndQ 7 a b c nm s1 s2 s3 s4 at_ 7 a b c 0 (⟨#[]⟩:ByteArray) (⟨#[]⟩:ByteArray) (⟨#[]⟩:ByteArray) (⟨#[]⟩:ByteArray) at_=x:=⟨_,rfl⟩
 rw[hq]
 have hq':=bH hq;clear hq hz
 go_enter Tryz.func63,Tryz.ntmps63
 go_wp2_with fail
 refine(kK.out _).mono ?_
 rintro e w1 ⟨rfl,hb1⟩
 have hB1:=bH (belT (show Below w.heap.size w _ from bZ) hb1)
 obtain⟨⟨q0,q1,q2,q3,q4,q5,q6,q7,q8,q9⟩,⟨r0,r1,r2,r3,r4,r5,r6,r7,r8,r9⟩,hfy,hs1⟩:=fl_two hb1
 have hfy:=bH hfy
 have f1:=hfy.out 1
 have f2:=hfy.out 2
 have f3:=hfy.out 3
 clear hb1 kK
 go_wp2_with fail
 refine(kB.out _ _ (by simp;omega) (fun o=>by simp[go_sem,hfy.out]) (by simp[go_sem,r6]) (by simp[go_sem,r7]) (by simp[go_sem,r8])).mono ?_
 rintro e w2 ⟨rfl,hsz2,hkeep,c6,c7,c8,hbel⟩
 have hB2:=bH (hbel w (by have:=hB1.out;have:=this.size;exact bZ) (by omega))
 have kq:=fun o v (h:w1.cell? ⟨w.heap.size,o,none⟩=some v)=>(show w2.cell? ⟨w.heap.size,o,none⟩=some v by rw[hkeep _ _ (by simp;omega) (.inl (by omega))];simp[go_sem,h])
 have q0:=kq _ _ q0;have q1:=kq _ _ q1;have q2:=kq _ _ q2;have q3:=kq _ _ q3;have q4:=kq _ _ q4;have q5:=kq _ _ q5;have q6:=kq _ _ q6;have q7:=kq _ _ q7;have q8:=kq _ _ q8;have q9:=kq _ _ q9
 have r0:w2.cell? ⟨w.heap.size+1,0,none⟩=some (.int .i64 7):=by rw[hkeep _ _ (by simp;omega) (.inr (by omega))];simp[go_sem,r0,r1,r2,r3,r4,r5,r6,r7,r8,r9]
 have r1:w2.cell? ⟨w.heap.size+1,1,none⟩=some (.int .i64 a):=by rw[hkeep _ _ (by simp;omega) (.inr (by omega))];simp[go_sem,r0,r1,r2,r3,r4,r5,r6,r7,r8,r9]
 have r2:w2.cell? ⟨w.heap.size+1,2,none⟩=some (.int .i64 b):=by rw[hkeep _ _ (by simp;omega) (.inr (by omega))];simp[go_sem,r0,r1,r2,r3,r4,r5,r6,r7,r8,r9]
 have r3:w2.cell? ⟨w.heap.size+1,3,none⟩=some (.int .i64 c):=by rw[hkeep _ _ (by simp;omega) (.inr (by omega))];simp[go_sem,r0,r1,r2,r3,r4,r5,r6,r7,r8,r9]
 have r4:w2.cell? ⟨w.heap.size+1,4,none⟩=some (.int .i64 0):=by rw[hkeep _ _ (by simp;omega) (.inr (by omega))];simp[go_sem,r0,r1,r2,r3,r4,r5,r6,r7,r8,r9]
 have r5:w2.cell? ⟨w.heap.size+1,5,none⟩=some (.string ⟨#[]⟩):=by rw[hkeep _ _ (by simp;omega) (.inr (by omega))];simp[go_sem,r0,r1,r2,r3,r4,r5,r6,r7,r8,r9]
 have r9:w2.cell? ⟨w.heap.size+1,9,none⟩=some (.int .i64 at_):=by rw[hkeep _ _ (by simp;omega) (.inr (by omega))];simp[go_sem,r0,r1,r2,r3,r4,r5,r6,r7,r8,r9]
 clear kq
 have hs2:w.heap.size+1<w2.heap.size:=by(try simp at hsz2);omega
 clear hsz2 hkeep hbel kB r6 r7 r8 hfy
 have hndq:=fun x0 x1 x2 x3 x4 x5 x6 x7 x8 x9 y0 y1 y2 y3 y4 y5 y6 y7 y8 y9 W=>nd_in x0 x1 x2 x3 x4 x5 x6 x7 x8 x9 y0 y1 y2 y3 y4 y5 y6 y7 y8 y9 W
 have hq:=hq'.out
 rcases bq_four bq at_ with rfl|⟨rfl,h0⟩|⟨rfl,h0,h1⟩|⟨rfl,h0,h1⟩
 all_goals
  go_wp2_with fail
  all_goals
   go_ret
   exact⟨ret_bb (by first|(simp[*];done)|(simp[*];omega)),by have:=hB2.out;have:=this.size;exact bZ⟩
theorem fields8n (a b c nm at_:Int) (s1 s2 s3 s4:ByteArray) (w:World) (hz:s1.size≤1125899906842624∧s2.size≤1125899906842624∧s3.size≤1125899906842624∧s4.size≤1125899906842624) :
  Calls Tryz.prog 63 #[.agg #[.int .i64 8, .int .i64 a, .int .i64 b, .int .i64 c, .int .i64 nm, .string s1, .string s2, .string s3, .string s4, .int .i64 at_], .bool true] w fun e w'=>e= .returned (.bool (okF true 8 a b c nm s1 s2 s3 s4 at_))∧Below w.heap.size w w':=by
 have kK:=bH fun (W:World)=>(show Calls Tryz.prog 85 #[.int .i64 8] W fun e w'=>e= .returned (.int .i64 2)∧Below W.heap.size W w' from kids_any 8 W)
 have kB:=bH fun (g:Nat) (W:World) (hg:g<W.heap.size) (hf : ∀o,W.frozen? ⟨g,o,none⟩=false) (h6:W.cell? ⟨g,6,none⟩=some (.string ⟨#[]⟩)) (h7:W.cell? ⟨g,7,none⟩=some (.string ⟨#[]⟩)) (h8:W.cell? ⟨g,8,none⟩=some (.string ⟨#[]⟩))=>bound8 a b c nm at_ s1 s2 s3 s4 ⟨#[]⟩ ⟨#[]⟩ ⟨#[]⟩ g W hg hf h6 h7 h8 hz
 rw[okF8n]
 obtain⟨bq,hq⟩ : ∃x,ndQ 8 a b c nm s1 s2 s3 s4 at_ 8 a b 0 nm (⟨#[]⟩:ByteArray) (⟨#[]⟩:ByteArray) (⟨#[]⟩:ByteArray) (⟨#[]⟩:ByteArray) at_=x:=⟨_,rfl⟩
 rw[hq]
 have hq':=bH hq;clear hq hz
 go_enter Tryz.func63,Tryz.ntmps63
 go_wp2_with fail
 refine(kK.out _).mono ?_
 rintro e w1 ⟨rfl,hb1⟩
 have hB1:=bH (belT (show Below w.heap.size w _ from bZ) hb1)
 obtain⟨⟨q0,q1,q2,q3,q4,q5,q6,q7,q8,q9⟩,⟨r0,r1,r2,r3,r4,r5,r6,r7,r8,r9⟩,hfy,hs1⟩:=fl_two hb1
 have hfy:=bH hfy
 have f1:=hfy.out 1
 have f2:=hfy.out 2
 have f4:=hfy.out 4
 clear hb1 kK
 go_wp2_with fail
 refine(kB.out _ _ (by simp;omega) (fun o=>by simp[go_sem,hfy.out]) (by simp[go_sem,r6]) (by simp[go_sem,r7]) (by simp[go_sem,r8])).mono ?_
 rintro e w2 ⟨rfl,hsz2,hkeep,c6,c7,c8,hbel⟩
 have hB2:=bH (hbel w (by have:=hB1.out;have:=this.size;exact bZ) (by omega))
 have kq:=fun o v (h:w1.cell? ⟨w.heap.size,o,none⟩=some v)=>(show w2.cell? ⟨w.heap.size,o,none⟩=some v by rw[hkeep _ _ (by simp;omega) (.inl (by omega))];simp[go_sem,h])
 have q0:=kq _ _ q0;have q1:=kq _ _ q1;have q2:=kq _ _ q2;have q3:=kq _ _ q3;have q4:=kq _ _ q4;have q5:=kq _ _ q5;have q6:=kq _ _ q6;have q7:=kq _ _ q7;have q8:=kq _ _ q8;have q9:=kq _ _ q9
 have r0:w2.cell? ⟨w.heap.size+1,0,none⟩=some (.int .i64 8):=by rw[hkeep _ _ (by simp;omega) (.inr (by omega))];simp[go_sem,r0,r1,r2,r3,r4,r5,r6,r7,r8,r9]
 have r1:w2.cell? ⟨w.heap.size+1,1,none⟩=some (.int .i64 a):=by rw[hkeep _ _ (by simp;omega) (.inr (by omega))];simp[go_sem,r0,r1,r2,r3,r4,r5,r6,r7,r8,r9]
 have r2:w2.cell? ⟨w.heap.size+1,2,none⟩=some (.int .i64 b):=by rw[hkeep _ _ (by simp;omega) (.inr (by omega))];simp[go_sem,r0,r1,r2,r3,r4,r5,r6,r7,r8,r9]
 have r3:w2.cell? ⟨w.heap.size+1,3,none⟩=some (.int .i64 0):=by rw[hkeep _ _ (by simp;omega) (.inr (by omega))];simp[go_sem,r0,r1,r2,r3,r4,r5,r6,r7,r8,r9]
 have r4:w2.cell? ⟨w.heap.size+1,4,none⟩=some (.int .i64 nm):=by rw[hkeep _ _ (by simp;omega) (.inr (by omega))];simp[go_sem,r0,r1,r2,r3,r4,r5,r6,r7,r8,r9]
 have r5:w2.cell? ⟨w.heap.size+1,5,none⟩=some (.string ⟨#[]⟩):=by rw[hkeep _ _ (by simp;omega) (.inr (by omega))];simp[go_sem,r0,r1,r2,r3,r4,r5,r6,r7,r8,r9]
 have r9:w2.cell? ⟨w.heap.size+1,9,none⟩=some (.int .i64 at_):=by rw[hkeep _ _ (by simp;omega) (.inr (by omega))];simp[go_sem,r0,r1,r2,r3,r4,r5,r6,r7,r8,r9]
 clear kq
 have hs2:w.heap.size+1<w2.heap.size:=by(try simp at hsz2);omega
 clear hsz2 hkeep hbel kB r6 r7 r8 hfy
 have hndq:=fun x0 x1 x2 x3 x4 x5 x6 x7 x8 x9 y0 y1 y2 y3 y4 y5 y6 y7 y8 y9 W=>nd_in x0 x1 x2 x3 x4 x5 x6 x7 x8 x9 y0 y1 y2 y3 y4 y5 y6 y7 y8 y9 W
 have hq:=hq'.out
 rcases bq_four bq at_ with rfl|⟨rfl,h0⟩|⟨rfl,h0,h1⟩|⟨rfl,h0,h1⟩
 all_goals
  go_wp2_with fail
  all_goals
   go_ret
   exact⟨ret_bb (by first|(simp[*];done)|(simp[*];omega)),by have:=hB2.out;have:=this.size;exact bZ⟩
theorem fields9n (a b c nm at_:Int) (s1 s2 s3 s4:ByteArray) (w:World) (hz:s1.size≤1125899906842624∧s2.size≤1125899906842624∧s3.size≤1125899906842624∧s4.size≤1125899906842624) :
  Calls Tryz.prog 63 #[.agg #[.int .i64 9, .int .i64 a, .int .i64 b, .int .i64 c, .int .i64 nm, .string s1, .string s2, .string s3, .string s4, .int .i64 at_], .bool true] w fun e w'=>e= .returned (.bool (okF true 9 a b c nm s1 s2 s3 s4 at_))∧Below w.heap.size w w':=by
 have kK:=bH fun (W:World)=>(show Calls Tryz.prog 85 #[.int .i64 9] W fun e w'=>e= .returned (.int .i64 1)∧Below W.heap.size W w' from kids_any 9 W)
 have kB:=bH fun (g:Nat) (W:World) (hg:g<W.heap.size) (hf : ∀o,W.frozen? ⟨g,o,none⟩=false) (h6:W.cell? ⟨g,6,none⟩=some (.string ⟨#[]⟩)) (h7:W.cell? ⟨g,7,none⟩=some (.string ⟨#[]⟩)) (h8:W.cell? ⟨g,8,none⟩=some (.string ⟨#[]⟩))=>bound9 a b c nm at_ s1 s2 s3 s4 ⟨#[]⟩ ⟨#[]⟩ ⟨#[]⟩ g W hg hf h6 h7 h8 hz
 rw[okF9n]
 obtain⟨bd,hbd⟩ : ∃x,(nmB s1.data.toList)=x:=⟨_,rfl⟩
 rw[hbd]
 rw[hbd] at kB
 clear hbd
 obtain⟨bq,hq⟩ : ∃x,ndQ 9 a b c nm s1 s2 s3 s4 at_ 9 a 0 0 0 s1 (⟨#[]⟩:ByteArray) (⟨#[]⟩:ByteArray) (⟨#[]⟩:ByteArray) at_=x:=⟨_,rfl⟩
 rw[hq]
 have hq':=bH hq;clear hq hz
 go_enter Tryz.func63,Tryz.ntmps63
 go_wp2_with fail
 refine(kK.out _).mono ?_
 rintro e w1 ⟨rfl,hb1⟩
 have hB1:=bH (belT (show Below w.heap.size w _ from bZ) hb1)
 obtain⟨⟨q0,q1,q2,q3,q4,q5,q6,q7,q8,q9⟩,⟨r0,r1,r2,r3,r4,r5,r6,r7,r8,r9⟩,hfy,hs1⟩:=fl_two hb1
 have hfy:=bH hfy
 have f1:=hfy.out 1
 have f5:=hfy.out 5
 clear hb1 kK
 go_wp2_with fail
 refine(kB.out _ _ (by simp;omega) (fun o=>by simp[go_sem,hfy.out]) (by simp[go_sem,r6]) (by simp[go_sem,r7]) (by simp[go_sem,r8])).mono ?_
 rintro e w2 ⟨rfl,hsz2,hkeep,c6,c7,c8,hbel⟩
 have hB2:=bH (hbel w (by have:=hB1.out;have:=this.size;exact bZ) (by omega))
 have kq:=fun o v (h:w1.cell? ⟨w.heap.size,o,none⟩=some v)=>(show w2.cell? ⟨w.heap.size,o,none⟩=some v by rw[hkeep _ _ (by simp;omega) (.inl (by omega))];simp[go_sem,h])
 have q0:=kq _ _ q0;have q1:=kq _ _ q1;have q2:=kq _ _ q2;have q3:=kq _ _ q3;have q4:=kq _ _ q4;have q5:=kq _ _ q5;have q6:=kq _ _ q6;have q7:=kq _ _ q7;have q8:=kq _ _ q8;have q9:=kq _ _ q9
 have r0:w2.cell? ⟨w.heap.size+1,0,none⟩=some (.int .i64 9):=by rw[hkeep _ _ (by simp;omega) (.inr (by omega))];simp[go_sem,r0,r1,r2,r3,r4,r5,r6,r7,r8,r9]
 have r1:w2.cell? ⟨w.heap.size+1,1,none⟩=some (.int .i64 a):=by rw[hkeep _ _ (by simp;omega) (.inr (by omega))];simp[go_sem,r0,r1,r2,r3,r4,r5,r6,r7,r8,r9]
 have r2:w2.cell? ⟨w.heap.size+1,2,none⟩=some (.int .i64 0):=by rw[hkeep _ _ (by simp;omega) (.inr (by omega))];simp[go_sem,r0,r1,r2,r3,r4,r5,r6,r7,r8,r9]
 have r3:w2.cell? ⟨w.heap.size+1,3,none⟩=some (.int .i64 0):=by rw[hkeep _ _ (by simp;omega) (.inr (by omega))];simp[go_sem,r0,r1,r2,r3,r4,r5,r6,r7,r8,r9]
 have r4:w2.cell? ⟨w.heap.size+1,4,none⟩=some (.int .i64 0):=by rw[hkeep _ _ (by simp;omega) (.inr (by omega))];simp[go_sem,r0,r1,r2,r3,r4,r5,r6,r7,r8,r9]
 have r5:w2.cell? ⟨w.heap.size+1,5,none⟩=some (.string s1):=by rw[hkeep _ _ (by simp;omega) (.inr (by omega))];simp[go_sem,r0,r1,r2,r3,r4,r5,r6,r7,r8,r9]
 have r9:w2.cell? ⟨w.heap.size+1,9,none⟩=some (.int .i64 at_):=by rw[hkeep _ _ (by simp;omega) (.inr (by omega))];simp[go_sem,r0,r1,r2,r3,r4,r5,r6,r7,r8,r9]
 clear kq
 have hs2:w.heap.size+1<w2.heap.size:=by(try simp at hsz2);omega
 clear hsz2 hkeep hbel kB r6 r7 r8 hfy
 cases bd
 ·go_wp2_with fail
  go_ret
  exact⟨ret_bb (by simp),hB2.out⟩
 have hndq:=fun x0 x1 x2 x3 x4 x5 x6 x7 x8 x9 y0 y1 y2 y3 y4 y5 y6 y7 y8 y9 W=>nd_in x0 x1 x2 x3 x4 x5 x6 x7 x8 x9 y0 y1 y2 y3 y4 y5 y6 y7 y8 y9 W
 have hq:=hq'.out
 rcases bq_four bq at_ with rfl|⟨rfl,h0⟩|⟨rfl,h0,h1⟩|⟨rfl,h0,h1⟩
 all_goals
  go_wp2_with fail
  all_goals
   go_ret
   exact⟨ret_bb (by first|(simp[*];done)|(simp[*];omega)),by have:=hB2.out;have:=this.size;exact bZ⟩
theorem fields10n (a b c nm at_:Int) (s1 s2 s3 s4:ByteArray) (w:World) (hz:s1.size≤1125899906842624∧s2.size≤1125899906842624∧s3.size≤1125899906842624∧s4.size≤1125899906842624) :
  Calls Tryz.prog 63 #[.agg #[.int .i64 10, .int .i64 a, .int .i64 b, .int .i64 c, .int .i64 nm, .string s1, .string s2, .string s3, .string s4, .int .i64 at_], .bool true] w fun e w'=>e= .returned (.bool (okF true 10 a b c nm s1 s2 s3 s4 at_))∧Below w.heap.size w w':=by
 have kK:=bH fun (W:World)=>(show Calls Tryz.prog 85 #[.int .i64 10] W fun e w'=>e= .returned (.int .i64 3)∧Below W.heap.size W w' from kids_any 10 W)
 have kB:=bH fun (g:Nat) (W:World) (hg:g<W.heap.size) (hf : ∀o,W.frozen? ⟨g,o,none⟩=false) (h6:W.cell? ⟨g,6,none⟩=some (.string ⟨#[]⟩)) (h7:W.cell? ⟨g,7,none⟩=some (.string ⟨#[]⟩)) (h8:W.cell? ⟨g,8,none⟩=some (.string ⟨#[]⟩))=>bound10 a b c nm at_ s1 s2 s3 s4 ⟨#[]⟩ ⟨#[]⟩ ⟨#[]⟩ g W hg hf h6 h7 h8 hz
 rw[okF10n]
 obtain⟨bd,hbd⟩ : ∃x,(nmB s1.data.toList && nmB s2.data.toList && nmB s3.data.toList && nmB s4.data.toList)=x:=⟨_,rfl⟩
 rw[hbd]
 rw[hbd] at kB
 clear hbd
 obtain⟨bq,hq⟩ : ∃x,ndQ 10 a b c nm s1 s2 s3 s4 at_ 10 a b c 0 s1 s2 s3 s4 at_=x:=⟨_,rfl⟩
 rw[hq]
 have hq':=bH hq;clear hq hz
 go_enter Tryz.func63,Tryz.ntmps63
 go_wp2_with fail
 refine(kK.out _).mono ?_
 rintro e w1 ⟨rfl,hb1⟩
 have hB1:=bH (belT (show Below w.heap.size w _ from bZ) hb1)
 obtain⟨⟨q0,q1,q2,q3,q4,q5,q6,q7,q8,q9⟩,⟨r0,r1,r2,r3,r4,r5,r6,r7,r8,r9⟩,hfy,hs1⟩:=fl_two hb1
 have hfy:=bH hfy
 have f1:=hfy.out 1
 have f2:=hfy.out 2
 have f3:=hfy.out 3
 have f5:=hfy.out 5
 clear hb1 kK
 go_wp2_with fail
 refine(kB.out _ _ (by simp;omega) (fun o=>by simp[go_sem,hfy.out]) (by simp[go_sem,r6]) (by simp[go_sem,r7]) (by simp[go_sem,r8])).mono ?_
 rintro e w2 ⟨rfl,hsz2,hkeep,c6,c7,c8,hbel⟩
 have hB2:=bH (hbel w (by have:=hB1.out;have:=this.size;exact bZ) (by omega))
 have kq:=fun o v (h:w1.cell? ⟨w.heap.size,o,none⟩=some v)=>(show w2.cell? ⟨w.heap.size,o,none⟩=some v by rw[hkeep _ _ (by simp;omega) (.inl (by omega))];simp[go_sem,h])
 have q0:=kq _ _ q0;have q1:=kq _ _ q1;have q2:=kq _ _ q2;have q3:=kq _ _ q3;have q4:=kq _ _ q4;have q5:=kq _ _ q5;have q6:=kq _ _ q6;have q7:=kq _ _ q7;have q8:=kq _ _ q8;have q9:=kq _ _ q9
 have r0:w2.cell? ⟨w.heap.size+1,0,none⟩=some (.int .i64 10):=by rw[hkeep _ _ (by simp;omega) (.inr (by omega))];simp[go_sem,r0,r1,r2,r3,r4,r5,r6,r7,r8,r9]
 have r1:w2.cell? ⟨w.heap.size+1,1,none⟩=some (.int .i64 a):=by rw[hkeep _ _ (by simp;omega) (.inr (by omega))];simp[go_sem,r0,r1,r2,r3,r4,r5,r6,r7,r8,r9]
 have r2:w2.cell? ⟨w.heap.size+1,2,none⟩=some (.int .i64 b):=by rw[hkeep _ _ (by simp;omega) (.inr (by omega))];simp[go_sem,r0,r1,r2,r3,r4,r5,r6,r7,r8,r9]
 have r3:w2.cell? ⟨w.heap.size+1,3,none⟩=some (.int .i64 c):=by rw[hkeep _ _ (by simp;omega) (.inr (by omega))];simp[go_sem,r0,r1,r2,r3,r4,r5,r6,r7,r8,r9]
 have r4:w2.cell? ⟨w.heap.size+1,4,none⟩=some (.int .i64 0):=by rw[hkeep _ _ (by simp;omega) (.inr (by omega))];simp[go_sem,r0,r1,r2,r3,r4,r5,r6,r7,r8,r9]
 have r5:w2.cell? ⟨w.heap.size+1,5,none⟩=some (.string s1):=by rw[hkeep _ _ (by simp;omega) (.inr (by omega))];simp[go_sem,r0,r1,r2,r3,r4,r5,r6,r7,r8,r9]
 have r9:w2.cell? ⟨w.heap.size+1,9,none⟩=some (.int .i64 at_):=by rw[hkeep _ _ (by simp;omega) (.inr (by omega))];simp[go_sem,r0,r1,r2,r3,r4,r5,r6,r7,r8,r9]
 clear kq
 have hs2:w.heap.size+1<w2.heap.size:=by(try simp at hsz2);omega
 clear hsz2 hkeep hbel kB r6 r7 r8 hfy
 cases bd
 ·go_wp2_with fail
  go_ret
  exact⟨ret_bb (by simp),hB2.out⟩
 have hndq:=fun x0 x1 x2 x3 x4 x5 x6 x7 x8 x9 y0 y1 y2 y3 y4 y5 y6 y7 y8 y9 W=>nd_in x0 x1 x2 x3 x4 x5 x6 x7 x8 x9 y0 y1 y2 y3 y4 y5 y6 y7 y8 y9 W
 have hq:=hq'.out
 rcases bq_four bq at_ with rfl|⟨rfl,h0⟩|⟨rfl,h0,h1⟩|⟨rfl,h0,h1⟩
 all_goals
  go_wp2_with fail
  all_goals
   go_ret
   exact⟨ret_bb (by first|(simp[*];done)|(simp[*];omega)),by have:=hB2.out;have:=this.size;exact bZ⟩
end Go.Proofs.YthpcbgljbpmafaaGreatDoor
