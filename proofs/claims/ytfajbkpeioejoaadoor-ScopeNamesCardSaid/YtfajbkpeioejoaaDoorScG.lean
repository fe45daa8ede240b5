/- Programs that are the same. -/
import Derived.Test.YtfajbkpeioejoaaDoorPrg
import Derived.Test.YtfajbkpeioejoaaDoorScJ
namespace Go.Proofs.YtfajbkpeioejoaaDoor
open Go.RowKit
set_option linter.unusedVariables false
set_option linter.unusedSimpArgs false

set_option maxRecDepth 100000 in
set_option maxHeartbeats 2000000 in
theorem sameProg_any (ao an bo bn : Option Addr) (no co nn cn mo do_ mn dn : Nat) (os : List Or) (ts : List Nd) (w : World) (h1 : Hid (OArg w ao no os)) (h2 : Hid (NArg w an nn ts)) (h3 : Hid (OArg w bo mo os)) (h4 : Hid (NArg w bn mn ts)) (hl1 : no ≤ 140737488351232) (hl2 : nn ≤ 140737488351232) :
    Calls Tryd.prog 14 #[.agg #[.slice ao no co, .slice an nn cn], .agg #[.slice bo mo do_, .slice bn mn dn]] w fun e w' => e = .returned (.bool true) ∧ Below w.heap.size w w' := by
  go_enter Tryd.func14, Tryd.ntmps14
  go_upto_region 1 with fail
  obtain ⟨w0, hw0⟩ : ∃ W, ((w.alloc (.cells #[.slice ao no co, .slice an nn cn] 25)).alloc (.cells #[.slice bo mo do_, .slice bn mn dn] 25)) = W := ⟨_, rfl⟩
  have hP : Hid (Pg w0 w.heap.size ao no co an nn cn) := Lib.hid (by rw [← hw0]; exact (pg_lit w 25 _ rfl _ _ _ _ _ _).below (below_alc _ _))
  have hQ : Hid (Pg w0 (w.heap.size + 1) bo mo do_ bn mn dn) := Lib.hid (by rw [← hw0]; exact pg_lit _ _ _ (by simp) _ _ _ _ _ _)
  have hB : Hid (Below w.heap.size w w0) := Lib.hid (by rw [← hw0]; exact belA _ (below_alc _ _))
  rw [hw0]
  clear hw0
  have kO := Lib.hid (sameOps_any ao bo no mo co do_ os os w0 (Lib.hid (h1.out.below hB.out)) (Lib.hid (h3.out.below hB.out)) hl1)
  rw [sameVO_self] at kO
  obtain ⟨q0, q1, q2⟩ := hP.out
  obtain ⟨r0, r1, r2⟩ := hQ.out
  go_wp2_with fail
  clear q0 q1 q2 r0 r1 r2
  refine kO.out.mono ?_
  rintro e w1 ⟨rfl, hb⟩
  have hP := Lib.hid (hP.out.below hb)
  have hQ := Lib.hid (hQ.out.below hb)
  have hB := Lib.hid (belT hB.out hb)
  clear hb kO
  have kN := Lib.hid (sameNodes_any an bn nn mn cn dn ts ts w1 (Lib.hid (h2.out.below hB.out)) (Lib.hid (h4.out.below hB.out)) hl2)
  rw [sameV_self ndE_self] at kN
  obtain ⟨q0, q1, q2⟩ := hP.out
  obtain ⟨r0, r1, r2⟩ := hQ.out
  go_wp2_with fail
  clear q0 q1 q2 r0 r1 r2
  refine kN.out.mono ?_
  rintro e w2 ⟨rfl, hb⟩
  have hB := Lib.hid (belT hB.out hb)
  clear hb kN
  go_wp2_with fail
  go_ret
  exact ⟨rfl, hB.out⟩
end Go.Proofs.YtfajbkpeioejoaaDoor
