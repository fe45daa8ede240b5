/- TargetTexts holds for every two numbers. No condition. -/
import Derived.Test.YtnjalpcmjkahkaaRmW
import Derived.Test.YtnjalpcmjkahkaaRows
import Derived.WalkKit
import Derived.ProofKit
import Derived.OpenShut
import Derived.ShutString
import Derived.ChangeOld
import Derived.Below
import Derived.SizedLaws
import Derived.Carry
import Derived.Lib.SmallJoins
namespace Go.Proofs.Ytnjalpcmjkahkaa.targetTexts
open Go.ChangeShapes Go.WideShapes Go.ChangeAt Go.RowKit
open Go.ChangeMaps (open_string shut_string)
set_option linter.unusedVariables false
set_option linter.unusedSimpArgs false

theorem back_any (w : World) : Calls Try.prog 13 #[.int .i64 0] w fun e w' => e = .returned (.agg #[.int .i64 9, .int .i64 0, .int .i64 0, .int .i64 0, .int .i64 0, .int .i64 0, .int .i64 0, .int .i64 0, .int .i64 0]) ∧ Below w.heap.size w w' := by
  go_enter Try.func13, Try.ntmps13
  go_wp2_with fail
  exact bodyPost_ret (v := .agg #[.int .i64 9, .int .i64 0, .int .i64 0, .int .i64 0, .int .i64 0, .int .i64 0, .int .i64 0, .int .i64 0, .int .i64 0]) (by simp [results, Try.results13, go_sem]) rfl ⟨rfl, by (repeat' (first | with_reducible exact Below.refl _ _ | with_reducible assumption | with_reducible apply Below.setCell | with_reducible apply Below.alloc | with_reducible apply Below.drew | with_reducible apply below_drewN | with_reducible exact Nat.le_refl _ | (simp; done) | (simp; omega) | omega | exact Nat.le_refl _))⟩
theorem okd {d : Int} (hd : 0 ≤ d ∧ d < 1024) : okT ⟨1, 0, 0, 0, d, 0, 0, 0, 0⟩ = true := by
  unfold okT plainT numT okNames namesT
  simp
  omega
theorem v0 {d : Int} (hd : 0 ≤ d ∧ d < 1024) : runV [⟨1, 0, 0, 0, d, 0, 0, 0, 0⟩, ⟨9, 0, 0, 0, 0, 0, 0, 0, 0⟩] 99 = (((0, d), 3), 0) := by
  have hn : okT ⟨1, 0, 0, 0, d, 0, 0, 0, 0⟩ = true := okd hd
  have hm : mayV [⟨1, 0, 0, 0, d, 0, 0, 0, 0⟩, ⟨9, 0, 0, 0, 0, 0, 0, 0, 0⟩] = true := by
    unfold mayV
    simp only [List.all_cons, List.all_nil, hn]
    kernel_rfl
  have hr : rRun [⟨1, 0, 0, 0, d, 0, 0, 0, 0⟩, ⟨9, 0, 0, 0, 0, 0, 0, 0, 0⟩] (furV [⟨1, 0, 0, 0, d, 0, 0, 0, 0⟩, ⟨9, 0, 0, 0, 0, 0, 0, 0, 0⟩]) 99 0 (.ev [] ((([⟨1, 0, 0, 0, d, 0, 0, 0, 0⟩, ⟨9, 0, 0, 0, 0, 0, 0, 0, 0⟩] : List Tg).length : Int) - 1) .nil) = ((0, d), 3) := by kernel_rfl
  unfold runV
  rw [if_pos ⟨hm, by omega, by omega⟩]
  exact congrArg (fun x => (x, (0 : Int))) hr
theorem v1 {d : Int} (hd : 0 ≤ d ∧ d < 1024) : runV [⟨1, 0, 0, 0, d, 0, 0, 0, 0⟩] 99 = (((5, 0), 1), 0) := by
  have hn : okT ⟨1, 0, 0, 0, d, 0, 0, 0, 0⟩ = true := okd hd
  have hm : mayV [⟨1, 0, 0, 0, d, 0, 0, 0, 0⟩] = true := by
    unfold mayV
    simp only [List.all_cons, List.all_nil, hn]
    kernel_rfl
  have hr : rRun [⟨1, 0, 0, 0, d, 0, 0, 0, 0⟩] (furV [⟨1, 0, 0, 0, d, 0, 0, 0, 0⟩]) 99 0 (.ev [] ((([⟨1, 0, 0, 0, d, 0, 0, 0, 0⟩] : List Tg).length : Int) - 1) .nil) = ((5, 0), 1) := by kernel_rfl
  unfold runV
  rw [if_pos ⟨hm, by omega, by omega⟩]
  exact congrArg (fun x => (x, (0 : Int))) hr
theorem v2 {d : Int} (_ : 0 ≤ d ∧ d < 1024) : runV [⟨2, 0, 0, 0, 1, 0, 0, 0, 0⟩, ⟨9, 0, 0, 0, 0, 0, 0, 0, 0⟩] 99 = (((1, 1), 3), 0) := by decide +kernel
theorem v3 {d : Int} (_ : 0 ≤ d ∧ d < 1024) : runV [⟨0, 0, 0, 0, 0, 0, 0, 0, 0⟩, ⟨9, 0, 0, 0, 0, 0, 0, 0, 0⟩] 99 = (((5, 0), 2), 0) := by decide +kernel
theorem v4 {d : Int} (_ : 0 ≤ d ∧ d < 1024) : runV [⟨0, 0, 0, 0, 0, 0, 0, 0, 0⟩, ⟨3, 0, 0, 0, 0, 0, 0, 0, 0⟩, ⟨9, 1, 0, 0, 0, 0, 0, 0, 0⟩] 99 = (((2, 0), 3), 0) := by decide +kernel
theorem v5 {d : Int} (hd : 0 ≤ d ∧ d < 1024) : runV [⟨1, 0, 0, 0, d, 0, 0, 0, 0⟩, ⟨0, 0, 0, 0, 1, 0, 0, 0, 0⟩, ⟨9, 1, 0, 0, 0, 0, 0, 0, 0⟩, ⟨3, 2, 0, 0, 0, 1, 0, 0, 0⟩, ⟨10, 0, 3, 0, 0, 0, 0, 0, 0⟩] 99 = (((5, 0), 5), 0) := by
  have hn : okT ⟨1, 0, 0, 0, d, 0, 0, 0, 0⟩ = true := okd hd
  have hm : mayV [⟨1, 0, 0, 0, d, 0, 0, 0, 0⟩, ⟨0, 0, 0, 0, 1, 0, 0, 0, 0⟩, ⟨9, 1, 0, 0, 0, 0, 0, 0, 0⟩, ⟨3, 2, 0, 0, 0, 1, 0, 0, 0⟩, ⟨10, 0, 3, 0, 0, 0, 0, 0, 0⟩] = true := by
    unfold mayV
    simp only [List.all_cons, List.all_nil, hn]
    kernel_rfl
  have hr : rRun [⟨1, 0, 0, 0, d, 0, 0, 0, 0⟩, ⟨0, 0, 0, 0, 1, 0, 0, 0, 0⟩, ⟨9, 1, 0, 0, 0, 0, 0, 0, 0⟩, ⟨3, 2, 0, 0, 0, 1, 0, 0, 0⟩, ⟨10, 0, 3, 0, 0, 0, 0, 0, 0⟩] (furV [⟨1, 0, 0, 0, d, 0, 0, 0, 0⟩, ⟨0, 0, 0, 0, 1, 0, 0, 0, 0⟩, ⟨9, 1, 0, 0, 0, 0, 0, 0, 0⟩, ⟨3, 2, 0, 0, 0, 1, 0, 0, 0⟩, ⟨10, 0, 3, 0, 0, 0, 0, 0, 0⟩]) 99 0 (.ev [] ((([⟨1, 0, 0, 0, d, 0, 0, 0, 0⟩, ⟨0, 0, 0, 0, 1, 0, 0, 0, 0⟩, ⟨9, 1, 0, 0, 0, 0, 0, 0, 0⟩, ⟨3, 2, 0, 0, 0, 1, 0, 0, 0⟩, ⟨10, 0, 3, 0, 0, 0, 0, 0, 0⟩] : List Tg).length : Int) - 1) .nil) = ((5, 0), 5) := by kernel_rfl
  unfold runV
  rw [if_pos ⟨hm, by omega, by omega⟩]
  exact congrArg (fun x => (x, (0 : Int))) hr
theorem v6 {d : Int} (hd : 0 ≤ d ∧ d < 1024) : runV [⟨1, 0, 0, 0, d, 0, 0, 0, 0⟩, ⟨9, 0, 0, 0, 0, 0, 0, 0, 0⟩, ⟨0, 0, 0, 0, 7, 0, 0, 0, 0⟩, ⟨9, 2, 0, 0, 0, 0, 0, 0, 0⟩, ⟨6, 1, 3, 0, 0, 7, 0, 0, 0⟩] 99 = (((5, 0), 8), 0) := by
  have hn : okT ⟨1, 0, 0, 0, d, 0, 0, 0, 0⟩ = true := okd hd
  have hm : mayV [⟨1, 0, 0, 0, d, 0, 0, 0, 0⟩, ⟨9, 0, 0, 0, 0, 0, 0, 0, 0⟩, ⟨0, 0, 0, 0, 7, 0, 0, 0, 0⟩, ⟨9, 2, 0, 0, 0, 0, 0, 0, 0⟩, ⟨6, 1, 3, 0, 0, 7, 0, 0, 0⟩] = true := by
    unfold mayV
    simp only [List.all_cons, List.all_nil, hn]
    kernel_rfl
  have hr : rRun [⟨1, 0, 0, 0, d, 0, 0, 0, 0⟩, ⟨9, 0, 0, 0, 0, 0, 0, 0, 0⟩, ⟨0, 0, 0, 0, 7, 0, 0, 0, 0⟩, ⟨9, 2, 0, 0, 0, 0, 0, 0, 0⟩, ⟨6, 1, 3, 0, 0, 7, 0, 0, 0⟩] (furV [⟨1, 0, 0, 0, d, 0, 0, 0, 0⟩, ⟨9, 0, 0, 0, 0, 0, 0, 0, 0⟩, ⟨0, 0, 0, 0, 7, 0, 0, 0, 0⟩, ⟨9, 2, 0, 0, 0, 0, 0, 0, 0⟩, ⟨6, 1, 3, 0, 0, 7, 0, 0, 0⟩]) 99 0 (.ev [] ((([⟨1, 0, 0, 0, d, 0, 0, 0, 0⟩, ⟨9, 0, 0, 0, 0, 0, 0, 0, 0⟩, ⟨0, 0, 0, 0, 7, 0, 0, 0, 0⟩, ⟨9, 2, 0, 0, 0, 0, 0, 0, 0⟩, ⟨6, 1, 3, 0, 0, 7, 0, 0, 0⟩] : List Tg).length : Int) - 1) .nil) = ((5, 0), 8) := by kernel_rfl
  unfold runV
  rw [if_pos ⟨hm, by omega, by omega⟩]
  exact congrArg (fun x => (x, (0 : Int))) hr
theorem v7 {d : Int} (hd : 0 ≤ d ∧ d < 1024) : runV [⟨1, 0, 0, 0, d, 0, 0, 0, 0⟩, ⟨2, 0, 0, 0, 1, 0, 0, 0, 0⟩, ⟨8, 0, 1, 0, 0, 0, 0, 0, 0⟩, ⟨9, 2, 0, 0, 0, 0, 0, 0, 0⟩] 99 = (((5, 0), 6), 0) := by
  have hn : okT ⟨1, 0, 0, 0, d, 0, 0, 0, 0⟩ = true := okd hd
  have hm : mayV [⟨1, 0, 0, 0, d, 0, 0, 0, 0⟩, ⟨2, 0, 0, 0, 1, 0, 0, 0, 0⟩, ⟨8, 0, 1, 0, 0, 0, 0, 0, 0⟩, ⟨9, 2, 0, 0, 0, 0, 0, 0, 0⟩] = true := by
    unfold mayV
    simp only [List.all_cons, List.all_nil, hn]
    kernel_rfl
  have hr : rRun [⟨1, 0, 0, 0, d, 0, 0, 0, 0⟩, ⟨2, 0, 0, 0, 1, 0, 0, 0, 0⟩, ⟨8, 0, 1, 0, 0, 0, 0, 0, 0⟩, ⟨9, 2, 0, 0, 0, 0, 0, 0, 0⟩] (furV [⟨1, 0, 0, 0, d, 0, 0, 0, 0⟩, ⟨2, 0, 0, 0, 1, 0, 0, 0, 0⟩, ⟨8, 0, 1, 0, 0, 0, 0, 0, 0⟩, ⟨9, 2, 0, 0, 0, 0, 0, 0, 0⟩]) 99 0 (.ev [] ((([⟨1, 0, 0, 0, d, 0, 0, 0, 0⟩, ⟨2, 0, 0, 0, 1, 0, 0, 0, 0⟩, ⟨8, 0, 1, 0, 0, 0, 0, 0, 0⟩, ⟨9, 2, 0, 0, 0, 0, 0, 0, 0⟩] : List Tg).length : Int) - 1) .nil) = ((5, 0), 6) := by kernel_rfl
  unfold runV
  rw [if_pos ⟨hm, by omega, by omega⟩]
  exact congrArg (fun x => (x, (0 : Int))) hr
theorem v8 {d : Int} (hd : 0 ≤ d ∧ d < 1024) : runV [⟨2, 0, 0, 0, 1, 0, 0, 0, 0⟩, ⟨1, 0, 0, 0, d, 0, 0, 0, 0⟩, ⟨1, 0, 0, 0, d, 0, 0, 0, 0⟩, ⟨7, 0, 1, 2, 0, 0, 0, 0, 0⟩, ⟨9, 3, 0, 0, 0, 0, 0, 0, 0⟩] 99 = (((0, d), 6), 0) := by
  have hn : okT ⟨1, 0, 0, 0, d, 0, 0, 0, 0⟩ = true := okd hd
  have hm : mayV [⟨2, 0, 0, 0, 1, 0, 0, 0, 0⟩, ⟨1, 0, 0, 0, d, 0, 0, 0, 0⟩, ⟨1, 0, 0, 0, d, 0, 0, 0, 0⟩, ⟨7, 0, 1, 2, 0, 0, 0, 0, 0⟩, ⟨9, 3, 0, 0, 0, 0, 0, 0, 0⟩] = true := by
    unfold mayV
    simp only [List.all_cons, List.all_nil, hn]
    kernel_rfl
  have hr : rRun [⟨2, 0, 0, 0, 1, 0, 0, 0, 0⟩, ⟨1, 0, 0, 0, d, 0, 0, 0, 0⟩, ⟨1, 0, 0, 0, d, 0, 0, 0, 0⟩, ⟨7, 0, 1, 2, 0, 0, 0, 0, 0⟩, ⟨9, 3, 0, 0, 0, 0, 0, 0, 0⟩] (furV [⟨2, 0, 0, 0, 1, 0, 0, 0, 0⟩, ⟨1, 0, 0, 0, d, 0, 0, 0, 0⟩, ⟨1, 0, 0, 0, d, 0, 0, 0, 0⟩, ⟨7, 0, 1, 2, 0, 0, 0, 0, 0⟩, ⟨9, 3, 0, 0, 0, 0, 0, 0, 0⟩]) 99 0 (.ev [] ((([⟨2, 0, 0, 0, 1, 0, 0, 0, 0⟩, ⟨1, 0, 0, 0, d, 0, 0, 0, 0⟩, ⟨1, 0, 0, 0, d, 0, 0, 0, 0⟩, ⟨7, 0, 1, 2, 0, 0, 0, 0, 0⟩, ⟨9, 3, 0, 0, 0, 0, 0, 0, 0⟩] : List Tg).length : Int) - 1) .nil) = ((0, d), 6) := by kernel_rfl
  unfold runV
  rw [if_pos ⟨hm, by omega, by omega⟩]
  exact congrArg (fun x => (x, (0 : Int))) hr
theorem u9 : ∀ k : Fin 1024, runV [⟨1, 0, 0, 0, (k.val : Int), 0, 0, 0, 0⟩, ⟨1, 0, 0, 0, (k.val : Int), 0, 0, 0, 0⟩, ⟨8, 0, 1, 0, 1, 0, 0, 0, 0⟩, ⟨9, 2, 0, 0, 0, 0, 0, 0, 0⟩] 99 = (((0, 0), 7), 0) := by decide +kernel
theorem v9 {d : Int} (hd : 0 ≤ d ∧ d < 1024) : runV [⟨1, 0, 0, 0, d, 0, 0, 0, 0⟩, ⟨1, 0, 0, 0, d, 0, 0, 0, 0⟩, ⟨8, 0, 1, 0, 1, 0, 0, 0, 0⟩, ⟨9, 2, 0, 0, 0, 0, 0, 0, 0⟩] 99 = (((0, 0), 7), 0) := by
  have h := u9 ⟨d.toNat, by omega⟩
  have e : ((d.toNat : Nat) : Int) = d := by omega
  simp only [e] at h
  exact h
theorem v10 {d : Int} (hd : 0 ≤ d ∧ d < 1024) : runV [⟨1, 0, 0, 0, d, 0, 0, 0, 0⟩, ⟨1, 0, 0, 0, d, 0, 0, 0, 0⟩, ⟨5, 0, 1, 0, 0, 0, 0, 0, 0⟩] 99 = (((5, 0), 5), 0) := by
  have hn : okT ⟨1, 0, 0, 0, d, 0, 0, 0, 0⟩ = true := okd hd
  have hm : mayV [⟨1, 0, 0, 0, d, 0, 0, 0, 0⟩, ⟨1, 0, 0, 0, d, 0, 0, 0, 0⟩, ⟨5, 0, 1, 0, 0, 0, 0, 0, 0⟩] = true := by
    unfold mayV
    simp only [List.all_cons, List.all_nil, hn]
    kernel_rfl
  have hr : rRun [⟨1, 0, 0, 0, d, 0, 0, 0, 0⟩, ⟨1, 0, 0, 0, d, 0, 0, 0, 0⟩, ⟨5, 0, 1, 0, 0, 0, 0, 0, 0⟩] (furV [⟨1, 0, 0, 0, d, 0, 0, 0, 0⟩, ⟨1, 0, 0, 0, d, 0, 0, 0, 0⟩, ⟨5, 0, 1, 0, 0, 0, 0, 0, 0⟩]) 99 0 (.ev [] ((([⟨1, 0, 0, 0, d, 0, 0, 0, 0⟩, ⟨1, 0, 0, 0, d, 0, 0, 0, 0⟩, ⟨5, 0, 1, 0, 0, 0, 0, 0, 0⟩] : List Tg).length : Int) - 1) .nil) = ((5, 0), 5) := by kernel_rfl
  unfold runV
  rw [if_pos ⟨hm, by omega, by omega⟩]
  exact congrArg (fun x => (x, (0 : Int))) hr
theorem v11 {d : Int} (hd : 0 ≤ d ∧ d < 1024) : runV [⟨1, 0, 0, 0, d, 0, 0, 0, 0⟩, ⟨0, 0, 0, 0, 4, 0, 0, 0, 0⟩, ⟨11, 0, 1, 0, 0, 4, 0, 0, 0⟩] 99 = (((5, 0), 3), 0) := by
  have hn : okT ⟨1, 0, 0, 0, d, 0, 0, 0, 0⟩ = true := okd hd
  have hm : mayV [⟨1, 0, 0, 0, d, 0, 0, 0, 0⟩, ⟨0, 0, 0, 0, 4, 0, 0, 0, 0⟩, ⟨11, 0, 1, 0, 0, 4, 0, 0, 0⟩] = true := by
    unfold mayV
    simp only [List.all_cons, List.all_nil, hn]
    kernel_rfl
  have hr : rRun [⟨1, 0, 0, 0, d, 0, 0, 0, 0⟩, ⟨0, 0, 0, 0, 4, 0, 0, 0, 0⟩, ⟨11, 0, 1, 0, 0, 4, 0, 0, 0⟩] (furV [⟨1, 0, 0, 0, d, 0, 0, 0, 0⟩, ⟨0, 0, 0, 0, 4, 0, 0, 0, 0⟩, ⟨11, 0, 1, 0, 0, 4, 0, 0, 0⟩]) 99 0 (.ev [] ((([⟨1, 0, 0, 0, d, 0, 0, 0, 0⟩, ⟨0, 0, 0, 0, 4, 0, 0, 0, 0⟩, ⟨11, 0, 1, 0, 0, 4, 0, 0, 0⟩] : List Tg).length : Int) - 1) .nil) = ((5, 0), 3) := by kernel_rfl
  unfold runV
  rw [if_pos ⟨hm, by omega, by omega⟩]
  exact congrArg (fun x => (x, (0 : Int))) hr
theorem at_lit {W : World} {arr : Array Value} {T : TypeId} {g j : Nat} {v : Value} (hg : g = W.heap.size) (h : arr[j]? = some v) : (W.alloc (.cells arr T)).cell? ⟨g, j, none⟩ = some v := by
  subst hg
  rw [World.cell?_alloc_at _ _ _ _ rfl]
  exact h
set_option maxHeartbeats 16000000 in
set_option maxRecDepth 100000 in
theorem walk (a0 a1 : Int) (_ : -9223372036854775808 ≤ a0 ∧ a0 ≤ 9223372036854775807) (_ : -9223372036854775808 ≤ a1 ∧ a1 ≤ 9223372036854775807) (w : World) :
    Calls Try.prog 5 #[.int .i64 a0, .int .i64 a1] w fun e w' => e = .returned (.bool true) ∧ Below w.heap.size w w' := by
  obtain ⟨m, hm0, hm1, he⟩ := umod_int a0 12 (by decide) (by decide)
  have hk := and1023 a1
  have hd : 0 ≤ a1 % 1024 ∧ a1 % 1024 < 1024 := by omega
  generalize a1 % 1024 = d at hk hd
  go_enter Try.func5, Try.ntmps5
  go_wp2_with fail
  refine (awake21_any _).mono ?_
  rintro e w1 ⟨rfl, hb1⟩
  go_wp2_with fail
  refine (back_any _).mono ?_
  rintro e w2 ⟨rfl, hb2⟩
  have n0 : w2.cell? ⟨w1.heap.size, 0, none⟩ = some (.int .i64 1) := carry hb2 (by simp; omega) (by simp [go_sem])
  have n1 : w2.cell? ⟨w1.heap.size, 1, none⟩ = some (.int .i64 0) := carry hb2 (by simp; omega) (by simp [go_sem])
  have n2 : w2.cell? ⟨w1.heap.size, 2, none⟩ = some (.int .i64 0) := carry hb2 (by simp; omega) (by simp [go_sem])
  have n3 : w2.cell? ⟨w1.heap.size, 3, none⟩ = some (.int .i64 0) := carry hb2 (by simp; omega) (by simp [go_sem])
  have n4 : w2.cell? ⟨w1.heap.size, 4, none⟩ = some (.int .i64 d) := carry hb2 (by simp; omega) (by simp [go_sem])
  have n5 : w2.cell? ⟨w1.heap.size, 5, none⟩ = some (.int .i64 0) := carry hb2 (by simp; omega) (by simp [go_sem])
  have n6 : w2.cell? ⟨w1.heap.size, 6, none⟩ = some (.int .i64 0) := carry hb2 (by simp; omega) (by simp [go_sem])
  have n7 : w2.cell? ⟨w1.heap.size, 7, none⟩ = some (.int .i64 0) := carry hb2 (by simp; omega) (by simp [go_sem])
  have n8 : w2.cell? ⟨w1.heap.size, 8, none⟩ = some (.int .i64 0) := carry hb2 (by simp; omega) (by simp [go_sem])
  have t0 : w2.cell? ⟨w1.heap.size + 1, 0, none⟩ = some (.int .i64 2) := carry hb2 (by simp) (by simp [go_sem])
  have t1 : w2.cell? ⟨w1.heap.size + 1, 1, none⟩ = some (.int .i64 0) := carry hb2 (by simp) (by simp [go_sem])
  have t2 : w2.cell? ⟨w1.heap.size + 1, 2, none⟩ = some (.int .i64 0) := carry hb2 (by simp) (by simp [go_sem])
  have t3 : w2.cell? ⟨w1.heap.size + 1, 3, none⟩ = some (.int .i64 0) := carry hb2 (by simp) (by simp [go_sem])
  have t4 : w2.cell? ⟨w1.heap.size + 1, 4, none⟩ = some (.int .i64 1) := carry hb2 (by simp) (by simp [go_sem])
  have t5 : w2.cell? ⟨w1.heap.size + 1, 5, none⟩ = some (.int .i64 0) := carry hb2 (by simp) (by simp [go_sem])
  have t6 : w2.cell? ⟨w1.heap.size + 1, 6, none⟩ = some (.int .i64 0) := carry hb2 (by simp) (by simp [go_sem])
  have t7 : w2.cell? ⟨w1.heap.size + 1, 7, none⟩ = some (.int .i64 0) := carry hb2 (by simp) (by simp [go_sem])
  have t8 : w2.cell? ⟨w1.heap.size + 1, 8, none⟩ = some (.int .i64 0) := carry hb2 (by simp) (by simp [go_sem])
  have hW2 := Lib.hid (belT (belT hb1 (show Below w1.heap.size w1 _ from by (repeat' (first | with_reducible exact Below.refl _ _ | with_reducible assumption | with_reducible apply Below.setCell | with_reducible apply Below.alloc | with_reducible apply Below.drew | with_reducible apply below_drewN | with_reducible exact Nat.le_refl _ | (simp; done) | (simp; omega) | omega | exact Nat.le_refl _)))) hb2)
  have hlw : w1.heap.size < w2.heap.size := Nat.lt_of_lt_of_le (by simp; omega) hb2.size
  have hlw2 : w1.heap.size + 1 < w2.heap.size := Nat.lt_of_lt_of_le (by simp) hb2.size
  clear hb1 hb2
  have la1 : w1.heap.size < w2.heap.size + 1 := by omega
  have lb1 : w1.heap.size + 1 < w2.heap.size + 1 := by omega
  have lc1 : w2.heap.size < w2.heap.size + 1 := by omega
  have la2 : w1.heap.size < w2.heap.size + 1 + 1 := by omega
  have lb2 : w1.heap.size + 1 < w2.heap.size + 1 + 1 := by omega
  have lc2 : w2.heap.size < w2.heap.size + 1 + 1 := by omega
  have la3 : w1.heap.size < w2.heap.size + 1 + 1 + 1 := by omega
  have lb3 : w1.heap.size + 1 < w2.heap.size + 1 + 1 + 1 := by omega
  have lc3 : w2.heap.size < w2.heap.size + 1 + 1 + 1 := by omega
  have la4 : w1.heap.size < w2.heap.size + 1 + 1 + 1 + 1 := by omega
  have lb4 : w1.heap.size + 1 < w2.heap.size + 1 + 1 + 1 + 1 := by omega
  have lc4 : w2.heap.size < w2.heap.size + 1 + 1 + 1 + 1 := by omega
  have la5 : w1.heap.size < w2.heap.size + 1 + 1 + 1 + 1 + 1 := by omega
  have lb5 : w1.heap.size + 1 < w2.heap.size + 1 + 1 + 1 + 1 + 1 := by omega
  have lc5 : w2.heap.size < w2.heap.size + 1 + 1 + 1 + 1 + 1 := by omega
  have la6 : w1.heap.size < w2.heap.size + 1 + 1 + 1 + 1 + 1 + 1 := by omega
  have lb6 : w1.heap.size + 1 < w2.heap.size + 1 + 1 + 1 + 1 + 1 + 1 := by omega
  have lc6 : w2.heap.size < w2.heap.size + 1 + 1 + 1 + 1 + 1 + 1 := by omega
  have la7 : w1.heap.size < w2.heap.size + 1 + 1 + 1 + 1 + 1 + 1 + 1 := by omega
  have lb7 : w1.heap.size + 1 < w2.heap.size + 1 + 1 + 1 + 1 + 1 + 1 + 1 := by omega
  have lc7 : w2.heap.size < w2.heap.size + 1 + 1 + 1 + 1 + 1 + 1 + 1 := by omega
  have la8 : w1.heap.size < w2.heap.size + 1 + 1 + 1 + 1 + 1 + 1 + 1 + 1 := by omega
  have lb8 : w1.heap.size + 1 < w2.heap.size + 1 + 1 + 1 + 1 + 1 + 1 + 1 + 1 := by omega
  have lc8 : w2.heap.size < w2.heap.size + 1 + 1 + 1 + 1 + 1 + 1 + 1 + 1 := by omega
  have la9 : w1.heap.size < w2.heap.size + 1 + 1 + 1 + 1 + 1 + 1 + 1 + 1 + 1 := by omega
  have lb9 : w1.heap.size + 1 < w2.heap.size + 1 + 1 + 1 + 1 + 1 + 1 + 1 + 1 + 1 := by omega
  have lc9 : w2.heap.size < w2.heap.size + 1 + 1 + 1 + 1 + 1 + 1 + 1 + 1 + 1 := by omega
  have la10 : w1.heap.size < w2.heap.size + 1 + 1 + 1 + 1 + 1 + 1 + 1 + 1 + 1 + 1 := by omega
  have lb10 : w1.heap.size + 1 < w2.heap.size + 1 + 1 + 1 + 1 + 1 + 1 + 1 + 1 + 1 + 1 := by omega
  have lc10 : w2.heap.size < w2.heap.size + 1 + 1 + 1 + 1 + 1 + 1 + 1 + 1 + 1 + 1 := by omega
  have la11 : w1.heap.size < w2.heap.size + 1 + 1 + 1 + 1 + 1 + 1 + 1 + 1 + 1 + 1 + 1 := by omega
  have lb11 : w1.heap.size + 1 < w2.heap.size + 1 + 1 + 1 + 1 + 1 + 1 + 1 + 1 + 1 + 1 + 1 := by omega
  have lc11 : w2.heap.size < w2.heap.size + 1 + 1 + 1 + 1 + 1 + 1 + 1 + 1 + 1 + 1 + 1 := by omega
  have la12 : w1.heap.size < w2.heap.size + 1 + 1 + 1 + 1 + 1 + 1 + 1 + 1 + 1 + 1 + 1 + 1 := by omega
  have lb12 : w1.heap.size + 1 < w2.heap.size + 1 + 1 + 1 + 1 + 1 + 1 + 1 + 1 + 1 + 1 + 1 + 1 := by omega
  have lc12 : w2.heap.size < w2.heap.size + 1 + 1 + 1 + 1 + 1 + 1 + 1 + 1 + 1 + 1 + 1 + 1 := by omega
  have la13 : w1.heap.size < w2.heap.size + 1 + 1 + 1 + 1 + 1 + 1 + 1 + 1 + 1 + 1 + 1 + 1 + 1 := by omega
  have lb13 : w1.heap.size + 1 < w2.heap.size + 1 + 1 + 1 + 1 + 1 + 1 + 1 + 1 + 1 + 1 + 1 + 1 + 1 := by omega
  have lc13 : w2.heap.size < w2.heap.size + 1 + 1 + 1 + 1 + 1 + 1 + 1 + 1 + 1 + 1 + 1 + 1 + 1 := by omega
  have la14 : w1.heap.size < w2.heap.size + 1 + 1 + 1 + 1 + 1 + 1 + 1 + 1 + 1 + 1 + 1 + 1 + 1 + 1 := by omega
  have lb14 : w1.heap.size + 1 < w2.heap.size + 1 + 1 + 1 + 1 + 1 + 1 + 1 + 1 + 1 + 1 + 1 + 1 + 1 + 1 := by omega
  have lc14 : w2.heap.size < w2.heap.size + 1 + 1 + 1 + 1 + 1 + 1 + 1 + 1 + 1 + 1 + 1 + 1 + 1 + 1 := by omega
  have la15 : w1.heap.size < w2.heap.size + 1 + 1 + 1 + 1 + 1 + 1 + 1 + 1 + 1 + 1 + 1 + 1 + 1 + 1 + 1 := by omega
  have lb15 : w1.heap.size + 1 < w2.heap.size + 1 + 1 + 1 + 1 + 1 + 1 + 1 + 1 + 1 + 1 + 1 + 1 + 1 + 1 + 1 := by omega
  have lc15 : w2.heap.size < w2.heap.size + 1 + 1 + 1 + 1 + 1 + 1 + 1 + 1 + 1 + 1 + 1 + 1 + 1 + 1 + 1 := by omega
  go_upto_region 9 with fail
  clear n0 n1 n2 n3 n4 n5 n6 n7 n8 t0 t1 t2 t3 t4 t5 t6 t7 t8 hlw hlw2 la1 lb1 lc1 la2 lb2 lc2 la3 lb3 lc3 la4 lb4 lc4 la5 lb5 lc5 la6 lb6 lc6 la7 lb7 lc7 la8 lb8 lc8 la9 lb9 lc9 la10 lb10 lc10 la11 lb11 lc11 la12 lb12 lc12 la13 lb13 lc13 la14 lb14 lc14 la15 lb15 lc15
  obtain ⟨V0, hV0⟩ : ∃ V, w2.alloc (.cells #[.int .i64 9, .int .i64 0, .int .i64 0, .int .i64 0, .int .i64 0, .int .i64 0, .int .i64 0, .int .i64 0, .int .i64 0] 37) = V := ⟨_, rfl⟩
  rw [hV0]
  have hs0 : V0.heap.size = w2.heap.size + 1 := by rw [← hV0]; simp
  have hb0 : Below w2.heap.size w2 V0 := by rw [← hV0]; exact below_alc _ _
  obtain ⟨V1, hV1⟩ : ∃ V, V0.alloc (.cells #[.int .i64 1, .int .i64 0, .int .i64 0, .int .i64 0, .int .i64 d, .int .i64 0, .int .i64 0, .int .i64 0, .int .i64 0, .int .i64 9, .int .i64 0, .int .i64 0, .int .i64 0, .int .i64 0, .int .i64 0, .int .i64 0, .int .i64 0, .int .i64 0] 37) = V := ⟨_, rfl⟩
  rw [hV1]
  have hs1 : V1.heap.size = w2.heap.size + 1 + 1 := by rw [← hV1]; simp [hs0]
  have hb1 : Below V0.heap.size V0 V1 := by rw [← hV1]; exact below_alc _ _
  obtain ⟨V2, hV2⟩ : ∃ V, V1.alloc (.cells #[.int .i64 1, .int .i64 0, .int .i64 0, .int .i64 0, .int .i64 d, .int .i64 0, .int .i64 0, .int .i64 0, .int .i64 0] 37) = V := ⟨_, rfl⟩
  rw [hV2]
  have hs2 : V2.heap.size = w2.heap.size + 1 + 1 + 1 := by rw [← hV2]; simp [hs1]
  have hb2 : Below V1.heap.size V1 V2 := by rw [← hV2]; exact below_alc _ _
  obtain ⟨V3, hV3⟩ : ∃ V, V2.alloc (.cells #[.int .i64 2, .int .i64 0, .int .i64 0, .int .i64 0, .int .i64 1, .int .i64 0, .int .i64 0, .int .i64 0, .int .i64 0, .int .i64 9, .int .i64 0, .int .i64 0, .int .i64 0, .int .i64 0, .int .i64 0, .int .i64 0, .int .i64 0, .int .i64 0] 37) = V := ⟨_, rfl⟩
  rw [hV3]
  have hs3 : V3.heap.size = w2.heap.size + 1 + 1 + 1 + 1 := by rw [← hV3]; simp [hs2]
  have hb3 : Below V2.heap.size V2 V3 := by rw [← hV3]; exact below_alc _ _
  obtain ⟨V4, hV4⟩ : ∃ V, V3.alloc (.cells #[.int .i64 0, .int .i64 0, .int .i64 0, .int .i64 0, .int .i64 0, .int .i64 0, .int .i64 0, .int .i64 0, .int .i64 0, .int .i64 9, .int .i64 0, .int .i64 0, .int .i64 0, .int .i64 0, .int .i64 0, .int .i64 0, .int .i64 0, .int .i64 0] 37) = V := ⟨_, rfl⟩
  rw [hV4]
  have hs4 : V4.heap.size = w2.heap.size + 1 + 1 + 1 + 1 + 1 := by rw [← hV4]; simp [hs3]
  have hb4 : Below V3.heap.size V3 V4 := by rw [← hV4]; exact below_alc _ _
  obtain ⟨V5, hV5⟩ : ∃ V, V4.alloc (.cells #[.int .i64 0, .int .i64 0, .int .i64 0, .int .i64 0, .int .i64 0, .int .i64 0, .int .i64 0, .int .i64 0, .int .i64 0, .int .i64 3, .int .i64 0, .int .i64 0, .int .i64 0, .int .i64 0, .int .i64 0, .int .i64 0, .int .i64 0, .int .i64 0, .int .i64 9, .int .i64 1, .int .i64 0, .int .i64 0, .int .i64 0, .int .i64 0, .int .i64 0, .int .i64 0, .int .i64 0] 37) = V := ⟨_, rfl⟩
  rw [hV5]
  have hs5 : V5.heap.size = w2.heap.size + 1 + 1 + 1 + 1 + 1 + 1 := by rw [← hV5]; simp [hs4]
  have hb5 : Below V4.heap.size V4 V5 := by rw [← hV5]; exact below_alc _ _
  obtain ⟨V6, hV6⟩ : ∃ V, V5.alloc (.cells #[.int .i64 1, .int .i64 0, .int .i64 0, .int .i64 0, .int .i64 d, .int .i64 0, .int .i64 0, .int .i64 0, .int .i64 0, .int .i64 0, .int .i64 0, .int .i64 0, .int .i64 0, .int .i64 1, .int .i64 0, .int .i64 0, .int .i64 0, .int .i64 0, .int .i64 9, .int .i64 1, .int .i64 0, .int .i64 0, .int .i64 0, .int .i64 0, .int .i64 0, .int .i64 0, .int .i64 0, .int .i64 3, .int .i64 2, .int .i64 0, .int .i64 0, .int .i64 0, .int .i64 1, .int .i64 0, .int .i64 0, .int .i64 0, .int .i64 10, .int .i64 0, .int .i64 3, .int .i64 0, .int .i64 0, .int .i64 0, .int .i64 0, .int .i64 0, .int .i64 0] 37) = V := ⟨_, rfl⟩
  rw [hV6]
  have hs6 : V6.heap.size = w2.heap.size + 1 + 1 + 1 + 1 + 1 + 1 + 1 := by rw [← hV6]; simp [hs5]
  have hb6 : Below V5.heap.size V5 V6 := by rw [← hV6]; exact below_alc _ _
  obtain ⟨V7, hV7⟩ : ∃ V, V6.alloc (.cells #[.int .i64 1, .int .i64 0, .int .i64 0, .int .i64 0, .int .i64 d, .int .i64 0, .int .i64 0, .int .i64 0, .int .i64 0, .int .i64 9, .int .i64 0, .int .i64 0, .int .i64 0, .int .i64 0, .int .i64 0, .int .i64 0, .int .i64 0, .int .i64 0, .int .i64 0, .int .i64 0, .int .i64 0, .int .i64 0, .int .i64 7, .int .i64 0, .int .i64 0, .int .i64 0, .int .i64 0, .int .i64 9, .int .i64 2, .int .i64 0, .int .i64 0, .int .i64 0, .int .i64 0, .int .i64 0, .int .i64 0, .int .i64 0, .int .i64 6, .int .i64 1, .int .i64 3, .int .i64 0, .int .i64 0, .int .i64 7, .int .i64 0, .int .i64 0, .int .i64 0] 37) = V := ⟨_, rfl⟩
  rw [hV7]
  have hs7 : V7.heap.size = w2.heap.size + 1 + 1 + 1 + 1 + 1 + 1 + 1 + 1 := by rw [← hV7]; simp [hs6]
  have hb7 : Below V6.heap.size V6 V7 := by rw [← hV7]; exact below_alc _ _
  obtain ⟨V8, hV8⟩ : ∃ V, V7.alloc (.cells #[.int .i64 1, .int .i64 0, .int .i64 0, .int .i64 0, .int .i64 d, .int .i64 0, .int .i64 0, .int .i64 0, .int .i64 0, .int .i64 2, .int .i64 0, .int .i64 0, .int .i64 0, .int .i64 1, .int .i64 0, .int .i64 0, .int .i64 0, .int .i64 0, .int .i64 8, .int .i64 0, .int .i64 1, .int .i64 0, .int .i64 0, .int .i64 0, .int .i64 0, .int .i64 0, .int .i64 0, .int .i64 9, .int .i64 2, .int .i64 0, .int .i64 0, .int .i64 0, .int .i64 0, .int .i64 0, .int .i64 0, .int .i64 0] 37) = V := ⟨_, rfl⟩
  rw [hV8]
  have hs8 : V8.heap.size = w2.heap.size + 1 + 1 + 1 + 1 + 1 + 1 + 1 + 1 + 1 := by rw [← hV8]; simp [hs7]
  have hb8 : Below V7.heap.size V7 V8 := by rw [← hV8]; exact below_alc _ _
  obtain ⟨V9, hV9⟩ : ∃ V, V8.alloc (.cells #[.int .i64 2, .int .i64 0, .int .i64 0, .int .i64 0, .int .i64 1, .int .i64 0, .int .i64 0, .int .i64 0, .int .i64 0, .int .i64 1, .int .i64 0, .int .i64 0, .int .i64 0, .int .i64 d, .int .i64 0, .int .i64 0, .int .i64 0, .int .i64 0, .int .i64 1, .int .i64 0, .int .i64 0, .int .i64 0, .int .i64 d, .int .i64 0, .int .i64 0, .int .i64 0, .int .i64 0, .int .i64 7, .int .i64 0, .int .i64 1, .int .i64 2, .int .i64 0, .int .i64 0, .int .i64 0, .int .i64 0, .int .i64 0, .int .i64 9, .int .i64 3, .int .i64 0, .int .i64 0, .int .i64 0, .int .i64 0, .int .i64 0, .int .i64 0, .int .i64 0] 37) = V := ⟨_, rfl⟩
  rw [hV9]
  have hs9 : V9.heap.size = w2.heap.size + 1 + 1 + 1 + 1 + 1 + 1 + 1 + 1 + 1 + 1 := by rw [← hV9]; simp [hs8]
  have hb9 : Below V8.heap.size V8 V9 := by rw [← hV9]; exact below_alc _ _
  obtain ⟨V10, hV10⟩ : ∃ V, V9.alloc (.cells #[.int .i64 1, .int .i64 0, .int .i64 0, .int .i64 0, .int .i64 d, .int .i64 0, .int .i64 0, .int .i64 0, .int .i64 0, .int .i64 1, .int .i64 0, .int .i64 0, .int .i64 0, .int .i64 d, .int .i64 0, .int .i64 0, .int .i64 0, .int .i64 0, .int .i64 8, .int .i64 0, .int .i64 1, .int .i64 0, .int .i64 1, .int .i64 0, .int .i64 0, .int .i64 0, .int .i64 0, .int .i64 9, .int .i64 2, .int .i64 0, .int .i64 0, .int .i64 0, .int .i64 0, .int .i64 0, .int .i64 0, .int .i64 0] 37) = V := ⟨_, rfl⟩
  rw [hV10]
  have hs10 : V10.heap.size = w2.heap.size + 1 + 1 + 1 + 1 + 1 + 1 + 1 + 1 + 1 + 1 + 1 := by rw [← hV10]; simp [hs9]
  have hb10 : Below V9.heap.size V9 V10 := by rw [← hV10]; exact below_alc _ _
  obtain ⟨V11, hV11⟩ : ∃ V, V10.alloc (.cells #[.int .i64 1, .int .i64 0, .int .i64 0, .int .i64 0, .int .i64 d, .int .i64 0, .int .i64 0, .int .i64 0, .int .i64 0, .int .i64 1, .int .i64 0, .int .i64 0, .int .i64 0, .int .i64 d, .int .i64 0, .int .i64 0, .int .i64 0, .int .i64 0, .int .i64 5, .int .i64 0, .int .i64 1, .int .i64 0, .int .i64 0, .int .i64 0, .int .i64 0, .int .i64 0, .int .i64 0] 37) = V := ⟨_, rfl⟩
  rw [hV11]
  have hs11 : V11.heap.size = w2.heap.size + 1 + 1 + 1 + 1 + 1 + 1 + 1 + 1 + 1 + 1 + 1 + 1 := by rw [← hV11]; simp [hs10]
  have hb11 : Below V10.heap.size V10 V11 := by rw [← hV11]; exact below_alc _ _
  obtain ⟨V12, hV12⟩ : ∃ V, V11.alloc (.cells #[.int .i64 1, .int .i64 0, .int .i64 0, .int .i64 0, .int .i64 d, .int .i64 0, .int .i64 0, .int .i64 0, .int .i64 0, .int .i64 0, .int .i64 0, .int .i64 0, .int .i64 0, .int .i64 4, .int .i64 0, .int .i64 0, .int .i64 0, .int .i64 0, .int .i64 11, .int .i64 0, .int .i64 1, .int .i64 0, .int .i64 0, .int .i64 4, .int .i64 0, .int .i64 0, .int .i64 0] 37) = V := ⟨_, rfl⟩
  rw [hV12]
  have hs12 : V12.heap.size = w2.heap.size + 1 + 1 + 1 + 1 + 1 + 1 + 1 + 1 + 1 + 1 + 1 + 1 + 1 := by rw [← hV12]; simp [hs11]
  have hb12 : Below V11.heap.size V11 V12 := by rw [← hV12]; exact below_alc _ _
  obtain ⟨V13, hV13⟩ : ∃ V, V12.alloc (.cells #[.slice (some ⟨w2.heap.size + 1, 0, none⟩) 2 2, .slice (some ⟨w2.heap.size + 1 + 1, 0, none⟩) 1 1, .slice (some ⟨w2.heap.size + 1 + 1 + 1, 0, none⟩) 2 2, .slice (some ⟨w2.heap.size + 1 + 1 + 1 + 1, 0, none⟩) 2 2, .slice (some ⟨w2.heap.size + 1 + 1 + 1 + 1 + 1, 0, none⟩) 3 3, .slice (some ⟨w2.heap.size + 1 + 1 + 1 + 1 + 1 + 1, 0, none⟩) 5 5, .slice (some ⟨w2.heap.size + 1 + 1 + 1 + 1 + 1 + 1 + 1, 0, none⟩) 5 5, .slice (some ⟨w2.heap.size + 1 + 1 + 1 + 1 + 1 + 1 + 1 + 1, 0, none⟩) 4 4, .slice (some ⟨w2.heap.size + 1 + 1 + 1 + 1 + 1 + 1 + 1 + 1 + 1, 0, none⟩) 5 5, .slice (some ⟨w2.heap.size + 1 + 1 + 1 + 1 + 1 + 1 + 1 + 1 + 1 + 1, 0, none⟩) 4 4, .slice (some ⟨w2.heap.size + 1 + 1 + 1 + 1 + 1 + 1 + 1 + 1 + 1 + 1 + 1, 0, none⟩) 3 3, .slice (some ⟨w2.heap.size + 1 + 1 + 1 + 1 + 1 + 1 + 1 + 1 + 1 + 1 + 1 + 1, 0, none⟩) 3 3] 22) = V := ⟨_, rfl⟩
  rw [hV13]
  have hs13 : V13.heap.size = w2.heap.size + 1 + 1 + 1 + 1 + 1 + 1 + 1 + 1 + 1 + 1 + 1 + 1 + 1 + 1 := by rw [← hV13]; simp [hs12]
  have hb13 : Below V12.heap.size V12 V13 := by rw [← hV13]; exact below_alc _ _
  obtain ⟨V14, hV14⟩ : ∃ V, V13.alloc (.cells #[.int .i64 0, .int .i64 d, .int .i64 5, .int .i64 0, .int .i64 1, .int .i64 1, .int .i64 5, .int .i64 0, .int .i64 2, .int .i64 0, .int .i64 5, .int .i64 0, .int .i64 5, .int .i64 0, .int .i64 5, .int .i64 0, .int .i64 0, .int .i64 d, .int .i64 0, .int .i64 0, .int .i64 5, .int .i64 0, .int .i64 5, .int .i64 0] 25) = V := ⟨_, rfl⟩
  rw [hV14]
  have hs14 : V14.heap.size = w2.heap.size + 1 + 1 + 1 + 1 + 1 + 1 + 1 + 1 + 1 + 1 + 1 + 1 + 1 + 1 + 1 := by rw [← hV14]; simp [hs13]
  have hb14 : Below V13.heap.size V13 V14 := by rw [← hV14]; exact below_alc _ _
  have c14 : Below V14.heap.size V14 V14 := Below.refl _ _
  have c13 : Below V13.heap.size V13 V14 := belT hb14 c14
  have c12 : Below V12.heap.size V12 V14 := belT hb13 c13
  have c11 : Below V11.heap.size V11 V14 := belT hb12 c12
  have c10 : Below V10.heap.size V10 V14 := belT hb11 c11
  have c9 : Below V9.heap.size V9 V14 := belT hb10 c10
  have c8 : Below V8.heap.size V8 V14 := belT hb9 c9
  have c7 : Below V7.heap.size V7 V14 := belT hb8 c8
  have c6 : Below V6.heap.size V6 V14 := belT hb7 c7
  have c5 : Below V5.heap.size V5 V14 := belT hb6 c6
  have c4 : Below V4.heap.size V4 V14 := belT hb5 c5
  have c3 : Below V3.heap.size V3 V14 := belT hb4 c4
  have c2 : Below V2.heap.size V2 V14 := belT hb3 c3
  have c1 : Below V1.heap.size V1 V14 := belT hb2 c2
  have c0 : Below V0.heap.size V0 V14 := belT hb1 c1
  have hS0 := Lib.hid (show TgSl V14 (w2.heap.size + 1) 0 [⟨1, 0, 0, 0, d, 0, 0, 0, 0⟩, ⟨9, 0, 0, 0, 0, 0, 0, 0, 0⟩] from TgSl.below (by rw [← hV1]; exact lit_sl _ _ _ _ hs0.symm rfl) c1 (by rw [hs1]; omega))
  have q0 : V14.cell? ⟨w2.heap.size + 1 + 1 + 1 + 1 + 1 + 1 + 1 + 1 + 1 + 1 + 1 + 1 + 1, 0, none⟩ = some (.slice (some ⟨w2.heap.size + 1, 0, none⟩) 2 2) := carry c13 (by rw [hs13]; omega) (by rw [← hV13]; exact at_lit hs12.symm rfl)
  have x0 : V14.cell? ⟨w2.heap.size + 1 + 1 + 1 + 1 + 1 + 1 + 1 + 1 + 1 + 1 + 1 + 1 + 1 + 1, 0, none⟩ = some (.int .i64 0) := by rw [← hV14]; exact at_lit hs13.symm rfl
  have y0 : V14.cell? ⟨w2.heap.size + 1 + 1 + 1 + 1 + 1 + 1 + 1 + 1 + 1 + 1 + 1 + 1 + 1 + 1, 1, none⟩ = some (.int .i64 d) := by rw [← hV14]; exact at_lit hs13.symm rfl
  have hS1 := Lib.hid (show TgSl V14 (w2.heap.size + 1 + 1) 0 [⟨1, 0, 0, 0, d, 0, 0, 0, 0⟩] from TgSl.below (by rw [← hV2]; exact lit_sl _ _ _ _ hs1.symm rfl) c2 (by rw [hs2]; omega))
  have q1 : V14.cell? ⟨w2.heap.size + 1 + 1 + 1 + 1 + 1 + 1 + 1 + 1 + 1 + 1 + 1 + 1 + 1, 1, none⟩ = some (.slice (some ⟨w2.heap.size + 1 + 1, 0, none⟩) 1 1) := carry c13 (by rw [hs13]; omega) (by rw [← hV13]; exact at_lit hs12.symm rfl)
  have x1 : V14.cell? ⟨w2.heap.size + 1 + 1 + 1 + 1 + 1 + 1 + 1 + 1 + 1 + 1 + 1 + 1 + 1 + 1, 2, none⟩ = some (.int .i64 5) := by rw [← hV14]; exact at_lit hs13.symm rfl
  have y1 : V14.cell? ⟨w2.heap.size + 1 + 1 + 1 + 1 + 1 + 1 + 1 + 1 + 1 + 1 + 1 + 1 + 1 + 1, 3, none⟩ = some (.int .i64 0) := by rw [← hV14]; exact at_lit hs13.symm rfl
  have hS2 := Lib.hid (show TgSl V14 (w2.heap.size + 1 + 1 + 1) 0 [⟨2, 0, 0, 0, 1, 0, 0, 0, 0⟩, ⟨9, 0, 0, 0, 0, 0, 0, 0, 0⟩] from TgSl.below (by rw [← hV3]; exact lit_sl _ _ _ _ hs2.symm rfl) c3 (by rw [hs3]; omega))
  have q2 : V14.cell? ⟨w2.heap.size + 1 + 1 + 1 + 1 + 1 + 1 + 1 + 1 + 1 + 1 + 1 + 1 + 1, 2, none⟩ = some (.slice (some ⟨w2.heap.size + 1 + 1 + 1, 0, none⟩) 2 2) := carry c13 (by rw [hs13]; omega) (by rw [← hV13]; exact at_lit hs12.symm rfl)
  have x2 : V14.cell? ⟨w2.heap.size + 1 + 1 + 1 + 1 + 1 + 1 + 1 + 1 + 1 + 1 + 1 + 1 + 1 + 1, 4, none⟩ = some (.int .i64 1) := by rw [← hV14]; exact at_lit hs13.symm rfl
  have y2 : V14.cell? ⟨w2.heap.size + 1 + 1 + 1 + 1 + 1 + 1 + 1 + 1 + 1 + 1 + 1 + 1 + 1 + 1, 5, none⟩ = some (.int .i64 1) := by rw [← hV14]; exact at_lit hs13.symm rfl
  have hS3 := Lib.hid (show TgSl V14 (w2.heap.size + 1 + 1 + 1 + 1) 0 [⟨0, 0, 0, 0, 0, 0, 0, 0, 0⟩, ⟨9, 0, 0, 0, 0, 0, 0, 0, 0⟩] from TgSl.below (by rw [← hV4]; exact lit_sl _ _ _ _ hs3.symm rfl) c4 (by rw [hs4]; omega))
  have q3 : V14.cell? ⟨w2.heap.size + 1 + 1 + 1 + 1 + 1 + 1 + 1 + 1 + 1 + 1 + 1 + 1 + 1, 3, none⟩ = some (.slice (some ⟨w2.heap.size + 1 + 1 + 1 + 1, 0, none⟩) 2 2) := carry c13 (by rw [hs13]; omega) (by rw [← hV13]; exact at_lit hs12.symm rfl)
  have x3 : V14.cell? ⟨w2.heap.size + 1 + 1 + 1 + 1 + 1 + 1 + 1 + 1 + 1 + 1 + 1 + 1 + 1 + 1, 6, none⟩ = some (.int .i64 5) := by rw [← hV14]; exact at_lit hs13.symm rfl
  have y3 : V14.cell? ⟨w2.heap.size + 1 + 1 + 1 + 1 + 1 + 1 + 1 + 1 + 1 + 1 + 1 + 1 + 1 + 1, 7, none⟩ = some (.int .i64 0) := by rw [← hV14]; exact at_lit hs13.symm rfl
  have hS4 := Lib.hid (show TgSl V14 (w2.heap.size + 1 + 1 + 1 + 1 + 1) 0 [⟨0, 0, 0, 0, 0, 0, 0, 0, 0⟩, ⟨3, 0, 0, 0, 0, 0, 0, 0, 0⟩, ⟨9, 1, 0, 0, 0, 0, 0, 0, 0⟩] from TgSl.below (by rw [← hV5]; exact lit_sl _ _ _ _ hs4.symm rfl) c5 (by rw [hs5]; omega))
  have q4 : V14.cell? ⟨w2.heap.size + 1 + 1 + 1 + 1 + 1 + 1 + 1 + 1 + 1 + 1 + 1 + 1 + 1, 4, none⟩ = some (.slice (some ⟨w2.heap.size + 1 + 1 + 1 + 1 + 1, 0, none⟩) 3 3) := carry c13 (by rw [hs13]; omega) (by rw [← hV13]; exact at_lit hs12.symm rfl)
  have x4 : V14.cell? ⟨w2.heap.size + 1 + 1 + 1 + 1 + 1 + 1 + 1 + 1 + 1 + 1 + 1 + 1 + 1 + 1, 8, none⟩ = some (.int .i64 2) := by rw [← hV14]; exact at_lit hs13.symm rfl
  have y4 : V14.cell? ⟨w2.heap.size + 1 + 1 + 1 + 1 + 1 + 1 + 1 + 1 + 1 + 1 + 1 + 1 + 1 + 1, 9, none⟩ = some (.int .i64 0) := by rw [← hV14]; exact at_lit hs13.symm rfl
  have hS5 := Lib.hid (show TgSl V14 (w2.heap.size + 1 + 1 + 1 + 1 + 1 + 1) 0 [⟨1, 0, 0, 0, d, 0, 0, 0, 0⟩, ⟨0, 0, 0, 0, 1, 0, 0, 0, 0⟩, ⟨9, 1, 0, 0, 0, 0, 0, 0, 0⟩, ⟨3, 2, 0, 0, 0, 1, 0, 0, 0⟩, ⟨10, 0, 3, 0, 0, 0, 0, 0, 0⟩] from TgSl.below (by rw [← hV6]; exact lit_sl _ _ _ _ hs5.symm rfl) c6 (by rw [hs6]; omega))
  have q5 : V14.cell? ⟨w2.heap.size + 1 + 1 + 1 + 1 + 1 + 1 + 1 + 1 + 1 + 1 + 1 + 1 + 1, 5, none⟩ = some (.slice (some ⟨w2.heap.size + 1 + 1 + 1 + 1 + 1 + 1, 0, none⟩) 5 5) := carry c13 (by rw [hs13]; omega) (by rw [← hV13]; exact at_lit hs12.symm rfl)
  have x5 : V14.cell? ⟨w2.heap.size + 1 + 1 + 1 + 1 + 1 + 1 + 1 + 1 + 1 + 1 + 1 + 1 + 1 + 1, 10, none⟩ = some (.int .i64 5) := by rw [← hV14]; exact at_lit hs13.symm rfl
  have y5 : V14.cell? ⟨w2.heap.size + 1 + 1 + 1 + 1 + 1 + 1 + 1 + 1 + 1 + 1 + 1 + 1 + 1 + 1, 11, none⟩ = some (.int .i64 0) := by rw [← hV14]; exact at_lit hs13.symm rfl
  have hS6 := Lib.hid (show TgSl V14 (w2.heap.size + 1 + 1 + 1 + 1 + 1 + 1 + 1) 0 [⟨1, 0, 0, 0, d, 0, 0, 0, 0⟩, ⟨9, 0, 0, 0, 0, 0, 0, 0, 0⟩, ⟨0, 0, 0, 0, 7, 0, 0, 0, 0⟩, ⟨9, 2, 0, 0, 0, 0, 0, 0, 0⟩, ⟨6, 1, 3, 0, 0, 7, 0, 0, 0⟩] from TgSl.below (by rw [← hV7]; exact lit_sl _ _ _ _ hs6.symm rfl) c7 (by rw [hs7]; omega))
  have q6 : V14.cell? ⟨w2.heap.size + 1 + 1 + 1 + 1 + 1 + 1 + 1 + 1 + 1 + 1 + 1 + 1 + 1, 6, none⟩ = some (.slice (some ⟨w2.heap.size + 1 + 1 + 1 + 1 + 1 + 1 + 1, 0, none⟩) 5 5) := carry c13 (by rw [hs13]; omega) (by rw [← hV13]; exact at_lit hs12.symm rfl)
  have x6 : V14.cell? ⟨w2.heap.size + 1 + 1 + 1 + 1 + 1 + 1 + 1 + 1 + 1 + 1 + 1 + 1 + 1 + 1, 12, none⟩ = some (.int .i64 5) := by rw [← hV14]; exact at_lit hs13.symm rfl
  have y6 : V14.cell? ⟨w2.heap.size + 1 + 1 + 1 + 1 + 1 + 1 + 1 + 1 + 1 + 1 + 1 + 1 + 1 + 1, 13, none⟩ = some (.int .i64 0) := by rw [← hV14]; exact at_lit hs13.symm rfl
  have hS7 := Lib.hid (show TgSl V14 (w2.heap.size + 1 + 1 + 1 + 1 + 1 + 1 + 1 + 1) 0 [⟨1, 0, 0, 0, d, 0, 0, 0, 0⟩, ⟨2, 0, 0, 0, 1, 0, 0, 0, 0⟩, ⟨8, 0, 1, 0, 0, 0, 0, 0, 0⟩, ⟨9, 2, 0, 0, 0, 0, 0, 0, 0⟩] from TgSl.below (by rw [← hV8]; exact lit_sl _ _ _ _ hs7.symm rfl) c8 (by rw [hs8]; omega))
  have q7 : V14.cell? ⟨w2.heap.size + 1 + 1 + 1 + 1 + 1 + 1 + 1 + 1 + 1 + 1 + 1 + 1 + 1, 7, none⟩ = some (.slice (some ⟨w2.heap.size + 1 + 1 + 1 + 1 + 1 + 1 + 1 + 1, 0, none⟩) 4 4) := carry c13 (by rw [hs13]; omega) (by rw [← hV13]; exact at_lit hs12.symm rfl)
  have x7 : V14.cell? ⟨w2.heap.size + 1 + 1 + 1 + 1 + 1 + 1 + 1 + 1 + 1 + 1 + 1 + 1 + 1 + 1, 14, none⟩ = some (.int .i64 5) := by rw [← hV14]; exact at_lit hs13.symm rfl
  have y7 : V14.cell? ⟨w2.heap.size + 1 + 1 + 1 + 1 + 1 + 1 + 1 + 1 + 1 + 1 + 1 + 1 + 1 + 1, 15, none⟩ = some (.int .i64 0) := by rw [← hV14]; exact at_lit hs13.symm rfl
  have hS8 := Lib.hid (show TgSl V14 (w2.heap.size + 1 + 1 + 1 + 1 + 1 + 1 + 1 + 1 + 1) 0 [⟨2, 0, 0, 0, 1, 0, 0, 0, 0⟩, ⟨1, 0, 0, 0, d, 0, 0, 0, 0⟩, ⟨1, 0, 0, 0, d, 0, 0, 0, 0⟩, ⟨7, 0, 1, 2, 0, 0, 0, 0, 0⟩, ⟨9, 3, 0, 0, 0, 0, 0, 0, 0⟩] from TgSl.below (by rw [← hV9]; exact lit_sl _ _ _ _ hs8.symm rfl) c9 (by rw [hs9]; omega))
  have q8 : V14.cell? ⟨w2.heap.size + 1 + 1 + 1 + 1 + 1 + 1 + 1 + 1 + 1 + 1 + 1 + 1 + 1, 8, none⟩ = some (.slice (some ⟨w2.heap.size + 1 + 1 + 1 + 1 + 1 + 1 + 1 + 1 + 1, 0, none⟩) 5 5) := carry c13 (by rw [hs13]; omega) (by rw [← hV13]; exact at_lit hs12.symm rfl)
  have x8 : V14.cell? ⟨w2.heap.size + 1 + 1 + 1 + 1 + 1 + 1 + 1 + 1 + 1 + 1 + 1 + 1 + 1 + 1, 16, none⟩ = some (.int .i64 0) := by rw [← hV14]; exact at_lit hs13.symm rfl
  have y8 : V14.cell? ⟨w2.heap.size + 1 + 1 + 1 + 1 + 1 + 1 + 1 + 1 + 1 + 1 + 1 + 1 + 1 + 1, 17, none⟩ = some (.int .i64 d) := by rw [← hV14]; exact at_lit hs13.symm rfl
  have hS9 := Lib.hid (show TgSl V14 (w2.heap.size + 1 + 1 + 1 + 1 + 1 + 1 + 1 + 1 + 1 + 1) 0 [⟨1, 0, 0, 0, d, 0, 0, 0, 0⟩, ⟨1, 0, 0, 0, d, 0, 0, 0, 0⟩, ⟨8, 0, 1, 0, 1, 0, 0, 0, 0⟩, ⟨9, 2, 0, 0, 0, 0, 0, 0, 0⟩] from TgSl.below (by rw [← hV10]; exact lit_sl _ _ _ _ hs9.symm rfl) c10 (by rw [hs10]; omega))
  have q9 : V14.cell? ⟨w2.heap.size + 1 + 1 + 1 + 1 + 1 + 1 + 1 + 1 + 1 + 1 + 1 + 1 + 1, 9, none⟩ = some (.slice (some ⟨w2.heap.size + 1 + 1 + 1 + 1 + 1 + 1 + 1 + 1 + 1 + 1, 0, none⟩) 4 4) := carry c13 (by rw [hs13]; omega) (by rw [← hV13]; exact at_lit hs12.symm rfl)
  have x9 : V14.cell? ⟨w2.heap.size + 1 + 1 + 1 + 1 + 1 + 1 + 1 + 1 + 1 + 1 + 1 + 1 + 1 + 1, 18, none⟩ = some (.int .i64 0) := by rw [← hV14]; exact at_lit hs13.symm rfl
  have y9 : V14.cell? ⟨w2.heap.size + 1 + 1 + 1 + 1 + 1 + 1 + 1 + 1 + 1 + 1 + 1 + 1 + 1 + 1, 19, none⟩ = some (.int .i64 0) := by rw [← hV14]; exact at_lit hs13.symm rfl
  have hS10 := Lib.hid (show TgSl V14 (w2.heap.size + 1 + 1 + 1 + 1 + 1 + 1 + 1 + 1 + 1 + 1 + 1) 0 [⟨1, 0, 0, 0, d, 0, 0, 0, 0⟩, ⟨1, 0, 0, 0, d, 0, 0, 0, 0⟩, ⟨5, 0, 1, 0, 0, 0, 0, 0, 0⟩] from TgSl.below (by rw [← hV11]; exact lit_sl _ _ _ _ hs10.symm rfl) c11 (by rw [hs11]; omega))
  have q10 : V14.cell? ⟨w2.heap.size + 1 + 1 + 1 + 1 + 1 + 1 + 1 + 1 + 1 + 1 + 1 + 1 + 1, 10, none⟩ = some (.slice (some ⟨w2.heap.size + 1 + 1 + 1 + 1 + 1 + 1 + 1 + 1 + 1 + 1 + 1, 0, none⟩) 3 3) := carry c13 (by rw [hs13]; omega) (by rw [← hV13]; exact at_lit hs12.symm rfl)
  have x10 : V14.cell? ⟨w2.heap.size + 1 + 1 + 1 + 1 + 1 + 1 + 1 + 1 + 1 + 1 + 1 + 1 + 1 + 1, 20, none⟩ = some (.int .i64 5) := by rw [← hV14]; exact at_lit hs13.symm rfl
  have y10 : V14.cell? ⟨w2.heap.size + 1 + 1 + 1 + 1 + 1 + 1 + 1 + 1 + 1 + 1 + 1 + 1 + 1 + 1, 21, none⟩ = some (.int .i64 0) := by rw [← hV14]; exact at_lit hs13.symm rfl
  have hS11 := Lib.hid (show TgSl V14 (w2.heap.size + 1 + 1 + 1 + 1 + 1 + 1 + 1 + 1 + 1 + 1 + 1 + 1) 0 [⟨1, 0, 0, 0, d, 0, 0, 0, 0⟩, ⟨0, 0, 0, 0, 4, 0, 0, 0, 0⟩, ⟨11, 0, 1, 0, 0, 4, 0, 0, 0⟩] from TgSl.below (by rw [← hV12]; exact lit_sl _ _ _ _ hs11.symm rfl) c12 (by rw [hs12]; omega))
  have q11 : V14.cell? ⟨w2.heap.size + 1 + 1 + 1 + 1 + 1 + 1 + 1 + 1 + 1 + 1 + 1 + 1 + 1, 11, none⟩ = some (.slice (some ⟨w2.heap.size + 1 + 1 + 1 + 1 + 1 + 1 + 1 + 1 + 1 + 1 + 1 + 1, 0, none⟩) 3 3) := carry c13 (by rw [hs13]; omega) (by rw [← hV13]; exact at_lit hs12.symm rfl)
  have x11 : V14.cell? ⟨w2.heap.size + 1 + 1 + 1 + 1 + 1 + 1 + 1 + 1 + 1 + 1 + 1 + 1 + 1 + 1, 22, none⟩ = some (.int .i64 5) := by rw [← hV14]; exact at_lit hs13.symm rfl
  have y11 : V14.cell? ⟨w2.heap.size + 1 + 1 + 1 + 1 + 1 + 1 + 1 + 1 + 1 + 1 + 1 + 1 + 1 + 1, 23, none⟩ = some (.int .i64 0) := by rw [← hV14]; exact at_lit hs13.symm rfl
  have hWL := Lib.hid (belT hW2.out (belT hb0 c0))
  have hz := hs14
  clear hV0 hb0 c0 hV1 hb1 c1 hV2 hb2 c2 hV3 hb3 c3 hV4 hb4 c4 hV5 hb5 c5 hV6 hb6 c6 hV7 hb7 c7 hV8 hb8 c8 hV9 hb9 c9 hV10 hb10 c10 hV11 hb11 c11 hV12 hb12 c12 hV13 hb13 c13 hV14 hb14 c14 hs0 hs1 hs2 hs3 hs4 hs5 hs6 hs7 hs8 hs9 hs10 hs11 hs12 hs13 hs14 hW2
  have hz := Lib.hid hz
  have hy13 : w2.heap.size + 1 + 1 + 1 + 1 + 1 + 1 + 1 + 1 + 1 + 1 + 1 + 1 + 1 < V14.heap.size := by rw [hz.out]; omega
  have hy14 : w2.heap.size + 1 + 1 + 1 + 1 + 1 + 1 + 1 + 1 + 1 + 1 + 1 + 1 + 1 + 1 < V14.heap.size := by rw [hz.out]; omega
  have hcs : m = 0 ∨ m = 1 ∨ m = 2 ∨ m = 3 ∨ m = 4 ∨ m = 5 ∨ m = 6 ∨ m = 7 ∨ m = 8 ∨ m = 9 ∨ m = 10 ∨ m = 11 := (by omega); rcases hcs with rfl | rfl | rfl | rfl | rfl | rfl | rfl | rfl | rfl | rfl | rfl | rfl
  · go_wp2_with fail
    refine (run_lit V14 (w2.heap.size + 1) 2 2 [⟨1, 0, 0, 0, d, 0, 0, 0, 0⟩, ⟨9, 0, 0, 0, 0, 0, 0, 0, 0⟩] 99 0 d 3 0 (by rw [hz.out]; omega) rfl hS0.out (by omega) (v0 hd) (by omega)).mono ?_
    rintro e w3 ⟨rfl, hb3⟩
    have x0 : w3.cell? _ = _ := carry hb3 hy14 x0
    have y0 : w3.cell? _ = _ := carry hb3 hy14 y0
    have hy : w2.heap.size + 1 + 1 + 1 + 1 + 1 + 1 + 1 + 1 + 1 + 1 + 1 + 1 + 1 + 1 < w3.heap.size := Nat.lt_of_lt_of_le hy14 hb3.size
    have hW3 := Lib.hid (belT hWL.out hb3)
    clear q0 hS0 q1 hS1 q2 hS2 q3 hS3 q4 hS4 q5 hS5 q6 hS6 q7 hS7 q8 hS8 q9 hS9 q10 hS10 q11 hS11 x1 y1 x2 y2 x3 y3 x4 y4 x5 y5 x6 y6 x7 y7 x8 y8 x9 y9 x10 y10 x11 y11 hb3 hy13 hy14 hz
    go_wp2_with fail
    obtain ⟨W4, hW4⟩ : ∃ W, w3.alloc (.cells #[.int .i64 0, .int .i64 d] 25) = W := ⟨_, rfl⟩
    rw [hW4]
    have hb4 : Below w3.heap.size w3 W4 := by rw [← hW4]; exact below_alc _ _
    have c0 : W4.cell? ⟨w3.heap.size, 0, none⟩ = some (.int .i64 0) := by rw [← hW4]; simp [go_sem]
    have c1 : W4.cell? ⟨w3.heap.size, 1, none⟩ = some (.int .i64 d) := by rw [← hW4]; simp [go_sem]
    have hl4 : w3.heap.size < W4.heap.size := by rw [← hW4]; simp
    have x0 : W4.cell? _ = _ := carry hb4 hy x0
    have y0 : W4.cell? _ = _ := carry hb4 hy y0
    have hy4 : w2.heap.size + 1 + 1 + 1 + 1 + 1 + 1 + 1 + 1 + 1 + 1 + 1 + 1 + 1 + 1 < W4.heap.size := Nat.lt_of_lt_of_le hy hb4.size
    have hW5 := Lib.hid (belT hW3.out hb4)
    clear hW4 hb4 hy hW3
    refine wp_region_held_drew (S := fun W => Below W4.heap.size W4 W) (by kernel_rfl) ((Below.refl _ _).drew) (fun hHeld => ?_)
    refine rg_take 0 (some 103) (v := ?v1) rfl rfl (by kernel_rfl) (by kernel_rfl) (by kernel_rfl) (fun _ _ _ h => h) (by rfl) ?hy1 (by assumption) ?_
    case hy1 => intro W hSW; (try dsimp only at hSW); have z0 := carry hSW hl4 c0; have z1 := carry hSW hl4 c1; have z2 := carry hSW hy4 x0; have z3 := carry hSW hy4 y0; have q0 := Nat.lt_of_lt_of_le hl4 hSW.size; have q1 := Nat.lt_of_lt_of_le hy4 hSW.size; go_simp; (try with_reducible rfl)
    try simp only [Act.put, List.setIfInBounds_toArray, List.set_cons_zero, List.set_cons_succ]
    refine rg_one 1 rfl (by kernel_rfl) (by rfl) (fun K hK => ?_)
    go_simp
    refine (num_any _ _ (by omega) (by omega)).mono ?_
    rintro e8 w8 ⟨rfl, rfl⟩
    refine hK.out _ _ ((Below.refl _ _).drew) (fun hH1 => ?_)
    clear hK K
    try simp only [Act.put, List.setIfInBounds_toArray, List.set_cons_zero, List.set_cons_succ]
    refine rg_take 2 (some 105) (v := ?v2) rfl rfl (by kernel_rfl) (by kernel_rfl) (by kernel_rfl) (fun _ _ _ h => h) (by rfl) ?hy2 (by assumption) ?_
    case hy2 => intro W hSW; (try dsimp only at hSW); have z0 := carry hSW hl4 c0; have z1 := carry hSW hl4 c1; have z2 := carry hSW hy4 x0; have z3 := carry hSW hy4 y0; have q0 := Nat.lt_of_lt_of_le hl4 hSW.size; have q1 := Nat.lt_of_lt_of_le hy4 hSW.size; go_simp; (try with_reducible rfl)
    try simp only [Act.put, List.setIfInBounds_toArray, List.set_cons_zero, List.set_cons_succ]
    refine rg_take 3 (some 106) (v := ?v3) rfl rfl (by kernel_rfl) (by kernel_rfl) (by kernel_rfl) (fun _ _ _ h => h) (by rfl) ?hy3 (by assumption) ?_
    case hy3 => intro W hSW; (try dsimp only at hSW); have z0 := carry hSW hl4 c0; have z1 := carry hSW hl4 c1; have z2 := carry hSW hy4 x0; have z3 := carry hSW hy4 y0; have q0 := Nat.lt_of_lt_of_le hl4 hSW.size; have q1 := Nat.lt_of_lt_of_le hy4 hSW.size; go_simp; (try with_reducible rfl)
    try simp only [Act.put, List.setIfInBounds_toArray, List.set_cons_zero, List.set_cons_succ]
    refine rg_take 4 (some 107) (v := ?v4) rfl rfl (by kernel_rfl) (by kernel_rfl) (by kernel_rfl) (fun _ _ _ h => h) (by rfl) ?hy4 (by assumption) ?_
    case hy4 => intro W hSW; (try dsimp only at hSW); have z0 := carry hSW hl4 c0; have z1 := carry hSW hl4 c1; have z2 := carry hSW hy4 x0; have z3 := carry hSW hy4 y0; have q0 := Nat.lt_of_lt_of_le hl4 hSW.size; have q1 := Nat.lt_of_lt_of_le hy4 hSW.size; go_simp; (try with_reducible rfl)
    try simp only [Act.put, List.setIfInBounds_toArray, List.set_cons_zero, List.set_cons_succ]
    refine rg_take 5 (some 108) (v := ?v5) rfl rfl (by kernel_rfl) (by kernel_rfl) (by kernel_rfl) (fun _ _ _ h => h) (by rfl) ?hy5 (by assumption) ?_
    case hy5 => intro W hSW; (try dsimp only at hSW); have z0 := carry hSW hl4 c0; have z1 := carry hSW hl4 c1; have z2 := carry hSW hy4 x0; have z3 := carry hSW hy4 y0; have q0 := Nat.lt_of_lt_of_le hl4 hSW.size; have q1 := Nat.lt_of_lt_of_le hy4 hSW.size; go_simp; (try with_reducible rfl)
    try simp only [Act.put, List.setIfInBounds_toArray, List.set_cons_zero, List.set_cons_succ]
    refine rg_take 6 (some 109) (v := ?v6) rfl rfl (by kernel_rfl) (by kernel_rfl) (by kernel_rfl) (fun _ _ _ h => h) (by rfl) ?hy6 (by assumption) ?_
    case hy6 => intro W hSW; (try dsimp only at hSW); have z0 := carry hSW hl4 c0; have z1 := carry hSW hl4 c1; have z2 := carry hSW hy4 x0; have z3 := carry hSW hy4 y0; have q0 := Nat.lt_of_lt_of_le hl4 hSW.size; have q1 := Nat.lt_of_lt_of_le hy4 hSW.size; go_simp; (try with_reducible rfl)
    try simp only [Act.put, List.setIfInBounds_toArray, List.set_cons_zero, List.set_cons_succ]
    refine rg_take 7 (some 110) (v := ?v7) rfl rfl (by kernel_rfl) (by kernel_rfl) (by kernel_rfl) (fun _ _ _ h => h) (by rfl) ?hy7 (by assumption) ?_
    case hy7 => intro W hSW; (try dsimp only at hSW); have z0 := carry hSW hl4 c0; have z1 := carry hSW hl4 c1; have z2 := carry hSW hy4 x0; have z3 := carry hSW hy4 y0; have q0 := Nat.lt_of_lt_of_le hl4 hSW.size; have q1 := Nat.lt_of_lt_of_le hy4 hSW.size; go_simp; (try with_reducible rfl)
    try simp only [Act.put, List.setIfInBounds_toArray, List.set_cons_zero, List.set_cons_succ]
    refine rg_take 8 (some 111) (v := ?v8) rfl rfl (by kernel_rfl) (by kernel_rfl) (by kernel_rfl) (fun _ _ _ h => h) (by rfl) ?hy8 (by assumption) ?_
    case hy8 => intro W hSW; (try dsimp only at hSW); have z0 := carry hSW hl4 c0; have z1 := carry hSW hl4 c1; have z2 := carry hSW hy4 x0; have z3 := carry hSW hy4 y0; have q0 := Nat.lt_of_lt_of_le hl4 hSW.size; have q1 := Nat.lt_of_lt_of_le hy4 hSW.size; go_simp; (try with_reducible rfl)
    try simp only [Act.put, List.setIfInBounds_toArray, List.set_cons_zero, List.set_cons_succ]
    refine rg_take 9 (some 112) (v := ?v9) rfl rfl (by kernel_rfl) (by kernel_rfl) (by kernel_rfl) (fun _ _ _ h => h) (by rfl) ?hy9 (by assumption) ?_
    case hy9 => intro W hSW; (try dsimp only at hSW); have z0 := carry hSW hl4 c0; have z1 := carry hSW hl4 c1; have z2 := carry hSW hy4 x0; have z3 := carry hSW hy4 y0; have q0 := Nat.lt_of_lt_of_le hl4 hSW.size; have q1 := Nat.lt_of_lt_of_le hy4 hSW.size; go_simp; (try with_reducible rfl)
    try simp only [Act.put, List.setIfInBounds_toArray, List.set_cons_zero, List.set_cons_succ]
    refine rg_take 10 (some 113) (v := ?v10) rfl rfl (by kernel_rfl) (by kernel_rfl) (by kernel_rfl) (fun _ _ _ h => h) (by rfl) ?hy10 (by assumption) ?_
    case hy10 => intro W hSW; (try dsimp only at hSW); have z0 := carry hSW hl4 c0; have z1 := carry hSW hl4 c1; have z2 := carry hSW hy4 x0; have z3 := carry hSW hy4 y0; have q0 := Nat.lt_of_lt_of_le hl4 hSW.size; have q1 := Nat.lt_of_lt_of_le hy4 hSW.size; go_simp; (try with_reducible rfl)
    try simp only [Act.put, List.setIfInBounds_toArray, List.set_cons_zero, List.set_cons_succ]
    refine rg_take 11 (some 114) (v := ?v11) rfl rfl (by kernel_rfl) (by kernel_rfl) (by kernel_rfl) (fun _ _ _ h => h) (by rfl) ?hy11 (by assumption) ?_
    case hy11 => intro W hSW; (try dsimp only at hSW); have z0 := carry hSW hl4 c0; have z1 := carry hSW hl4 c1; have z2 := carry hSW hy4 x0; have z3 := carry hSW hy4 y0; have q0 := Nat.lt_of_lt_of_le hl4 hSW.size; have q1 := Nat.lt_of_lt_of_le hy4 hSW.size; go_simp; (try with_reducible rfl)
    try simp only [Act.put, List.setIfInBounds_toArray, List.set_cons_zero, List.set_cons_succ]
    refine rg_take 12 (some 115) (v := ?v12) rfl rfl (by kernel_rfl) (by kernel_rfl) (by kernel_rfl) (fun _ _ _ h => h) (by rfl) ?hy12 (by assumption) ?_
    case hy12 => intro W hSW; (try dsimp only at hSW); have z0 := carry hSW hl4 c0; have z1 := carry hSW hl4 c1; have z2 := carry hSW hy4 x0; have z3 := carry hSW hy4 y0; have q0 := Nat.lt_of_lt_of_le hl4 hSW.size; have q1 := Nat.lt_of_lt_of_le hy4 hSW.size; go_simp; (try with_reducible rfl)
    try simp only [Act.put, List.setIfInBounds_toArray, List.set_cons_zero, List.set_cons_succ]
    refine rg_take 13 (some 116) (v := ?v13) rfl rfl (by kernel_rfl) (by kernel_rfl) (by kernel_rfl) (fun _ _ _ h => h) (by rfl) ?hy13 (by assumption) ?_
    case hy13 => intro W hSW; (try dsimp only at hSW); have z0 := carry hSW hl4 c0; have z1 := carry hSW hl4 c1; have z2 := carry hSW hy4 x0; have z3 := carry hSW hy4 y0; have q0 := Nat.lt_of_lt_of_le hl4 hSW.size; have q1 := Nat.lt_of_lt_of_le hy4 hSW.size; go_simp; (try with_reducible rfl)
    try simp only [Act.put, List.setIfInBounds_toArray, List.set_cons_zero, List.set_cons_succ]
    refine rg_take 14 (some 117) (v := ?v14) rfl rfl (by kernel_rfl) (by kernel_rfl) (by kernel_rfl) (fun _ _ _ h => h) (by rfl) ?hy14 (by assumption) ?_
    case hy14 => intro W hSW; (try dsimp only at hSW); have z0 := carry hSW hl4 c0; have z1 := carry hSW hl4 c1; have z2 := carry hSW hy4 x0; have z3 := carry hSW hy4 y0; have q0 := Nat.lt_of_lt_of_le hl4 hSW.size; have q1 := Nat.lt_of_lt_of_le hy4 hSW.size; go_simp; (try with_reducible rfl)
    try simp only [Act.put, List.setIfInBounds_toArray, List.set_cons_zero, List.set_cons_succ]
    refine rg_take 15 (some 4) (v := ?v15) rfl rfl (by kernel_rfl) (by kernel_rfl) (by kernel_rfl) (fun _ _ _ h => h) (by rfl) ?hy15 (by assumption) ?_
    case hy15 => intro W hSW; (try dsimp only at hSW); have z0 := carry hSW hl4 c0; have z1 := carry hSW hl4 c1; have z2 := carry hSW hy4 x0; have z3 := carry hSW hy4 y0; have q0 := Nat.lt_of_lt_of_le hl4 hSW.size; have q1 := Nat.lt_of_lt_of_le hy4 hSW.size; go_simp; (try with_reducible rfl)
    try simp only [Act.put, List.setIfInBounds_toArray, List.set_cons_zero, List.set_cons_succ]
    refine wpAnyH_done (by kernel_rfl) ?_ _
    go_wp2_with fail
    all_goals go_ret
    all_goals exact ⟨rfl, belT hW5.out (by (repeat' (first | with_reducible exact Below.refl _ _ | with_reducible assumption | with_reducible apply Below.setCell | with_reducible apply Below.alloc | with_reducible apply Below.drew | with_reducible apply below_drewN | with_reducible exact Nat.le_refl _ | (simp; done) | (simp; omega) | omega | exact Nat.le_refl _)))⟩
  · go_wp2_with fail
    refine (run_lit V14 (w2.heap.size + 1 + 1) 1 1 [⟨1, 0, 0, 0, d, 0, 0, 0, 0⟩] 99 5 0 1 0 (by rw [hz.out]; omega) rfl hS1.out (by omega) (v1 hd) (by omega)).mono ?_
    rintro e w3 ⟨rfl, hb3⟩
    have x1 : w3.cell? _ = _ := carry hb3 hy14 x1
    have y1 : w3.cell? _ = _ := carry hb3 hy14 y1
    have hy : w2.heap.size + 1 + 1 + 1 + 1 + 1 + 1 + 1 + 1 + 1 + 1 + 1 + 1 + 1 + 1 < w3.heap.size := Nat.lt_of_lt_of_le hy14 hb3.size
    have hW3 := Lib.hid (belT hWL.out hb3)
    clear q0 hS0 q1 hS1 q2 hS2 q3 hS3 q4 hS4 q5 hS5 q6 hS6 q7 hS7 q8 hS8 q9 hS9 q10 hS10 q11 hS11 x0 y0 x2 y2 x3 y3 x4 y4 x5 y5 x6 y6 x7 y7 x8 y8 x9 y9 x10 y10 x11 y11 hb3 hy13 hy14 hz
    go_wp2_with fail
    obtain ⟨W4, hW4⟩ : ∃ W, w3.alloc (.cells #[.int .i64 5, .int .i64 0] 25) = W := ⟨_, rfl⟩
    rw [hW4]
    have hb4 : Below w3.heap.size w3 W4 := by rw [← hW4]; exact below_alc _ _
    have c0 : W4.cell? ⟨w3.heap.size, 0, none⟩ = some (.int .i64 5) := by rw [← hW4]; simp [go_sem]
    have c1 : W4.cell? ⟨w3.heap.size, 1, none⟩ = some (.int .i64 0) := by rw [← hW4]; simp [go_sem]
    have hl4 : w3.heap.size < W4.heap.size := by rw [← hW4]; simp
    have x1 : W4.cell? _ = _ := carry hb4 hy x1
    have y1 : W4.cell? _ = _ := carry hb4 hy y1
    have hy4 : w2.heap.size + 1 + 1 + 1 + 1 + 1 + 1 + 1 + 1 + 1 + 1 + 1 + 1 + 1 + 1 < W4.heap.size := Nat.lt_of_lt_of_le hy hb4.size
    have hW5 := Lib.hid (belT hW3.out hb4)
    clear hW4 hb4 hy hW3
    refine wp_region_held_drew (S := fun W => Below W4.heap.size W4 W) (by kernel_rfl) ((Below.refl _ _).drew) (fun hHeld => ?_)
    refine rg_take 0 (some 103) (v := ?v16) rfl rfl (by kernel_rfl) (by kernel_rfl) (by kernel_rfl) (fun _ _ _ h => h) (by rfl) ?hy16 (by assumption) ?_
    case hy16 => intro W hSW; (try dsimp only at hSW); have z0 := carry hSW hl4 c0; have z1 := carry hSW hl4 c1; have z2 := carry hSW hy4 x1; have z3 := carry hSW hy4 y1; have q0 := Nat.lt_of_lt_of_le hl4 hSW.size; have q1 := Nat.lt_of_lt_of_le hy4 hSW.size; go_simp; (try with_reducible rfl)
    try simp only [Act.put, List.setIfInBounds_toArray, List.set_cons_zero, List.set_cons_succ]
    refine rg_one 1 rfl (by kernel_rfl) (by rfl) (fun K hK => ?_)
    go_simp
    refine (num_any _ _ (by omega) (by omega)).mono ?_
    rintro e8 w8 ⟨rfl, rfl⟩
    refine hK.out _ _ ((Below.refl _ _).drew) (fun hH1 => ?_)
    clear hK K
    try simp only [Act.put, List.setIfInBounds_toArray, List.set_cons_zero, List.set_cons_succ]
    refine rg_take 2 (some 105) (v := ?v17) rfl rfl (by kernel_rfl) (by kernel_rfl) (by kernel_rfl) (fun _ _ _ h => h) (by rfl) ?hy17 (by assumption) ?_
    case hy17 => intro W hSW; (try dsimp only at hSW); have z0 := carry hSW hl4 c0; have z1 := carry hSW hl4 c1; have z2 := carry hSW hy4 x1; have z3 := carry hSW hy4 y1; have q0 := Nat.lt_of_lt_of_le hl4 hSW.size; have q1 := Nat.lt_of_lt_of_le hy4 hSW.size; go_simp; (try with_reducible rfl)
    try simp only [Act.put, List.setIfInBounds_toArray, List.set_cons_zero, List.set_cons_succ]
    refine rg_take 3 (some 106) (v := ?v18) rfl rfl (by kernel_rfl) (by kernel_rfl) (by kernel_rfl) (fun _ _ _ h => h) (by rfl) ?hy18 (by assumption) ?_
    case hy18 => intro W hSW; (try dsimp only at hSW); have z0 := carry hSW hl4 c0; have z1 := carry hSW hl4 c1; have z2 := carry hSW hy4 x1; have z3 := carry hSW hy4 y1; have q0 := Nat.lt_of_lt_of_le hl4 hSW.size; have q1 := Nat.lt_of_lt_of_le hy4 hSW.size; go_simp; (try with_reducible rfl)
    try simp only [Act.put, List.setIfInBounds_toArray, List.set_cons_zero, List.set_cons_succ]
    refine rg_take 4 (some 107) (v := ?v19) rfl rfl (by kernel_rfl) (by kernel_rfl) (by kernel_rfl) (fun _ _ _ h => h) (by rfl) ?hy19 (by assumption) ?_
    case hy19 => intro W hSW; (try dsimp only at hSW); have z0 := carry hSW hl4 c0; have z1 := carry hSW hl4 c1; have z2 := carry hSW hy4 x1; have z3 := carry hSW hy4 y1; have q0 := Nat.lt_of_lt_of_le hl4 hSW.size; have q1 := Nat.lt_of_lt_of_le hy4 hSW.size; go_simp; (try with_reducible rfl)
    try simp only [Act.put, List.setIfInBounds_toArray, List.set_cons_zero, List.set_cons_succ]
    refine rg_take 5 (some 108) (v := ?v20) rfl rfl (by kernel_rfl) (by kernel_rfl) (by kernel_rfl) (fun _ _ _ h => h) (by rfl) ?hy20 (by assumption) ?_
    case hy20 => intro W hSW; (try dsimp only at hSW); have z0 := carry hSW hl4 c0; have z1 := carry hSW hl4 c1; have z2 := carry hSW hy4 x1; have z3 := carry hSW hy4 y1; have q0 := Nat.lt_of_lt_of_le hl4 hSW.size; have q1 := Nat.lt_of_lt_of_le hy4 hSW.size; go_simp; (try with_reducible rfl)
    try simp only [Act.put, List.setIfInBounds_toArray, List.set_cons_zero, List.set_cons_succ]
    refine rg_take 6 (some 109) (v := ?v21) rfl rfl (by kernel_rfl) (by kernel_rfl) (by kernel_rfl) (fun _ _ _ h => h) (by rfl) ?hy21 (by assumption) ?_
    case hy21 => intro W hSW; (try dsimp only at hSW); have z0 := carry hSW hl4 c0; have z1 := carry hSW hl4 c1; have z2 := carry hSW hy4 x1; have z3 := carry hSW hy4 y1; have q0 := Nat.lt_of_lt_of_le hl4 hSW.size; have q1 := Nat.lt_of_lt_of_le hy4 hSW.size; go_simp; (try with_reducible rfl)
    try simp only [Act.put, List.setIfInBounds_toArray, List.set_cons_zero, List.set_cons_succ]
    refine rg_take 7 (some 110) (v := ?v22) rfl rfl (by kernel_rfl) (by kernel_rfl) (by kernel_rfl) (fun _ _ _ h => h) (by rfl) ?hy22 (by assumption) ?_
    case hy22 => intro W hSW; (try dsimp only at hSW); have z0 := carry hSW hl4 c0; have z1 := carry hSW hl4 c1; have z2 := carry hSW hy4 x1; have z3 := carry hSW hy4 y1; have q0 := Nat.lt_of_lt_of_le hl4 hSW.size; have q1 := Nat.lt_of_lt_of_le hy4 hSW.size; go_simp; (try with_reducible rfl)
    try simp only [Act.put, List.setIfInBounds_toArray, List.set_cons_zero, List.set_cons_succ]
    refine rg_take 8 (some 111) (v := ?v23) rfl rfl (by kernel_rfl) (by kernel_rfl) (by kernel_rfl) (fun _ _ _ h => h) (by rfl) ?hy23 (by assumption) ?_
    case hy23 => intro W hSW; (try dsimp only at hSW); have z0 := carry hSW hl4 c0; have z1 := carry hSW hl4 c1; have z2 := carry hSW hy4 x1; have z3 := carry hSW hy4 y1; have q0 := Nat.lt_of_lt_of_le hl4 hSW.size; have q1 := Nat.lt_of_lt_of_le hy4 hSW.size; go_simp; (try with_reducible rfl)
    try simp only [Act.put, List.setIfInBounds_toArray, List.set_cons_zero, List.set_cons_succ]
    refine rg_take 9 (some 112) (v := ?v24) rfl rfl (by kernel_rfl) (by kernel_rfl) (by kernel_rfl) (fun _ _ _ h => h) (by rfl) ?hy24 (by assumption) ?_
    case hy24 => intro W hSW; (try dsimp only at hSW); have z0 := carry hSW hl4 c0; have z1 := carry hSW hl4 c1; have z2 := carry hSW hy4 x1; have z3 := carry hSW hy4 y1; have q0 := Nat.lt_of_lt_of_le hl4 hSW.size; have q1 := Nat.lt_of_lt_of_le hy4 hSW.size; go_simp; (try with_reducible rfl)
    try simp only [Act.put, List.setIfInBounds_toArray, List.set_cons_zero, List.set_cons_succ]
    refine rg_take 10 (some 113) (v := ?v25) rfl rfl (by kernel_rfl) (by kernel_rfl) (by kernel_rfl) (fun _ _ _ h => h) (by rfl) ?hy25 (by assumption) ?_
    case hy25 => intro W hSW; (try dsimp only at hSW); have z0 := carry hSW hl4 c0; have z1 := carry hSW hl4 c1; have z2 := carry hSW hy4 x1; have z3 := carry hSW hy4 y1; have q0 := Nat.lt_of_lt_of_le hl4 hSW.size; have q1 := Nat.lt_of_lt_of_le hy4 hSW.size; go_simp; (try with_reducible rfl)
    try simp only [Act.put, List.setIfInBounds_toArray, List.set_cons_zero, List.set_cons_succ]
    refine rg_take 11 (some 114) (v := ?v26) rfl rfl (by kernel_rfl) (by kernel_rfl) (by kernel_rfl) (fun _ _ _ h => h) (by rfl) ?hy26 (by assumption) ?_
    case hy26 => intro W hSW; (try dsimp only at hSW); have z0 := carry hSW hl4 c0; have z1 := carry hSW hl4 c1; have z2 := carry hSW hy4 x1; have z3 := carry hSW hy4 y1; have q0 := Nat.lt_of_lt_of_le hl4 hSW.size; have q1 := Nat.lt_of_lt_of_le hy4 hSW.size; go_simp; (try with_reducible rfl)
    try simp only [Act.put, List.setIfInBounds_toArray, List.set_cons_zero, List.set_cons_succ]
    refine rg_take 12 (some 115) (v := ?v27) rfl rfl (by kernel_rfl) (by kernel_rfl) (by kernel_rfl) (fun _ _ _ h => h) (by rfl) ?hy27 (by assumption) ?_
    case hy27 => intro W hSW; (try dsimp only at hSW); have z0 := carry hSW hl4 c0; have z1 := carry hSW hl4 c1; have z2 := carry hSW hy4 x1; have z3 := carry hSW hy4 y1; have q0 := Nat.lt_of_lt_of_le hl4 hSW.size; have q1 := Nat.lt_of_lt_of_le hy4 hSW.size; go_simp; (try with_reducible rfl)
    try simp only [Act.put, List.setIfInBounds_toArray, List.set_cons_zero, List.set_cons_succ]
    refine rg_take 13 (some 116) (v := ?v28) rfl rfl (by kernel_rfl) (by kernel_rfl) (by kernel_rfl) (fun _ _ _ h => h) (by rfl) ?hy28 (by assumption) ?_
    case hy28 => intro W hSW; (try dsimp only at hSW); have z0 := carry hSW hl4 c0; have z1 := carry hSW hl4 c1; have z2 := carry hSW hy4 x1; have z3 := carry hSW hy4 y1; have q0 := Nat.lt_of_lt_of_le hl4 hSW.size; have q1 := Nat.lt_of_lt_of_le hy4 hSW.size; go_simp; (try with_reducible rfl)
    try simp only [Act.put, List.setIfInBounds_toArray, List.set_cons_zero, List.set_cons_succ]
    refine rg_take 14 (some 117) (v := ?v29) rfl rfl (by kernel_rfl) (by kernel_rfl) (by kernel_rfl) (fun _ _ _ h => h) (by rfl) ?hy29 (by assumption) ?_
    case hy29 => intro W hSW; (try dsimp only at hSW); have z0 := carry hSW hl4 c0; have z1 := carry hSW hl4 c1; have z2 := carry hSW hy4 x1; have z3 := carry hSW hy4 y1; have q0 := Nat.lt_of_lt_of_le hl4 hSW.size; have q1 := Nat.lt_of_lt_of_le hy4 hSW.size; go_simp; (try with_reducible rfl)
    try simp only [Act.put, List.setIfInBounds_toArray, List.set_cons_zero, List.set_cons_succ]
    refine rg_take 15 (some 4) (v := ?v30) rfl rfl (by kernel_rfl) (by kernel_rfl) (by kernel_rfl) (fun _ _ _ h => h) (by rfl) ?hy30 (by assumption) ?_
    case hy30 => intro W hSW; (try dsimp only at hSW); have z0 := carry hSW hl4 c0; have z1 := carry hSW hl4 c1; have z2 := carry hSW hy4 x1; have z3 := carry hSW hy4 y1; have q0 := Nat.lt_of_lt_of_le hl4 hSW.size; have q1 := Nat.lt_of_lt_of_le hy4 hSW.size; go_simp; (try with_reducible rfl)
    try simp only [Act.put, List.setIfInBounds_toArray, List.set_cons_zero, List.set_cons_succ]
    refine wpAnyH_done (by kernel_rfl) ?_ _
    go_wp2_with fail
    all_goals go_ret
    all_goals exact ⟨rfl, belT hW5.out (by (repeat' (first | with_reducible exact Below.refl _ _ | with_reducible assumption | with_reducible apply Below.setCell | with_reducible apply Below.alloc | with_reducible apply Below.drew | with_reducible apply below_drewN | with_reducible exact Nat.le_refl _ | (simp; done) | (simp; omega) | omega | exact Nat.le_refl _)))⟩
  · go_wp2_with fail
    refine (run_lit V14 (w2.heap.size + 1 + 1 + 1) 2 2 [⟨2, 0, 0, 0, 1, 0, 0, 0, 0⟩, ⟨9, 0, 0, 0, 0, 0, 0, 0, 0⟩] 99 1 1 3 0 (by rw [hz.out]; omega) rfl hS2.out (by omega) (v2 hd) (by omega)).mono ?_
    rintro e w3 ⟨rfl, hb3⟩
    have x2 : w3.cell? _ = _ := carry hb3 hy14 x2
    have y2 : w3.cell? _ = _ := carry hb3 hy14 y2
    have hy : w2.heap.size + 1 + 1 + 1 + 1 + 1 + 1 + 1 + 1 + 1 + 1 + 1 + 1 + 1 + 1 < w3.heap.size := Nat.lt_of_lt_of_le hy14 hb3.size
    have hW3 := Lib.hid (belT hWL.out hb3)
    clear q0 hS0 q1 hS1 q2 hS2 q3 hS3 q4 hS4 q5 hS5 q6 hS6 q7 hS7 q8 hS8 q9 hS9 q10 hS10 q11 hS11 x0 y0 x1 y1 x3 y3 x4 y4 x5 y5 x6 y6 x7 y7 x8 y8 x9 y9 x10 y10 x11 y11 hb3 hy13 hy14 hz
    go_wp2_with fail
    obtain ⟨W4, hW4⟩ : ∃ W, w3.alloc (.cells #[.int .i64 1, .int .i64 1] 25) = W := ⟨_, rfl⟩
    rw [hW4]
    have hb4 : Below w3.heap.size w3 W4 := by rw [← hW4]; exact below_alc _ _
    have c0 : W4.cell? ⟨w3.heap.size, 0, none⟩ = some (.int .i64 1) := by rw [← hW4]; simp [go_sem]
    have c1 : W4.cell? ⟨w3.heap.size, 1, none⟩ = some (.int .i64 1) := by rw [← hW4]; simp [go_sem]
    have hl4 : w3.heap.size < W4.heap.size := by rw [← hW4]; simp
    have x2 : W4.cell? _ = _ := carry hb4 hy x2
    have y2 : W4.cell? _ = _ := carry hb4 hy y2
    have hy4 : w2.heap.size + 1 + 1 + 1 + 1 + 1 + 1 + 1 + 1 + 1 + 1 + 1 + 1 + 1 + 1 < W4.heap.size := Nat.lt_of_lt_of_le hy hb4.size
    have hW5 := Lib.hid (belT hW3.out hb4)
    clear hW4 hb4 hy hW3
    refine wp_region_held_drew (S := fun W => Below W4.heap.size W4 W) (by kernel_rfl) ((Below.refl _ _).drew) (fun hHeld => ?_)
    refine rg_take 0 (some 103) (v := ?v31) rfl rfl (by kernel_rfl) (by kernel_rfl) (by kernel_rfl) (fun _ _ _ h => h) (by rfl) ?hy31 (by assumption) ?_
    case hy31 => intro W hSW; (try dsimp only at hSW); have z0 := carry hSW hl4 c0; have z1 := carry hSW hl4 c1; have z2 := carry hSW hy4 x2; have z3 := carry hSW hy4 y2; have q0 := Nat.lt_of_lt_of_le hl4 hSW.size; have q1 := Nat.lt_of_lt_of_le hy4 hSW.size; go_simp; (try with_reducible rfl)
    try simp only [Act.put, List.setIfInBounds_toArray, List.set_cons_zero, List.set_cons_succ]
    refine rg_one 1 rfl (by kernel_rfl) (by rfl) (fun K hK => ?_)
    go_simp
    refine (num_any _ _ (by omega) (by omega)).mono ?_
    rintro e8 w8 ⟨rfl, rfl⟩
    refine hK.out _ _ ((Below.refl _ _).drew) (fun hH1 => ?_)
    clear hK K
    try simp only [Act.put, List.setIfInBounds_toArray, List.set_cons_zero, List.set_cons_succ]
    refine rg_take 2 (some 105) (v := ?v32) rfl rfl (by kernel_rfl) (by kernel_rfl) (by kernel_rfl) (fun _ _ _ h => h) (by rfl) ?hy32 (by assumption) ?_
    case hy32 => intro W hSW; (try dsimp only at hSW); have z0 := carry hSW hl4 c0; have z1 := carry hSW hl4 c1; have z2 := carry hSW hy4 x2; have z3 := carry hSW hy4 y2; have q0 := Nat.lt_of_lt_of_le hl4 hSW.size; have q1 := Nat.lt_of_lt_of_le hy4 hSW.size; go_simp; (try with_reducible rfl)
    try simp only [Act.put, List.setIfInBounds_toArray, List.set_cons_zero, List.set_cons_succ]
    refine rg_take 3 (some 106) (v := ?v33) rfl rfl (by kernel_rfl) (by kernel_rfl) (by kernel_rfl) (fun _ _ _ h => h) (by rfl) ?hy33 (by assumption) ?_
    case hy33 => intro W hSW; (try dsimp only at hSW); have z0 := carry hSW hl4 c0; have z1 := carry hSW hl4 c1; have z2 := carry hSW hy4 x2; have z3 := carry hSW hy4 y2; have q0 := Nat.lt_of_lt_of_le hl4 hSW.size; have q1 := Nat.lt_of_lt_of_le hy4 hSW.size; go_simp; (try with_reducible rfl)
    try simp only [Act.put, List.setIfInBounds_toArray, List.set_cons_zero, List.set_cons_succ]
    refine rg_take 4 (some 107) (v := ?v34) rfl rfl (by kernel_rfl) (by kernel_rfl) (by kernel_rfl) (fun _ _ _ h => h) (by rfl) ?hy34 (by assumption) ?_
    case hy34 => intro W hSW; (try dsimp only at hSW); have z0 := carry hSW hl4 c0; have z1 := carry hSW hl4 c1; have z2 := carry hSW hy4 x2; have z3 := carry hSW hy4 y2; have q0 := Nat.lt_of_lt_of_le hl4 hSW.size; have q1 := Nat.lt_of_lt_of_le hy4 hSW.size; go_simp; (try with_reducible rfl)
    try simp only [Act.put, List.setIfInBounds_toArray, List.set_cons_zero, List.set_cons_succ]
    refine rg_take 5 (some 108) (v := ?v35) rfl rfl (by kernel_rfl) (by kernel_rfl) (by kernel_rfl) (fun _ _ _ h => h) (by rfl) ?hy35 (by assumption) ?_
    case hy35 => intro W hSW; (try dsimp only at hSW); have z0 := carry hSW hl4 c0; have z1 := carry hSW hl4 c1; have z2 := carry hSW hy4 x2; have z3 := carry hSW hy4 y2; have q0 := Nat.lt_of_lt_of_le hl4 hSW.size; have q1 := Nat.lt_of_lt_of_le hy4 hSW.size; go_simp; (try with_reducible rfl)
    try simp only [Act.put, List.setIfInBounds_toArray, List.set_cons_zero, List.set_cons_succ]
    refine rg_take 6 (some 109) (v := ?v36) rfl rfl (by kernel_rfl) (by kernel_rfl) (by kernel_rfl) (fun _ _ _ h => h) (by rfl) ?hy36 (by assumption) ?_
    case hy36 => intro W hSW; (try dsimp only at hSW); have z0 := carry hSW hl4 c0; have z1 := carry hSW hl4 c1; have z2 := carry hSW hy4 x2; have z3 := carry hSW hy4 y2; have q0 := Nat.lt_of_lt_of_le hl4 hSW.size; have q1 := Nat.lt_of_lt_of_le hy4 hSW.size; go_simp; (try with_reducible rfl)
    try simp only [Act.put, List.setIfInBounds_toArray, List.set_cons_zero, List.set_cons_succ]
    refine rg_take 7 (some 110) (v := ?v37) rfl rfl (by kernel_rfl) (by kernel_rfl) (by kernel_rfl) (fun _ _ _ h => h) (by rfl) ?hy37 (by assumption) ?_
    case hy37 => intro W hSW; (try dsimp only at hSW); have z0 := carry hSW hl4 c0; have z1 := carry hSW hl4 c1; have z2 := carry hSW hy4 x2; have z3 := carry hSW hy4 y2; have q0 := Nat.lt_of_lt_of_le hl4 hSW.size; have q1 := Nat.lt_of_lt_of_le hy4 hSW.size; go_simp; (try with_reducible rfl)
    try simp only [Act.put, List.setIfInBounds_toArray, List.set_cons_zero, List.set_cons_succ]
    refine rg_take 8 (some 111) (v := ?v38) rfl rfl (by kernel_rfl) (by kernel_rfl) (by kernel_rfl) (fun _ _ _ h => h) (by rfl) ?hy38 (by assumption) ?_
    case hy38 => intro W hSW; (try dsimp only at hSW); have z0 := carry hSW hl4 c0; have z1 := carry hSW hl4 c1; have z2 := carry hSW hy4 x2; have z3 := carry hSW hy4 y2; have q0 := Nat.lt_of_lt_of_le hl4 hSW.size; have q1 := Nat.lt_of_lt_of_le hy4 hSW.size; go_simp; (try with_reducible rfl)
    try simp only [Act.put, List.setIfInBounds_toArray, List.set_cons_zero, List.set_cons_succ]
    refine rg_take 9 (some 112) (v := ?v39) rfl rfl (by kernel_rfl) (by kernel_rfl) (by kernel_rfl) (fun _ _ _ h => h) (by rfl) ?hy39 (by assumption) ?_
    case hy39 => intro W hSW; (try dsimp only at hSW); have z0 := carry hSW hl4 c0; have z1 := carry hSW hl4 c1; have z2 := carry hSW hy4 x2; have z3 := carry hSW hy4 y2; have q0 := Nat.lt_of_lt_of_le hl4 hSW.size; have q1 := Nat.lt_of_lt_of_le hy4 hSW.size; go_simp; (try with_reducible rfl)
    try simp only [Act.put, List.setIfInBounds_toArray, List.set_cons_zero, List.set_cons_succ]
    refine rg_take 10 (some 113) (v := ?v40) rfl rfl (by kernel_rfl) (by kernel_rfl) (by kernel_rfl) (fun _ _ _ h => h) (by rfl) ?hy40 (by assumption) ?_
    case hy40 => intro W hSW; (try dsimp only at hSW); have z0 := carry hSW hl4 c0; have z1 := carry hSW hl4 c1; have z2 := carry hSW hy4 x2; have z3 := carry hSW hy4 y2; have q0 := Nat.lt_of_lt_of_le hl4 hSW.size; have q1 := Nat.lt_of_lt_of_le hy4 hSW.size; go_simp; (try with_reducible rfl)
    try simp only [Act.put, List.setIfInBounds_toArray, List.set_cons_zero, List.set_cons_succ]
    refine rg_take 11 (some 114) (v := ?v41) rfl rfl (by kernel_rfl) (by kernel_rfl) (by kernel_rfl) (fun _ _ _ h => h) (by rfl) ?hy41 (by assumption) ?_
    case hy41 => intro W hSW; (try dsimp only at hSW); have z0 := carry hSW hl4 c0; have z1 := carry hSW hl4 c1; have z2 := carry hSW hy4 x2; have z3 := carry hSW hy4 y2; have q0 := Nat.lt_of_lt_of_le hl4 hSW.size; have q1 := Nat.lt_of_lt_of_le hy4 hSW.size; go_simp; (try with_reducible rfl)
    try simp only [Act.put, List.setIfInBounds_toArray, List.set_cons_zero, List.set_cons_succ]
    refine rg_take 12 (some 115) (v := ?v42) rfl rfl (by kernel_rfl) (by kernel_rfl) (by kernel_rfl) (fun _ _ _ h => h) (by rfl) ?hy42 (by assumption) ?_
    case hy42 => intro W hSW; (try dsimp only at hSW); have z0 := carry hSW hl4 c0; have z1 := carry hSW hl4 c1; have z2 := carry hSW hy4 x2; have z3 := carry hSW hy4 y2; have q0 := Nat.lt_of_lt_of_le hl4 hSW.size; have q1 := Nat.lt_of_lt_of_le hy4 hSW.size; go_simp; (try with_reducible rfl)
    try simp only [Act.put, List.setIfInBounds_toArray, List.set_cons_zero, List.set_cons_succ]
    refine rg_take 13 (some 116) (v := ?v43) rfl rfl (by kernel_rfl) (by kernel_rfl) (by kernel_rfl) (fun _ _ _ h => h) (by rfl) ?hy43 (by assumption) ?_
    case hy43 => intro W hSW; (try dsimp only at hSW); have z0 := carry hSW hl4 c0; have z1 := carry hSW hl4 c1; have z2 := carry hSW hy4 x2; have z3 := carry hSW hy4 y2; have q0 := Nat.lt_of_lt_of_le hl4 hSW.size; have q1 := Nat.lt_of_lt_of_le hy4 hSW.size; go_simp; (try with_reducible rfl)
    try simp only [Act.put, List.setIfInBounds_toArray, List.set_cons_zero, List.set_cons_succ]
    refine rg_take 14 (some 117) (v := ?v44) rfl rfl (by kernel_rfl) (by kernel_rfl) (by kernel_rfl) (fun _ _ _ h => h) (by rfl) ?hy44 (by assumption) ?_
    case hy44 => intro W hSW; (try dsimp only at hSW); have z0 := carry hSW hl4 c0; have z1 := carry hSW hl4 c1; have z2 := carry hSW hy4 x2; have z3 := carry hSW hy4 y2; have q0 := Nat.lt_of_lt_of_le hl4 hSW.size; have q1 := Nat.lt_of_lt_of_le hy4 hSW.size; go_simp; (try with_reducible rfl)
    try simp only [Act.put, List.setIfInBounds_toArray, List.set_cons_zero, List.set_cons_succ]
    refine rg_take 15 (some 4) (v := ?v45) rfl rfl (by kernel_rfl) (by kernel_rfl) (by kernel_rfl) (fun _ _ _ h => h) (by rfl) ?hy45 (by assumption) ?_
    case hy45 => intro W hSW; (try dsimp only at hSW); have z0 := carry hSW hl4 c0; have z1 := carry hSW hl4 c1; have z2 := carry hSW hy4 x2; have z3 := carry hSW hy4 y2; have q0 := Nat.lt_of_lt_of_le hl4 hSW.size; have q1 := Nat.lt_of_lt_of_le hy4 hSW.size; go_simp; (try with_reducible rfl)
    try simp only [Act.put, List.setIfInBounds_toArray, List.set_cons_zero, List.set_cons_succ]
    refine wpAnyH_done (by kernel_rfl) ?_ _
    go_wp2_with fail
    all_goals go_ret
    all_goals exact ⟨rfl, belT hW5.out (by (repeat' (first | with_reducible exact Below.refl _ _ | with_reducible assumption | with_reducible apply Below.setCell | with_reducible apply Below.alloc | with_reducible apply Below.drew | with_reducible apply below_drewN | with_reducible exact Nat.le_refl _ | (simp; done) | (simp; omega) | omega | exact Nat.le_refl _)))⟩
  · go_wp2_with fail
    refine (run_lit V14 (w2.heap.size + 1 + 1 + 1 + 1) 2 2 [⟨0, 0, 0, 0, 0, 0, 0, 0, 0⟩, ⟨9, 0, 0, 0, 0, 0, 0, 0, 0⟩] 99 5 0 2 0 (by rw [hz.out]; omega) rfl hS3.out (by omega) (v3 hd) (by omega)).mono ?_
    rintro e w3 ⟨rfl, hb3⟩
    have x3 : w3.cell? _ = _ := carry hb3 hy14 x3
    have y3 : w3.cell? _ = _ := carry hb3 hy14 y3
    have hy : w2.heap.size + 1 + 1 + 1 + 1 + 1 + 1 + 1 + 1 + 1 + 1 + 1 + 1 + 1 + 1 < w3.heap.size := Nat.lt_of_lt_of_le hy14 hb3.size
    have hW3 := Lib.hid (belT hWL.out hb3)
    clear q0 hS0 q1 hS1 q2 hS2 q3 hS3 q4 hS4 q5 hS5 q6 hS6 q7 hS7 q8 hS8 q9 hS9 q10 hS10 q11 hS11 x0 y0 x1 y1 x2 y2 x4 y4 x5 y5 x6 y6 x7 y7 x8 y8 x9 y9 x10 y10 x11 y11 hb3 hy13 hy14 hz
    go_wp2_with fail
    obtain ⟨W4, hW4⟩ : ∃ W, w3.alloc (.cells #[.int .i64 5, .int .i64 0] 25) = W := ⟨_, rfl⟩
    rw [hW4]
    have hb4 : Below w3.heap.size w3 W4 := by rw [← hW4]; exact below_alc _ _
    have c0 : W4.cell? ⟨w3.heap.size, 0, none⟩ = some (.int .i64 5) := by rw [← hW4]; simp [go_sem]
    have c1 : W4.cell? ⟨w3.heap.size, 1, none⟩ = some (.int .i64 0) := by rw [← hW4]; simp [go_sem]
    have hl4 : w3.heap.size < W4.heap.size := by rw [← hW4]; simp
    have x3 : W4.cell? _ = _ := carry hb4 hy x3
    have y3 : W4.cell? _ = _ := carry hb4 hy y3
    have hy4 : w2.heap.size + 1 + 1 + 1 + 1 + 1 + 1 + 1 + 1 + 1 + 1 + 1 + 1 + 1 + 1 < W4.heap.size := Nat.lt_of_lt_of_le hy hb4.size
    have hW5 := Lib.hid (belT hW3.out hb4)
    clear hW4 hb4 hy hW3
    refine wp_region_held_drew (S := fun W => Below W4.heap.size W4 W) (by kernel_rfl) ((Below.refl _ _).drew) (fun hHeld => ?_)
    refine rg_take 0 (some 103) (v := ?v46) rfl rfl (by kernel_rfl) (by kernel_rfl) (by kernel_rfl) (fun _ _ _ h => h) (by rfl) ?hy46 (by assumption) ?_
    case hy46 => intro W hSW; (try dsimp only at hSW); have z0 := carry hSW hl4 c0; have z1 := carry hSW hl4 c1; have z2 := carry hSW hy4 x3; have z3 := carry hSW hy4 y3; have q0 := Nat.lt_of_lt_of_le hl4 hSW.size; have q1 := Nat.lt_of_lt_of_le hy4 hSW.size; go_simp; (try with_reducible rfl)
    try simp only [Act.put, List.setIfInBounds_toArray, List.set_cons_zero, List.set_cons_succ]
    refine rg_one 1 rfl (by kernel_rfl) (by rfl) (fun K hK => ?_)
    go_simp
    refine (num_any _ _ (by omega) (by omega)).mono ?_
    rintro e8 w8 ⟨rfl, rfl⟩
    refine hK.out _ _ ((Below.refl _ _).drew) (fun hH1 => ?_)
    clear hK K
    try simp only [Act.put, List.setIfInBounds_toArray, List.set_cons_zero, List.set_cons_succ]
    refine rg_take 2 (some 105) (v := ?v47) rfl rfl (by kernel_rfl) (by kernel_rfl) (by kernel_rfl) (fun _ _ _ h => h) (by rfl) ?hy47 (by assumption) ?_
    case hy47 => intro W hSW; (try dsimp only at hSW); have z0 := carry hSW hl4 c0; have z1 := carry hSW hl4 c1; have z2 := carry hSW hy4 x3; have z3 := carry hSW hy4 y3; have q0 := Nat.lt_of_lt_of_le hl4 hSW.size; have q1 := Nat.lt_of_lt_of_le hy4 hSW.size; go_simp; (try with_reducible rfl)
    try simp only [Act.put, List.setIfInBounds_toArray, List.set_cons_zero, List.set_cons_succ]
    refine rg_take 3 (some 106) (v := ?v48) rfl rfl (by kernel_rfl) (by kernel_rfl) (by kernel_rfl) (fun _ _ _ h => h) (by rfl) ?hy48 (by assumption) ?_
    case hy48 => intro W hSW; (try dsimp only at hSW); have z0 := carry hSW hl4 c0; have z1 := carry hSW hl4 c1; have z2 := carry hSW hy4 x3; have z3 := carry hSW hy4 y3; have q0 := Nat.lt_of_lt_of_le hl4 hSW.size; have q1 := Nat.lt_of_lt_of_le hy4 hSW.size; go_simp; (try with_reducible rfl)
    try simp only [Act.put, List.setIfInBounds_toArray, List.set_cons_zero, List.set_cons_succ]
    refine rg_take 4 (some 107) (v := ?v49) rfl rfl (by kernel_rfl) (by kernel_rfl) (by kernel_rfl) (fun _ _ _ h => h) (by rfl) ?hy49 (by assumption) ?_
    case hy49 => intro W hSW; (try dsimp only at hSW); have z0 := carry hSW hl4 c0; have z1 := carry hSW hl4 c1; have z2 := carry hSW hy4 x3; have z3 := carry hSW hy4 y3; have q0 := Nat.lt_of_lt_of_le hl4 hSW.size; have q1 := Nat.lt_of_lt_of_le hy4 hSW.size; go_simp; (try with_reducible rfl)
    try simp only [Act.put, List.setIfInBounds_toArray, List.set_cons_zero, List.set_cons_succ]
    refine rg_take 5 (some 108) (v := ?v50) rfl rfl (by kernel_rfl) (by kernel_rfl) (by kernel_rfl) (fun _ _ _ h => h) (by rfl) ?hy50 (by assumption) ?_
    case hy50 => intro W hSW; (try dsimp only at hSW); have z0 := carry hSW hl4 c0; have z1 := carry hSW hl4 c1; have z2 := carry hSW hy4 x3; have z3 := carry hSW hy4 y3; have q0 := Nat.lt_of_lt_of_le hl4 hSW.size; have q1 := Nat.lt_of_lt_of_le hy4 hSW.size; go_simp; (try with_reducible rfl)
    try simp only [Act.put, List.setIfInBounds_toArray, List.set_cons_zero, List.set_cons_succ]
    refine rg_take 6 (some 109) (v := ?v51) rfl rfl (by kernel_rfl) (by kernel_rfl) (by kernel_rfl) (fun _ _ _ h => h) (by rfl) ?hy51 (by assumption) ?_
    case hy51 => intro W hSW; (try dsimp only at hSW); have z0 := carry hSW hl4 c0; have z1 := carry hSW hl4 c1; have z2 := carry hSW hy4 x3; have z3 := carry hSW hy4 y3; have q0 := Nat.lt_of_lt_of_le hl4 hSW.size; have q1 := Nat.lt_of_lt_of_le hy4 hSW.size; go_simp; (try with_reducible rfl)
    try simp only [Act.put, List.setIfInBounds_toArray, List.set_cons_zero, List.set_cons_succ]
    refine rg_take 7 (some 110) (v := ?v52) rfl rfl (by kernel_rfl) (by kernel_rfl) (by kernel_rfl) (fun _ _ _ h => h) (by rfl) ?hy52 (by assumption) ?_
    case hy52 => intro W hSW; (try dsimp only at hSW); have z0 := carry hSW hl4 c0; have z1 := carry hSW hl4 c1; have z2 := carry hSW hy4 x3; have z3 := carry hSW hy4 y3; have q0 := Nat.lt_of_lt_of_le hl4 hSW.size; have q1 := Nat.lt_of_lt_of_le hy4 hSW.size; go_simp; (try with_reducible rfl)
    try simp only [Act.put, List.setIfInBounds_toArray, List.set_cons_zero, List.set_cons_succ]
    refine rg_take 8 (some 111) (v := ?v53) rfl rfl (by kernel_rfl) (by kernel_rfl) (by kernel_rfl) (fun _ _ _ h => h) (by rfl) ?hy53 (by assumption) ?_
    case hy53 => intro W hSW; (try dsimp only at hSW); have z0 := carry hSW hl4 c0; have z1 := carry hSW hl4 c1; have z2 := carry hSW hy4 x3; have z3 := carry hSW hy4 y3; have q0 := Nat.lt_of_lt_of_le hl4 hSW.size; have q1 := Nat.lt_of_lt_of_le hy4 hSW.size; go_simp; (try with_reducible rfl)
    try simp only [Act.put, List.setIfInBounds_toArray, List.set_cons_zero, List.set_cons_succ]
    refine rg_take 9 (some 112) (v := ?v54) rfl rfl (by kernel_rfl) (by kernel_rfl) (by kernel_rfl) (fun _ _ _ h => h) (by rfl) ?hy54 (by assumption) ?_
    case hy54 => intro W hSW; (try dsimp only at hSW); have z0 := carry hSW hl4 c0; have z1 := carry hSW hl4 c1; have z2 := carry hSW hy4 x3; have z3 := carry hSW hy4 y3; have q0 := Nat.lt_of_lt_of_le hl4 hSW.size; have q1 := Nat.lt_of_lt_of_le hy4 hSW.size; go_simp; (try with_reducible rfl)
    try simp only [Act.put, List.setIfInBounds_toArray, List.set_cons_zero, List.set_cons_succ]
    refine rg_take 10 (some 113) (v := ?v55) rfl rfl (by kernel_rfl) (by kernel_rfl) (by kernel_rfl) (fun _ _ _ h => h) (by rfl) ?hy55 (by assumption) ?_
    case hy55 => intro W hSW; (try dsimp only at hSW); have z0 := carry hSW hl4 c0; have z1 := carry hSW hl4 c1; have z2 := carry hSW hy4 x3; have z3 := carry hSW hy4 y3; have q0 := Nat.lt_of_lt_of_le hl4 hSW.size; have q1 := Nat.lt_of_lt_of_le hy4 hSW.size; go_simp; (try with_reducible rfl)
    try simp only [Act.put, List.setIfInBounds_toArray, List.set_cons_zero, List.set_cons_succ]
    refine rg_take 11 (some 114) (v := ?v56) rfl rfl (by kernel_rfl) (by kernel_rfl) (by kernel_rfl) (fun _ _ _ h => h) (by rfl) ?hy56 (by assumption) ?_
    case hy56 => intro W hSW; (try dsimp only at hSW); have z0 := carry hSW hl4 c0; have z1 := carry hSW hl4 c1; have z2 := carry hSW hy4 x3; have z3 := carry hSW hy4 y3; have q0 := Nat.lt_of_lt_of_le hl4 hSW.size; have q1 := Nat.lt_of_lt_of_le hy4 hSW.size; go_simp; (try with_reducible rfl)
    try simp only [Act.put, List.setIfInBounds_toArray, List.set_cons_zero, List.set_cons_succ]
    refine rg_take 12 (some 115) (v := ?v57) rfl rfl (by kernel_rfl) (by kernel_rfl) (by kernel_rfl) (fun _ _ _ h => h) (by rfl) ?hy57 (by assumption) ?_
    case hy57 => intro W hSW; (try dsimp only at hSW); have z0 := carry hSW hl4 c0; have z1 := carry hSW hl4 c1; have z2 := carry hSW hy4 x3; have z3 := carry hSW hy4 y3; have q0 := Nat.lt_of_lt_of_le hl4 hSW.size; have q1 := Nat.lt_of_lt_of_le hy4 hSW.size; go_simp; (try with_reducible rfl)
    try simp only [Act.put, List.setIfInBounds_toArray, List.set_cons_zero, List.set_cons_succ]
    refine rg_take 13 (some 116) (v := ?v58) rfl rfl (by kernel_rfl) (by kernel_rfl) (by kernel_rfl) (fun _ _ _ h => h) (by rfl) ?hy58 (by assumption) ?_
    case hy58 => intro W hSW; (try dsimp only at hSW); have z0 := carry hSW hl4 c0; have z1 := carry hSW hl4 c1; have z2 := carry hSW hy4 x3; have z3 := carry hSW hy4 y3; have q0 := Nat.lt_of_lt_of_le hl4 hSW.size; have q1 := Nat.lt_of_lt_of_le hy4 hSW.size; go_simp; (try with_reducible rfl)
    try simp only [Act.put, List.setIfInBounds_toArray, List.set_cons_zero, List.set_cons_succ]
    refine rg_take 14 (some 117) (v := ?v59) rfl rfl (by kernel_rfl) (by kernel_rfl) (by kernel_rfl) (fun _ _ _ h => h) (by rfl) ?hy59 (by assumption) ?_
    case hy59 => intro W hSW; (try dsimp only at hSW); have z0 := carry hSW hl4 c0; have z1 := carry hSW hl4 c1; have z2 := carry hSW hy4 x3; have z3 := carry hSW hy4 y3; have q0 := Nat.lt_of_lt_of_le hl4 hSW.size; have q1 := Nat.lt_of_lt_of_le hy4 hSW.size; go_simp; (try with_reducible rfl)
    try simp only [Act.put, List.setIfInBounds_toArray, List.set_cons_zero, List.set_cons_succ]
    refine rg_take 15 (some 4) (v := ?v60) rfl rfl (by kernel_rfl) (by kernel_rfl) (by kernel_rfl) (fun _ _ _ h => h) (by rfl) ?hy60 (by assumption) ?_
    case hy60 => intro W hSW; (try dsimp only at hSW); have z0 := carry hSW hl4 c0; have z1 := carry hSW hl4 c1; have z2 := carry hSW hy4 x3; have z3 := carry hSW hy4 y3; have q0 := Nat.lt_of_lt_of_le hl4 hSW.size; have q1 := Nat.lt_of_lt_of_le hy4 hSW.size; go_simp; (try with_reducible rfl)
    try simp only [Act.put, List.setIfInBounds_toArray, List.set_cons_zero, List.set_cons_succ]
    refine wpAnyH_done (by kernel_rfl) ?_ _
    go_wp2_with fail
    all_goals go_ret
    all_goals exact ⟨rfl, belT hW5.out (by (repeat' (first | with_reducible exact Below.refl _ _ | with_reducible assumption | with_reducible apply Below.setCell | with_reducible apply Below.alloc | with_reducible apply Below.drew | with_reducible apply below_drewN | with_reducible exact Nat.le_refl _ | (simp; done) | (simp; omega) | omega | exact Nat.le_refl _)))⟩
  · go_wp2_with fail
    refine (run_lit V14 (w2.heap.size + 1 + 1 + 1 + 1 + 1) 3 3 [⟨0, 0, 0, 0, 0, 0, 0, 0, 0⟩, ⟨3, 0, 0, 0, 0, 0, 0, 0, 0⟩, ⟨9, 1, 0, 0, 0, 0, 0, 0, 0⟩] 99 2 0 3 0 (by rw [hz.out]; omega) rfl hS4.out (by omega) (v4 hd) (by omega)).mono ?_
    rintro e w3 ⟨rfl, hb3⟩
    have x4 : w3.cell? _ = _ := carry hb3 hy14 x4
    have y4 : w3.cell? _ = _ := carry hb3 hy14 y4
    have hy : w2.heap.size + 1 + 1 + 1 + 1 + 1 + 1 + 1 + 1 + 1 + 1 + 1 + 1 + 1 + 1 < w3.heap.size := Nat.lt_of_lt_of_le hy14 hb3.size
    have hW3 := Lib.hid (belT hWL.out hb3)
    clear q0 hS0 q1 hS1 q2 hS2 q3 hS3 q4 hS4 q5 hS5 q6 hS6 q7 hS7 q8 hS8 q9 hS9 q10 hS10 q11 hS11 x0 y0 x1 y1 x2 y2 x3 y3 x5 y5 x6 y6 x7 y7 x8 y8 x9 y9 x10 y10 x11 y11 hb3 hy13 hy14 hz
    go_wp2_with fail
    obtain ⟨W4, hW4⟩ : ∃ W, w3.alloc (.cells #[.int .i64 2, .int .i64 0] 25) = W := ⟨_, rfl⟩
    rw [hW4]
    have hb4 : Below w3.heap.size w3 W4 := by rw [← hW4]; exact below_alc _ _
    have c0 : W4.cell? ⟨w3.heap.size, 0, none⟩ = some (.int .i64 2) := by rw [← hW4]; simp [go_sem]
    have c1 : W4.cell? ⟨w3.heap.size, 1, none⟩ = some (.int .i64 0) := by rw [← hW4]; simp [go_sem]
    have hl4 : w3.heap.size < W4.heap.size := by rw [← hW4]; simp
    have x4 : W4.cell? _ = _ := carry hb4 hy x4
    have y4 : W4.cell? _ = _ := carry hb4 hy y4
    have hy4 : w2.heap.size + 1 + 1 + 1 + 1 + 1 + 1 + 1 + 1 + 1 + 1 + 1 + 1 + 1 + 1 < W4.heap.size := Nat.lt_of_lt_of_le hy hb4.size
    have hW5 := Lib.hid (belT hW3.out hb4)
    clear hW4 hb4 hy hW3
    refine wp_region_held_drew (S := fun W => Below W4.heap.size W4 W) (by kernel_rfl) ((Below.refl _ _).drew) (fun hHeld => ?_)
    refine rg_take 0 (some 103) (v := ?v61) rfl rfl (by kernel_rfl) (by kernel_rfl) (by kernel_rfl) (fun _ _ _ h => h) (by rfl) ?hy61 (by assumption) ?_
    case hy61 => intro W hSW; (try dsimp only at hSW); have z0 := carry hSW hl4 c0; have z1 := carry hSW hl4 c1; have z2 := carry hSW hy4 x4; have z3 := carry hSW hy4 y4; have q0 := Nat.lt_of_lt_of_le hl4 hSW.size; have q1 := Nat.lt_of_lt_of_le hy4 hSW.size; go_simp; (try with_reducible rfl)
    try simp only [Act.put, List.setIfInBounds_toArray, List.set_cons_zero, List.set_cons_succ]
    refine rg_one 1 rfl (by kernel_rfl) (by rfl) (fun K hK => ?_)
    go_simp
    refine (num_any _ _ (by omega) (by omega)).mono ?_
    rintro e8 w8 ⟨rfl, rfl⟩
    refine hK.out _ _ ((Below.refl _ _).drew) (fun hH1 => ?_)
    clear hK K
    try simp only [Act.put, List.setIfInBounds_toArray, List.set_cons_zero, List.set_cons_succ]
    refine rg_take 2 (some 105) (v := ?v62) rfl rfl (by kernel_rfl) (by kernel_rfl) (by kernel_rfl) (fun _ _ _ h => h) (by rfl) ?hy62 (by assumption) ?_
    case hy62 => intro W hSW; (try dsimp only at hSW); have z0 := carry hSW hl4 c0; have z1 := carry hSW hl4 c1; have z2 := carry hSW hy4 x4; have z3 := carry hSW hy4 y4; have q0 := Nat.lt_of_lt_of_le hl4 hSW.size; have q1 := Nat.lt_of_lt_of_le hy4 hSW.size; go_simp; (try with_reducible rfl)
    try simp only [Act.put, List.setIfInBounds_toArray, List.set_cons_zero, List.set_cons_succ]
    refine rg_take 3 (some 106) (v := ?v63) rfl rfl (by kernel_rfl) (by kernel_rfl) (by kernel_rfl) (fun _ _ _ h => h) (by rfl) ?hy63 (by assumption) ?_
    case hy63 => intro W hSW; (try dsimp only at hSW); have z0 := carry hSW hl4 c0; have z1 := carry hSW hl4 c1; have z2 := carry hSW hy4 x4; have z3 := carry hSW hy4 y4; have q0 := Nat.lt_of_lt_of_le hl4 hSW.size; have q1 := Nat.lt_of_lt_of_le hy4 hSW.size; go_simp; (try with_reducible rfl)
    try simp only [Act.put, List.setIfInBounds_toArray, List.set_cons_zero, List.set_cons_succ]
    refine rg_take 4 (some 107) (v := ?v64) rfl rfl (by kernel_rfl) (by kernel_rfl) (by kernel_rfl) (fun _ _ _ h => h) (by rfl) ?hy64 (by assumption) ?_
    case hy64 => intro W hSW; (try dsimp only at hSW); have z0 := carry hSW hl4 c0; have z1 := carry hSW hl4 c1; have z2 := carry hSW hy4 x4; have z3 := carry hSW hy4 y4; have q0 := Nat.lt_of_lt_of_le hl4 hSW.size; have q1 := Nat.lt_of_lt_of_le hy4 hSW.size; go_simp; (try with_reducible rfl)
    try simp only [Act.put, List.setIfInBounds_toArray, List.set_cons_zero, List.set_cons_succ]
    refine rg_take 5 (some 108) (v := ?v65) rfl rfl (by kernel_rfl) (by kernel_rfl) (by kernel_rfl) (fun _ _ _ h => h) (by rfl) ?hy65 (by assumption) ?_
    case hy65 => intro W hSW; (try dsimp only at hSW); have z0 := carry hSW hl4 c0; have z1 := carry hSW hl4 c1; have z2 := carry hSW hy4 x4; have z3 := carry hSW hy4 y4; have q0 := Nat.lt_of_lt_of_le hl4 hSW.size; have q1 := Nat.lt_of_lt_of_le hy4 hSW.size; go_simp; (try with_reducible rfl)
    try simp only [Act.put, List.setIfInBounds_toArray, List.set_cons_zero, List.set_cons_succ]
    refine rg_take 6 (some 109) (v := ?v66) rfl rfl (by kernel_rfl) (by kernel_rfl) (by kernel_rfl) (fun _ _ _ h => h) (by rfl) ?hy66 (by assumption) ?_
    case hy66 => intro W hSW; (try dsimp only at hSW); have z0 := carry hSW hl4 c0; have z1 := carry hSW hl4 c1; have z2 := carry hSW hy4 x4; have z3 := carry hSW hy4 y4; have q0 := Nat.lt_of_lt_of_le hl4 hSW.size; have q1 := Nat.lt_of_lt_of_le hy4 hSW.size; go_simp; (try with_reducible rfl)
    try simp only [Act.put, List.setIfInBounds_toArray, List.set_cons_zero, List.set_cons_succ]
    refine rg_take 7 (some 110) (v := ?v67) rfl rfl (by kernel_rfl) (by kernel_rfl) (by kernel_rfl) (fun _ _ _ h => h) (by rfl) ?hy67 (by assumption) ?_
    case hy67 => intro W hSW; (try dsimp only at hSW); have z0 := carry hSW hl4 c0; have z1 := carry hSW hl4 c1; have z2 := carry hSW hy4 x4; have z3 := carry hSW hy4 y4; have q0 := Nat.lt_of_lt_of_le hl4 hSW.size; have q1 := Nat.lt_of_lt_of_le hy4 hSW.size; go_simp; (try with_reducible rfl)
    try simp only [Act.put, List.setIfInBounds_toArray, List.set_cons_zero, List.set_cons_succ]
    refine rg_take 8 (some 111) (v := ?v68) rfl rfl (by kernel_rfl) (by kernel_rfl) (by kernel_rfl) (fun _ _ _ h => h) (by rfl) ?hy68 (by assumption) ?_
    case hy68 => intro W hSW; (try dsimp only at hSW); have z0 := carry hSW hl4 c0; have z1 := carry hSW hl4 c1; have z2 := carry hSW hy4 x4; have z3 := carry hSW hy4 y4; have q0 := Nat.lt_of_lt_of_le hl4 hSW.size; have q1 := Nat.lt_of_lt_of_le hy4 hSW.size; go_simp; (try with_reducible rfl)
    try simp only [Act.put, List.setIfInBounds_toArray, List.set_cons_zero, List.set_cons_succ]
    refine rg_take 9 (some 112) (v := ?v69) rfl rfl (by kernel_rfl) (by kernel_rfl) (by kernel_rfl) (fun _ _ _ h => h) (by rfl) ?hy69 (by assumption) ?_
    case hy69 => intro W hSW; (try dsimp only at hSW); have z0 := carry hSW hl4 c0; have z1 := carry hSW hl4 c1; have z2 := carry hSW hy4 x4; have z3 := carry hSW hy4 y4; have q0 := Nat.lt_of_lt_of_le hl4 hSW.size; have q1 := Nat.lt_of_lt_of_le hy4 hSW.size; go_simp; (try with_reducible rfl)
    try simp only [Act.put, List.setIfInBounds_toArray, List.set_cons_zero, List.set_cons_succ]
    refine rg_take 10 (some 113) (v := ?v70) rfl rfl (by kernel_rfl) (by kernel_rfl) (by kernel_rfl) (fun _ _ _ h => h) (by rfl) ?hy70 (by assumption) ?_
    case hy70 => intro W hSW; (try dsimp only at hSW); have z0 := carry hSW hl4 c0; have z1 := carry hSW hl4 c1; have z2 := carry hSW hy4 x4; have z3 := carry hSW hy4 y4; have q0 := Nat.lt_of_lt_of_le hl4 hSW.size; have q1 := Nat.lt_of_lt_of_le hy4 hSW.size; go_simp; (try with_reducible rfl)
    try simp only [Act.put, List.setIfInBounds_toArray, List.set_cons_zero, List.set_cons_succ]
    refine rg_take 11 (some 114) (v := ?v71) rfl rfl (by kernel_rfl) (by kernel_rfl) (by kernel_rfl) (fun _ _ _ h => h) (by rfl) ?hy71 (by assumption) ?_
    case hy71 => intro W hSW; (try dsimp only at hSW); have z0 := carry hSW hl4 c0; have z1 := carry hSW hl4 c1; have z2 := carry hSW hy4 x4; have z3 := carry hSW hy4 y4; have q0 := Nat.lt_of_lt_of_le hl4 hSW.size; have q1 := Nat.lt_of_lt_of_le hy4 hSW.size; go_simp; (try with_reducible rfl)
    try simp only [Act.put, List.setIfInBounds_toArray, List.set_cons_zero, List.set_cons_succ]
    refine rg_take 12 (some 115) (v := ?v72) rfl rfl (by kernel_rfl) (by kernel_rfl) (by kernel_rfl) (fun _ _ _ h => h) (by rfl) ?hy72 (by assumption) ?_
    case hy72 => intro W hSW; (try dsimp only at hSW); have z0 := carry hSW hl4 c0; have z1 := carry hSW hl4 c1; have z2 := carry hSW hy4 x4; have z3 := carry hSW hy4 y4; have q0 := Nat.lt_of_lt_of_le hl4 hSW.size; have q1 := Nat.lt_of_lt_of_le hy4 hSW.size; go_simp; (try with_reducible rfl)
    try simp only [Act.put, List.setIfInBounds_toArray, List.set_cons_zero, List.set_cons_succ]
    refine rg_take 13 (some 116) (v := ?v73) rfl rfl (by kernel_rfl) (by kernel_rfl) (by kernel_rfl) (fun _ _ _ h => h) (by rfl) ?hy73 (by assumption) ?_
    case hy73 => intro W hSW; (try dsimp only at hSW); have z0 := carry hSW hl4 c0; have z1 := carry hSW hl4 c1; have z2 := carry hSW hy4 x4; have z3 := carry hSW hy4 y4; have q0 := Nat.lt_of_lt_of_le hl4 hSW.size; have q1 := Nat.lt_of_lt_of_le hy4 hSW.size; go_simp; (try with_reducible rfl)
    try simp only [Act.put, List.setIfInBounds_toArray, List.set_cons_zero, List.set_cons_succ]
    refine rg_take 14 (some 117) (v := ?v74) rfl rfl (by kernel_rfl) (by kernel_rfl) (by kernel_rfl) (fun _ _ _ h => h) (by rfl) ?hy74 (by assumption) ?_
    case hy74 => intro W hSW; (try dsimp only at hSW); have z0 := carry hSW hl4 c0; have z1 := carry hSW hl4 c1; have z2 := carry hSW hy4 x4; have z3 := carry hSW hy4 y4; have q0 := Nat.lt_of_lt_of_le hl4 hSW.size; have q1 := Nat.lt_of_lt_of_le hy4 hSW.size; go_simp; (try with_reducible rfl)
    try simp only [Act.put, List.setIfInBounds_toArray, List.set_cons_zero, List.set_cons_succ]
    refine rg_take 15 (some 4) (v := ?v75) rfl rfl (by kernel_rfl) (by kernel_rfl) (by kernel_rfl) (fun _ _ _ h => h) (by rfl) ?hy75 (by assumption) ?_
    case hy75 => intro W hSW; (try dsimp only at hSW); have z0 := carry hSW hl4 c0; have z1 := carry hSW hl4 c1; have z2 := carry hSW hy4 x4; have z3 := carry hSW hy4 y4; have q0 := Nat.lt_of_lt_of_le hl4 hSW.size; have q1 := Nat.lt_of_lt_of_le hy4 hSW.size; go_simp; (try with_reducible rfl)
    try simp only [Act.put, List.setIfInBounds_toArray, List.set_cons_zero, List.set_cons_succ]
    refine wpAnyH_done (by kernel_rfl) ?_ _
    go_wp2_with fail
    all_goals go_ret
    all_goals exact ⟨rfl, belT hW5.out (by (repeat' (first | with_reducible exact Below.refl _ _ | with_reducible assumption | with_reducible apply Below.setCell | with_reducible apply Below.alloc | with_reducible apply Below.drew | with_reducible apply below_drewN | with_reducible exact Nat.le_refl _ | (simp; done) | (simp; omega) | omega | exact Nat.le_refl _)))⟩
  · go_wp2_with fail
    refine (run_lit V14 (w2.heap.size + 1 + 1 + 1 + 1 + 1 + 1) 5 5 [⟨1, 0, 0, 0, d, 0, 0, 0, 0⟩, ⟨0, 0, 0, 0, 1, 0, 0, 0, 0⟩, ⟨9, 1, 0, 0, 0, 0, 0, 0, 0⟩, ⟨3, 2, 0, 0, 0, 1, 0, 0, 0⟩, ⟨10, 0, 3, 0, 0, 0, 0, 0, 0⟩] 99 5 0 5 0 (by rw [hz.out]; omega) rfl hS5.out (by omega) (v5 hd) (by omega)).mono ?_
    rintro e w3 ⟨rfl, hb3⟩
    have x5 : w3.cell? _ = _ := carry hb3 hy14 x5
    have y5 : w3.cell? _ = _ := carry hb3 hy14 y5
    have hy : w2.heap.size + 1 + 1 + 1 + 1 + 1 + 1 + 1 + 1 + 1 + 1 + 1 + 1 + 1 + 1 < w3.heap.size := Nat.lt_of_lt_of_le hy14 hb3.size
    have hW3 := Lib.hid (belT hWL.out hb3)
    clear q0 hS0 q1 hS1 q2 hS2 q3 hS3 q4 hS4 q5 hS5 q6 hS6 q7 hS7 q8 hS8 q9 hS9 q10 hS10 q11 hS11 x0 y0 x1 y1 x2 y2 x3 y3 x4 y4 x6 y6 x7 y7 x8 y8 x9 y9 x10 y10 x11 y11 hb3 hy13 hy14 hz
    go_wp2_with fail
    obtain ⟨W4, hW4⟩ : ∃ W, w3.alloc (.cells #[.int .i64 5, .int .i64 0] 25) = W := ⟨_, rfl⟩
    rw [hW4]
    have hb4 : Below w3.heap.size w3 W4 := by rw [← hW4]; exact below_alc _ _
    have c0 : W4.cell? ⟨w3.heap.size, 0, none⟩ = some (.int .i64 5) := by rw [← hW4]; simp [go_sem]
    have c1 : W4.cell? ⟨w3.heap.size, 1, none⟩ = some (.int .i64 0) := by rw [← hW4]; simp [go_sem]
    have hl4 : w3.heap.size < W4.heap.size := by rw [← hW4]; simp
    have x5 : W4.cell? _ = _ := carry hb4 hy x5
    have y5 : W4.cell? _ = _ := carry hb4 hy y5
    have hy4 : w2.heap.size + 1 + 1 + 1 + 1 + 1 + 1 + 1 + 1 + 1 + 1 + 1 + 1 + 1 + 1 < W4.heap.size := Nat.lt_of_lt_of_le hy hb4.size
    have hW5 := Lib.hid (belT hW3.out hb4)
    clear hW4 hb4 hy hW3
    refine wp_region_held_drew (S := fun W => Below W4.heap.size W4 W) (by kernel_rfl) ((Below.refl _ _).drew) (fun hHeld => ?_)
    refine rg_take 0 (some 103) (v := ?v76) rfl rfl (by kernel_rfl) (by kernel_rfl) (by kernel_rfl) (fun _ _ _ h => h) (by rfl) ?hy76 (by assumption) ?_
    case hy76 => intro W hSW; (try dsimp only at hSW); have z0 := carry hSW hl4 c0; have z1 := carry hSW hl4 c1; have z2 := carry hSW hy4 x5; have z3 := carry hSW hy4 y5; have q0 := Nat.lt_of_lt_of_le hl4 hSW.size; have q1 := Nat.lt_of_lt_of_le hy4 hSW.size; go_simp; (try with_reducible rfl)
    try simp only [Act.put, List.setIfInBounds_toArray, List.set_cons_zero, List.set_cons_succ]
    refine rg_one 1 rfl (by kernel_rfl) (by rfl) (fun K hK => ?_)
    go_simp
    refine (num_any _ _ (by omega) (by omega)).mono ?_
    rintro e8 w8 ⟨rfl, rfl⟩
    refine hK.out _ _ ((Below.refl _ _).drew) (fun hH1 => ?_)
    clear hK K
    try simp only [Act.put, List.setIfInBounds_toArray, List.set_cons_zero, List.set_cons_succ]
    refine rg_take 2 (some 105) (v := ?v77) rfl rfl (by kernel_rfl) (by kernel_rfl) (by kernel_rfl) (fun _ _ _ h => h) (by rfl) ?hy77 (by assumption) ?_
    case hy77 => intro W hSW; (try dsimp only at hSW); have z0 := carry hSW hl4 c0; have z1 := carry hSW hl4 c1; have z2 := carry hSW hy4 x5; have z3 := carry hSW hy4 y5; have q0 := Nat.lt_of_lt_of_le hl4 hSW.size; have q1 := Nat.lt_of_lt_of_le hy4 hSW.size; go_simp; (try with_reducible rfl)
    try simp only [Act.put, List.setIfInBounds_toArray, List.set_cons_zero, List.set_cons_succ]
    refine rg_take 3 (some 106) (v := ?v78) rfl rfl (by kernel_rfl) (by kernel_rfl) (by kernel_rfl) (fun _ _ _ h => h) (by rfl) ?hy78 (by assumption) ?_
    case hy78 => intro W hSW; (try dsimp only at hSW); have z0 := carry hSW hl4 c0; have z1 := carry hSW hl4 c1; have z2 := carry hSW hy4 x5; have z3 := carry hSW hy4 y5; have q0 := Nat.lt_of_lt_of_le hl4 hSW.size; have q1 := Nat.lt_of_lt_of_le hy4 hSW.size; go_simp; (try with_reducible rfl)
    try simp only [Act.put, List.setIfInBounds_toArray, List.set_cons_zero, List.set_cons_succ]
    refine rg_take 4 (some 107) (v := ?v79) rfl rfl (by kernel_rfl) (by kernel_rfl) (by kernel_rfl) (fun _ _ _ h => h) (by rfl) ?hy79 (by assumption) ?_
    case hy79 => intro W hSW; (try dsimp only at hSW); have z0 := carry hSW hl4 c0; have z1 := carry hSW hl4 c1; have z2 := carry hSW hy4 x5; have z3 := carry hSW hy4 y5; have q0 := Nat.lt_of_lt_of_le hl4 hSW.size; have q1 := Nat.lt_of_lt_of_le hy4 hSW.size; go_simp; (try with_reducible rfl)
    try simp only [Act.put, List.setIfInBounds_toArray, List.set_cons_zero, List.set_cons_succ]
    refine rg_take 5 (some 108) (v := ?v80) rfl rfl (by kernel_rfl) (by kernel_rfl) (by kernel_rfl) (fun _ _ _ h => h) (by rfl) ?hy80 (by assumption) ?_
    case hy80 => intro W hSW; (try dsimp only at hSW); have z0 := carry hSW hl4 c0; have z1 := carry hSW hl4 c1; have z2 := carry hSW hy4 x5; have z3 := carry hSW hy4 y5; have q0 := Nat.lt_of_lt_of_le hl4 hSW.size; have q1 := Nat.lt_of_lt_of_le hy4 hSW.size; go_simp; (try with_reducible rfl)
    try simp only [Act.put, List.setIfInBounds_toArray, List.set_cons_zero, List.set_cons_succ]
    refine rg_take 6 (some 109) (v := ?v81) rfl rfl (by kernel_rfl) (by kernel_rfl) (by kernel_rfl) (fun _ _ _ h => h) (by rfl) ?hy81 (by assumption) ?_
    case hy81 => intro W hSW; (try dsimp only at hSW); have z0 := carry hSW hl4 c0; have z1 := carry hSW hl4 c1; have z2 := carry hSW hy4 x5; have z3 := carry hSW hy4 y5; have q0 := Nat.lt_of_lt_of_le hl4 hSW.size; have q1 := Nat.lt_of_lt_of_le hy4 hSW.size; go_simp; (try with_reducible rfl)
    try simp only [Act.put, List.setIfInBounds_toArray, List.set_cons_zero, List.set_cons_succ]
    refine rg_take 7 (some 110) (v := ?v82) rfl rfl (by kernel_rfl) (by kernel_rfl) (by kernel_rfl) (fun _ _ _ h => h) (by rfl) ?hy82 (by assumption) ?_
    case hy82 => intro W hSW; (try dsimp only at hSW); have z0 := carry hSW hl4 c0; have z1 := carry hSW hl4 c1; have z2 := carry hSW hy4 x5; have z3 := carry hSW hy4 y5; have q0 := Nat.lt_of_lt_of_le hl4 hSW.size; have q1 := Nat.lt_of_lt_of_le hy4 hSW.size; go_simp; (try with_reducible rfl)
    try simp only [Act.put, List.setIfInBounds_toArray, List.set_cons_zero, List.set_cons_succ]
    refine rg_take 8 (some 111) (v := ?v83) rfl rfl (by kernel_rfl) (by kernel_rfl) (by kernel_rfl) (fun _ _ _ h => h) (by rfl) ?hy83 (by assumption) ?_
    case hy83 => intro W hSW; (try dsimp only at hSW); have z0 := carry hSW hl4 c0; have z1 := carry hSW hl4 c1; have z2 := carry hSW hy4 x5; have z3 := carry hSW hy4 y5; have q0 := Nat.lt_of_lt_of_le hl4 hSW.size; have q1 := Nat.lt_of_lt_of_le hy4 hSW.size; go_simp; (try with_reducible rfl)
    try simp only [Act.put, List.setIfInBounds_toArray, List.set_cons_zero, List.set_cons_succ]
    refine rg_take 9 (some 112) (v := ?v84) rfl rfl (by kernel_rfl) (by kernel_rfl) (by kernel_rfl) (fun _ _ _ h => h) (by rfl) ?hy84 (by assumption) ?_
    case hy84 => intro W hSW; (try dsimp only at hSW); have z0 := carry hSW hl4 c0; have z1 := carry hSW hl4 c1; have z2 := carry hSW hy4 x5; have z3 := carry hSW hy4 y5; have q0 := Nat.lt_of_lt_of_le hl4 hSW.size; have q1 := Nat.lt_of_lt_of_le hy4 hSW.size; go_simp; (try with_reducible rfl)
    try simp only [Act.put, List.setIfInBounds_toArray, List.set_cons_zero, List.set_cons_succ]
    refine rg_take 10 (some 113) (v := ?v85) rfl rfl (by kernel_rfl) (by kernel_rfl) (by kernel_rfl) (fun _ _ _ h => h) (by rfl) ?hy85 (by assumption) ?_
    case hy85 => intro W hSW; (try dsimp only at hSW); have z0 := carry hSW hl4 c0; have z1 := carry hSW hl4 c1; have z2 := carry hSW hy4 x5; have z3 := carry hSW hy4 y5; have q0 := Nat.lt_of_lt_of_le hl4 hSW.size; have q1 := Nat.lt_of_lt_of_le hy4 hSW.size; go_simp; (try with_reducible rfl)
    try simp only [Act.put, List.setIfInBounds_toArray, List.set_cons_zero, List.set_cons_succ]
    refine rg_take 11 (some 114) (v := ?v86) rfl rfl (by kernel_rfl) (by kernel_rfl) (by kernel_rfl) (fun _ _ _ h => h) (by rfl) ?hy86 (by assumption) ?_
    case hy86 => intro W hSW; (try dsimp only at hSW); have z0 := carry hSW hl4 c0; have z1 := carry hSW hl4 c1; have z2 := carry hSW hy4 x5; have z3 := carry hSW hy4 y5; have q0 := Nat.lt_of_lt_of_le hl4 hSW.size; have q1 := Nat.lt_of_lt_of_le hy4 hSW.size; go_simp; (try with_reducible rfl)
    try simp only [Act.put, List.setIfInBounds_toArray, List.set_cons_zero, List.set_cons_succ]
    refine rg_take 12 (some 115) (v := ?v87) rfl rfl (by kernel_rfl) (by kernel_rfl) (by kernel_rfl) (fun _ _ _ h => h) (by rfl) ?hy87 (by assumption) ?_
    case hy87 => intro W hSW; (try dsimp only at hSW); have z0 := carry hSW hl4 c0; have z1 := carry hSW hl4 c1; have z2 := carry hSW hy4 x5; have z3 := carry hSW hy4 y5; have q0 := Nat.lt_of_lt_of_le hl4 hSW.size; have q1 := Nat.lt_of_lt_of_le hy4 hSW.size; go_simp; (try with_reducible rfl)
    try simp only [Act.put, List.setIfInBounds_toArray, List.set_cons_zero, List.set_cons_succ]
    refine rg_take 13 (some 116) (v := ?v88) rfl rfl (by kernel_rfl) (by kernel_rfl) (by kernel_rfl) (fun _ _ _ h => h) (by rfl) ?hy88 (by assumption) ?_
    case hy88 => intro W hSW; (try dsimp only at hSW); have z0 := carry hSW hl4 c0; have z1 := carry hSW hl4 c1; have z2 := carry hSW hy4 x5; have z3 := carry hSW hy4 y5; have q0 := Nat.lt_of_lt_of_le hl4 hSW.size; have q1 := Nat.lt_of_lt_of_le hy4 hSW.size; go_simp; (try with_reducible rfl)
    try simp only [Act.put, List.setIfInBounds_toArray, List.set_cons_zero, List.set_cons_succ]
    refine rg_take 14 (some 117) (v := ?v89) rfl rfl (by kernel_rfl) (by kernel_rfl) (by kernel_rfl) (fun _ _ _ h => h) (by rfl) ?hy89 (by assumption) ?_
    case hy89 => intro W hSW; (try dsimp only at hSW); have z0 := carry hSW hl4 c0; have z1 := carry hSW hl4 c1; have z2 := carry hSW hy4 x5; have z3 := carry hSW hy4 y5; have q0 := Nat.lt_of_lt_of_le hl4 hSW.size; have q1 := Nat.lt_of_lt_of_le hy4 hSW.size; go_simp; (try with_reducible rfl)
    try simp only [Act.put, List.setIfInBounds_toArray, List.set_cons_zero, List.set_cons_succ]
    refine rg_take 15 (some 4) (v := ?v90) rfl rfl (by kernel_rfl) (by kernel_rfl) (by kernel_rfl) (fun _ _ _ h => h) (by rfl) ?hy90 (by assumption) ?_
    case hy90 => intro W hSW; (try dsimp only at hSW); have z0 := carry hSW hl4 c0; have z1 := carry hSW hl4 c1; have z2 := carry hSW hy4 x5; have z3 := carry hSW hy4 y5; have q0 := Nat.lt_of_lt_of_le hl4 hSW.size; have q1 := Nat.lt_of_lt_of_le hy4 hSW.size; go_simp; (try with_reducible rfl)
    try simp only [Act.put, List.setIfInBounds_toArray, List.set_cons_zero, List.set_cons_succ]
    refine wpAnyH_done (by kernel_rfl) ?_ _
    go_wp2_with fail
    all_goals go_ret
    all_goals exact ⟨rfl, belT hW5.out (by (repeat' (first | with_reducible exact Below.refl _ _ | with_reducible assumption | with_reducible apply Below.setCell | with_reducible apply Below.alloc | with_reducible apply Below.drew | with_reducible apply below_drewN | with_reducible exact Nat.le_refl _ | (simp; done) | (simp; omega) | omega | exact Nat.le_refl _)))⟩
  · go_wp2_with fail
    refine (run_lit V14 (w2.heap.size + 1 + 1 + 1 + 1 + 1 + 1 + 1) 5 5 [⟨1, 0, 0, 0, d, 0, 0, 0, 0⟩, ⟨9, 0, 0, 0, 0, 0, 0, 0, 0⟩, ⟨0, 0, 0, 0, 7, 0, 0, 0, 0⟩, ⟨9, 2, 0, 0, 0, 0, 0, 0, 0⟩, ⟨6, 1, 3, 0, 0, 7, 0, 0, 0⟩] 99 5 0 8 0 (by rw [hz.out]; omega) rfl hS6.out (by omega) (v6 hd) (by omega)).mono ?_
    rintro e w3 ⟨rfl, hb3⟩
    have x6 : w3.cell? _ = _ := carry hb3 hy14 x6
    have y6 : w3.cell? _ = _ := carry hb3 hy14 y6
    have hy : w2.heap.size + 1 + 1 + 1 + 1 + 1 + 1 + 1 + 1 + 1 + 1 + 1 + 1 + 1 + 1 < w3.heap.size := Nat.lt_of_lt_of_le hy14 hb3.size
    have hW3 := Lib.hid (belT hWL.out hb3)
    clear q0 hS0 q1 hS1 q2 hS2 q3 hS3 q4 hS4 q5 hS5 q6 hS6 q7 hS7 q8 hS8 q9 hS9 q10 hS10 q11 hS11 x0 y0 x1 y1 x2 y2 x3 y3 x4 y4 x5 y5 x7 y7 x8 y8 x9 y9 x10 y10 x11 y11 hb3 hy13 hy14 hz
    go_wp2_with fail
    obtain ⟨W4, hW4⟩ : ∃ W, w3.alloc (.cells #[.int .i64 5, .int .i64 0] 25) = W := ⟨_, rfl⟩
    rw [hW4]
    have hb4 : Below w3.heap.size w3 W4 := by rw [← hW4]; exact below_alc _ _
    have c0 : W4.cell? ⟨w3.heap.size, 0, none⟩ = some (.int .i64 5) := by rw [← hW4]; simp [go_sem]
    have c1 : W4.cell? ⟨w3.heap.size, 1, none⟩ = some (.int .i64 0) := by rw [← hW4]; simp [go_sem]
    have hl4 : w3.heap.size < W4.heap.size := by rw [← hW4]; simp
    have x6 : W4.cell? _ = _ := carry hb4 hy x6
    have y6 : W4.cell? _ = _ := carry hb4 hy y6
    have hy4 : w2.heap.size + 1 + 1 + 1 + 1 + 1 + 1 + 1 + 1 + 1 + 1 + 1 + 1 + 1 + 1 < W4.heap.size := Nat.lt_of_lt_of_le hy hb4.size
    have hW5 := Lib.hid (belT hW3.out hb4)
    clear hW4 hb4 hy hW3
    refine wp_region_held_drew (S := fun W => Below W4.heap.size W4 W) (by kernel_rfl) ((Below.refl _ _).drew) (fun hHeld => ?_)
    refine rg_take 0 (some 103) (v := ?v91) rfl rfl (by kernel_rfl) (by kernel_rfl) (by kernel_rfl) (fun _ _ _ h => h) (by rfl) ?hy91 (by assumption) ?_
    case hy91 => intro W hSW; (try dsimp only at hSW); have z0 := carry hSW hl4 c0; have z1 := carry hSW hl4 c1; have z2 := carry hSW hy4 x6; have z3 := carry hSW hy4 y6; have q0 := Nat.lt_of_lt_of_le hl4 hSW.size; have q1 := Nat.lt_of_lt_of_le hy4 hSW.size; go_simp; (try with_reducible rfl)
    try simp only [Act.put, List.setIfInBounds_toArray, List.set_cons_zero, List.set_cons_succ]
    refine rg_one 1 rfl (by kernel_rfl) (by rfl) (fun K hK => ?_)
    go_simp
    refine (num_any _ _ (by omega) (by omega)).mono ?_
    rintro e8 w8 ⟨rfl, rfl⟩
    refine hK.out _ _ ((Below.refl _ _).drew) (fun hH1 => ?_)
    clear hK K
    try simp only [Act.put, List.setIfInBounds_toArray, List.set_cons_zero, List.set_cons_succ]
    refine rg_take 2 (some 105) (v := ?v92) rfl rfl (by kernel_rfl) (by kernel_rfl) (by kernel_rfl) (fun _ _ _ h => h) (by rfl) ?hy92 (by assumption) ?_
    case hy92 => intro W hSW; (try dsimp only at hSW); have z0 := carry hSW hl4 c0; have z1 := carry hSW hl4 c1; have z2 := carry hSW hy4 x6; have z3 := carry hSW hy4 y6; have q0 := Nat.lt_of_lt_of_le hl4 hSW.size; have q1 := Nat.lt_of_lt_of_le hy4 hSW.size; go_simp; (try with_reducible rfl)
    try simp only [Act.put, List.setIfInBounds_toArray, List.set_cons_zero, List.set_cons_succ]
    refine rg_take 3 (some 106) (v := ?v93) rfl rfl (by kernel_rfl) (by kernel_rfl) (by kernel_rfl) (fun _ _ _ h => h) (by rfl) ?hy93 (by assumption) ?_
    case hy93 => intro W hSW; (try dsimp only at hSW); have z0 := carry hSW hl4 c0; have z1 := carry hSW hl4 c1; have z2 := carry hSW hy4 x6; have z3 := carry hSW hy4 y6; have q0 := Nat.lt_of_lt_of_le hl4 hSW.size; have q1 := Nat.lt_of_lt_of_le hy4 hSW.size; go_simp; (try with_reducible rfl)
    try simp only [Act.put, List.setIfInBounds_toArray, List.set_cons_zero, List.set_cons_succ]
    refine rg_take 4 (some 107) (v := ?v94) rfl rfl (by kernel_rfl) (by kernel_rfl) (by kernel_rfl) (fun _ _ _ h => h) (by rfl) ?hy94 (by assumption) ?_
    case hy94 => intro W hSW; (try dsimp only at hSW); have z0 := carry hSW hl4 c0; have z1 := carry hSW hl4 c1; have z2 := carry hSW hy4 x6; have z3 := carry hSW hy4 y6; have q0 := Nat.lt_of_lt_of_le hl4 hSW.size; have q1 := Nat.lt_of_lt_of_le hy4 hSW.size; go_simp; (try with_reducible rfl)
    try simp only [Act.put, List.setIfInBounds_toArray, List.set_cons_zero, List.set_cons_succ]
    refine rg_take 5 (some 108) (v := ?v95) rfl rfl (by kernel_rfl) (by kernel_rfl) (by kernel_rfl) (fun _ _ _ h => h) (by rfl) ?hy95 (by assumption) ?_
    case hy95 => intro W hSW; (try dsimp only at hSW); have z0 := carry hSW hl4 c0; have z1 := carry hSW hl4 c1; have z2 := carry hSW hy4 x6; have z3 := carry hSW hy4 y6; have q0 := Nat.lt_of_lt_of_le hl4 hSW.size; have q1 := Nat.lt_of_lt_of_le hy4 hSW.size; go_simp; (try with_reducible rfl)
    try simp only [Act.put, List.setIfInBounds_toArray, List.set_cons_zero, List.set_cons_succ]
    refine rg_take 6 (some 109) (v := ?v96) rfl rfl (by kernel_rfl) (by kernel_rfl) (by kernel_rfl) (fun _ _ _ h => h) (by rfl) ?hy96 (by assumption) ?_
    case hy96 => intro W hSW; (try dsimp only at hSW); have z0 := carry hSW hl4 c0; have z1 := carry hSW hl4 c1; have z2 := carry hSW hy4 x6; have z3 := carry hSW hy4 y6; have q0 := Nat.lt_of_lt_of_le hl4 hSW.size; have q1 := Nat.lt_of_lt_of_le hy4 hSW.size; go_simp; (try with_reducible rfl)
    try simp only [Act.put, List.setIfInBounds_toArray, List.set_cons_zero, List.set_cons_succ]
    refine rg_take 7 (some 110) (v := ?v97) rfl rfl (by kernel_rfl) (by kernel_rfl) (by kernel_rfl) (fun _ _ _ h => h) (by rfl) ?hy97 (by assumption) ?_
    case hy97 => intro W hSW; (try dsimp only at hSW); have z0 := carry hSW hl4 c0; have z1 := carry hSW hl4 c1; have z2 := carry hSW hy4 x6; have z3 := carry hSW hy4 y6; have q0 := Nat.lt_of_lt_of_le hl4 hSW.size; have q1 := Nat.lt_of_lt_of_le hy4 hSW.size; go_simp; (try with_reducible rfl)
    try simp only [Act.put, List.setIfInBounds_toArray, List.set_cons_zero, List.set_cons_succ]
    refine rg_take 8 (some 111) (v := ?v98) rfl rfl (by kernel_rfl) (by kernel_rfl) (by kernel_rfl) (fun _ _ _ h => h) (by rfl) ?hy98 (by assumption) ?_
    case hy98 => intro W hSW; (try dsimp only at hSW); have z0 := carry hSW hl4 c0; have z1 := carry hSW hl4 c1; have z2 := carry hSW hy4 x6; have z3 := carry hSW hy4 y6; have q0 := Nat.lt_of_lt_of_le hl4 hSW.size; have q1 := Nat.lt_of_lt_of_le hy4 hSW.size; go_simp; (try with_reducible rfl)
    try simp only [Act.put, List.setIfInBounds_toArray, List.set_cons_zero, List.set_cons_succ]
    refine rg_take 9 (some 112) (v := ?v99) rfl rfl (by kernel_rfl) (by kernel_rfl) (by kernel_rfl) (fun _ _ _ h => h) (by rfl) ?hy99 (by assumption) ?_
    case hy99 => intro W hSW; (try dsimp only at hSW); have z0 := carry hSW hl4 c0; have z1 := carry hSW hl4 c1; have z2 := carry hSW hy4 x6; have z3 := carry hSW hy4 y6; have q0 := Nat.lt_of_lt_of_le hl4 hSW.size; have q1 := Nat.lt_of_lt_of_le hy4 hSW.size; go_simp; (try with_reducible rfl)
    try simp only [Act.put, List.setIfInBounds_toArray, List.set_cons_zero, List.set_cons_succ]
    refine rg_take 10 (some 113) (v := ?v100) rfl rfl (by kernel_rfl) (by kernel_rfl) (by kernel_rfl) (fun _ _ _ h => h) (by rfl) ?hy100 (by assumption) ?_
    case hy100 => intro W hSW; (try dsimp only at hSW); have z0 := carry hSW hl4 c0; have z1 := carry hSW hl4 c1; have z2 := carry hSW hy4 x6; have z3 := carry hSW hy4 y6; have q0 := Nat.lt_of_lt_of_le hl4 hSW.size; have q1 := Nat.lt_of_lt_of_le hy4 hSW.size; go_simp; (try with_reducible rfl)
    try simp only [Act.put, List.setIfInBounds_toArray, List.set_cons_zero, List.set_cons_succ]
    refine rg_take 11 (some 114) (v := ?v101) rfl rfl (by kernel_rfl) (by kernel_rfl) (by kernel_rfl) (fun _ _ _ h => h) (by rfl) ?hy101 (by assumption) ?_
    case hy101 => intro W hSW; (try dsimp only at hSW); have z0 := carry hSW hl4 c0; have z1 := carry hSW hl4 c1; have z2 := carry hSW hy4 x6; have z3 := carry hSW hy4 y6; have q0 := Nat.lt_of_lt_of_le hl4 hSW.size; have q1 := Nat.lt_of_lt_of_le hy4 hSW.size; go_simp; (try with_reducible rfl)
    try simp only [Act.put, List.setIfInBounds_toArray, List.set_cons_zero, List.set_cons_succ]
    refine rg_take 12 (some 115) (v := ?v102) rfl rfl (by kernel_rfl) (by kernel_rfl) (by kernel_rfl) (fun _ _ _ h => h) (by rfl) ?hy102 (by assumption) ?_
    case hy102 => intro W hSW; (try dsimp only at hSW); have z0 := carry hSW hl4 c0; have z1 := carry hSW hl4 c1; have z2 := carry hSW hy4 x6; have z3 := carry hSW hy4 y6; have q0 := Nat.lt_of_lt_of_le hl4 hSW.size; have q1 := Nat.lt_of_lt_of_le hy4 hSW.size; go_simp; (try with_reducible rfl)
    try simp only [Act.put, List.setIfInBounds_toArray, List.set_cons_zero, List.set_cons_succ]
    refine rg_take 13 (some 116) (v := ?v103) rfl rfl (by kernel_rfl) (by kernel_rfl) (by kernel_rfl) (fun _ _ _ h => h) (by rfl) ?hy103 (by assumption) ?_
    case hy103 => intro W hSW; (try dsimp only at hSW); have z0 := carry hSW hl4 c0; have z1 := carry hSW hl4 c1; have z2 := carry hSW hy4 x6; have z3 := carry hSW hy4 y6; have q0 := Nat.lt_of_lt_of_le hl4 hSW.size; have q1 := Nat.lt_of_lt_of_le hy4 hSW.size; go_simp; (try with_reducible rfl)
    try simp only [Act.put, List.setIfInBounds_toArray, List.set_cons_zero, List.set_cons_succ]
    refine rg_take 14 (some 117) (v := ?v104) rfl rfl (by kernel_rfl) (by kernel_rfl) (by kernel_rfl) (fun _ _ _ h => h) (by rfl) ?hy104 (by assumption) ?_
    case hy104 => intro W hSW; (try dsimp only at hSW); have z0 := carry hSW hl4 c0; have z1 := carry hSW hl4 c1; have z2 := carry hSW hy4 x6; have z3 := carry hSW hy4 y6; have q0 := Nat.lt_of_lt_of_le hl4 hSW.size; have q1 := Nat.lt_of_lt_of_le hy4 hSW.size; go_simp; (try with_reducible rfl)
    try simp only [Act.put, List.setIfInBounds_toArray, List.set_cons_zero, List.set_cons_succ]
    refine rg_take 15 (some 4) (v := ?v105) rfl rfl (by kernel_rfl) (by kernel_rfl) (by kernel_rfl) (fun _ _ _ h => h) (by rfl) ?hy105 (by assumption) ?_
    case hy105 => intro W hSW; (try dsimp only at hSW); have z0 := carry hSW hl4 c0; have z1 := carry hSW hl4 c1; have z2 := carry hSW hy4 x6; have z3 := carry hSW hy4 y6; have q0 := Nat.lt_of_lt_of_le hl4 hSW.size; have q1 := Nat.lt_of_lt_of_le hy4 hSW.size; go_simp; (try with_reducible rfl)
    try simp only [Act.put, List.setIfInBounds_toArray, List.set_cons_zero, List.set_cons_succ]
    refine wpAnyH_done (by kernel_rfl) ?_ _
    go_wp2_with fail
    all_goals go_ret
    all_goals exact ⟨rfl, belT hW5.out (by (repeat' (first | with_reducible exact Below.refl _ _ | with_reducible assumption | with_reducible apply Below.setCell | with_reducible apply Below.alloc | with_reducible apply Below.drew | with_reducible apply below_drewN | with_reducible exact Nat.le_refl _ | (simp; done) | (simp; omega) | omega | exact Nat.le_refl _)))⟩
  · go_wp2_with fail
    refine (run_lit V14 (w2.heap.size + 1 + 1 + 1 + 1 + 1 + 1 + 1 + 1) 4 4 [⟨1, 0, 0, 0, d, 0, 0, 0, 0⟩, ⟨2, 0, 0, 0, 1, 0, 0, 0, 0⟩, ⟨8, 0, 1, 0, 0, 0, 0, 0, 0⟩, ⟨9, 2, 0, 0, 0, 0, 0, 0, 0⟩] 99 5 0 6 0 (by rw [hz.out]; omega) rfl hS7.out (by omega) (v7 hd) (by omega)).mono ?_
    rintro e w3 ⟨rfl, hb3⟩
    have x7 : w3.cell? _ = _ := carry hb3 hy14 x7
    have y7 : w3.cell? _ = _ := carry hb3 hy14 y7
    have hy : w2.heap.size + 1 + 1 + 1 + 1 + 1 + 1 + 1 + 1 + 1 + 1 + 1 + 1 + 1 + 1 < w3.heap.size := Nat.lt_of_lt_of_le hy14 hb3.size
    have hW3 := Lib.hid (belT hWL.out hb3)
    clear q0 hS0 q1 hS1 q2 hS2 q3 hS3 q4 hS4 q5 hS5 q6 hS6 q7 hS7 q8 hS8 q9 hS9 q10 hS10 q11 hS11 x0 y0 x1 y1 x2 y2 x3 y3 x4 y4 x5 y5 x6 y6 x8 y8 x9 y9 x10 y10 x11 y11 hb3 hy13 hy14 hz
    go_wp2_with fail
    obtain ⟨W4, hW4⟩ : ∃ W, w3.alloc (.cells #[.int .i64 5, .int .i64 0] 25) = W := ⟨_, rfl⟩
    rw [hW4]
    have hb4 : Below w3.heap.size w3 W4 := by rw [← hW4]; exact below_alc _ _
    have c0 : W4.cell? ⟨w3.heap.size, 0, none⟩ = some (.int .i64 5) := by rw [← hW4]; simp [go_sem]
    have c1 : W4.cell? ⟨w3.heap.size, 1, none⟩ = some (.int .i64 0) := by rw [← hW4]; simp [go_sem]
    have hl4 : w3.heap.size < W4.heap.size := by rw [← hW4]; simp
    have x7 : W4.cell? _ = _ := carry hb4 hy x7
    have y7 : W4.cell? _ = _ := carry hb4 hy y7
    have hy4 : w2.heap.size + 1 + 1 + 1 + 1 + 1 + 1 + 1 + 1 + 1 + 1 + 1 + 1 + 1 + 1 < W4.heap.size := Nat.lt_of_lt_of_le hy hb4.size
    have hW5 := Lib.hid (belT hW3.out hb4)
    clear hW4 hb4 hy hW3
    refine wp_region_held_drew (S := fun W => Below W4.heap.size W4 W) (by kernel_rfl) ((Below.refl _ _).drew) (fun hHeld => ?_)
    refine rg_take 0 (some 103) (v := ?v106) rfl rfl (by kernel_rfl) (by kernel_rfl) (by kernel_rfl) (fun _ _ _ h => h) (by rfl) ?hy106 (by assumption) ?_
    case hy106 => intro W hSW; (try dsimp only at hSW); have z0 := carry hSW hl4 c0; have z1 := carry hSW hl4 c1; have z2 := carry hSW hy4 x7; have z3 := carry hSW hy4 y7; have q0 := Nat.lt_of_lt_of_le hl4 hSW.size; have q1 := Nat.lt_of_lt_of_le hy4 hSW.size; go_simp; (try with_reducible rfl)
    try simp only [Act.put, List.setIfInBounds_toArray, List.set_cons_zero, List.set_cons_succ]
    refine rg_one 1 rfl (by kernel_rfl) (by rfl) (fun K hK => ?_)
    go_simp
    refine (num_any _ _ (by omega) (by omega)).mono ?_
    rintro e8 w8 ⟨rfl, rfl⟩
    refine hK.out _ _ ((Below.refl _ _).drew) (fun hH1 => ?_)
    clear hK K
    try simp only [Act.put, List.setIfInBounds_toArray, List.set_cons_zero, List.set_cons_succ]
    refine rg_take 2 (some 105) (v := ?v107) rfl rfl (by kernel_rfl) (by kernel_rfl) (by kernel_rfl) (fun _ _ _ h => h) (by rfl) ?hy107 (by assumption) ?_
    case hy107 => intro W hSW; (try dsimp only at hSW); have z0 := carry hSW hl4 c0; have z1 := carry hSW hl4 c1; have z2 := carry hSW hy4 x7; have z3 := carry hSW hy4 y7; have q0 := Nat.lt_of_lt_of_le hl4 hSW.size; have q1 := Nat.lt_of_lt_of_le hy4 hSW.size; go_simp; (try with_reducible rfl)
    try simp only [Act.put, List.setIfInBounds_toArray, List.set_cons_zero, List.set_cons_succ]
    refine rg_take 3 (some 106) (v := ?v108) rfl rfl (by kernel_rfl) (by kernel_rfl) (by kernel_rfl) (fun _ _ _ h => h) (by rfl) ?hy108 (by assumption) ?_
    case hy108 => intro W hSW; (try dsimp only at hSW); have z0 := carry hSW hl4 c0; have z1 := carry hSW hl4 c1; have z2 := carry hSW hy4 x7; have z3 := carry hSW hy4 y7; have q0 := Nat.lt_of_lt_of_le hl4 hSW.size; have q1 := Nat.lt_of_lt_of_le hy4 hSW.size; go_simp; (try with_reducible rfl)
    try simp only [Act.put, List.setIfInBounds_toArray, List.set_cons_zero, List.set_cons_succ]
    refine rg_take 4 (some 107) (v := ?v109) rfl rfl (by kernel_rfl) (by kernel_rfl) (by kernel_rfl) (fun _ _ _ h => h) (by rfl) ?hy109 (by assumption) ?_
    case hy109 => intro W hSW; (try dsimp only at hSW); have z0 := carry hSW hl4 c0; have z1 := carry hSW hl4 c1; have z2 := carry hSW hy4 x7; have z3 := carry hSW hy4 y7; have q0 := Nat.lt_of_lt_of_le hl4 hSW.size; have q1 := Nat.lt_of_lt_of_le hy4 hSW.size; go_simp; (try with_reducible rfl)
    try simp only [Act.put, List.setIfInBounds_toArray, List.set_cons_zero, List.set_cons_succ]
    refine rg_take 5 (some 108) (v := ?v110) rfl rfl (by kernel_rfl) (by kernel_rfl) (by kernel_rfl) (fun _ _ _ h => h) (by rfl) ?hy110 (by assumption) ?_
    case hy110 => intro W hSW; (try dsimp only at hSW); have z0 := carry hSW hl4 c0; have z1 := carry hSW hl4 c1; have z2 := carry hSW hy4 x7; have z3 := carry hSW hy4 y7; have q0 := Nat.lt_of_lt_of_le hl4 hSW.size; have q1 := Nat.lt_of_lt_of_le hy4 hSW.size; go_simp; (try with_reducible rfl)
    try simp only [Act.put, List.setIfInBounds_toArray, List.set_cons_zero, List.set_cons_succ]
    refine rg_take 6 (some 109) (v := ?v111) rfl rfl (by kernel_rfl) (by kernel_rfl) (by kernel_rfl) (fun _ _ _ h => h) (by rfl) ?hy111 (by assumption) ?_
    case hy111 => intro W hSW; (try dsimp only at hSW); have z0 := carry hSW hl4 c0; have z1 := carry hSW hl4 c1; have z2 := carry hSW hy4 x7; have z3 := carry hSW hy4 y7; have q0 := Nat.lt_of_lt_of_le hl4 hSW.size; have q1 := Nat.lt_of_lt_of_le hy4 hSW.size; go_simp; (try with_reducible rfl)
    try simp only [Act.put, List.setIfInBounds_toArray, List.set_cons_zero, List.set_cons_succ]
    refine rg_take 7 (some 110) (v := ?v112) rfl rfl (by kernel_rfl) (by kernel_rfl) (by kernel_rfl) (fun _ _ _ h => h) (by rfl) ?hy112 (by assumption) ?_
    case hy112 => intro W hSW; (try dsimp only at hSW); have z0 := carry hSW hl4 c0; have z1 := carry hSW hl4 c1; have z2 := carry hSW hy4 x7; have z3 := carry hSW hy4 y7; have q0 := Nat.lt_of_lt_of_le hl4 hSW.size; have q1 := Nat.lt_of_lt_of_le hy4 hSW.size; go_simp; (try with_reducible rfl)
    try simp only [Act.put, List.setIfInBounds_toArray, List.set_cons_zero, List.set_cons_succ]
    refine rg_take 8 (some 111) (v := ?v113) rfl rfl (by kernel_rfl) (by kernel_rfl) (by kernel_rfl) (fun _ _ _ h => h) (by rfl) ?hy113 (by assumption) ?_
    case hy113 => intro W hSW; (try dsimp only at hSW); have z0 := carry hSW hl4 c0; have z1 := carry hSW hl4 c1; have z2 := carry hSW hy4 x7; have z3 := carry hSW hy4 y7; have q0 := Nat.lt_of_lt_of_le hl4 hSW.size; have q1 := Nat.lt_of_lt_of_le hy4 hSW.size; go_simp; (try with_reducible rfl)
    try simp only [Act.put, List.setIfInBounds_toArray, List.set_cons_zero, List.set_cons_succ]
    refine rg_take 9 (some 112) (v := ?v114) rfl rfl (by kernel_rfl) (by kernel_rfl) (by kernel_rfl) (fun _ _ _ h => h) (by rfl) ?hy114 (by assumption) ?_
    case hy114 => intro W hSW; (try dsimp only at hSW); have z0 := carry hSW hl4 c0; have z1 := carry hSW hl4 c1; have z2 := carry hSW hy4 x7; have z3 := carry hSW hy4 y7; have q0 := Nat.lt_of_lt_of_le hl4 hSW.size; have q1 := Nat.lt_of_lt_of_le hy4 hSW.size; go_simp; (try with_reducible rfl)
    try simp only [Act.put, List.setIfInBounds_toArray, List.set_cons_zero, List.set_cons_succ]
    refine rg_take 10 (some 113) (v := ?v115) rfl rfl (by kernel_rfl) (by kernel_rfl) (by kernel_rfl) (fun _ _ _ h => h) (by rfl) ?hy115 (by assumption) ?_
    case hy115 => intro W hSW; (try dsimp only at hSW); have z0 := carry hSW hl4 c0; have z1 := carry hSW hl4 c1; have z2 := carry hSW hy4 x7; have z3 := carry hSW hy4 y7; have q0 := Nat.lt_of_lt_of_le hl4 hSW.size; have q1 := Nat.lt_of_lt_of_le hy4 hSW.size; go_simp; (try with_reducible rfl)
    try simp only [Act.put, List.setIfInBounds_toArray, List.set_cons_zero, List.set_cons_succ]
    refine rg_take 11 (some 114) (v := ?v116) rfl rfl (by kernel_rfl) (by kernel_rfl) (by kernel_rfl) (fun _ _ _ h => h) (by rfl) ?hy116 (by assumption) ?_
    case hy116 => intro W hSW; (try dsimp only at hSW); have z0 := carry hSW hl4 c0; have z1 := carry hSW hl4 c1; have z2 := carry hSW hy4 x7; have z3 := carry hSW hy4 y7; have q0 := Nat.lt_of_lt_of_le hl4 hSW.size; have q1 := Nat.lt_of_lt_of_le hy4 hSW.size; go_simp; (try with_reducible rfl)
    try simp only [Act.put, List.setIfInBounds_toArray, List.set_cons_zero, List.set_cons_succ]
    refine rg_take 12 (some 115) (v := ?v117) rfl rfl (by kernel_rfl) (by kernel_rfl) (by kernel_rfl) (fun _ _ _ h => h) (by rfl) ?hy117 (by assumption) ?_
    case hy117 => intro W hSW; (try dsimp only at hSW); have z0 := carry hSW hl4 c0; have z1 := carry hSW hl4 c1; have z2 := carry hSW hy4 x7; have z3 := carry hSW hy4 y7; have q0 := Nat.lt_of_lt_of_le hl4 hSW.size; have q1 := Nat.lt_of_lt_of_le hy4 hSW.size; go_simp; (try with_reducible rfl)
    try simp only [Act.put, List.setIfInBounds_toArray, List.set_cons_zero, List.set_cons_succ]
    refine rg_take 13 (some 116) (v := ?v118) rfl rfl (by kernel_rfl) (by kernel_rfl) (by kernel_rfl) (fun _ _ _ h => h) (by rfl) ?hy118 (by assumption) ?_
    case hy118 => intro W hSW; (try dsimp only at hSW); have z0 := carry hSW hl4 c0; have z1 := carry hSW hl4 c1; have z2 := carry hSW hy4 x7; have z3 := carry hSW hy4 y7; have q0 := Nat.lt_of_lt_of_le hl4 hSW.size; have q1 := Nat.lt_of_lt_of_le hy4 hSW.size; go_simp; (try with_reducible rfl)
    try simp only [Act.put, List.setIfInBounds_toArray, List.set_cons_zero, List.set_cons_succ]
    refine rg_take 14 (some 117) (v := ?v119) rfl rfl (by kernel_rfl) (by kernel_rfl) (by kernel_rfl) (fun _ _ _ h => h) (by rfl) ?hy119 (by assumption) ?_
    case hy119 => intro W hSW; (try dsimp only at hSW); have z0 := carry hSW hl4 c0; have z1 := carry hSW hl4 c1; have z2 := carry hSW hy4 x7; have z3 := carry hSW hy4 y7; have q0 := Nat.lt_of_lt_of_le hl4 hSW.size; have q1 := Nat.lt_of_lt_of_le hy4 hSW.size; go_simp; (try with_reducible rfl)
    try simp only [Act.put, List.setIfInBounds_toArray, List.set_cons_zero, List.set_cons_succ]
    refine rg_take 15 (some 4) (v := ?v120) rfl rfl (by kernel_rfl) (by kernel_rfl) (by kernel_rfl) (fun _ _ _ h => h) (by rfl) ?hy120 (by assumption) ?_
    case hy120 => intro W hSW; (try dsimp only at hSW); have z0 := carry hSW hl4 c0; have z1 := carry hSW hl4 c1; have z2 := carry hSW hy4 x7; have z3 := carry hSW hy4 y7; have q0 := Nat.lt_of_lt_of_le hl4 hSW.size; have q1 := Nat.lt_of_lt_of_le hy4 hSW.size; go_simp; (try with_reducible rfl)
    try simp only [Act.put, List.setIfInBounds_toArray, List.set_cons_zero, List.set_cons_succ]
    refine wpAnyH_done (by kernel_rfl) ?_ _
    go_wp2_with fail
    all_goals go_ret
    all_goals exact ⟨rfl, belT hW5.out (by (repeat' (first | with_reducible exact Below.refl _ _ | with_reducible assumption | with_reducible apply Below.setCell | with_reducible apply Below.alloc | with_reducible apply Below.drew | with_reducible apply below_drewN | with_reducible exact Nat.le_refl _ | (simp; done) | (simp; omega) | omega | exact Nat.le_refl _)))⟩
  · go_wp2_with fail
    refine (run_lit V14 (w2.heap.size + 1 + 1 + 1 + 1 + 1 + 1 + 1 + 1 + 1) 5 5 [⟨2, 0, 0, 0, 1, 0, 0, 0, 0⟩, ⟨1, 0, 0, 0, d, 0, 0, 0, 0⟩, ⟨1, 0, 0, 0, d, 0, 0, 0, 0⟩, ⟨7, 0, 1, 2, 0, 0, 0, 0, 0⟩, ⟨9, 3, 0, 0, 0, 0, 0, 0, 0⟩] 99 0 d 6 0 (by rw [hz.out]; omega) rfl hS8.out (by omega) (v8 hd) (by omega)).mono ?_
    rintro e w3 ⟨rfl, hb3⟩
    have x8 : w3.cell? _ = _ := carry hb3 hy14 x8
    have y8 : w3.cell? _ = _ := carry hb3 hy14 y8
    have hy : w2.heap.size + 1 + 1 + 1 + 1 + 1 + 1 + 1 + 1 + 1 + 1 + 1 + 1 + 1 + 1 < w3.heap.size := Nat.lt_of_lt_of_le hy14 hb3.size
    have hW3 := Lib.hid (belT hWL.out hb3)
    clear q0 hS0 q1 hS1 q2 hS2 q3 hS3 q4 hS4 q5 hS5 q6 hS6 q7 hS7 q8 hS8 q9 hS9 q10 hS10 q11 hS11 x0 y0 x1 y1 x2 y2 x3 y3 x4 y4 x5 y5 x6 y6 x7 y7 x9 y9 x10 y10 x11 y11 hb3 hy13 hy14 hz
    go_wp2_with fail
    obtain ⟨W4, hW4⟩ : ∃ W, w3.alloc (.cells #[.int .i64 0, .int .i64 d] 25) = W := ⟨_, rfl⟩
    rw [hW4]
    have hb4 : Below w3.heap.size w3 W4 := by rw [← hW4]; exact below_alc _ _
    have c0 : W4.cell? ⟨w3.heap.size, 0, none⟩ = some (.int .i64 0) := by rw [← hW4]; simp [go_sem]
    have c1 : W4.cell? ⟨w3.heap.size, 1, none⟩ = some (.int .i64 d) := by rw [← hW4]; simp [go_sem]
    have hl4 : w3.heap.size < W4.heap.size := by rw [← hW4]; simp
    have x8 : W4.cell? _ = _ := carry hb4 hy x8
    have y8 : W4.cell? _ = _ := carry hb4 hy y8
    have hy4 : w2.heap.size + 1 + 1 + 1 + 1 + 1 + 1 + 1 + 1 + 1 + 1 + 1 + 1 + 1 + 1 < W4.heap.size := Nat.lt_of_lt_of_le hy hb4.size
    have hW5 := Lib.hid (belT hW3.out hb4)
    clear hW4 hb4 hy hW3
    refine wp_region_held_drew (S := fun W => Below W4.heap.size W4 W) (by kernel_rfl) ((Below.refl _ _).drew) (fun hHeld => ?_)
    refine rg_take 0 (some 103) (v := ?v121) rfl rfl (by kernel_rfl) (by kernel_rfl) (by kernel_rfl) (fun _ _ _ h => h) (by rfl) ?hy121 (by assumption) ?_
    case hy121 => intro W hSW; (try dsimp only at hSW); have z0 := carry hSW hl4 c0; have z1 := carry hSW hl4 c1; have z2 := carry hSW hy4 x8; have z3 := carry hSW hy4 y8; have q0 := Nat.lt_of_lt_of_le hl4 hSW.size; have q1 := Nat.lt_of_lt_of_le hy4 hSW.size; go_simp; (try with_reducible rfl)
    try simp only [Act.put, List.setIfInBounds_toArray, List.set_cons_zero, List.set_cons_succ]
    refine rg_one 1 rfl (by kernel_rfl) (by rfl) (fun K hK => ?_)
    go_simp
    refine (num_any _ _ (by omega) (by omega)).mono ?_
    rintro e8 w8 ⟨rfl, rfl⟩
    refine hK.out _ _ ((Below.refl _ _).drew) (fun hH1 => ?_)
    clear hK K
    try simp only [Act.put, List.setIfInBounds_toArray, List.set_cons_zero, List.set_cons_succ]
    refine rg_take 2 (some 105) (v := ?v122) rfl rfl (by kernel_rfl) (by kernel_rfl) (by kernel_rfl) (fun _ _ _ h => h) (by rfl) ?hy122 (by assumption) ?_
    case hy122 => intro W hSW; (try dsimp only at hSW); have z0 := carry hSW hl4 c0; have z1 := carry hSW hl4 c1; have z2 := carry hSW hy4 x8; have z3 := carry hSW hy4 y8; have q0 := Nat.lt_of_lt_of_le hl4 hSW.size; have q1 := Nat.lt_of_lt_of_le hy4 hSW.size; go_simp; (try with_reducible rfl)
    try simp only [Act.put, List.setIfInBounds_toArray, List.set_cons_zero, List.set_cons_succ]
    refine rg_take 3 (some 106) (v := ?v123) rfl rfl (by kernel_rfl) (by kernel_rfl) (by kernel_rfl) (fun _ _ _ h => h) (by rfl) ?hy123 (by assumption) ?_
    case hy123 => intro W hSW; (try dsimp only at hSW); have z0 := carry hSW hl4 c0; have z1 := carry hSW hl4 c1; have z2 := carry hSW hy4 x8; have z3 := carry hSW hy4 y8; have q0 := Nat.lt_of_lt_of_le hl4 hSW.size; have q1 := Nat.lt_of_lt_of_le hy4 hSW.size; go_simp; (try with_reducible rfl)
    try simp only [Act.put, List.setIfInBounds_toArray, List.set_cons_zero, List.set_cons_succ]
    refine rg_take 4 (some 107) (v := ?v124) rfl rfl (by kernel_rfl) (by kernel_rfl) (by kernel_rfl) (fun _ _ _ h => h) (by rfl) ?hy124 (by assumption) ?_
    case hy124 => intro W hSW; (try dsimp only at hSW); have z0 := carry hSW hl4 c0; have z1 := carry hSW hl4 c1; have z2 := carry hSW hy4 x8; have z3 := carry hSW hy4 y8; have q0 := Nat.lt_of_lt_of_le hl4 hSW.size; have q1 := Nat.lt_of_lt_of_le hy4 hSW.size; go_simp; (try with_reducible rfl)
    try simp only [Act.put, List.setIfInBounds_toArray, List.set_cons_zero, List.set_cons_succ]
    refine rg_take 5 (some 108) (v := ?v125) rfl rfl (by kernel_rfl) (by kernel_rfl) (by kernel_rfl) (fun _ _ _ h => h) (by rfl) ?hy125 (by assumption) ?_
    case hy125 => intro W hSW; (try dsimp only at hSW); have z0 := carry hSW hl4 c0; have z1 := carry hSW hl4 c1; have z2 := carry hSW hy4 x8; have z3 := carry hSW hy4 y8; have q0 := Nat.lt_of_lt_of_le hl4 hSW.size; have q1 := Nat.lt_of_lt_of_le hy4 hSW.size; go_simp; (try with_reducible rfl)
    try simp only [Act.put, List.setIfInBounds_toArray, List.set_cons_zero, List.set_cons_succ]
    refine rg_take 6 (some 109) (v := ?v126) rfl rfl (by kernel_rfl) (by kernel_rfl) (by kernel_rfl) (fun _ _ _ h => h) (by rfl) ?hy126 (by assumption) ?_
    case hy126 => intro W hSW; (try dsimp only at hSW); have z0 := carry hSW hl4 c0; have z1 := carry hSW hl4 c1; have z2 := carry hSW hy4 x8; have z3 := carry hSW hy4 y8; have q0 := Nat.lt_of_lt_of_le hl4 hSW.size; have q1 := Nat.lt_of_lt_of_le hy4 hSW.size; go_simp; (try with_reducible rfl)
    try simp only [Act.put, List.setIfInBounds_toArray, List.set_cons_zero, List.set_cons_succ]
    refine rg_take 7 (some 110) (v := ?v127) rfl rfl (by kernel_rfl) (by kernel_rfl) (by kernel_rfl) (fun _ _ _ h => h) (by rfl) ?hy127 (by assumption) ?_
    case hy127 => intro W hSW; (try dsimp only at hSW); have z0 := carry hSW hl4 c0; have z1 := carry hSW hl4 c1; have z2 := carry hSW hy4 x8; have z3 := carry hSW hy4 y8; have q0 := Nat.lt_of_lt_of_le hl4 hSW.size; have q1 := Nat.lt_of_lt_of_le hy4 hSW.size; go_simp; (try with_reducible rfl)
    try simp only [Act.put, List.setIfInBounds_toArray, List.set_cons_zero, List.set_cons_succ]
    refine rg_take 8 (some 111) (v := ?v128) rfl rfl (by kernel_rfl) (by kernel_rfl) (by kernel_rfl) (fun _ _ _ h => h) (by rfl) ?hy128 (by assumption) ?_
    case hy128 => intro W hSW; (try dsimp only at hSW); have z0 := carry hSW hl4 c0; have z1 := carry hSW hl4 c1; have z2 := carry hSW hy4 x8; have z3 := carry hSW hy4 y8; have q0 := Nat.lt_of_lt_of_le hl4 hSW.size; have q1 := Nat.lt_of_lt_of_le hy4 hSW.size; go_simp; (try with_reducible rfl)
    try simp only [Act.put, List.setIfInBounds_toArray, List.set_cons_zero, List.set_cons_succ]
    refine rg_take 9 (some 112) (v := ?v129) rfl rfl (by kernel_rfl) (by kernel_rfl) (by kernel_rfl) (fun _ _ _ h => h) (by rfl) ?hy129 (by assumption) ?_
    case hy129 => intro W hSW; (try dsimp only at hSW); have z0 := carry hSW hl4 c0; have z1 := carry hSW hl4 c1; have z2 := carry hSW hy4 x8; have z3 := carry hSW hy4 y8; have q0 := Nat.lt_of_lt_of_le hl4 hSW.size; have q1 := Nat.lt_of_lt_of_le hy4 hSW.size; go_simp; (try with_reducible rfl)
    try simp only [Act.put, List.setIfInBounds_toArray, List.set_cons_zero, List.set_cons_succ]
    refine rg_take 10 (some 113) (v := ?v130) rfl rfl (by kernel_rfl) (by kernel_rfl) (by kernel_rfl) (fun _ _ _ h => h) (by rfl) ?hy130 (by assumption) ?_
    case hy130 => intro W hSW; (try dsimp only at hSW); have z0 := carry hSW hl4 c0; have z1 := carry hSW hl4 c1; have z2 := carry hSW hy4 x8; have z3 := carry hSW hy4 y8; have q0 := Nat.lt_of_lt_of_le hl4 hSW.size; have q1 := Nat.lt_of_lt_of_le hy4 hSW.size; go_simp; (try with_reducible rfl)
    try simp only [Act.put, List.setIfInBounds_toArray, List.set_cons_zero, List.set_cons_succ]
    refine rg_take 11 (some 114) (v := ?v131) rfl rfl (by kernel_rfl) (by kernel_rfl) (by kernel_rfl) (fun _ _ _ h => h) (by rfl) ?hy131 (by assumption) ?_
    case hy131 => intro W hSW; (try dsimp only at hSW); have z0 := carry hSW hl4 c0; have z1 := carry hSW hl4 c1; have z2 := carry hSW hy4 x8; have z3 := carry hSW hy4 y8; have q0 := Nat.lt_of_lt_of_le hl4 hSW.size; have q1 := Nat.lt_of_lt_of_le hy4 hSW.size; go_simp; (try with_reducible rfl)
    try simp only [Act.put, List.setIfInBounds_toArray, List.set_cons_zero, List.set_cons_succ]
    refine rg_take 12 (some 115) (v := ?v132) rfl rfl (by kernel_rfl) (by kernel_rfl) (by kernel_rfl) (fun _ _ _ h => h) (by rfl) ?hy132 (by assumption) ?_
    case hy132 => intro W hSW; (try dsimp only at hSW); have z0 := carry hSW hl4 c0; have z1 := carry hSW hl4 c1; have z2 := carry hSW hy4 x8; have z3 := carry hSW hy4 y8; have q0 := Nat.lt_of_lt_of_le hl4 hSW.size; have q1 := Nat.lt_of_lt_of_le hy4 hSW.size; go_simp; (try with_reducible rfl)
    try simp only [Act.put, List.setIfInBounds_toArray, List.set_cons_zero, List.set_cons_succ]
    refine rg_take 13 (some 116) (v := ?v133) rfl rfl (by kernel_rfl) (by kernel_rfl) (by kernel_rfl) (fun _ _ _ h => h) (by rfl) ?hy133 (by assumption) ?_
    case hy133 => intro W hSW; (try dsimp only at hSW); have z0 := carry hSW hl4 c0; have z1 := carry hSW hl4 c1; have z2 := carry hSW hy4 x8; have z3 := carry hSW hy4 y8; have q0 := Nat.lt_of_lt_of_le hl4 hSW.size; have q1 := Nat.lt_of_lt_of_le hy4 hSW.size; go_simp; (try with_reducible rfl)
    try simp only [Act.put, List.setIfInBounds_toArray, List.set_cons_zero, List.set_cons_succ]
    refine rg_take 14 (some 117) (v := ?v134) rfl rfl (by kernel_rfl) (by kernel_rfl) (by kernel_rfl) (fun _ _ _ h => h) (by rfl) ?hy134 (by assumption) ?_
    case hy134 => intro W hSW; (try dsimp only at hSW); have z0 := carry hSW hl4 c0; have z1 := carry hSW hl4 c1; have z2 := carry hSW hy4 x8; have z3 := carry hSW hy4 y8; have q0 := Nat.lt_of_lt_of_le hl4 hSW.size; have q1 := Nat.lt_of_lt_of_le hy4 hSW.size; go_simp; (try with_reducible rfl)
    try simp only [Act.put, List.setIfInBounds_toArray, List.set_cons_zero, List.set_cons_succ]
    refine rg_take 15 (some 4) (v := ?v135) rfl rfl (by kernel_rfl) (by kernel_rfl) (by kernel_rfl) (fun _ _ _ h => h) (by rfl) ?hy135 (by assumption) ?_
    case hy135 => intro W hSW; (try dsimp only at hSW); have z0 := carry hSW hl4 c0; have z1 := carry hSW hl4 c1; have z2 := carry hSW hy4 x8; have z3 := carry hSW hy4 y8; have q0 := Nat.lt_of_lt_of_le hl4 hSW.size; have q1 := Nat.lt_of_lt_of_le hy4 hSW.size; go_simp; (try with_reducible rfl)
    try simp only [Act.put, List.setIfInBounds_toArray, List.set_cons_zero, List.set_cons_succ]
    refine wpAnyH_done (by kernel_rfl) ?_ _
    go_wp2_with fail
    all_goals go_ret
    all_goals exact ⟨rfl, belT hW5.out (by (repeat' (first | with_reducible exact Below.refl _ _ | with_reducible assumption | with_reducible apply Below.setCell | with_reducible apply Below.alloc | with_reducible apply Below.drew | with_reducible apply below_drewN | with_reducible exact Nat.le_refl _ | (simp; done) | (simp; omega) | omega | exact Nat.le_refl _)))⟩
  · go_wp2_with fail
    refine (run_lit V14 (w2.heap.size + 1 + 1 + 1 + 1 + 1 + 1 + 1 + 1 + 1 + 1) 4 4 [⟨1, 0, 0, 0, d, 0, 0, 0, 0⟩, ⟨1, 0, 0, 0, d, 0, 0, 0, 0⟩, ⟨8, 0, 1, 0, 1, 0, 0, 0, 0⟩, ⟨9, 2, 0, 0, 0, 0, 0, 0, 0⟩] 99 0 0 7 0 (by rw [hz.out]; omega) rfl hS9.out (by omega) (v9 hd) (by omega)).mono ?_
    rintro e w3 ⟨rfl, hb3⟩
    have x9 : w3.cell? _ = _ := carry hb3 hy14 x9
    have y9 : w3.cell? _ = _ := carry hb3 hy14 y9
    have hy : w2.heap.size + 1 + 1 + 1 + 1 + 1 + 1 + 1 + 1 + 1 + 1 + 1 + 1 + 1 + 1 < w3.heap.size := Nat.lt_of_lt_of_le hy14 hb3.size
    have hW3 := Lib.hid (belT hWL.out hb3)
    clear q0 hS0 q1 hS1 q2 hS2 q3 hS3 q4 hS4 q5 hS5 q6 hS6 q7 hS7 q8 hS8 q9 hS9 q10 hS10 q11 hS11 x0 y0 x1 y1 x2 y2 x3 y3 x4 y4 x5 y5 x6 y6 x7 y7 x8 y8 x10 y10 x11 y11 hb3 hy13 hy14 hz
    go_wp2_with fail
    obtain ⟨W4, hW4⟩ : ∃ W, w3.alloc (.cells #[.int .i64 0, .int .i64 0] 25) = W := ⟨_, rfl⟩
    rw [hW4]
    have hb4 : Below w3.heap.size w3 W4 := by rw [← hW4]; exact below_alc _ _
    have c0 : W4.cell? ⟨w3.heap.size, 0, none⟩ = some (.int .i64 0) := by rw [← hW4]; simp [go_sem]
    have c1 : W4.cell? ⟨w3.heap.size, 1, none⟩ = some (.int .i64 0) := by rw [← hW4]; simp [go_sem]
    have hl4 : w3.heap.size < W4.heap.size := by rw [← hW4]; simp
    have x9 : W4.cell? _ = _ := carry hb4 hy x9
    have y9 : W4.cell? _ = _ := carry hb4 hy y9
    have hy4 : w2.heap.size + 1 + 1 + 1 + 1 + 1 + 1 + 1 + 1 + 1 + 1 + 1 + 1 + 1 + 1 < W4.heap.size := Nat.lt_of_lt_of_le hy hb4.size
    have hW5 := Lib.hid (belT hW3.out hb4)
    clear hW4 hb4 hy hW3
    refine wp_region_held_drew (S := fun W => Below W4.heap.size W4 W) (by kernel_rfl) ((Below.refl _ _).drew) (fun hHeld => ?_)
    refine rg_take 0 (some 103) (v := ?v136) rfl rfl (by kernel_rfl) (by kernel_rfl) (by kernel_rfl) (fun _ _ _ h => h) (by rfl) ?hy136 (by assumption) ?_
    case hy136 => intro W hSW; (try dsimp only at hSW); have z0 := carry hSW hl4 c0; have z1 := carry hSW hl4 c1; have z2 := carry hSW hy4 x9; have z3 := carry hSW hy4 y9; have q0 := Nat.lt_of_lt_of_le hl4 hSW.size; have q1 := Nat.lt_of_lt_of_le hy4 hSW.size; go_simp; (try with_reducible rfl)
    try simp only [Act.put, List.setIfInBounds_toArray, List.set_cons_zero, List.set_cons_succ]
    refine rg_one 1 rfl (by kernel_rfl) (by rfl) (fun K hK => ?_)
    go_simp
    refine (num_any _ _ (by omega) (by omega)).mono ?_
    rintro e8 w8 ⟨rfl, rfl⟩
    refine hK.out _ _ ((Below.refl _ _).drew) (fun hH1 => ?_)
    clear hK K
    try simp only [Act.put, List.setIfInBounds_toArray, List.set_cons_zero, List.set_cons_succ]
    refine rg_take 2 (some 105) (v := ?v137) rfl rfl (by kernel_rfl) (by kernel_rfl) (by kernel_rfl) (fun _ _ _ h => h) (by rfl) ?hy137 (by assumption) ?_
    case hy137 => intro W hSW; (try dsimp only at hSW); have z0 := carry hSW hl4 c0; have z1 := carry hSW hl4 c1; have z2 := carry hSW hy4 x9; have z3 := carry hSW hy4 y9; have q0 := Nat.lt_of_lt_of_le hl4 hSW.size; have q1 := Nat.lt_of_lt_of_le hy4 hSW.size; go_simp; (try with_reducible rfl)
    try simp only [Act.put, List.setIfInBounds_toArray, List.set_cons_zero, List.set_cons_succ]
    refine rg_take 3 (some 106) (v := ?v138) rfl rfl (by kernel_rfl) (by kernel_rfl) (by kernel_rfl) (fun _ _ _ h => h) (by rfl) ?hy138 (by assumption) ?_
    case hy138 => intro W hSW; (try dsimp only at hSW); have z0 := carry hSW hl4 c0; have z1 := carry hSW hl4 c1; have z2 := carry hSW hy4 x9; have z3 := carry hSW hy4 y9; have q0 := Nat.lt_of_lt_of_le hl4 hSW.size; have q1 := Nat.lt_of_lt_of_le hy4 hSW.size; go_simp; (try with_reducible rfl)
    try simp only [Act.put, List.setIfInBounds_toArray, List.set_cons_zero, List.set_cons_succ]
    refine rg_take 4 (some 107) (v := ?v139) rfl rfl (by kernel_rfl) (by kernel_rfl) (by kernel_rfl) (fun _ _ _ h => h) (by rfl) ?hy139 (by assumption) ?_
    case hy139 => intro W hSW; (try dsimp only at hSW); have z0 := carry hSW hl4 c0; have z1 := carry hSW hl4 c1; have z2 := carry hSW hy4 x9; have z3 := carry hSW hy4 y9; have q0 := Nat.lt_of_lt_of_le hl4 hSW.size; have q1 := Nat.lt_of_lt_of_le hy4 hSW.size; go_simp; (try with_reducible rfl)
    try simp only [Act.put, List.setIfInBounds_toArray, List.set_cons_zero, List.set_cons_succ]
    refine rg_take 5 (some 108) (v := ?v140) rfl rfl (by kernel_rfl) (by kernel_rfl) (by kernel_rfl) (fun _ _ _ h => h) (by rfl) ?hy140 (by assumption) ?_
    case hy140 => intro W hSW; (try dsimp only at hSW); have z0 := carry hSW hl4 c0; have z1 := carry hSW hl4 c1; have z2 := carry hSW hy4 x9; have z3 := carry hSW hy4 y9; have q0 := Nat.lt_of_lt_of_le hl4 hSW.size; have q1 := Nat.lt_of_lt_of_le hy4 hSW.size; go_simp; (try with_reducible rfl)
    try simp only [Act.put, List.setIfInBounds_toArray, List.set_cons_zero, List.set_cons_succ]
    refine rg_take 6 (some 109) (v := ?v141) rfl rfl (by kernel_rfl) (by kernel_rfl) (by kernel_rfl) (fun _ _ _ h => h) (by rfl) ?hy141 (by assumption) ?_
    case hy141 => intro W hSW; (try dsimp only at hSW); have z0 := carry hSW hl4 c0; have z1 := carry hSW hl4 c1; have z2 := carry hSW hy4 x9; have z3 := carry hSW hy4 y9; have q0 := Nat.lt_of_lt_of_le hl4 hSW.size; have q1 := Nat.lt_of_lt_of_le hy4 hSW.size; go_simp; (try with_reducible rfl)
    try simp only [Act.put, List.setIfInBounds_toArray, List.set_cons_zero, List.set_cons_succ]
    refine rg_take 7 (some 110) (v := ?v142) rfl rfl (by kernel_rfl) (by kernel_rfl) (by kernel_rfl) (fun _ _ _ h => h) (by rfl) ?hy142 (by assumption) ?_
    case hy142 => intro W hSW; (try dsimp only at hSW); have z0 := carry hSW hl4 c0; have z1 := carry hSW hl4 c1; have z2 := carry hSW hy4 x9; have z3 := carry hSW hy4 y9; have q0 := Nat.lt_of_lt_of_le hl4 hSW.size; have q1 := Nat.lt_of_lt_of_le hy4 hSW.size; go_simp; (try with_reducible rfl)
    try simp only [Act.put, List.setIfInBounds_toArray, List.set_cons_zero, List.set_cons_succ]
    refine rg_take 8 (some 111) (v := ?v143) rfl rfl (by kernel_rfl) (by kernel_rfl) (by kernel_rfl) (fun _ _ _ h => h) (by rfl) ?hy143 (by assumption) ?_
    case hy143 => intro W hSW; (try dsimp only at hSW); have z0 := carry hSW hl4 c0; have z1 := carry hSW hl4 c1; have z2 := carry hSW hy4 x9; have z3 := carry hSW hy4 y9; have q0 := Nat.lt_of_lt_of_le hl4 hSW.size; have q1 := Nat.lt_of_lt_of_le hy4 hSW.size; go_simp; (try with_reducible rfl)
    try simp only [Act.put, List.setIfInBounds_toArray, List.set_cons_zero, List.set_cons_succ]
    refine rg_take 9 (some 112) (v := ?v144) rfl rfl (by kernel_rfl) (by kernel_rfl) (by kernel_rfl) (fun _ _ _ h => h) (by rfl) ?hy144 (by assumption) ?_
    case hy144 => intro W hSW; (try dsimp only at hSW); have z0 := carry hSW hl4 c0; have z1 := carry hSW hl4 c1; have z2 := carry hSW hy4 x9; have z3 := carry hSW hy4 y9; have q0 := Nat.lt_of_lt_of_le hl4 hSW.size; have q1 := Nat.lt_of_lt_of_le hy4 hSW.size; go_simp; (try with_reducible rfl)
    try simp only [Act.put, List.setIfInBounds_toArray, List.set_cons_zero, List.set_cons_succ]
    refine rg_take 10 (some 113) (v := ?v145) rfl rfl (by kernel_rfl) (by kernel_rfl) (by kernel_rfl) (fun _ _ _ h => h) (by rfl) ?hy145 (by assumption) ?_
    case hy145 => intro W hSW; (try dsimp only at hSW); have z0 := carry hSW hl4 c0; have z1 := carry hSW hl4 c1; have z2 := carry hSW hy4 x9; have z3 := carry hSW hy4 y9; have q0 := Nat.lt_of_lt_of_le hl4 hSW.size; have q1 := Nat.lt_of_lt_of_le hy4 hSW.size; go_simp; (try with_reducible rfl)
    try simp only [Act.put, List.setIfInBounds_toArray, List.set_cons_zero, List.set_cons_succ]
    refine rg_take 11 (some 114) (v := ?v146) rfl rfl (by kernel_rfl) (by kernel_rfl) (by kernel_rfl) (fun _ _ _ h => h) (by rfl) ?hy146 (by assumption) ?_
    case hy146 => intro W hSW; (try dsimp only at hSW); have z0 := carry hSW hl4 c0; have z1 := carry hSW hl4 c1; have z2 := carry hSW hy4 x9; have z3 := carry hSW hy4 y9; have q0 := Nat.lt_of_lt_of_le hl4 hSW.size; have q1 := Nat.lt_of_lt_of_le hy4 hSW.size; go_simp; (try with_reducible rfl)
    try simp only [Act.put, List.setIfInBounds_toArray, List.set_cons_zero, List.set_cons_succ]
    refine rg_take 12 (some 115) (v := ?v147) rfl rfl (by kernel_rfl) (by kernel_rfl) (by kernel_rfl) (fun _ _ _ h => h) (by rfl) ?hy147 (by assumption) ?_
    case hy147 => intro W hSW; (try dsimp only at hSW); have z0 := carry hSW hl4 c0; have z1 := carry hSW hl4 c1; have z2 := carry hSW hy4 x9; have z3 := carry hSW hy4 y9; have q0 := Nat.lt_of_lt_of_le hl4 hSW.size; have q1 := Nat.lt_of_lt_of_le hy4 hSW.size; go_simp; (try with_reducible rfl)
    try simp only [Act.put, List.setIfInBounds_toArray, List.set_cons_zero, List.set_cons_succ]
    refine rg_take 13 (some 116) (v := ?v148) rfl rfl (by kernel_rfl) (by kernel_rfl) (by kernel_rfl) (fun _ _ _ h => h) (by rfl) ?hy148 (by assumption) ?_
    case hy148 => intro W hSW; (try dsimp only at hSW); have z0 := carry hSW hl4 c0; have z1 := carry hSW hl4 c1; have z2 := carry hSW hy4 x9; have z3 := carry hSW hy4 y9; have q0 := Nat.lt_of_lt_of_le hl4 hSW.size; have q1 := Nat.lt_of_lt_of_le hy4 hSW.size; go_simp; (try with_reducible rfl)
    try simp only [Act.put, List.setIfInBounds_toArray, List.set_cons_zero, List.set_cons_succ]
    refine rg_take 14 (some 117) (v := ?v149) rfl rfl (by kernel_rfl) (by kernel_rfl) (by kernel_rfl) (fun _ _ _ h => h) (by rfl) ?hy149 (by assumption) ?_
    case hy149 => intro W hSW; (try dsimp only at hSW); have z0 := carry hSW hl4 c0; have z1 := carry hSW hl4 c1; have z2 := carry hSW hy4 x9; have z3 := carry hSW hy4 y9; have q0 := Nat.lt_of_lt_of_le hl4 hSW.size; have q1 := Nat.lt_of_lt_of_le hy4 hSW.size; go_simp; (try with_reducible rfl)
    try simp only [Act.put, List.setIfInBounds_toArray, List.set_cons_zero, List.set_cons_succ]
    refine rg_take 15 (some 4) (v := ?v150) rfl rfl (by kernel_rfl) (by kernel_rfl) (by kernel_rfl) (fun _ _ _ h => h) (by rfl) ?hy150 (by assumption) ?_
    case hy150 => intro W hSW; (try dsimp only at hSW); have z0 := carry hSW hl4 c0; have z1 := carry hSW hl4 c1; have z2 := carry hSW hy4 x9; have z3 := carry hSW hy4 y9; have q0 := Nat.lt_of_lt_of_le hl4 hSW.size; have q1 := Nat.lt_of_lt_of_le hy4 hSW.size; go_simp; (try with_reducible rfl)
    try simp only [Act.put, List.setIfInBounds_toArray, List.set_cons_zero, List.set_cons_succ]
    refine wpAnyH_done (by kernel_rfl) ?_ _
    go_wp2_with fail
    all_goals go_ret
    all_goals exact ⟨rfl, belT hW5.out (by (repeat' (first | with_reducible exact Below.refl _ _ | with_reducible assumption | with_reducible apply Below.setCell | with_reducible apply Below.alloc | with_reducible apply Below.drew | with_reducible apply below_drewN | with_reducible exact Nat.le_refl _ | (simp; done) | (simp; omega) | omega | exact Nat.le_refl _)))⟩
  · go_wp2_with fail
    refine (run_lit V14 (w2.heap.size + 1 + 1 + 1 + 1 + 1 + 1 + 1 + 1 + 1 + 1 + 1) 3 3 [⟨1, 0, 0, 0, d, 0, 0, 0, 0⟩, ⟨1, 0, 0, 0, d, 0, 0, 0, 0⟩, ⟨5, 0, 1, 0, 0, 0, 0, 0, 0⟩] 99 5 0 5 0 (by rw [hz.out]; omega) rfl hS10.out (by omega) (v10 hd) (by omega)).mono ?_
    rintro e w3 ⟨rfl, hb3⟩
    have x10 : w3.cell? _ = _ := carry hb3 hy14 x10
    have y10 : w3.cell? _ = _ := carry hb3 hy14 y10
    have hy : w2.heap.size + 1 + 1 + 1 + 1 + 1 + 1 + 1 + 1 + 1 + 1 + 1 + 1 + 1 + 1 < w3.heap.size := Nat.lt_of_lt_of_le hy14 hb3.size
    have hW3 := Lib.hid (belT hWL.out hb3)
    clear q0 hS0 q1 hS1 q2 hS2 q3 hS3 q4 hS4 q5 hS5 q6 hS6 q7 hS7 q8 hS8 q9 hS9 q10 hS10 q11 hS11 x0 y0 x1 y1 x2 y2 x3 y3 x4 y4 x5 y5 x6 y6 x7 y7 x8 y8 x9 y9 x11 y11 hb3 hy13 hy14 hz
    go_wp2_with fail
    obtain ⟨W4, hW4⟩ : ∃ W, w3.alloc (.cells #[.int .i64 5, .int .i64 0] 25) = W := ⟨_, rfl⟩
    rw [hW4]
    have hb4 : Below w3.heap.size w3 W4 := by rw [← hW4]; exact below_alc _ _
    have c0 : W4.cell? ⟨w3.heap.size, 0, none⟩ = some (.int .i64 5) := by rw [← hW4]; simp [go_sem]
    have c1 : W4.cell? ⟨w3.heap.size, 1, none⟩ = some (.int .i64 0) := by rw [← hW4]; simp [go_sem]
    have hl4 : w3.heap.size < W4.heap.size := by rw [← hW4]; simp
    have x10 : W4.cell? _ = _ := carry hb4 hy x10
    have y10 : W4.cell? _ = _ := carry hb4 hy y10
    have hy4 : w2.heap.size + 1 + 1 + 1 + 1 + 1 + 1 + 1 + 1 + 1 + 1 + 1 + 1 + 1 + 1 < W4.heap.size := Nat.lt_of_lt_of_le hy hb4.size
    have hW5 := Lib.hid (belT hW3.out hb4)
    clear hW4 hb4 hy hW3
    refine wp_region_held_drew (S := fun W => Below W4.heap.size W4 W) (by kernel_rfl) ((Below.refl _ _).drew) (fun hHeld => ?_)
    refine rg_take 0 (some 103) (v := ?v151) rfl rfl (by kernel_rfl) (by kernel_rfl) (by kernel_rfl) (fun _ _ _ h => h) (by rfl) ?hy151 (by assumption) ?_
    case hy151 => intro W hSW; (try dsimp only at hSW); have z0 := carry hSW hl4 c0; have z1 := carry hSW hl4 c1; have z2 := carry hSW hy4 x10; have z3 := carry hSW hy4 y10; have q0 := Nat.lt_of_lt_of_le hl4 hSW.size; have q1 := Nat.lt_of_lt_of_le hy4 hSW.size; go_simp; (try with_reducible rfl)
    try simp only [Act.put, List.setIfInBounds_toArray, List.set_cons_zero, List.set_cons_succ]
    refine rg_one 1 rfl (by kernel_rfl) (by rfl) (fun K hK => ?_)
    go_simp
    refine (num_any _ _ (by omega) (by omega)).mono ?_
    rintro e8 w8 ⟨rfl, rfl⟩
    refine hK.out _ _ ((Below.refl _ _).drew) (fun hH1 => ?_)
    clear hK K
    try simp only [Act.put, List.setIfInBounds_toArray, List.set_cons_zero, List.set_cons_succ]
    refine rg_take 2 (some 105) (v := ?v152) rfl rfl (by kernel_rfl) (by kernel_rfl) (by kernel_rfl) (fun _ _ _ h => h) (by rfl) ?hy152 (by assumption) ?_
    case hy152 => intro W hSW; (try dsimp only at hSW); have z0 := carry hSW hl4 c0; have z1 := carry hSW hl4 c1; have z2 := carry hSW hy4 x10; have z3 := carry hSW hy4 y10; have q0 := Nat.lt_of_lt_of_le hl4 hSW.size; have q1 := Nat.lt_of_lt_of_le hy4 hSW.size; go_simp; (try with_reducible rfl)
    try simp only [Act.put, List.setIfInBounds_toArray, List.set_cons_zero, List.set_cons_succ]
    refine rg_take 3 (some 106) (v := ?v153) rfl rfl (by kernel_rfl) (by kernel_rfl) (by kernel_rfl) (fun _ _ _ h => h) (by rfl) ?hy153 (by assumption) ?_
    case hy153 => intro W hSW; (try dsimp only at hSW); have z0 := carry hSW hl4 c0; have z1 := carry hSW hl4 c1; have z2 := carry hSW hy4 x10; have z3 := carry hSW hy4 y10; have q0 := Nat.lt_of_lt_of_le hl4 hSW.size; have q1 := Nat.lt_of_lt_of_le hy4 hSW.size; go_simp; (try with_reducible rfl)
    try simp only [Act.put, List.setIfInBounds_toArray, List.set_cons_zero, List.set_cons_succ]
    refine rg_take 4 (some 107) (v := ?v154) rfl rfl (by kernel_rfl) (by kernel_rfl) (by kernel_rfl) (fun _ _ _ h => h) (by rfl) ?hy154 (by assumption) ?_
    case hy154 => intro W hSW; (try dsimp only at hSW); have z0 := carry hSW hl4 c0; have z1 := carry hSW hl4 c1; have z2 := carry hSW hy4 x10; have z3 := carry hSW hy4 y10; have q0 := Nat.lt_of_lt_of_le hl4 hSW.size; have q1 := Nat.lt_of_lt_of_le hy4 hSW.size; go_simp; (try with_reducible rfl)
    try simp only [Act.put, List.setIfInBounds_toArray, List.set_cons_zero, List.set_cons_succ]
    refine rg_take 5 (some 108) (v := ?v155) rfl rfl (by kernel_rfl) (by kernel_rfl) (by kernel_rfl) (fun _ _ _ h => h) (by rfl) ?hy155 (by assumption) ?_
    case hy155 => intro W hSW; (try dsimp only at hSW); have z0 := carry hSW hl4 c0; have z1 := carry hSW hl4 c1; have z2 := carry hSW hy4 x10; have z3 := carry hSW hy4 y10; have q0 := Nat.lt_of_lt_of_le hl4 hSW.size; have q1 := Nat.lt_of_lt_of_le hy4 hSW.size; go_simp; (try with_reducible rfl)
    try simp only [Act.put, List.setIfInBounds_toArray, List.set_cons_zero, List.set_cons_succ]
    refine rg_take 6 (some 109) (v := ?v156) rfl rfl (by kernel_rfl) (by kernel_rfl) (by kernel_rfl) (fun _ _ _ h => h) (by rfl) ?hy156 (by assumption) ?_
    case hy156 => intro W hSW; (try dsimp only at hSW); have z0 := carry hSW hl4 c0; have z1 := carry hSW hl4 c1; have z2 := carry hSW hy4 x10; have z3 := carry hSW hy4 y10; have q0 := Nat.lt_of_lt_of_le hl4 hSW.size; have q1 := Nat.lt_of_lt_of_le hy4 hSW.size; go_simp; (try with_reducible rfl)
    try simp only [Act.put, List.setIfInBounds_toArray, List.set_cons_zero, List.set_cons_succ]
    refine rg_take 7 (some 110) (v := ?v157) rfl rfl (by kernel_rfl) (by kernel_rfl) (by kernel_rfl) (fun _ _ _ h => h) (by rfl) ?hy157 (by assumption) ?_
    case hy157 => intro W hSW; (try dsimp only at hSW); have z0 := carry hSW hl4 c0; have z1 := carry hSW hl4 c1; have z2 := carry hSW hy4 x10; have z3 := carry hSW hy4 y10; have q0 := Nat.lt_of_lt_of_le hl4 hSW.size; have q1 := Nat.lt_of_lt_of_le hy4 hSW.size; go_simp; (try with_reducible rfl)
    try simp only [Act.put, List.setIfInBounds_toArray, List.set_cons_zero, List.set_cons_succ]
    refine rg_take 8 (some 111) (v := ?v158) rfl rfl (by kernel_rfl) (by kernel_rfl) (by kernel_rfl) (fun _ _ _ h => h) (by rfl) ?hy158 (by assumption) ?_
    case hy158 => intro W hSW; (try dsimp only at hSW); have z0 := carry hSW hl4 c0; have z1 := carry hSW hl4 c1; have z2 := carry hSW hy4 x10; have z3 := carry hSW hy4 y10; have q0 := Nat.lt_of_lt_of_le hl4 hSW.size; have q1 := Nat.lt_of_lt_of_le hy4 hSW.size; go_simp; (try with_reducible rfl)
    try simp only [Act.put, List.setIfInBounds_toArray, List.set_cons_zero, List.set_cons_succ]
    refine rg_take 9 (some 112) (v := ?v159) rfl rfl (by kernel_rfl) (by kernel_rfl) (by kernel_rfl) (fun _ _ _ h => h) (by rfl) ?hy159 (by assumption) ?_
    case hy159 => intro W hSW; (try dsimp only at hSW); have z0 := carry hSW hl4 c0; have z1 := carry hSW hl4 c1; have z2 := carry hSW hy4 x10; have z3 := carry hSW hy4 y10; have q0 := Nat.lt_of_lt_of_le hl4 hSW.size; have q1 := Nat.lt_of_lt_of_le hy4 hSW.size; go_simp; (try with_reducible rfl)
    try simp only [Act.put, List.setIfInBounds_toArray, List.set_cons_zero, List.set_cons_succ]
    refine rg_take 10 (some 113) (v := ?v160) rfl rfl (by kernel_rfl) (by kernel_rfl) (by kernel_rfl) (fun _ _ _ h => h) (by rfl) ?hy160 (by assumption) ?_
    case hy160 => intro W hSW; (try dsimp only at hSW); have z0 := carry hSW hl4 c0; have z1 := carry hSW hl4 c1; have z2 := carry hSW hy4 x10; have z3 := carry hSW hy4 y10; have q0 := Nat.lt_of_lt_of_le hl4 hSW.size; have q1 := Nat.lt_of_lt_of_le hy4 hSW.size; go_simp; (try with_reducible rfl)
    try simp only [Act.put, List.setIfInBounds_toArray, List.set_cons_zero, List.set_cons_succ]
    refine rg_take 11 (some 114) (v := ?v161) rfl rfl (by kernel_rfl) (by kernel_rfl) (by kernel_rfl) (fun _ _ _ h => h) (by rfl) ?hy161 (by assumption) ?_
    case hy161 => intro W hSW; (try dsimp only at hSW); have z0 := carry hSW hl4 c0; have z1 := carry hSW hl4 c1; have z2 := carry hSW hy4 x10; have z3 := carry hSW hy4 y10; have q0 := Nat.lt_of_lt_of_le hl4 hSW.size; have q1 := Nat.lt_of_lt_of_le hy4 hSW.size; go_simp; (try with_reducible rfl)
    try simp only [Act.put, List.setIfInBounds_toArray, List.set_cons_zero, List.set_cons_succ]
    refine rg_take 12 (some 115) (v := ?v162) rfl rfl (by kernel_rfl) (by kernel_rfl) (by kernel_rfl) (fun _ _ _ h => h) (by rfl) ?hy162 (by assumption) ?_
    case hy162 => intro W hSW; (try dsimp only at hSW); have z0 := carry hSW hl4 c0; have z1 := carry hSW hl4 c1; have z2 := carry hSW hy4 x10; have z3 := carry hSW hy4 y10; have q0 := Nat.lt_of_lt_of_le hl4 hSW.size; have q1 := Nat.lt_of_lt_of_le hy4 hSW.size; go_simp; (try with_reducible rfl)
    try simp only [Act.put, List.setIfInBounds_toArray, List.set_cons_zero, List.set_cons_succ]
    refine rg_take 13 (some 116) (v := ?v163) rfl rfl (by kernel_rfl) (by kernel_rfl) (by kernel_rfl) (fun _ _ _ h => h) (by rfl) ?hy163 (by assumption) ?_
    case hy163 => intro W hSW; (try dsimp only at hSW); have z0 := carry hSW hl4 c0; have z1 := carry hSW hl4 c1; have z2 := carry hSW hy4 x10; have z3 := carry hSW hy4 y10; have q0 := Nat.lt_of_lt_of_le hl4 hSW.size; have q1 := Nat.lt_of_lt_of_le hy4 hSW.size; go_simp; (try with_reducible rfl)
    try simp only [Act.put, List.setIfInBounds_toArray, List.set_cons_zero, List.set_cons_succ]
    refine rg_take 14 (some 117) (v := ?v164) rfl rfl (by kernel_rfl) (by kernel_rfl) (by kernel_rfl) (fun _ _ _ h => h) (by rfl) ?hy164 (by assumption) ?_
    case hy164 => intro W hSW; (try dsimp only at hSW); have z0 := carry hSW hl4 c0; have z1 := carry hSW hl4 c1; have z2 := carry hSW hy4 x10; have z3 := carry hSW hy4 y10; have q0 := Nat.lt_of_lt_of_le hl4 hSW.size; have q1 := Nat.lt_of_lt_of_le hy4 hSW.size; go_simp; (try with_reducible rfl)
    try simp only [Act.put, List.setIfInBounds_toArray, List.set_cons_zero, List.set_cons_succ]
    refine rg_take 15 (some 4) (v := ?v165) rfl rfl (by kernel_rfl) (by kernel_rfl) (by kernel_rfl) (fun _ _ _ h => h) (by rfl) ?hy165 (by assumption) ?_
    case hy165 => intro W hSW; (try dsimp only at hSW); have z0 := carry hSW hl4 c0; have z1 := carry hSW hl4 c1; have z2 := carry hSW hy4 x10; have z3 := carry hSW hy4 y10; have q0 := Nat.lt_of_lt_of_le hl4 hSW.size; have q1 := Nat.lt_of_lt_of_le hy4 hSW.size; go_simp; (try with_reducible rfl)
    try simp only [Act.put, List.setIfInBounds_toArray, List.set_cons_zero, List.set_cons_succ]
    refine wpAnyH_done (by kernel_rfl) ?_ _
    go_wp2_with fail
    all_goals go_ret
    all_goals exact ⟨rfl, belT hW5.out (by (repeat' (first | with_reducible exact Below.refl _ _ | with_reducible assumption | with_reducible apply Below.setCell | with_reducible apply Below.alloc | with_reducible apply Below.drew | with_reducible apply below_drewN | with_reducible exact Nat.le_refl _ | (simp; done) | (simp; omega) | omega | exact Nat.le_refl _)))⟩
  · go_wp2_with fail
    refine (run_lit V14 (w2.heap.size + 1 + 1 + 1 + 1 + 1 + 1 + 1 + 1 + 1 + 1 + 1 + 1) 3 3 [⟨1, 0, 0, 0, d, 0, 0, 0, 0⟩, ⟨0, 0, 0, 0, 4, 0, 0, 0, 0⟩, ⟨11, 0, 1, 0, 0, 4, 0, 0, 0⟩] 99 5 0 3 0 (by rw [hz.out]; omega) rfl hS11.out (by omega) (v11 hd) (by omega)).mono ?_
    rintro e w3 ⟨rfl, hb3⟩
    have x11 : w3.cell? _ = _ := carry hb3 hy14 x11
    have y11 : w3.cell? _ = _ := carry hb3 hy14 y11
    have hy : w2.heap.size + 1 + 1 + 1 + 1 + 1 + 1 + 1 + 1 + 1 + 1 + 1 + 1 + 1 + 1 < w3.heap.size := Nat.lt_of_lt_of_le hy14 hb3.size
    have hW3 := Lib.hid (belT hWL.out hb3)
    clear q0 hS0 q1 hS1 q2 hS2 q3 hS3 q4 hS4 q5 hS5 q6 hS6 q7 hS7 q8 hS8 q9 hS9 q10 hS10 q11 hS11 x0 y0 x1 y1 x2 y2 x3 y3 x4 y4 x5 y5 x6 y6 x7 y7 x8 y8 x9 y9 x10 y10 hb3 hy13 hy14 hz
    go_wp2_with fail
    obtain ⟨W4, hW4⟩ : ∃ W, w3.alloc (.cells #[.int .i64 5, .int .i64 0] 25) = W := ⟨_, rfl⟩
    rw [hW4]
    have hb4 : Below w3.heap.size w3 W4 := by rw [← hW4]; exact below_alc _ _
    have c0 : W4.cell? ⟨w3.heap.size, 0, none⟩ = some (.int .i64 5) := by rw [← hW4]; simp [go_sem]
    have c1 : W4.cell? ⟨w3.heap.size, 1, none⟩ = some (.int .i64 0) := by rw [← hW4]; simp [go_sem]
    have hl4 : w3.heap.size < W4.heap.size := by rw [← hW4]; simp
    have x11 : W4.cell? _ = _ := carry hb4 hy x11
    have y11 : W4.cell? _ = _ := carry hb4 hy y11
    have hy4 : w2.heap.size + 1 + 1 + 1 + 1 + 1 + 1 + 1 + 1 + 1 + 1 + 1 + 1 + 1 + 1 < W4.heap.size := Nat.lt_of_lt_of_le hy hb4.size
    have hW5 := Lib.hid (belT hW3.out hb4)
    clear hW4 hb4 hy hW3
    refine wp_region_held_drew (S := fun W => Below W4.heap.size W4 W) (by kernel_rfl) ((Below.refl _ _).drew) (fun hHeld => ?_)
    refine rg_take 0 (some 103) (v := ?v166) rfl rfl (by kernel_rfl) (by kernel_rfl) (by kernel_rfl) (fun _ _ _ h => h) (by rfl) ?hy166 (by assumption) ?_
    case hy166 => intro W hSW; (try dsimp only at hSW); have z0 := carry hSW hl4 c0; have z1 := carry hSW hl4 c1; have z2 := carry hSW hy4 x11; have z3 := carry hSW hy4 y11; have q0 := Nat.lt_of_lt_of_le hl4 hSW.size; have q1 := Nat.lt_of_lt_of_le hy4 hSW.size; go_simp; (try with_reducible rfl)
    try simp only [Act.put, List.setIfInBounds_toArray, List.set_cons_zero, List.set_cons_succ]
    refine rg_one 1 rfl (by kernel_rfl) (by rfl) (fun K hK => ?_)
    go_simp
    refine (num_any _ _ (by omega) (by omega)).mono ?_
    rintro e8 w8 ⟨rfl, rfl⟩
    refine hK.out _ _ ((Below.refl _ _).drew) (fun hH1 => ?_)
    clear hK K
    try simp only [Act.put, List.setIfInBounds_toArray, List.set_cons_zero, List.set_cons_succ]
    refine rg_take 2 (some 105) (v := ?v167) rfl rfl (by kernel_rfl) (by kernel_rfl) (by kernel_rfl) (fun _ _ _ h => h) (by rfl) ?hy167 (by assumption) ?_
    case hy167 => intro W hSW; (try dsimp only at hSW); have z0 := carry hSW hl4 c0; have z1 := carry hSW hl4 c1; have z2 := carry hSW hy4 x11; have z3 := carry hSW hy4 y11; have q0 := Nat.lt_of_lt_of_le hl4 hSW.size; have q1 := Nat.lt_of_lt_of_le hy4 hSW.size; go_simp; (try with_reducible rfl)
    try simp only [Act.put, List.setIfInBounds_toArray, List.set_cons_zero, List.set_cons_succ]
    refine rg_take 3 (some 106) (v := ?v168) rfl rfl (by kernel_rfl) (by kernel_rfl) (by kernel_rfl) (fun _ _ _ h => h) (by rfl) ?hy168 (by assumption) ?_
    case hy168 => intro W hSW; (try dsimp only at hSW); have z0 := carry hSW hl4 c0; have z1 := carry hSW hl4 c1; have z2 := carry hSW hy4 x11; have z3 := carry hSW hy4 y11; have q0 := Nat.lt_of_lt_of_le hl4 hSW.size; have q1 := Nat.lt_of_lt_of_le hy4 hSW.size; go_simp; (try with_reducible rfl)
    try simp only [Act.put, List.setIfInBounds_toArray, List.set_cons_zero, List.set_cons_succ]
    refine rg_take 4 (some 107) (v := ?v169) rfl rfl (by kernel_rfl) (by kernel_rfl) (by kernel_rfl) (fun _ _ _ h => h) (by rfl) ?hy169 (by assumption) ?_
    case hy169 => intro W hSW; (try dsimp only at hSW); have z0 := carry hSW hl4 c0; have z1 := carry hSW hl4 c1; have z2 := carry hSW hy4 x11; have z3 := carry hSW hy4 y11; have q0 := Nat.lt_of_lt_of_le hl4 hSW.size; have q1 := Nat.lt_of_lt_of_le hy4 hSW.size; go_simp; (try with_reducible rfl)
    try simp only [Act.put, List.setIfInBounds_toArray, List.set_cons_zero, List.set_cons_succ]
    refine rg_take 5 (some 108) (v := ?v170) rfl rfl (by kernel_rfl) (by kernel_rfl) (by kernel_rfl) (fun _ _ _ h => h) (by rfl) ?hy170 (by assumption) ?_
    case hy170 => intro W hSW; (try dsimp only at hSW); have z0 := carry hSW hl4 c0; have z1 := carry hSW hl4 c1; have z2 := carry hSW hy4 x11; have z3 := carry hSW hy4 y11; have q0 := Nat.lt_of_lt_of_le hl4 hSW.size; have q1 := Nat.lt_of_lt_of_le hy4 hSW.size; go_simp; (try with_reducible rfl)
    try simp only [Act.put, List.setIfInBounds_toArray, List.set_cons_zero, List.set_cons_succ]
    refine rg_take 6 (some 109) (v := ?v171) rfl rfl (by kernel_rfl) (by kernel_rfl) (by kernel_rfl) (fun _ _ _ h => h) (by rfl) ?hy171 (by assumption) ?_
    case hy171 => intro W hSW; (try dsimp only at hSW); have z0 := carry hSW hl4 c0; have z1 := carry hSW hl4 c1; have z2 := carry hSW hy4 x11; have z3 := carry hSW hy4 y11; have q0 := Nat.lt_of_lt_of_le hl4 hSW.size; have q1 := Nat.lt_of_lt_of_le hy4 hSW.size; go_simp; (try with_reducible rfl)
    try simp only [Act.put, List.setIfInBounds_toArray, List.set_cons_zero, List.set_cons_succ]
    refine rg_take 7 (some 110) (v := ?v172) rfl rfl (by kernel_rfl) (by kernel_rfl) (by kernel_rfl) (fun _ _ _ h => h) (by rfl) ?hy172 (by assumption) ?_
    case hy172 => intro W hSW; (try dsimp only at hSW); have z0 := carry hSW hl4 c0; have z1 := carry hSW hl4 c1; have z2 := carry hSW hy4 x11; have z3 := carry hSW hy4 y11; have q0 := Nat.lt_of_lt_of_le hl4 hSW.size; have q1 := Nat.lt_of_lt_of_le hy4 hSW.size; go_simp; (try with_reducible rfl)
    try simp only [Act.put, List.setIfInBounds_toArray, List.set_cons_zero, List.set_cons_succ]
    refine rg_take 8 (some 111) (v := ?v173) rfl rfl (by kernel_rfl) (by kernel_rfl) (by kernel_rfl) (fun _ _ _ h => h) (by rfl) ?hy173 (by assumption) ?_
    case hy173 => intro W hSW; (try dsimp only at hSW); have z0 := carry hSW hl4 c0; have z1 := carry hSW hl4 c1; have z2 := carry hSW hy4 x11; have z3 := carry hSW hy4 y11; have q0 := Nat.lt_of_lt_of_le hl4 hSW.size; have q1 := Nat.lt_of_lt_of_le hy4 hSW.size; go_simp; (try with_reducible rfl)
    try simp only [Act.put, List.setIfInBounds_toArray, List.set_cons_zero, List.set_cons_succ]
    refine rg_take 9 (some 112) (v := ?v174) rfl rfl (by kernel_rfl) (by kernel_rfl) (by kernel_rfl) (fun _ _ _ h => h) (by rfl) ?hy174 (by assumption) ?_
    case hy174 => intro W hSW; (try dsimp only at hSW); have z0 := carry hSW hl4 c0; have z1 := carry hSW hl4 c1; have z2 := carry hSW hy4 x11; have z3 := carry hSW hy4 y11; have q0 := Nat.lt_of_lt_of_le hl4 hSW.size; have q1 := Nat.lt_of_lt_of_le hy4 hSW.size; go_simp; (try with_reducible rfl)
    try simp only [Act.put, List.setIfInBounds_toArray, List.set_cons_zero, List.set_cons_succ]
    refine rg_take 10 (some 113) (v := ?v175) rfl rfl (by kernel_rfl) (by kernel_rfl) (by kernel_rfl) (fun _ _ _ h => h) (by rfl) ?hy175 (by assumption) ?_
    case hy175 => intro W hSW; (try dsimp only at hSW); have z0 := carry hSW hl4 c0; have z1 := carry hSW hl4 c1; have z2 := carry hSW hy4 x11; have z3 := carry hSW hy4 y11; have q0 := Nat.lt_of_lt_of_le hl4 hSW.size; have q1 := Nat.lt_of_lt_of_le hy4 hSW.size; go_simp; (try with_reducible rfl)
    try simp only [Act.put, List.setIfInBounds_toArray, List.set_cons_zero, List.set_cons_succ]
    refine rg_take 11 (some 114) (v := ?v176) rfl rfl (by kernel_rfl) (by kernel_rfl) (by kernel_rfl) (fun _ _ _ h => h) (by rfl) ?hy176 (by assumption) ?_
    case hy176 => intro W hSW; (try dsimp only at hSW); have z0 := carry hSW hl4 c0; have z1 := carry hSW hl4 c1; have z2 := carry hSW hy4 x11; have z3 := carry hSW hy4 y11; have q0 := Nat.lt_of_lt_of_le hl4 hSW.size; have q1 := Nat.lt_of_lt_of_le hy4 hSW.size; go_simp; (try with_reducible rfl)
    try simp only [Act.put, List.setIfInBounds_toArray, List.set_cons_zero, List.set_cons_succ]
    refine rg_take 12 (some 115) (v := ?v177) rfl rfl (by kernel_rfl) (by kernel_rfl) (by kernel_rfl) (fun _ _ _ h => h) (by rfl) ?hy177 (by assumption) ?_
    case hy177 => intro W hSW; (try dsimp only at hSW); have z0 := carry hSW hl4 c0; have z1 := carry hSW hl4 c1; have z2 := carry hSW hy4 x11; have z3 := carry hSW hy4 y11; have q0 := Nat.lt_of_lt_of_le hl4 hSW.size; have q1 := Nat.lt_of_lt_of_le hy4 hSW.size; go_simp; (try with_reducible rfl)
    try simp only [Act.put, List.setIfInBounds_toArray, List.set_cons_zero, List.set_cons_succ]
    refine rg_take 13 (some 116) (v := ?v178) rfl rfl (by kernel_rfl) (by kernel_rfl) (by kernel_rfl) (fun _ _ _ h => h) (by rfl) ?hy178 (by assumption) ?_
    case hy178 => intro W hSW; (try dsimp only at hSW); have z0 := carry hSW hl4 c0; have z1 := carry hSW hl4 c1; have z2 := carry hSW hy4 x11; have z3 := carry hSW hy4 y11; have q0 := Nat.lt_of_lt_of_le hl4 hSW.size; have q1 := Nat.lt_of_lt_of_le hy4 hSW.size; go_simp; (try with_reducible rfl)
    try simp only [Act.put, List.setIfInBounds_toArray, List.set_cons_zero, List.set_cons_succ]
    refine rg_take 14 (some 117) (v := ?v179) rfl rfl (by kernel_rfl) (by kernel_rfl) (by kernel_rfl) (fun _ _ _ h => h) (by rfl) ?hy179 (by assumption) ?_
    case hy179 => intro W hSW; (try dsimp only at hSW); have z0 := carry hSW hl4 c0; have z1 := carry hSW hl4 c1; have z2 := carry hSW hy4 x11; have z3 := carry hSW hy4 y11; have q0 := Nat.lt_of_lt_of_le hl4 hSW.size; have q1 := Nat.lt_of_lt_of_le hy4 hSW.size; go_simp; (try with_reducible rfl)
    try simp only [Act.put, List.setIfInBounds_toArray, List.set_cons_zero, List.set_cons_succ]
    refine rg_take 15 (some 4) (v := ?v180) rfl rfl (by kernel_rfl) (by kernel_rfl) (by kernel_rfl) (fun _ _ _ h => h) (by rfl) ?hy180 (by assumption) ?_
    case hy180 => intro W hSW; (try dsimp only at hSW); have z0 := carry hSW hl4 c0; have z1 := carry hSW hl4 c1; have z2 := carry hSW hy4 x11; have z3 := carry hSW hy4 y11; have q0 := Nat.lt_of_lt_of_le hl4 hSW.size; have q1 := Nat.lt_of_lt_of_le hy4 hSW.size; go_simp; (try with_reducible rfl)
    try simp only [Act.put, List.setIfInBounds_toArray, List.set_cons_zero, List.set_cons_succ]
    refine wpAnyH_done (by kernel_rfl) ?_ _
    go_wp2_with fail
    all_goals go_ret
    all_goals exact ⟨rfl, belT hW5.out (by (repeat' (first | with_reducible exact Below.refl _ _ | with_reducible assumption | with_reducible apply Below.setCell | with_reducible apply Below.alloc | with_reducible apply Below.drew | with_reducible apply below_drewN | with_reducible exact Nat.le_refl _ | (simp; done) | (simp; omega) | omega | exact Nat.le_refl _)))⟩

theorem own : ownKnob Try.prog.godebug = none := by kernel_rfl
theorem laidOut : laidOutB Try.prog = true := by kernel_rfl
set_option maxRecDepth 100000 in
theorem lifted (os : Os) (started : os.Started) (H : Type) (enc : TypeId × Value → H) :
    ReturnsInHanded {} Try.checked os 5 .any (Rows.targetTextsSpec.pre6 enc Try.prog Try.f5 Rows.targetTextsRow.domain false) (Rows.targetTextsSpec.post enc Try.prog Try.f5 false true false false) := by
  refine returnsInHanded_of_change_sized (C := Try.checked) own started (by kernel_rfl) Try.func5
    (ChangeSpec.witness6 (enc := enc) (C := Try.checked) false ⟨#[], #[.int .i64 0, .int .i64 0], []⟩ 8 (by kernel_rfl) (by kernel_rfl) (by kernel_rfl) (by kernel_rfl)) ?_
  intro W base args ds gs before hval0 hW hcnd hsz0 _
  have hval : ∀ (j : Nat) t v, Try.f5.params[j]? = some t → args[j]? = some v → Value.okWide Try.prog W .any base t v := hval0
  have hsz : (DataW.weightsEach Try.prog (Try.f5.params.toList ++ Rows.targetTextsSpec.plain.varTypes Try.prog) (ds ++ gs)).all (· ≤ reachBytes) = true := hsz0
  have hW' := hW
  obtain ⟨p, q, hA0, hV, rfl, hfz, hnd⟩ := hW
  have hA : DataW.TrodAll enc Try.prog W 0 (fun _ => true) true Try.f5.params.toList args.toList ds p := hA0
  rw [Try.params5] at hA hval hsz
  obtain ⟨v0, vs0, d0, ds0, p0, q0, hargs, rfl, rfl, h0, r0⟩ := trodAll_cons hA
  obtain ⟨v1, vs1, d1, ds1, p1, q1, rfl, rfl, rfl, h1, r1⟩ := trodAll_cons r0
  obtain ⟨rfl, rfl, rfl⟩ := trodAll_nil r1
  obtain rfl : args = #[v0, v1] := by cases args; simp_all
  obtain ⟨rfl, rfl⟩ := trodVars_none hV
  obtain ⟨a0, rfl, rfl, rfl, m0⟩ := open_int Try.underlying3 (hval 0 3 v0 rfl rfl) h0
  have w0 : -9223372036854775808 ≤ a0 ∧ a0 ≤ 9223372036854775807 := by simpa [Lit.wf, IntKind.min, IntKind.max, IntKind.signed, IntKind.bits] using m0
  obtain ⟨a1, rfl, rfl, rfl, m1⟩ := open_int Try.underlying3 (hval 1 3 v1 rfl rfl) h1
  have w1 : -9223372036854775808 ≤ a1 ∧ a1 ≤ 9223372036854775807 := by simpa [Lit.wf, IntKind.min, IntKind.max, IntKind.signed, IntKind.bits] using m1
  clear hA0 hval0
  refine (walk a0 a1 w0 w1 W).mono fun e W' ⟨he, bel⟩ => ?_
  subst he
  exact ⟨_, rfl, _, _, _, [], _, [], hW', trodAll_mk1 (shut_bool Try.underlying4 _), (trodAll_cons_mk (shut_int Try.underlying3 m0) (trodAll_cons_mk (shut_int Try.underlying3 m1) trodAll_mk0)), rfl, bel.frame _, fun h => by cases h⟩
theorem over : Rows.targetTextsRow.holds Try.pinned (OpenSpec.ofChange Rows.targetTextsSpec) :=
  OpenClaim.holds_of_wide 5 Try.f5 rfl rfl rfl rfl rfl rfl rfl ⟨rfl, rfl, rfl, rfl, rfl⟩ rfl rfl rfl rfl rfl (by kernel_rfl) Try.func5 (by kernel_rfl)
    (of_decide_eq_true (by kernel_rfl)) (by unfold Func.isWrapper; first | (rw [if_pos (by decide +kernel)]; kernel_rfl) | (rw [if_neg (by decide +kernel)]; exact ⟨rfl, rfl⟩))
    (fun os started H enc _ => lifted os started H enc)
theorem proved : Rows.TargetTextsSaid := over
end Go.Proofs.Ytnjalpcmjkahkaa.targetTexts
