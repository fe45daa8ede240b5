/- ScopeForms holds for every number. No condition but that the listed package variable holds what the program's text lays. -/
import Derived.Test.YtfajbkpeioejoaaDoorScJ
import Derived.Test.YtfajbkpeioejoaaDoorAid
import Derived.BigQuiet
import Derived.Deep.QuietTactic
import Derived.Test.YtfajbkpeioejoaaDoorCards
import Derived.Test.YtfajbkpeioejoaaDoorTie
import Derived.Test.YtfajbkpeioejoaaDoorOpn
import Derived.Test.YtfajbkpeioejoaaDoorHan
import Derived.WalkKit
import Derived.ProofKit
import Derived.Deep.DeepHandedRow
namespace Go.Proofs.YtfajbkpeioejoaaDoor.scopeForms
open Go.ChangeShapes Go.WideShapes Go.ChangeAt Go.RowKit
open Go.ChangeMaps (open_string shut_string)
set_option linter.unusedVariables false
set_option linter.unusedSimpArgs false

theorem tabs {W : World} (h : laidMetH Tryd.prog Rows.scopeFormsRow.laid W) : Hid (errTy W) := Lib.hid (errTy_of h (.head _))
def nss : List (List Nd) := [[⟨0, 0, 0, 0, 0, ⟨#[120]⟩, ⟨#[]⟩, ⟨#[]⟩, ⟨#[]⟩, 0⟩, ⟨3, 0, 0, 0, 0, ⟨#[]⟩, ⟨#[120]⟩, ⟨#[]⟩, ⟨#[]⟩, 0⟩], [⟨0, 0, 0, 0, 0, ⟨#[120]⟩, ⟨#[]⟩, ⟨#[]⟩, ⟨#[]⟩, 0⟩, ⟨3, 0, 0, 0, 0, ⟨#[]⟩, ⟨#[121]⟩, ⟨#[]⟩, ⟨#[]⟩, 0⟩], [⟨0, 0, 0, 0, 0, ⟨#[120]⟩, ⟨#[]⟩, ⟨#[]⟩, ⟨#[]⟩, 0⟩, ⟨1, 0, 0, 0, 1, ⟨#[]⟩, ⟨#[]⟩, ⟨#[]⟩, ⟨#[]⟩, 0⟩, ⟨5, 0, 1, 0, 0, ⟨#[]⟩, ⟨#[120]⟩, ⟨#[]⟩, ⟨#[]⟩, 0⟩], [⟨1, 0, 0, 0, 1, ⟨#[]⟩, ⟨#[]⟩, ⟨#[]⟩, ⟨#[]⟩, 0⟩, ⟨0, 0, 0, 0, 0, ⟨#[120]⟩, ⟨#[]⟩, ⟨#[]⟩, ⟨#[]⟩, 0⟩, ⟨5, 0, 1, 0, 0, ⟨#[]⟩, ⟨#[120]⟩, ⟨#[]⟩, ⟨#[]⟩, 0⟩], [⟨0, 0, 0, 0, 0, ⟨#[120]⟩, ⟨#[]⟩, ⟨#[]⟩, ⟨#[]⟩, 0⟩, ⟨1, 0, 0, 0, 1, ⟨#[]⟩, ⟨#[]⟩, ⟨#[]⟩, ⟨#[]⟩, 0⟩, ⟨6, 0, 1, 0, 0, ⟨#[]⟩, ⟨#[120]⟩, ⟨#[122]⟩, ⟨#[]⟩, 0⟩], [⟨0, 0, 0, 0, 0, ⟨#[120]⟩, ⟨#[]⟩, ⟨#[]⟩, ⟨#[]⟩, 0⟩, ⟨1, 0, 0, 0, 1, ⟨#[]⟩, ⟨#[]⟩, ⟨#[]⟩, ⟨#[]⟩, 0⟩, ⟨6, 0, 1, 0, 0, ⟨#[]⟩, ⟨#[122]⟩, ⟨#[120]⟩, ⟨#[]⟩, 0⟩], [⟨1, 0, 0, 0, 1, ⟨#[]⟩, ⟨#[]⟩, ⟨#[]⟩, ⟨#[]⟩, 0⟩, ⟨0, 0, 0, 0, 0, ⟨#[120]⟩, ⟨#[]⟩, ⟨#[]⟩, ⟨#[]⟩, 0⟩, ⟨6, 0, 1, 0, 0, ⟨#[]⟩, ⟨#[122]⟩, ⟨#[120]⟩, ⟨#[]⟩, 0⟩], [⟨1, 0, 0, 0, 1, ⟨#[]⟩, ⟨#[]⟩, ⟨#[]⟩, ⟨#[]⟩, 0⟩, ⟨0, 0, 0, 0, 0, ⟨#[120]⟩, ⟨#[]⟩, ⟨#[]⟩, ⟨#[]⟩, 0⟩, ⟨0, 0, 0, 0, 0, ⟨#[121]⟩, ⟨#[]⟩, ⟨#[]⟩, ⟨#[]⟩, 0⟩, ⟨10, 0, 1, 2, 0, ⟨#[97]⟩, ⟨#[120]⟩, ⟨#[122]⟩, ⟨#[121]⟩, 0⟩], [⟨0, 0, 0, 0, 0, ⟨#[120]⟩, ⟨#[]⟩, ⟨#[]⟩, ⟨#[]⟩, 0⟩, ⟨1, 0, 0, 0, 1, ⟨#[]⟩, ⟨#[]⟩, ⟨#[]⟩, ⟨#[]⟩, 0⟩, ⟨1, 0, 0, 0, 1, ⟨#[]⟩, ⟨#[]⟩, ⟨#[]⟩, ⟨#[]⟩, 0⟩, ⟨10, 0, 1, 2, 0, ⟨#[97]⟩, ⟨#[120]⟩, ⟨#[120]⟩, ⟨#[120]⟩, 0⟩], [⟨1, 0, 0, 0, 1, ⟨#[]⟩, ⟨#[]⟩, ⟨#[]⟩, ⟨#[]⟩, 0⟩, ⟨1, 0, 0, 0, 1, ⟨#[]⟩, ⟨#[]⟩, ⟨#[]⟩, ⟨#[]⟩, 0⟩, ⟨0, 0, 0, 0, 0, ⟨#[120]⟩, ⟨#[]⟩, ⟨#[]⟩, ⟨#[]⟩, 0⟩, ⟨10, 0, 1, 2, 0, ⟨#[97]⟩, ⟨#[120]⟩, ⟨#[120]⟩, ⟨#[121]⟩, 0⟩], [⟨1, 0, 0, 0, 1, ⟨#[]⟩, ⟨#[]⟩, ⟨#[]⟩, ⟨#[]⟩, 0⟩, ⟨0, 0, 0, 0, 0, ⟨#[120]⟩, ⟨#[]⟩, ⟨#[]⟩, ⟨#[]⟩, 0⟩, ⟨1, 0, 0, 0, 1, ⟨#[]⟩, ⟨#[]⟩, ⟨#[]⟩, ⟨#[]⟩, 0⟩, ⟨10, 0, 1, 2, 0, ⟨#[98]⟩, ⟨#[120]⟩, ⟨#[120]⟩, ⟨#[121]⟩, 0⟩], [⟨1, 0, 0, 0, 1, ⟨#[]⟩, ⟨#[]⟩, ⟨#[]⟩, ⟨#[]⟩, 0⟩, ⟨9, 0, 0, 0, 0, ⟨#[98]⟩, ⟨#[]⟩, ⟨#[]⟩, ⟨#[]⟩, 0⟩]]
def wantL : List Int := [0, 601, 601, 0, 0, 0, 601, 0, 601, 601, 602, 602]
def okF (r : Except (Int × Int) (List Nd)) (v : Int) : Bool := match r with
  | .ok ss => decide (v = 0 ∧ 0 < ss.length)
  | .error e => decide (v = e.1 ∧ (e.1 = 601 ∨ e.1 = 602))
theorem all_ok : ∀ k, k < 12 → okF (resVC [oA] (nss.getD k [])) (wantL.getD k 0) = true := by decide +kernel
theorem sz_ok : ∀ k, k < 12 → ∀ t ∈ nss.getD k [], NdSz t := by unfold NdSz; decide +kernel
theorem dup_ok : resV [oA, oA] (nss.getD 0 []) = .error (602, 0) := by rw [resV_c]; kernel_rfl
theorem len_ok : ∀ k, k < 12 → (nss.getD k []).length ≤ 4 := by decide +kernel
theorem num_q (e : Int) (w : World) (h0 : 0 ≤ e) (h1 : e ≤ 9223372036854775807) :
    Calls Tryd.prog 9 #[.int .i64 e] w fun r w' => r = .returned (.int .i64 e) ∧ w' = w := (num_any e w h0 h1).mono fun _ _ ⟨h, h'⟩ => ⟨h, h'.symm⟩
theorem post_forms {os : List Or} {ts : List Nd} {v : Int} {w w' : World} {e : Ending} (h : ResPost os (resV os ts) w e w') (hv : okF (resV os ts) v = true) :
    ∃ ao no co an nn cn at_, e = .returned (.tuple #[.agg #[.slice ao no co, .slice an nn cn], .int .i64 at_, .int .i64 v]) ∧ Below w.heap.size w w' ∧ ((v = 0 ∧ 0 < nn) ∨ ((v = 601 ∨ v = 602) ∧ nn = 0)) := by
  obtain ⟨ao, no, co, an, nn, cn, at_, code, rfl, hb, h⟩ := h
  cases hr : resV os ts with
  | ok ss =>
    rw [hr] at h hv
    obtain ⟨rfl, rfl, _, N, rfl, rfl, _⟩ := h
    simp only [okF, decide_eq_true_eq] at hv
    obtain ⟨rfl, hv⟩ := hv
    exact ⟨_, _, _, _, _, _, _, rfl, hb, .inl ⟨rfl, hv⟩⟩
  | error er =>
    rw [hr] at h hv
    obtain ⟨rfl, rfl, rfl, rfl, rfl, rfl, rfl, rfl⟩ := h
    simp only [okF, decide_eq_true_eq] at hv
    obtain ⟨rfl, hv⟩ := hv
    exact ⟨_, _, _, _, _, _, _, rfl, hb, .inr ⟨hv, rfl⟩⟩
theorem sz_oo : ∀ t ∈ [oA, oA], OrSz t := by unfold OrSz; decide +kernel
set_option maxRecDepth 100000 in
set_option maxHeartbeats 8000000 in
theorem walk (a0 : Int) (w : World) (b0 : -9223372036854775808 ≤ a0 ∧ a0 ≤ 9223372036854775807) (hg : Hid (errTy w)) :
    Calls Tryd.prog 6 #[.int .i64 a0] w fun e w' => e = .returned (.bool true) ∧ Below w.heap.size w w' := by
  obtain ⟨m, hm0, hm1, he⟩ := umod_int a0 12 (by omega) (by omega)
  obtain ⟨k, rfl⟩ := Int.eq_ofNat_of_zero_le hm0
  have h0l := hgl hg.out
  go_enter Tryd.func6, Tryd.ntmps6
  go_wp2_with fail
  refine (awake6_any _ hg).mono ?_
  rintro e w1 ⟨rfl, hb1⟩
  have hB := Lib.hid hb1
  clear hb1
  go_upto_region 5 with fail
  have hx0 : Nd10 (w1.alloc (.cells #[.int .i64 0, .int .i64 0, .int .i64 0, .int .i64 0, .int .i64 0, .string ⟨#[120]⟩, .string ⟨#[]⟩, .string ⟨#[]⟩, .string ⟨#[]⟩, .int .i64 0] 34)) (w1.heap.size) ⟨0, 0, 0, 0, 0, ⟨#[120]⟩, ⟨#[]⟩, ⟨#[]⟩, ⟨#[]⟩, 0⟩ := nd10_lit _ _ _ _ _ rfl rfl
  obtain ⟨vx, hvx⟩ : ∃ W, w1.alloc (.cells #[.int .i64 0, .int .i64 0, .int .i64 0, .int .i64 0, .int .i64 0, .string ⟨#[120]⟩, .string ⟨#[]⟩, .string ⟨#[]⟩, .string ⟨#[]⟩, .int .i64 0] 34) = W := ⟨_, rfl⟩
  have hxl : vx.heap.size = w1.heap.size + 1 := by rw [← hvx]; simp
  have hxb : Below w1.heap.size w1 vx := by rw [← hvx]; exact below_alc _ _
  rw [hvx] at hx0 ⊢
  clear hvx
  have hy0 : Nd10 (vx.alloc (.cells #[.int .i64 0, .int .i64 0, .int .i64 0, .int .i64 0, .int .i64 0, .string ⟨#[121]⟩, .string ⟨#[]⟩, .string ⟨#[]⟩, .string ⟨#[]⟩, .int .i64 0] 34)) (w1.heap.size + 1) ⟨0, 0, 0, 0, 0, ⟨#[121]⟩, ⟨#[]⟩, ⟨#[]⟩, ⟨#[]⟩, 0⟩ := nd10_lit _ _ _ _ _ hxl.symm rfl
  obtain ⟨vy, hvy⟩ : ∃ W, vx.alloc (.cells #[.int .i64 0, .int .i64 0, .int .i64 0, .int .i64 0, .int .i64 0, .string ⟨#[121]⟩, .string ⟨#[]⟩, .string ⟨#[]⟩, .string ⟨#[]⟩, .int .i64 0] 34) = W := ⟨_, rfl⟩
  have hyl : vy.heap.size = w1.heap.size + 1 + 1 := by rw [← hvy]; simp [hxl]
  have hyb : Below vx.heap.size vx vy := by rw [← hvy]; exact below_alc _ _
  rw [hvy] at hy0 ⊢
  clear hvy
  have ho0 : Nd10 (vy.alloc (.cells #[.int .i64 1, .int .i64 0, .int .i64 0, .int .i64 0, .int .i64 1, .string ⟨#[]⟩, .string ⟨#[]⟩, .string ⟨#[]⟩, .string ⟨#[]⟩, .int .i64 0] 34)) (w1.heap.size + 1 + 1) ⟨1, 0, 0, 0, 1, ⟨#[]⟩, ⟨#[]⟩, ⟨#[]⟩, ⟨#[]⟩, 0⟩ := nd10_lit _ _ _ _ _ hyl.symm rfl
  obtain ⟨vo, hvo⟩ : ∃ W, vy.alloc (.cells #[.int .i64 1, .int .i64 0, .int .i64 0, .int .i64 0, .int .i64 1, .string ⟨#[]⟩, .string ⟨#[]⟩, .string ⟨#[]⟩, .string ⟨#[]⟩, .int .i64 0] 34) = W := ⟨_, rfl⟩
  have hol : vo.heap.size = w1.heap.size + 1 + 1 + 1 := by rw [← hvo]; simp [hyl]
  have hob : Below vy.heap.size vy vo := by rw [← hvo]; exact below_alc _ _
  rw [hvo] at ho0 ⊢
  clear hvo
  have hB := Lib.hid (belT hB.out (belT hxb (belT hyb hob)))
  obtain ⟨xl, x0, x1, x2, x3, x4, x5, x6, x7, x8, x9, _⟩ := hx0.below (belT hyb hob)
  obtain ⟨yl, y0, y1, y2, y3, y4, y5, y6, y7, y8, y9, _⟩ := hy0.below hob
  obtain ⟨ol, o0, o1, o2, o3, o4, o5, o6, o7, o8, o9, _⟩ := ho0
  clear hxb hyb hob hx0 hy0 hxl hyl
  dsimp only at x0 x1 x2 x3 x4 x5 x6 x7 x8 x9 y0 y1 y2 y3 y4 y5 y6 y7 y8 y9 o0 o1 o2 o3 o4 o5 o6 o7 o8 o9
  go_upto_region 6 with fail
  clear x0 x1 x2 x3 x4 x5 x6 x7 x8 x9 y0 y1 y2 y3 y4 y5 y6 y7 y8 y9 o0 o1 o2 o3 o4 o5 o6 o7 o8 o9 xl yl ol
  have n0 := nArg_lit vo #[.int .i64 0, .int .i64 0, .int .i64 0, .int .i64 0, .int .i64 0, .string ⟨#[120]⟩, .string ⟨#[]⟩, .string ⟨#[]⟩, .string ⟨#[]⟩, .int .i64 0, .int .i64 3, .int .i64 0, .int .i64 0, .int .i64 0, .int .i64 0, .string ⟨#[]⟩, .string ⟨#[120]⟩, .string ⟨#[]⟩, .string ⟨#[]⟩, .int .i64 0] 34 (w1.heap.size + 1 + 1 + 1) 2 [⟨0, 0, 0, 0, 0, ⟨#[120]⟩, ⟨#[]⟩, ⟨#[]⟩, ⟨#[]⟩, 0⟩, ⟨3, 0, 0, 0, 0, ⟨#[]⟩, ⟨#[120]⟩, ⟨#[]⟩, ⟨#[]⟩, 0⟩] hol.symm rfl rfl
  obtain ⟨s0, e0⟩ : ∃ W, vo.alloc (.cells #[.int .i64 0, .int .i64 0, .int .i64 0, .int .i64 0, .int .i64 0, .string ⟨#[120]⟩, .string ⟨#[]⟩, .string ⟨#[]⟩, .string ⟨#[]⟩, .int .i64 0, .int .i64 3, .int .i64 0, .int .i64 0, .int .i64 0, .int .i64 0, .string ⟨#[]⟩, .string ⟨#[120]⟩, .string ⟨#[]⟩, .string ⟨#[]⟩, .int .i64 0] 34) = W := ⟨_, rfl⟩
  have l0 : s0.heap.size = w1.heap.size + 1 + 1 + 1 + 1 := by rw [← e0]; simp [hol]
  have b0 : Below vo.heap.size vo s0 := by rw [← e0]; exact below_alc _ _
  rw [e0] at n0 ⊢
  clear e0
  have n1 := nArg_lit s0 #[.int .i64 0, .int .i64 0, .int .i64 0, .int .i64 0, .int .i64 0, .string ⟨#[120]⟩, .string ⟨#[]⟩, .string ⟨#[]⟩, .string ⟨#[]⟩, .int .i64 0, .int .i64 3, .int .i64 0, .int .i64 0, .int .i64 0, .int .i64 0, .string ⟨#[]⟩, .string ⟨#[121]⟩, .string ⟨#[]⟩, .string ⟨#[]⟩, .int .i64 0] 34 (w1.heap.size + 1 + 1 + 1 + 1) 2 [⟨0, 0, 0, 0, 0, ⟨#[120]⟩, ⟨#[]⟩, ⟨#[]⟩, ⟨#[]⟩, 0⟩, ⟨3, 0, 0, 0, 0, ⟨#[]⟩, ⟨#[121]⟩, ⟨#[]⟩, ⟨#[]⟩, 0⟩] l0.symm rfl rfl
  obtain ⟨s1, e1⟩ : ∃ W, s0.alloc (.cells #[.int .i64 0, .int .i64 0, .int .i64 0, .int .i64 0, .int .i64 0, .string ⟨#[120]⟩, .string ⟨#[]⟩, .string ⟨#[]⟩, .string ⟨#[]⟩, .int .i64 0, .int .i64 3, .int .i64 0, .int .i64 0, .int .i64 0, .int .i64 0, .string ⟨#[]⟩, .string ⟨#[121]⟩, .string ⟨#[]⟩, .string ⟨#[]⟩, .int .i64 0] 34) = W := ⟨_, rfl⟩
  have l1 : s1.heap.size = w1.heap.size + 1 + 1 + 1 + 1 + 1 := by rw [← e1]; simp [l0]
  have b1 : Below s0.heap.size s0 s1 := by rw [← e1]; exact below_alc _ _
  rw [e1] at n1 ⊢
  clear e1
  have n2 := nArg_lit s1 #[.int .i64 0, .int .i64 0, .int .i64 0, .int .i64 0, .int .i64 0, .string ⟨#[120]⟩, .string ⟨#[]⟩, .string ⟨#[]⟩, .string ⟨#[]⟩, .int .i64 0, .int .i64 1, .int .i64 0, .int .i64 0, .int .i64 0, .int .i64 1, .string ⟨#[]⟩, .string ⟨#[]⟩, .string ⟨#[]⟩, .string ⟨#[]⟩, .int .i64 0, .int .i64 5, .int .i64 0, .int .i64 1, .int .i64 0, .int .i64 0, .string ⟨#[]⟩, .string ⟨#[120]⟩, .string ⟨#[]⟩, .string ⟨#[]⟩, .int .i64 0] 34 (w1.heap.size + 1 + 1 + 1 + 1 + 1) 3 [⟨0, 0, 0, 0, 0, ⟨#[120]⟩, ⟨#[]⟩, ⟨#[]⟩, ⟨#[]⟩, 0⟩, ⟨1, 0, 0, 0, 1, ⟨#[]⟩, ⟨#[]⟩, ⟨#[]⟩, ⟨#[]⟩, 0⟩, ⟨5, 0, 1, 0, 0, ⟨#[]⟩, ⟨#[120]⟩, ⟨#[]⟩, ⟨#[]⟩, 0⟩] l1.symm rfl rfl
  obtain ⟨s2, e2⟩ : ∃ W, s1.alloc (.cells #[.int .i64 0, .int .i64 0, .int .i64 0, .int .i64 0, .int .i64 0, .string ⟨#[120]⟩, .string ⟨#[]⟩, .string ⟨#[]⟩, .string ⟨#[]⟩, .int .i64 0, .int .i64 1, .int .i64 0, .int .i64 0, .int .i64 0, .int .i64 1, .string ⟨#[]⟩, .string ⟨#[]⟩, .string ⟨#[]⟩, .string ⟨#[]⟩, .int .i64 0, .int .i64 5, .int .i64 0, .int .i64 1, .int .i64 0, .int .i64 0, .string ⟨#[]⟩, .string ⟨#[120]⟩, .string ⟨#[]⟩, .string ⟨#[]⟩, .int .i64 0] 34) = W := ⟨_, rfl⟩
  have l2 : s2.heap.size = w1.heap.size + 1 + 1 + 1 + 1 + 1 + 1 := by rw [← e2]; simp [l1]
  have b2 : Below s1.heap.size s1 s2 := by rw [← e2]; exact below_alc _ _
  rw [e2] at n2 ⊢
  clear e2
  have n3 := nArg_lit s2 #[.int .i64 1, .int .i64 0, .int .i64 0, .int .i64 0, .int .i64 1, .string ⟨#[]⟩, .string ⟨#[]⟩, .string ⟨#[]⟩, .string ⟨#[]⟩, .int .i64 0, .int .i64 0, .int .i64 0, .int .i64 0, .int .i64 0, .int .i64 0, .string ⟨#[120]⟩, .string ⟨#[]⟩, .string ⟨#[]⟩, .string ⟨#[]⟩, .int .i64 0, .int .i64 5, .int .i64 0, .int .i64 1, .int .i64 0, .int .i64 0, .string ⟨#[]⟩, .string ⟨#[120]⟩, .string ⟨#[]⟩, .string ⟨#[]⟩, .int .i64 0] 34 (w1.heap.size + 1 + 1 + 1 + 1 + 1 + 1) 3 [⟨1, 0, 0, 0, 1, ⟨#[]⟩, ⟨#[]⟩, ⟨#[]⟩, ⟨#[]⟩, 0⟩, ⟨0, 0, 0, 0, 0, ⟨#[120]⟩, ⟨#[]⟩, ⟨#[]⟩, ⟨#[]⟩, 0⟩, ⟨5, 0, 1, 0, 0, ⟨#[]⟩, ⟨#[120]⟩, ⟨#[]⟩, ⟨#[]⟩, 0⟩] l2.symm rfl rfl
  obtain ⟨s3, e3⟩ : ∃ W, s2.alloc (.cells #[.int .i64 1, .int .i64 0, .int .i64 0, .int .i64 0, .int .i64 1, .string ⟨#[]⟩, .string ⟨#[]⟩, .string ⟨#[]⟩, .string ⟨#[]⟩, .int .i64 0, .int .i64 0, .int .i64 0, .int .i64 0, .int .i64 0, .int .i64 0, .string ⟨#[120]⟩, .string ⟨#[]⟩, .string ⟨#[]⟩, .string ⟨#[]⟩, .int .i64 0, .int .i64 5, .int .i64 0, .int .i64 1, .int .i64 0, .int .i64 0, .string ⟨#[]⟩, .string ⟨#[120]⟩, .string ⟨#[]⟩, .string ⟨#[]⟩, .int .i64 0] 34) = W := ⟨_, rfl⟩
  have l3 : s3.heap.size = w1.heap.size + 1 + 1 + 1 + 1 + 1 + 1 + 1 := by rw [← e3]; simp [l2]
  have b3 : Below s2.heap.size s2 s3 := by rw [← e3]; exact below_alc _ _
  rw [e3] at n3 ⊢
  clear e3
  have n4 := nArg_lit s3 #[.int .i64 0, .int .i64 0, .int .i64 0, .int .i64 0, .int .i64 0, .string ⟨#[120]⟩, .string ⟨#[]⟩, .string ⟨#[]⟩, .string ⟨#[]⟩, .int .i64 0, .int .i64 1, .int .i64 0, .int .i64 0, .int .i64 0, .int .i64 1, .string ⟨#[]⟩, .string ⟨#[]⟩, .string ⟨#[]⟩, .string ⟨#[]⟩, .int .i64 0, .int .i64 6, .int .i64 0, .int .i64 1, .int .i64 0, .int .i64 0, .string ⟨#[]⟩, .string ⟨#[120]⟩, .string ⟨#[122]⟩, .string ⟨#[]⟩, .int .i64 0] 34 (w1.heap.size + 1 + 1 + 1 + 1 + 1 + 1 + 1) 3 [⟨0, 0, 0, 0, 0, ⟨#[120]⟩, ⟨#[]⟩, ⟨#[]⟩, ⟨#[]⟩, 0⟩, ⟨1, 0, 0, 0, 1, ⟨#[]⟩, ⟨#[]⟩, ⟨#[]⟩, ⟨#[]⟩, 0⟩, ⟨6, 0, 1, 0, 0, ⟨#[]⟩, ⟨#[120]⟩, ⟨#[122]⟩, ⟨#[]⟩, 0⟩] l3.symm rfl rfl
  obtain ⟨s4, e4⟩ : ∃ W, s3.alloc (.cells #[.int .i64 0, .int .i64 0, .int .i64 0, .int .i64 0, .int .i64 0, .string ⟨#[120]⟩, .string ⟨#[]⟩, .string ⟨#[]⟩, .string ⟨#[]⟩, .int .i64 0, .int .i64 1, .int .i64 0, .int .i64 0, .int .i64 0, .int .i64 1, .string ⟨#[]⟩, .string ⟨#[]⟩, .string ⟨#[]⟩, .string ⟨#[]⟩, .int .i64 0, .int .i64 6, .int .i64 0, .int .i64 1, .int .i64 0, .int .i64 0, .string ⟨#[]⟩, .string ⟨#[120]⟩, .string ⟨#[122]⟩, .string ⟨#[]⟩, .int .i64 0] 34) = W := ⟨_, rfl⟩
  have l4 : s4.heap.size = w1.heap.size + 1 + 1 + 1 + 1 + 1 + 1 + 1 + 1 := by rw [← e4]; simp [l3]
  have b4 : Below s3.heap.size s3 s4 := by rw [← e4]; exact below_alc _ _
  rw [e4] at n4 ⊢
  clear e4
  have n5 := nArg_lit s4 #[.int .i64 0, .int .i64 0, .int .i64 0, .int .i64 0, .int .i64 0, .string ⟨#[120]⟩, .string ⟨#[]⟩, .string ⟨#[]⟩, .string ⟨#[]⟩, .int .i64 0, .int .i64 1, .int .i64 0, .int .i64 0, .int .i64 0, .int .i64 1, .string ⟨#[]⟩, .string ⟨#[]⟩, .string ⟨#[]⟩, .string ⟨#[]⟩, .int .i64 0, .int .i64 6, .int .i64 0, .int .i64 1, .int .i64 0, .int .i64 0, .string ⟨#[]⟩, .string ⟨#[122]⟩, .string ⟨#[120]⟩, .string ⟨#[]⟩, .int .i64 0] 34 (w1.heap.size + 1 + 1 + 1 + 1 + 1 + 1 + 1 + 1) 3 [⟨0, 0, 0, 0, 0, ⟨#[120]⟩, ⟨#[]⟩, ⟨#[]⟩, ⟨#[]⟩, 0⟩, ⟨1, 0, 0, 0, 1, ⟨#[]⟩, ⟨#[]⟩, ⟨#[]⟩, ⟨#[]⟩, 0⟩, ⟨6, 0, 1, 0, 0, ⟨#[]⟩, ⟨#[122]⟩, ⟨#[120]⟩, ⟨#[]⟩, 0⟩] l4.symm rfl rfl
  obtain ⟨s5, e5⟩ : ∃ W, s4.alloc (.cells #[.int .i64 0, .int .i64 0, .int .i64 0, .int .i64 0, .int .i64 0, .string ⟨#[120]⟩, .string ⟨#[]⟩, .string ⟨#[]⟩, .string ⟨#[]⟩, .int .i64 0, .int .i64 1, .int .i64 0, .int .i64 0, .int .i64 0, .int .i64 1, .string ⟨#[]⟩, .string ⟨#[]⟩, .string ⟨#[]⟩, .string ⟨#[]⟩, .int .i64 0, .int .i64 6, .int .i64 0, .int .i64 1, .int .i64 0, .int .i64 0, .string ⟨#[]⟩, .string ⟨#[122]⟩, .string ⟨#[120]⟩, .string ⟨#[]⟩, .int .i64 0] 34) = W := ⟨_, rfl⟩
  have l5 : s5.heap.size = w1.heap.size + 1 + 1 + 1 + 1 + 1 + 1 + 1 + 1 + 1 := by rw [← e5]; simp [l4]
  have b5 : Below s4.heap.size s4 s5 := by rw [← e5]; exact below_alc _ _
  rw [e5] at n5 ⊢
  clear e5
  have n6 := nArg_lit s5 #[.int .i64 1, .int .i64 0, .int .i64 0, .int .i64 0, .int .i64 1, .string ⟨#[]⟩, .string ⟨#[]⟩, .string ⟨#[]⟩, .string ⟨#[]⟩, .int .i64 0, .int .i64 0, .int .i64 0, .int .i64 0, .int .i64 0, .int .i64 0, .string ⟨#[120]⟩, .string ⟨#[]⟩, .string ⟨#[]⟩, .string ⟨#[]⟩, .int .i64 0, .int .i64 6, .int .i64 0, .int .i64 1, .int .i64 0, .int .i64 0, .string ⟨#[]⟩, .string ⟨#[122]⟩, .string ⟨#[120]⟩, .string ⟨#[]⟩, .int .i64 0] 34 (w1.heap.size + 1 + 1 + 1 + 1 + 1 + 1 + 1 + 1 + 1) 3 [⟨1, 0, 0, 0, 1, ⟨#[]⟩, ⟨#[]⟩, ⟨#[]⟩, ⟨#[]⟩, 0⟩, ⟨0, 0, 0, 0, 0, ⟨#[120]⟩, ⟨#[]⟩, ⟨#[]⟩, ⟨#[]⟩, 0⟩, ⟨6, 0, 1, 0, 0, ⟨#[]⟩, ⟨#[122]⟩, ⟨#[120]⟩, ⟨#[]⟩, 0⟩] l5.symm rfl rfl
  obtain ⟨s6, e6⟩ : ∃ W, s5.alloc (.cells #[.int .i64 1, .int .i64 0, .int .i64 0, .int .i64 0, .int .i64 1, .string ⟨#[]⟩, .string ⟨#[]⟩, .string ⟨#[]⟩, .string ⟨#[]⟩, .int .i64 0, .int .i64 0, .int .i64 0, .int .i64 0, .int .i64 0, .int .i64 0, .string ⟨#[120]⟩, .string ⟨#[]⟩, .string ⟨#[]⟩, .string ⟨#[]⟩, .int .i64 0, .int .i64 6, .int .i64 0, .int .i64 1, .int .i64 0, .int .i64 0, .string ⟨#[]⟩, .string ⟨#[122]⟩, .string ⟨#[120]⟩, .string ⟨#[]⟩, .int .i64 0] 34) = W := ⟨_, rfl⟩
  have l6 : s6.heap.size = w1.heap.size + 1 + 1 + 1 + 1 + 1 + 1 + 1 + 1 + 1 + 1 := by rw [← e6]; simp [l5]
  have b6 : Below s5.heap.size s5 s6 := by rw [← e6]; exact below_alc _ _
  rw [e6] at n6 ⊢
  clear e6
  have n7 := nArg_lit s6 #[.int .i64 1, .int .i64 0, .int .i64 0, .int .i64 0, .int .i64 1, .string ⟨#[]⟩, .string ⟨#[]⟩, .string ⟨#[]⟩, .string ⟨#[]⟩, .int .i64 0, .int .i64 0, .int .i64 0, .int .i64 0, .int .i64 0, .int .i64 0, .string ⟨#[120]⟩, .string ⟨#[]⟩, .string ⟨#[]⟩, .string ⟨#[]⟩, .int .i64 0, .int .i64 0, .int .i64 0, .int .i64 0, .int .i64 0, .int .i64 0, .string ⟨#[121]⟩, .string ⟨#[]⟩, .string ⟨#[]⟩, .string ⟨#[]⟩, .int .i64 0, .int .i64 10, .int .i64 0, .int .i64 1, .int .i64 2, .int .i64 0, .string ⟨#[97]⟩, .string ⟨#[120]⟩, .string ⟨#[122]⟩, .string ⟨#[121]⟩, .int .i64 0] 34 (w1.heap.size + 1 + 1 + 1 + 1 + 1 + 1 + 1 + 1 + 1 + 1) 4 [⟨1, 0, 0, 0, 1, ⟨#[]⟩, ⟨#[]⟩, ⟨#[]⟩, ⟨#[]⟩, 0⟩, ⟨0, 0, 0, 0, 0, ⟨#[120]⟩, ⟨#[]⟩, ⟨#[]⟩, ⟨#[]⟩, 0⟩, ⟨0, 0, 0, 0, 0, ⟨#[121]⟩, ⟨#[]⟩, ⟨#[]⟩, ⟨#[]⟩, 0⟩, ⟨10, 0, 1, 2, 0, ⟨#[97]⟩, ⟨#[120]⟩, ⟨#[122]⟩, ⟨#[121]⟩, 0⟩] l6.symm rfl rfl
  obtain ⟨s7, e7⟩ : ∃ W, s6.alloc (.cells #[.int .i64 1, .int .i64 0, .int .i64 0, .int .i64 0, .int .i64 1, .string ⟨#[]⟩, .string ⟨#[]⟩, .string ⟨#[]⟩, .string ⟨#[]⟩, .int .i64 0, .int .i64 0, .int .i64 0, .int .i64 0, .int .i64 0, .int .i64 0, .string ⟨#[120]⟩, .string ⟨#[]⟩, .string ⟨#[]⟩, .string ⟨#[]⟩, .int .i64 0, .int .i64 0, .int .i64 0, .int .i64 0, .int .i64 0, .int .i64 0, .string ⟨#[121]⟩, .string ⟨#[]⟩, .string ⟨#[]⟩, .string ⟨#[]⟩, .int .i64 0, .int .i64 10, .int .i64 0, .int .i64 1, .int .i64 2, .int .i64 0, .string ⟨#[97]⟩, .string ⟨#[120]⟩, .string ⟨#[122]⟩, .string ⟨#[121]⟩, .int .i64 0] 34) = W := ⟨_, rfl⟩
  have l7 : s7.heap.size = w1.heap.size + 1 + 1 + 1 + 1 + 1 + 1 + 1 + 1 + 1 + 1 + 1 := by rw [← e7]; simp [l6]
  have b7 : Below s6.heap.size s6 s7 := by rw [← e7]; exact below_alc _ _
  rw [e7] at n7 ⊢
  clear e7
  have n8 := nArg_lit s7 #[.int .i64 0, .int .i64 0, .int .i64 0, .int .i64 0, .int .i64 0, .string ⟨#[120]⟩, .string ⟨#[]⟩, .string ⟨#[]⟩, .string ⟨#[]⟩, .int .i64 0, .int .i64 1, .int .i64 0, .int .i64 0, .int .i64 0, .int .i64 1, .string ⟨#[]⟩, .string ⟨#[]⟩, .string ⟨#[]⟩, .string ⟨#[]⟩, .int .i64 0, .int .i64 1, .int .i64 0, .int .i64 0, .int .i64 0, .int .i64 1, .string ⟨#[]⟩, .string ⟨#[]⟩, .string ⟨#[]⟩, .string ⟨#[]⟩, .int .i64 0, .int .i64 10, .int .i64 0, .int .i64 1, .int .i64 2, .int .i64 0, .string ⟨#[97]⟩, .string ⟨#[120]⟩, .string ⟨#[120]⟩, .string ⟨#[120]⟩, .int .i64 0] 34 (w1.heap.size + 1 + 1 + 1 + 1 + 1 + 1 + 1 + 1 + 1 + 1 + 1) 4 [⟨0, 0, 0, 0, 0, ⟨#[120]⟩, ⟨#[]⟩, ⟨#[]⟩, ⟨#[]⟩, 0⟩, ⟨1, 0, 0, 0, 1, ⟨#[]⟩, ⟨#[]⟩, ⟨#[]⟩, ⟨#[]⟩, 0⟩, ⟨1, 0, 0, 0, 1, ⟨#[]⟩, ⟨#[]⟩, ⟨#[]⟩, ⟨#[]⟩, 0⟩, ⟨10, 0, 1, 2, 0, ⟨#[97]⟩, ⟨#[120]⟩, ⟨#[120]⟩, ⟨#[120]⟩, 0⟩] l7.symm rfl rfl
  obtain ⟨s8, e8⟩ : ∃ W, s7.alloc (.cells #[.int .i64 0, .int .i64 0, .int .i64 0, .int .i64 0, .int .i64 0, .string ⟨#[120]⟩, .string ⟨#[]⟩, .string ⟨#[]⟩, .string ⟨#[]⟩, .int .i64 0, .int .i64 1, .int .i64 0, .int .i64 0, .int .i64 0, .int .i64 1, .string ⟨#[]⟩, .string ⟨#[]⟩, .string ⟨#[]⟩, .string ⟨#[]⟩, .int .i64 0, .int .i64 1, .int .i64 0, .int .i64 0, .int .i64 0, .int .i64 1, .string ⟨#[]⟩, .string ⟨#[]⟩, .string ⟨#[]⟩, .string ⟨#[]⟩, .int .i64 0, .int .i64 10, .int .i64 0, .int .i64 1, .int .i64 2, .int .i64 0, .string ⟨#[97]⟩, .string ⟨#[120]⟩, .string ⟨#[120]⟩, .string ⟨#[120]⟩, .int .i64 0] 34) = W := ⟨_, rfl⟩
  have l8 : s8.heap.size = w1.heap.size + 1 + 1 + 1 + 1 + 1 + 1 + 1 + 1 + 1 + 1 + 1 + 1 := by rw [← e8]; simp [l7]
  have b8 : Below s7.heap.size s7 s8 := by rw [← e8]; exact below_alc _ _
  rw [e8] at n8 ⊢
  clear e8
  have n9 := nArg_lit s8 #[.int .i64 1, .int .i64 0, .int .i64 0, .int .i64 0, .int .i64 1, .string ⟨#[]⟩, .string ⟨#[]⟩, .string ⟨#[]⟩, .string ⟨#[]⟩, .int .i64 0, .int .i64 1, .int .i64 0, .int .i64 0, .int .i64 0, .int .i64 1, .string ⟨#[]⟩, .string ⟨#[]⟩, .string ⟨#[]⟩, .string ⟨#[]⟩, .int .i64 0, .int .i64 0, .int .i64 0, .int .i64 0, .int .i64 0, .int .i64 0, .string ⟨#[120]⟩, .string ⟨#[]⟩, .string ⟨#[]⟩, .string ⟨#[]⟩, .int .i64 0, .int .i64 10, .int .i64 0, .int .i64 1, .int .i64 2, .int .i64 0, .string ⟨#[97]⟩, .string ⟨#[120]⟩, .string ⟨#[120]⟩, .string ⟨#[121]⟩, .int .i64 0] 34 (w1.heap.size + 1 + 1 + 1 + 1 + 1 + 1 + 1 + 1 + 1 + 1 + 1 + 1) 4 [⟨1, 0, 0, 0, 1, ⟨#[]⟩, ⟨#[]⟩, ⟨#[]⟩, ⟨#[]⟩, 0⟩, ⟨1, 0, 0, 0, 1, ⟨#[]⟩, ⟨#[]⟩, ⟨#[]⟩, ⟨#[]⟩, 0⟩, ⟨0, 0, 0, 0, 0, ⟨#[120]⟩, ⟨#[]⟩, ⟨#[]⟩, ⟨#[]⟩, 0⟩, ⟨10, 0, 1, 2, 0, ⟨#[97]⟩, ⟨#[120]⟩, ⟨#[120]⟩, ⟨#[121]⟩, 0⟩] l8.symm rfl rfl
  obtain ⟨s9, e9⟩ : ∃ W, s8.alloc (.cells #[.int .i64 1, .int .i64 0, .int .i64 0, .int .i64 0, .int .i64 1, .string ⟨#[]⟩, .string ⟨#[]⟩, .string ⟨#[]⟩, .string ⟨#[]⟩, .int .i64 0, .int .i64 1, .int .i64 0, .int .i64 0, .int .i64 0, .int .i64 1, .string ⟨#[]⟩, .string ⟨#[]⟩, .string ⟨#[]⟩, .string ⟨#[]⟩, .int .i64 0, .int .i64 0, .int .i64 0, .int .i64 0, .int .i64 0, .int .i64 0, .string ⟨#[120]⟩, .string ⟨#[]⟩, .string ⟨#[]⟩, .string ⟨#[]⟩, .int .i64 0, .int .i64 10, .int .i64 0, .int .i64 1, .int .i64 2, .int .i64 0, .string ⟨#[97]⟩, .string ⟨#[120]⟩, .string ⟨#[120]⟩, .string ⟨#[121]⟩, .int .i64 0] 34) = W := ⟨_, rfl⟩
  have l9 : s9.heap.size = w1.heap.size + 1 + 1 + 1 + 1 + 1 + 1 + 1 + 1 + 1 + 1 + 1 + 1 + 1 := by rw [← e9]; simp [l8]
  have b9 : Below s8.heap.size s8 s9 := by rw [← e9]; exact below_alc _ _
  rw [e9] at n9 ⊢
  clear e9
  have n10 := nArg_lit s9 #[.int .i64 1, .int .i64 0, .int .i64 0, .int .i64 0, .int .i64 1, .string ⟨#[]⟩, .string ⟨#[]⟩, .string ⟨#[]⟩, .string ⟨#[]⟩, .int .i64 0, .int .i64 0, .int .i64 0, .int .i64 0, .int .i64 0, .int .i64 0, .string ⟨#[120]⟩, .string ⟨#[]⟩, .string ⟨#[]⟩, .string ⟨#[]⟩, .int .i64 0, .int .i64 1, .int .i64 0, .int .i64 0, .int .i64 0, .int .i64 1, .string ⟨#[]⟩, .string ⟨#[]⟩, .string ⟨#[]⟩, .string ⟨#[]⟩, .int .i64 0, .int .i64 10, .int .i64 0, .int .i64 1, .int .i64 2, .int .i64 0, .string ⟨#[98]⟩, .string ⟨#[120]⟩, .string ⟨#[120]⟩, .string ⟨#[121]⟩, .int .i64 0] 34 (w1.heap.size + 1 + 1 + 1 + 1 + 1 + 1 + 1 + 1 + 1 + 1 + 1 + 1 + 1) 4 [⟨1, 0, 0, 0, 1, ⟨#[]⟩, ⟨#[]⟩, ⟨#[]⟩, ⟨#[]⟩, 0⟩, ⟨0, 0, 0, 0, 0, ⟨#[120]⟩, ⟨#[]⟩, ⟨#[]⟩, ⟨#[]⟩, 0⟩, ⟨1, 0, 0, 0, 1, ⟨#[]⟩, ⟨#[]⟩, ⟨#[]⟩, ⟨#[]⟩, 0⟩, ⟨10, 0, 1, 2, 0, ⟨#[98]⟩, ⟨#[120]⟩, ⟨#[120]⟩, ⟨#[121]⟩, 0⟩] l9.symm rfl rfl
  obtain ⟨s10, e10⟩ : ∃ W, s9.alloc (.cells #[.int .i64 1, .int .i64 0, .int .i64 0, .int .i64 0, .int .i64 1, .string ⟨#[]⟩, .string ⟨#[]⟩, .string ⟨#[]⟩, .string ⟨#[]⟩, .int .i64 0, .int .i64 0, .int .i64 0, .int .i64 0, .int .i64 0, .int .i64 0, .string ⟨#[120]⟩, .string ⟨#[]⟩, .string ⟨#[]⟩, .string ⟨#[]⟩, .int .i64 0, .int .i64 1, .int .i64 0, .int .i64 0, .int .i64 0, .int .i64 1, .string ⟨#[]⟩, .string ⟨#[]⟩, .string ⟨#[]⟩, .string ⟨#[]⟩, .int .i64 0, .int .i64 10, .int .i64 0, .int .i64 1, .int .i64 2, .int .i64 0, .string ⟨#[98]⟩, .string ⟨#[120]⟩, .string ⟨#[120]⟩, .string ⟨#[121]⟩, .int .i64 0] 34) = W := ⟨_, rfl⟩
  have l10 : s10.heap.size = w1.heap.size + 1 + 1 + 1 + 1 + 1 + 1 + 1 + 1 + 1 + 1 + 1 + 1 + 1 + 1 := by rw [← e10]; simp [l9]
  have b10 : Below s9.heap.size s9 s10 := by rw [← e10]; exact below_alc _ _
  rw [e10] at n10 ⊢
  clear e10
  have n11 := nArg_lit s10 #[.int .i64 1, .int .i64 0, .int .i64 0, .int .i64 0, .int .i64 1, .string ⟨#[]⟩, .string ⟨#[]⟩, .string ⟨#[]⟩, .string ⟨#[]⟩, .int .i64 0, .int .i64 9, .int .i64 0, .int .i64 0, .int .i64 0, .int .i64 0, .string ⟨#[98]⟩, .string ⟨#[]⟩, .string ⟨#[]⟩, .string ⟨#[]⟩, .int .i64 0] 34 (w1.heap.size + 1 + 1 + 1 + 1 + 1 + 1 + 1 + 1 + 1 + 1 + 1 + 1 + 1 + 1) 2 [⟨1, 0, 0, 0, 1, ⟨#[]⟩, ⟨#[]⟩, ⟨#[]⟩, ⟨#[]⟩, 0⟩, ⟨9, 0, 0, 0, 0, ⟨#[98]⟩, ⟨#[]⟩, ⟨#[]⟩, ⟨#[]⟩, 0⟩] l10.symm rfl rfl
  obtain ⟨s11, e11⟩ : ∃ W, s10.alloc (.cells #[.int .i64 1, .int .i64 0, .int .i64 0, .int .i64 0, .int .i64 1, .string ⟨#[]⟩, .string ⟨#[]⟩, .string ⟨#[]⟩, .string ⟨#[]⟩, .int .i64 0, .int .i64 9, .int .i64 0, .int .i64 0, .int .i64 0, .int .i64 0, .string ⟨#[98]⟩, .string ⟨#[]⟩, .string ⟨#[]⟩, .string ⟨#[]⟩, .int .i64 0] 34) = W := ⟨_, rfl⟩
  have l11 : s11.heap.size = w1.heap.size + 1 + 1 + 1 + 1 + 1 + 1 + 1 + 1 + 1 + 1 + 1 + 1 + 1 + 1 + 1 := by rw [← e11]; simp [l10]
  have b11 : Below s10.heap.size s10 s11 := by rw [← e11]; exact below_alc _ _
  rw [e11] at n11 ⊢
  clear e11
  obtain ⟨w3, e12⟩ : ∃ W, s11.alloc (.cells #[.slice (some ⟨w1.heap.size + 1 + 1 + 1, 0, none⟩) 2 2, .slice (some ⟨w1.heap.size + 1 + 1 + 1 + 1, 0, none⟩) 2 2, .slice (some ⟨w1.heap.size + 1 + 1 + 1 + 1 + 1, 0, none⟩) 3 3, .slice (some ⟨w1.heap.size + 1 + 1 + 1 + 1 + 1 + 1, 0, none⟩) 3 3, .slice (some ⟨w1.heap.size + 1 + 1 + 1 + 1 + 1 + 1 + 1, 0, none⟩) 3 3, .slice (some ⟨w1.heap.size + 1 + 1 + 1 + 1 + 1 + 1 + 1 + 1, 0, none⟩) 3 3, .slice (some ⟨w1.heap.size + 1 + 1 + 1 + 1 + 1 + 1 + 1 + 1 + 1, 0, none⟩) 3 3, .slice (some ⟨w1.heap.size + 1 + 1 + 1 + 1 + 1 + 1 + 1 + 1 + 1 + 1, 0, none⟩) 4 4, .slice (some ⟨w1.heap.size + 1 + 1 + 1 + 1 + 1 + 1 + 1 + 1 + 1 + 1 + 1, 0, none⟩) 4 4, .slice (some ⟨w1.heap.size + 1 + 1 + 1 + 1 + 1 + 1 + 1 + 1 + 1 + 1 + 1 + 1, 0, none⟩) 4 4, .slice (some ⟨w1.heap.size + 1 + 1 + 1 + 1 + 1 + 1 + 1 + 1 + 1 + 1 + 1 + 1 + 1, 0, none⟩) 4 4, .slice (some ⟨w1.heap.size + 1 + 1 + 1 + 1 + 1 + 1 + 1 + 1 + 1 + 1 + 1 + 1 + 1 + 1, 0, none⟩) 2 2] 23) = W := ⟨_, rfl⟩
  have b12 : Below s11.heap.size s11 w3 := by rw [← e12]; exact below_alc _ _
  have c0 : w3.cell? ⟨w1.heap.size + 1 + 1 + 1 + 1 + 1 + 1 + 1 + 1 + 1 + 1 + 1 + 1 + 1 + 1 + 1, 0, none⟩ = some (.slice (some ⟨w1.heap.size + 1 + 1 + 1, 0, none⟩) 2 2) := by rw [← e12, World.cell?_alloc_at _ _ _ _ l11.symm]; rfl
  have c1 : w3.cell? ⟨w1.heap.size + 1 + 1 + 1 + 1 + 1 + 1 + 1 + 1 + 1 + 1 + 1 + 1 + 1 + 1 + 1, 1, none⟩ = some (.slice (some ⟨w1.heap.size + 1 + 1 + 1 + 1, 0, none⟩) 2 2) := by rw [← e12, World.cell?_alloc_at _ _ _ _ l11.symm]; rfl
  have c2 : w3.cell? ⟨w1.heap.size + 1 + 1 + 1 + 1 + 1 + 1 + 1 + 1 + 1 + 1 + 1 + 1 + 1 + 1 + 1, 2, none⟩ = some (.slice (some ⟨w1.heap.size + 1 + 1 + 1 + 1 + 1, 0, none⟩) 3 3) := by rw [← e12, World.cell?_alloc_at _ _ _ _ l11.symm]; rfl
  have c3 : w3.cell? ⟨w1.heap.size + 1 + 1 + 1 + 1 + 1 + 1 + 1 + 1 + 1 + 1 + 1 + 1 + 1 + 1 + 1, 3, none⟩ = some (.slice (some ⟨w1.heap.size + 1 + 1 + 1 + 1 + 1 + 1, 0, none⟩) 3 3) := by rw [← e12, World.cell?_alloc_at _ _ _ _ l11.symm]; rfl
  have c4 : w3.cell? ⟨w1.heap.size + 1 + 1 + 1 + 1 + 1 + 1 + 1 + 1 + 1 + 1 + 1 + 1 + 1 + 1 + 1, 4, none⟩ = some (.slice (some ⟨w1.heap.size + 1 + 1 + 1 + 1 + 1 + 1 + 1, 0, none⟩) 3 3) := by rw [← e12, World.cell?_alloc_at _ _ _ _ l11.symm]; rfl
  have c5 : w3.cell? ⟨w1.heap.size + 1 + 1 + 1 + 1 + 1 + 1 + 1 + 1 + 1 + 1 + 1 + 1 + 1 + 1 + 1, 5, none⟩ = some (.slice (some ⟨w1.heap.size + 1 + 1 + 1 + 1 + 1 + 1 + 1 + 1, 0, none⟩) 3 3) := by rw [← e12, World.cell?_alloc_at _ _ _ _ l11.symm]; rfl
  have c6 : w3.cell? ⟨w1.heap.size + 1 + 1 + 1 + 1 + 1 + 1 + 1 + 1 + 1 + 1 + 1 + 1 + 1 + 1 + 1, 6, none⟩ = some (.slice (some ⟨w1.heap.size + 1 + 1 + 1 + 1 + 1 + 1 + 1 + 1 + 1, 0, none⟩) 3 3) := by rw [← e12, World.cell?_alloc_at _ _ _ _ l11.symm]; rfl
  have c7 : w3.cell? ⟨w1.heap.size + 1 + 1 + 1 + 1 + 1 + 1 + 1 + 1 + 1 + 1 + 1 + 1 + 1 + 1 + 1, 7, none⟩ = some (.slice (some ⟨w1.heap.size + 1 + 1 + 1 + 1 + 1 + 1 + 1 + 1 + 1 + 1, 0, none⟩) 4 4) := by rw [← e12, World.cell?_alloc_at _ _ _ _ l11.symm]; rfl
  have c8 : w3.cell? ⟨w1.heap.size + 1 + 1 + 1 + 1 + 1 + 1 + 1 + 1 + 1 + 1 + 1 + 1 + 1 + 1 + 1, 8, none⟩ = some (.slice (some ⟨w1.heap.size + 1 + 1 + 1 + 1 + 1 + 1 + 1 + 1 + 1 + 1 + 1, 0, none⟩) 4 4) := by rw [← e12, World.cell?_alloc_at _ _ _ _ l11.symm]; rfl
  have c9 : w3.cell? ⟨w1.heap.size + 1 + 1 + 1 + 1 + 1 + 1 + 1 + 1 + 1 + 1 + 1 + 1 + 1 + 1 + 1, 9, none⟩ = some (.slice (some ⟨w1.heap.size + 1 + 1 + 1 + 1 + 1 + 1 + 1 + 1 + 1 + 1 + 1 + 1, 0, none⟩) 4 4) := by rw [← e12, World.cell?_alloc_at _ _ _ _ l11.symm]; rfl
  have c10 : w3.cell? ⟨w1.heap.size + 1 + 1 + 1 + 1 + 1 + 1 + 1 + 1 + 1 + 1 + 1 + 1 + 1 + 1 + 1, 10, none⟩ = some (.slice (some ⟨w1.heap.size + 1 + 1 + 1 + 1 + 1 + 1 + 1 + 1 + 1 + 1 + 1 + 1 + 1, 0, none⟩) 4 4) := by rw [← e12, World.cell?_alloc_at _ _ _ _ l11.symm]; rfl
  have c11 : w3.cell? ⟨w1.heap.size + 1 + 1 + 1 + 1 + 1 + 1 + 1 + 1 + 1 + 1 + 1 + 1 + 1 + 1 + 1, 11, none⟩ = some (.slice (some ⟨w1.heap.size + 1 + 1 + 1 + 1 + 1 + 1 + 1 + 1 + 1 + 1 + 1 + 1 + 1 + 1, 0, none⟩) 2 2) := by rw [← e12, World.cell?_alloc_at _ _ _ _ l11.symm]; rfl
  have tl : w1.heap.size + 1 + 1 + 1 + 1 + 1 + 1 + 1 + 1 + 1 + 1 + 1 + 1 + 1 + 1 + 1 < w3.heap.size := by rw [← e12]; simp [l11]
  rw [e12]
  clear e12
  have r11 := b12
  have r10 := belT b11 r11
  have r9 := belT b10 r10
  have r8 := belT b9 r9
  have r7 := belT b8 r8
  have r6 := belT b7 r7
  have r5 := belT b6 r6
  have r4 := belT b5 r5
  have r3 := belT b4 r4
  have r2 := belT b3 r3
  have r1 := belT b2 r2
  have r0 := belT b1 r1
  have hT : ∀ j, j < 12 → ∃ g n, w3.cell? ⟨w1.heap.size + 1 + 1 + 1 + 1 + 1 + 1 + 1 + 1 + 1 + 1 + 1 + 1 + 1 + 1 + 1, j, none⟩ = some (.slice (some ⟨g, 0, none⟩) n n) ∧ NArg w3 (some ⟨g, 0, none⟩) n (nss.getD j []) := by
    intro j hj
    have : j = 0 ∨ j = 1 ∨ j = 2 ∨ j = 3 ∨ j = 4 ∨ j = 5 ∨ j = 6 ∨ j = 7 ∨ j = 8 ∨ j = 9 ∨ j = 10 ∨ j = 11 := by omega
    rcases this with rfl | rfl | rfl | rfl | rfl | rfl | rfl | rfl | rfl | rfl | rfl | rfl
    · exact ⟨_, _, c0, n0.below r0⟩
    · exact ⟨_, _, c1, n1.below r1⟩
    · exact ⟨_, _, c2, n2.below r2⟩
    · exact ⟨_, _, c3, n3.below r3⟩
    · exact ⟨_, _, c4, n4.below r4⟩
    · exact ⟨_, _, c5, n5.below r5⟩
    · exact ⟨_, _, c6, n6.below r6⟩
    · exact ⟨_, _, c7, n7.below r7⟩
    · exact ⟨_, _, c8, n8.below r8⟩
    · exact ⟨_, _, c9, n9.below r9⟩
    · exact ⟨_, _, c10, n10.below r10⟩
    · exact ⟨_, _, c11, n11.below r11⟩
  have hB := Lib.hid (belT hB.out (belT b0 r0))
  generalize w1.heap.size + 1 + 1 + 1 + 1 + 1 + 1 + 1 + 1 + 1 + 1 + 1 + 1 + 1 + 1 + 1 = T at hT tl ⊢
  have hT := Lib.hid hT
  clear n0 n1 n2 n3 n4 n5 n6 n7 n8 n9 n10 n11 r0 r1 r2 r3 r4 r5 r6 r7 r8 r9 r10 r11 c0 c1 c2 c3 c4 c5 c6 c7 c8 c9 c10 c11 b0 b1 b2 b3 b4 b5 b6 b7 b8 b9 b10 b11 b12 hol l0 l1 l2 l3 l4 l5 l6 l7 l8 l9 l10 l11
  go_upto_region 7 with fail
  have hW : ∀ j, j < 12 → ((w3.alloc (.cells #[.int .i64 0, .int .i64 601, .int .i64 601, .int .i64 0, .int .i64 0, .int .i64 0, .int .i64 601, .int .i64 0, .int .i64 601, .int .i64 601, .int .i64 602, .int .i64 602] 3))).cell? ⟨w3.heap.size, j, none⟩ = some (.int .i64 (wantL.getD j 0)) := by
    intro j hj
    rw [World.cell?_alloc_at _ _ _ _ rfl]
    have : j = 0 ∨ j = 1 ∨ j = 2 ∨ j = 3 ∨ j = 4 ∨ j = 5 ∨ j = 6 ∨ j = 7 ∨ j = 8 ∨ j = 9 ∨ j = 10 ∨ j = 11 := by omega
    rcases this with rfl | rfl | rfl | rfl | rfl | rfl | rfl | rfl | rfl | rfl | rfl | rfl <;> rfl
  obtain ⟨w4, hw4⟩ : ∃ W, w3.alloc (.cells #[.int .i64 0, .int .i64 601, .int .i64 601, .int .i64 0, .int .i64 0, .int .i64 0, .int .i64 601, .int .i64 0, .int .i64 601, .int .i64 601, .int .i64 602, .int .i64 602] 3) = W := ⟨_, rfl⟩
  have hb : Below w3.heap.size w3 w4 := by rw [← hw4]; exact below_alc _ _
  have h4l : w3.heap.size < w4.heap.size := by rw [← hw4]; simp
  rw [hw4] at hW ⊢
  clear hw4
  have hT := Lib.hid (show ∀ j, j < 12 → ∃ g n, w4.cell? ⟨T, j, none⟩ = some (.slice (some ⟨g, 0, none⟩) n n) ∧ NArg w4 (some ⟨g, 0, none⟩) n (nss.getD j []) from fun j hj => by obtain ⟨g, n, h1, h2⟩ := hT.out j hj; exact ⟨g, n, carry hb tl h1, h2.below hb⟩)
  have hW := Lib.hid hW
  have hB := Lib.hid (belT hB.out hb)
  have hT4 : T < w4.heap.size := by omega
  generalize w3.heap.size = V at hW h4l ⊢
  clear hb tl
  go_upto_region 8 with fail
  obtain ⟨g, n, c1, hN⟩ := hT.out k (by omega)
  have hN := Lib.hid hN
  have hn4 : n ≤ 4 := by rw [hN.out.1]; exact len_ok k (by omega)
  have hO := oarg_alloc w4 #[.string ⟨#[97]⟩, .int .i64 0, .int .i64 0] [oA] rfl 1 rfl
  have hb := below_alc w4 (.cells #[.string ⟨#[97]⟩, .int .i64 0, .int .i64 0] 45)
  have kR := Lib.hid (Resolve_any (some ⟨w4.heap.size, 0, none⟩) (some ⟨g, 0, none⟩) 1 1 n n [oA] (nss.getD k []) _ (Lib.hid hO) (Lib.hid sz_oA) (by omega) (Lib.hid (hN.out.below hb)) (Lib.hid (sz_ok k (by omega))) (by omega) (Lib.hid (hg.out.below (belT hB.out hb))))
  have hb := Lib.hid hb
  clear hO
  go_wp2_with fail
  clear c1
  refine kR.out.mono ?_
  intro e w6 hpost
  obtain ⟨ao, no, co, an, nn, cn, at_, rfl, hb6, hv⟩ := post_forms hpost (by rw [resV_c]; exact all_ok k (by omega))
  clear hpost kR
  have hb := belT hb.out hb6
  have h6l := hb.size
  have hT := Lib.hid (show ∀ j, j < 12 → ∃ g n, w6.cell? ⟨T, j, none⟩ = some (.slice (some ⟨g, 0, none⟩) n n) ∧ NArg w6 (some ⟨g, 0, none⟩) n (nss.getD j []) from fun j hj => by obtain ⟨g, n, h1, h2⟩ := hT.out j hj; exact ⟨g, n, carry hb hT4 h1, h2.below hb⟩)
  have c2 := carry hb h4l (hW.out k (by omega))
  have hB := Lib.hid (belT hB.out hb)
  clear hb hb6 hN hn4
  generalize wantL.getD k 0 = v at hv c2 ⊢
  go_upto_region 9 with fail
  obtain ⟨w7, hw7⟩ : ∃ W, w6.alloc (.cells #[.slice ao no co, .slice an nn cn] 25) = W := ⟨_, rfl⟩
  have hQ := pg_lit w6 25 w6.heap.size rfl ao an no co nn cn
  have hb : Below w6.heap.size w6 w7 := by rw [← hw7]; exact below_alc _ _
  rw [hw7] at hQ ⊢
  clear hw7
  have c2 := carry hb (by omega) c2
  obtain ⟨g0, n0, c1, hN⟩ := hT.out 0 (by omega)
  have c1 := carry hb (by omega) c1
  have hN := Lib.hid (hN.below hb)
  have hn4 : n0 ≤ 4 := by rw [hN.out.1]; exact len_ok 0 (by omega)
  have hB := Lib.hid (belT hB.out hb)
  have h7l := hb.size
  have hT7 : T < w7.heap.size := by omega
  have hV7 : V < w7.heap.size := by omega
  clear hb hT
  have hO := oarg_alloc w7 #[.string ⟨#[97]⟩, .int .i64 0, .int .i64 0, .string ⟨#[97]⟩, .int .i64 0, .int .i64 0] [oA, oA] rfl 2 rfl
  have hb := below_alc w7 (.cells #[.string ⟨#[97]⟩, .int .i64 0, .int .i64 0, .string ⟨#[97]⟩, .int .i64 0, .int .i64 0] 45)
  have kR := Lib.hid (Resolve_any (some ⟨w7.heap.size, 0, none⟩) (some ⟨g0, 0, none⟩) 2 2 n0 n0 [oA, oA] (nss.getD 0 []) _ (Lib.hid hO) (Lib.hid sz_oo) (by omega) (Lib.hid (hN.out.below hb)) (Lib.hid (sz_ok 0 (by omega))) (by omega) (Lib.hid (hg.out.below (belT hB.out hb))))
  have hb := Lib.hid hb
  clear hO
  go_wp2_with fail
  clear c1
  refine kR.out.mono ?_
  intro e w8 hpost
  obtain ⟨rfl, hb8⟩ := res_no hpost dup_ok
  clear hpost kR hN hn4
  have hb := belT hb.out hb8
  have hQ8 := hQ.below hb
  have c2 := carry hb hV7 c2
  have hB := Lib.hid (belT hB.out hb)
  have h8l := hb.size
  clear hb hb8 hQ
  go_upto_region 10 with fail
  obtain ⟨w9, hw9⟩ : ∃ W, w8.alloc (.cells #[.slice none 0 0, .slice none 0 0] 25) = W := ⟨_, rfl⟩
  have hb : Below w8.heap.size w8 w9 := by rw [← hw9]; exact below_alc _ _
  rw [hw9]
  clear hw9
  have c2 := carry hb (by omega) c2
  obtain ⟨q0, q1, q2⟩ := hQ8.below hb
  have hB := belT hB.out hb
  clear hQ8 hb hT4 h4l
  have hki : (0 : Int) ≤ (k : Int) := hm0
  rcases hv with ⟨rfl, hn⟩ | ⟨rfl | rfl, rfl⟩
  · have hni : (0 : Int) < (nn : Int) := by omega
    go_quiet ((go_at_call 9; exact Calls.quiet_of_same (num_q _ _ (by omega) (by omega))))
    go_wp2_with fail
    go_ret
    exact ⟨rfl, below_drewN hB nq⟩
  · go_quiet ((go_at_call 9; exact Calls.quiet_of_same (num_q _ _ (by omega) (by omega))))
    go_wp2_with fail
    go_ret
    exact ⟨rfl, below_drewN hB nq⟩
  · go_quiet ((go_at_call 9; exact Calls.quiet_of_same (num_q _ _ (by omega) (by omega))))
    go_wp2_with fail
    go_ret
    exact ⟨rfl, below_drewN hB nq⟩
theorem own : ownKnob Tryd.prog.godebug = none := by kernel_rfl
theorem laidOut : laidOutB Tryd.prog = true := by kernel_rfl
set_option maxRecDepth 100000 in
theorem contract (H : Type) (enc : TypeId × Value → H) (W : World) (base : Nat) (args : Array Value) (ds gs : List (DataW H)) (before : List MemPlace)
    (hval0 : ∀ (j : Nat) t v, Tryd.f6.params[j]? = some t → args[j]? = some v → Value.okWide Tryd.prog W .any base t v)
    (hW : DataW.Whole enc Tryd.prog Tryd.f6.params.toList Rows.scopeFormsSpec.vars false W args.toList ds gs before)
    (hsz0 : (DataW.weightsEach Tryd.prog (Tryd.f6.params.toList ++ Rows.scopeFormsSpec.plain.varTypes Tryd.prog) (ds ++ gs)).all (· ≤ reachBytes) = true)
    (hL : laidMetH Tryd.prog Rows.scopeFormsRow.laid W)
    : Calls Tryd.prog 6 args W fun e W' => ∃ v, e = .returned v ∧ Rows.scopeFormsSpec.post enc Tryd.prog Tryd.f6 false true false false W args v W' := by
  have hval : ∀ (j : Nat) t v, Tryd.f6.params[j]? = some t → args[j]? = some v → Value.okWide Tryd.prog W .any base t v := hval0
  have hsz : (DataW.weightsEach Tryd.prog (Tryd.f6.params.toList ++ Rows.scopeFormsSpec.plain.varTypes Tryd.prog) (ds ++ gs)).all (· ≤ reachBytes) = true := hsz0
  have hW' := hW
  obtain ⟨p, q, hA0, hV, rfl, hfz, hnd⟩ := hW
  have hA : DataW.TrodAll enc Tryd.prog W 0 (fun _ => true) true Tryd.f6.params.toList args.toList ds p := hA0
  rw [Tryd.params6] at hA hval hsz
  obtain ⟨v0, vs0, d0, ds0, p0, q0, hargs, rfl, rfl, h0, r0⟩ := trodAll_cons hA
  obtain ⟨rfl, rfl, rfl⟩ := trodAll_nil r0
  obtain rfl : args = #[v0] := by cases args; simp_all
  obtain ⟨rfl, rfl⟩ := trodVars_none hV
  have k0 := h0
  have lt0 : ∀ x ∈ p0, x.block < W.heap.size := by obtain ⟨m, hm⟩ := k0; exact DataW.trod_lt m _ _ _ hm
  obtain ⟨a0, rfl, rfl, rfl, m0⟩ := open_int Tryd.underlying3 (hval 0 3 v0 rfl rfl) h0
  clear hA0 hval0
  refine (walk a0 W (bd_i64 m0) (tabs hL)).mono fun e W' ⟨he, bel⟩ => ?_
  subst he
  exact ⟨_, rfl, _, _, _, [], _, [], hW', trodAll_mk1 (shut_bool Tryd.underlying4 _), (trodAll_cons_mk (Below.trod laidOut (by kernel_rfl) (of_decide_eq_true (by kernel_rfl)) k0 bel lt0) trodAll_mk0), rfl, bel.frame _, fun h => by cases h⟩
theorem laid_met (os : Os) : laidMetH Tryd.prog Rows.scopeFormsRow.laid ((handleWorld os).forCall (fun _ _ => 0) ⟨#[], #[.int .i64 0], []⟩).memory := laidMetH_of_parts (laidMet_nil _ _) (by kernel_rfl)
theorem reads (os : Os) {H : Type} (enc : TypeId × Value → H) : ∃ places, DataW.whole enc Tryd.prog ((handleWorld os).forCall (fun _ _ => 0) ⟨#[], #[.int .i64 0], []⟩).memory Tryd.f6.params.toList Rows.scopeFormsSpec.vars false #[(.int .i64 0 : Value)].toList 8 = some ([.lit (.int .i64 0)], [], places) := ⟨[], by kernel_rfl⟩
set_option maxRecDepth 100000 in
theorem lifted (os : Os) (started : os.Started) (H : Type) (enc : TypeId × Value → H) (F : Stop.Interp) :
    ReturnsInHanded {} Tryd.checked os 6 .any ((OpenSpec.ofChange Rows.scopeFormsSpec).preRow enc Tryd.prog Tryd.f6 Rows.scopeFormsRow.domain false Rows.scopeFormsRow.laid) (((OpenSpec.ofChange Rows.scopeFormsSpec).at F).post enc Tryd.prog Tryd.f6 false true false false) := by
  obtain ⟨places, hx⟩ := reads os enc
  refine returnsInHanded_of_row (C := Tryd.checked) (s := (OpenSpec.ofChange Rows.scopeFormsSpec)) own started (by kernel_rfl) Tryd.func6
    (witness_row_at (enc := enc) (C := Tryd.checked) false (handleWorld os) #[.int .i64 0] rfl (by kernel_rfl) (by kernel_rfl) (by kernel_rfl)
      (OpenSpec.preRow_of_cond 8 hx (by kernel_rfl) (fun k hk => by cases hk) (by kernel_rfl) (laid_met os))) ?_
  intro W base args ds gs before hval hW _ hcnd hsz hL _ _
  exact contract H enc W base args ds gs before hval hW hsz  hL
theorem said : Rows.ScopeFormsSaid :=
  OpenClaim.holds_of_cond 6 Tryd.f6 rfl rfl rfl rfl rfl rfl rfl ⟨rfl, rfl, rfl, rfl, rfl⟩ rfl rfl rfl rfl rfl (by kernel_rfl) Tryd.func6 (by kernel_rfl)
    (of_decide_eq_true (by kernel_rfl)) (by unfold Func.isWrapper; first | (rw [if_pos (by decide +kernel)]; kernel_rfl) | (rw [if_neg (by decide +kernel)]; exact ⟨rfl, rfl⟩))
    (fun os started H enc _ F => by rw [OpenClaim.pre_eq_preRow]; exact lifted os started H enc F)
theorem plain (f : FuncId) (fn : Func) (hf : Tryd.pinned.checked.prog.funcNamed "trammel/trammellaw6.ScopeForms" = some f) (hfn : Tryd.pinned.checked.prog.funcs[f]? = some fn) :
    true = Tryd.pinned.checked.prog.looks [] ∧ ∀ (j : Nat) t, fn.params[j]? = some t → Tryd.pinned.checked.prog.wantsStandIn t = false := by
  obtain rfl : f = 6 := Option.some.inj ((show Tryd.prog.funcNamed "trammel/trammellaw6.ScopeForms" = some 6 by kernel_rfl).symm.trans hf) |>.symm
  obtain rfl : fn = Tryd.f6 := (Option.some.inj (Tryd.func6.symm.trans hfn)).symm
  refine ⟨by kernel_rfl, fun j t ht => ?_⟩
  rw [Tryd.params6] at ht
  have hm := Array.mem_of_getElem? ht
  have hm2 : t ∈ ([3] : List Nat) := by simpa using hm
  simp only [List.mem_cons, List.not_mem_nil, or_false] at hm2
  subst hm2; exact (show Tryd.prog.wantsStandIn 3 = false by kernel_rfl)
theorem proved : Rows.ScopeFormsCardSaid :=
  Claim7.holds_tied_plain_at .later [] _ _ _ _ said (fun _ h => by cases h) (by kernel_rfl) (fun _ h => by cases h) scopeForms_row_tie rfl ⟨rfl, rfl⟩ (by kernel_rfl) rfl plain (by kernel_rfl)
end Go.Proofs.YtfajbkpeioejoaaDoor.scopeForms
