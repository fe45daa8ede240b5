/- ParseForms holds for every number. No condition but that the listed package variable holds what the program's text lays. -/
import Derived.Test.YtnhfbbognjdnpaaDoorPrE
import Derived.Test.YtnhfbbognjdnpaaDoorAid
import Derived.Test.YtnhfbbognjdnpaaDoorCards
import Derived.Test.YtnhfbbognjdnpaaDoorTie
import Derived.Test.YtnhfbbognjdnpaaDoorOpn
import Derived.Test.YtnhfbbognjdnpaaDoorHan
import Derived.WalkKit
import Derived.ProofKit
import Derived.Deep.DeepHandedRow
namespace Go.Proofs.YtnhfbbognjdnpaaDoor.parseForms
open Go.ChangeShapes Go.WideShapes Go.ChangeAt Go.RowKit
open Go.ChangeMaps (open_string shut_string)
set_option linter.unusedVariables false
set_option linter.unusedSimpArgs false

theorem tabs {W : World} (h : laidMetH Tryd.prog Rows.parseFormsRow.laid W) : Hid (errTy W) := Lib.hid (errTy_of h (.head _))
def fmS : List (List UInt8) := [[], [102, 117, 110], [102, 117, 110, 32, 120], [102, 117, 110, 32, 120, 32, 45, 62], [102, 117, 110, 32, 102, 117, 110, 32, 45, 62, 32, 49], [108, 101, 116, 32, 120, 32, 49, 32, 105, 110, 32, 120], [108, 101, 116, 32, 120, 32, 61, 32, 49, 32, 120], [108, 101, 116, 32, 114, 101, 99, 32, 102, 32, 61, 32, 49, 32, 105, 110, 32, 102], [105, 102, 32, 49, 32, 116, 104, 101, 110, 32, 50], [49, 32, 43], [49, 32, 61, 61, 32, 50, 32, 61, 61, 32, 51], [49, 32, 60, 32, 50, 32, 61, 61, 32, 51], [100, 111, 32, 49], [100, 111, 32, 120], [40, 49], [49, 41], [104, 97, 110, 100, 108, 101, 32, 49, 32, 119, 105, 116, 104, 32, 97, 32, 120, 32, 45, 62, 32, 50, 32, 114, 101, 116, 117, 114, 110, 32, 121, 32, 45, 62, 32, 121, 32, 101, 110, 100], [104, 97, 110, 100, 108, 101, 32, 49, 32, 119, 105, 116, 104, 32, 97, 32, 120, 32, 107, 32, 45, 62, 32, 50, 32, 114, 101, 116, 117, 114, 110, 32, 121, 32, 45, 62, 32, 121], [104, 97, 110, 100, 108, 101, 32, 49, 32, 119, 105, 116, 104, 32, 97, 32, 120, 32, 107, 32, 45, 62, 32, 50, 32, 101, 110, 100], [111, 112, 32, 97, 32, 105, 110, 116, 32, 45, 62, 32, 105, 110, 116, 59, 32, 49], [111, 112, 32, 97, 32, 58, 32, 105, 110, 116, 32, 45, 62, 32, 105, 110, 116, 32, 49], [111, 112, 32, 97, 32, 58, 32, 120, 32, 45, 62, 32, 105, 110, 116, 59, 32, 49], [111, 112, 32, 97, 32, 58, 32, 105, 110, 116, 32, 45, 62, 32, 105, 110, 116, 59], [120, 32, 102, 117, 110, 32, 121, 32, 45, 62, 32, 121], [49, 32, 108, 101, 116, 32, 120, 32, 61, 32, 50, 32, 105, 110, 32, 120], [45, 62], [116, 114, 117, 101, 32, 102, 97, 108, 115, 101, 32, 116, 104, 101, 110], [49, 32, 43, 32, 42, 32, 50]]
def fmA : List Int := [0, 3, 5, 8, 4, 6, 11, 10, 11, 3, 7, 6, 3, 4, 2, 1, 18, 38, 25, 5, 18, 7, 18, 2, 2, 0, 11, 4]
def chk (m : Nat) : Bool := match parseV (bs (fmS.getD m [])) with
  | .error x => decide (x.1 = 403) && decide (x.2 = fmA.getD m 0)
  | .ok _ => false
theorem chk_all : ∀ m < 28, chk m = true := by decide +kernel
theorem len_all : ∀ m < 28, (fmS.getD m []).length ≤ 100 := by decide
theorem facts (m : Nat) (hm : m < 28) : parseV (bs (fmS.getD m [])) = .error (403, fmA.getD m 0) ∧ (bs (fmS.getD m [])).size ≤ 100 := by
  have h := chk_all m hm
  have h2 := len_all m hm
  unfold chk at h
  refine ⟨?_, by simpa [bs, ByteArray.size] using h2⟩
  split at h
  · rename_i x hx
    rw [Bool.and_eq_true, decide_eq_true_eq, decide_eq_true_eq] at h
    rw [hx]; exact congrArg Except.error (Prod.ext h.1 h.2)
  · cases h
set_option maxRecDepth 100000 in
set_option maxHeartbeats 8000000 in
theorem walk (a0 : Int) (w : World) (b0 : -9223372036854775808 ≤ a0 ∧ a0 ≤ 9223372036854775807) (hg : Hid (errTy w)) :
    Calls Tryd.prog 6 #[.int .i64 a0] w fun e w' => e = .returned (.bool true) ∧ Below w.heap.size w w' := by
  obtain ⟨mi, hm0, hm1, he⟩ := umod_int a0 28 (by omega) (by omega)
  obtain ⟨m, rfl⟩ := Int.eq_ofNat_of_zero_le hm0
  have hm : m < 28 := by omega
  obtain ⟨hr, hsz⟩ := facts m hm
  obtain ⟨x, hx⟩ : ∃ x, bs (fmS.getD m []) = x := ⟨_, rfl⟩
  obtain ⟨y, hy⟩ : ∃ y, fmA.getD m 0 = y := ⟨_, rfl⟩
  rw [hx] at hsz
  rw [hx, hy] at hr
  have hx' := Lib.hid hx; have hy' := Lib.hid hy
  clear hx hy
  have hr := Lib.hid hr
  have kA := Lib.hid (awake4_any w hg)
  have kP := Lib.hid fun (W : World) (hb : Below w.heap.size w W) => Parse_any x W (by omega) (Lib.hid (errTy_below hg.out hb))
  go_enter Tryd.func6, Tryd.ntmps6
  go_wp2_with fail
  refine kA.out.mono ?_
  rintro e w1 ⟨rfl, hb1⟩
  have hB1 := Lib.hid hb1
  clear kA hb1
  have hc : (w1.alloc (.cells #[.string ⟨#[]⟩, .string ⟨#[102, 117, 110]⟩, .string ⟨#[102, 117, 110, 32, 120]⟩, .string ⟨#[102, 117, 110, 32, 120, 32, 45, 62]⟩, .string ⟨#[102, 117, 110, 32, 102, 117, 110, 32, 45, 62, 32, 49]⟩, .string ⟨#[108, 101, 116, 32, 120, 32, 49, 32, 105, 110, 32, 120]⟩, .string ⟨#[108, 101, 116, 32, 120, 32, 61, 32, 49, 32, 120]⟩, .string ⟨#[108, 101, 116, 32, 114, 101, 99, 32, 102, 32, 61, 32, 49, 32, 105, 110, 32, 102]⟩, .string ⟨#[105, 102, 32, 49, 32, 116, 104, 101, 110, 32, 50]⟩, .string ⟨#[49, 32, 43]⟩, .string ⟨#[49, 32, 61, 61, 32, 50, 32, 61, 61, 32, 51]⟩, .string ⟨#[49, 32, 60, 32, 50, 32, 61, 61, 32, 51]⟩, .string ⟨#[100, 111, 32, 49]⟩, .string ⟨#[100, 111, 32, 120]⟩, .string ⟨#[40, 49]⟩, .string ⟨#[49, 41]⟩, .string ⟨#[104, 97, 110, 100, 108, 101, 32, 49, 32, 119, 105, 116, 104, 32, 97, 32, 120, 32, 45, 62, 32, 50, 32, 114, 101, 116, 117, 114, 110, 32, 121, 32, 45, 62, 32, 121, 32, 101, 110, 100]⟩, .string ⟨#[104, 97, 110, 100, 108, 101, 32, 49, 32, 119, 105, 116, 104, 32, 97, 32, 120, 32, 107, 32, 45, 62, 32, 50, 32, 114, 101, 116, 117, 114, 110, 32, 121, 32, 45, 62, 32, 121]⟩, .string ⟨#[104, 97, 110, 100, 108, 101, 32, 49, 32, 119, 105, 116, 104, 32, 97, 32, 120, 32, 107, 32, 45, 62, 32, 50, 32, 101, 110, 100]⟩, .string ⟨#[111, 112, 32, 97, 32, 105, 110, 116, 32, 45, 62, 32, 105, 110, 116, 59, 32, 49]⟩, .string ⟨#[111, 112, 32, 97, 32, 58, 32, 105, 110, 116, 32, 45, 62, 32, 105, 110, 116, 32, 49]⟩, .string ⟨#[111, 112, 32, 97, 32, 58, 32, 120, 32, 45, 62, 32, 105, 110, 116, 59, 32, 49]⟩, .string ⟨#[111, 112, 32, 97, 32, 58, 32, 105, 110, 116, 32, 45, 62, 32, 105, 110, 116, 59]⟩, .string ⟨#[120, 32, 102, 117, 110, 32, 121, 32, 45, 62, 32, 121]⟩, .string ⟨#[49, 32, 108, 101, 116, 32, 120, 32, 61, 32, 50, 32, 105, 110, 32, 120]⟩, .string ⟨#[45, 62]⟩, .string ⟨#[116, 114, 117, 101, 32, 102, 97, 108, 115, 101, 32, 116, 104, 101, 110]⟩, .string ⟨#[49, 32, 43, 32, 42, 32, 50]⟩] 9)).cell? ⟨w1.heap.size, m, none⟩ = some (.string x) := by
    rw [World.cell?_alloc_at _ _ _ _ (by rfl), ← hx'.out]
    have hcs : m = 0 ∨ m = 1 ∨ m = 2 ∨ m = 3 ∨ m = 4 ∨ m = 5 ∨ m = 6 ∨ m = 7 ∨ m = 8 ∨ m = 9 ∨ m = 10 ∨ m = 11 ∨ m = 12 ∨ m = 13 ∨ m = 14 ∨ m = 15 ∨ m = 16 ∨ m = 17 ∨ m = 18 ∨ m = 19 ∨ m = 20 ∨ m = 21 ∨ m = 22 ∨ m = 23 ∨ m = 24 ∨ m = 25 ∨ m = 26 ∨ m = 27 := (by omega); rcases hcs with rfl | rfl | rfl | rfl | rfl | rfl | rfl | rfl | rfl | rfl | rfl | rfl | rfl | rfl | rfl | rfl | rfl | rfl | rfl | rfl | rfl | rfl | rfl | rfl | rfl | rfl | rfl | rfl <;> rfl
  obtain ⟨W1, hW1⟩ : ∃ W, w1.alloc (.cells #[.string ⟨#[]⟩, .string ⟨#[102, 117, 110]⟩, .string ⟨#[102, 117, 110, 32, 120]⟩, .string ⟨#[102, 117, 110, 32, 120, 32, 45, 62]⟩, .string ⟨#[102, 117, 110, 32, 102, 117, 110, 32, 45, 62, 32, 49]⟩, .string ⟨#[108, 101, 116, 32, 120, 32, 49, 32, 105, 110, 32, 120]⟩, .string ⟨#[108, 101, 116, 32, 120, 32, 61, 32, 49, 32, 120]⟩, .string ⟨#[108, 101, 116, 32, 114, 101, 99, 32, 102, 32, 61, 32, 49, 32, 105, 110, 32, 102]⟩, .string ⟨#[105, 102, 32, 49, 32, 116, 104, 101, 110, 32, 50]⟩, .string ⟨#[49, 32, 43]⟩, .string ⟨#[49, 32, 61, 61, 32, 50, 32, 61, 61, 32, 51]⟩, .string ⟨#[49, 32, 60, 32, 50, 32, 61, 61, 32, 51]⟩, .string ⟨#[100, 111, 32, 49]⟩, .string ⟨#[100, 111, 32, 120]⟩, .string ⟨#[40, 49]⟩, .string ⟨#[49, 41]⟩, .string ⟨#[104, 97, 110, 100, 108, 101, 32, 49, 32, 119, 105, 116, 104, 32, 97, 32, 120, 32, 45, 62, 32, 50, 32, 114, 101, 116, 117, 114, 110, 32, 121, 32, 45, 62, 32, 121, 32, 101, 110, 100]⟩, .string ⟨#[104, 97, 110, 100, 108, 101, 32, 49, 32, 119, 105, 116, 104, 32, 97, 32, 120, 32, 107, 32, 45, 62, 32, 50, 32, 114, 101, 116, 117, 114, 110, 32, 121, 32, 45, 62, 32, 121]⟩, .string ⟨#[104, 97, 110, 100, 108, 101, 32, 49, 32, 119, 105, 116, 104, 32, 97, 32, 120, 32, 107, 32, 45, 62, 32, 50, 32, 101, 110, 100]⟩, .string ⟨#[111, 112, 32, 97, 32, 105, 110, 116, 32, 45, 62, 32, 105, 110, 116, 59, 32, 49]⟩, .string ⟨#[111, 112, 32, 97, 32, 58, 32, 105, 110, 116, 32, 45, 62, 32, 105, 110, 116, 32, 49]⟩, .string ⟨#[111, 112, 32, 97, 32, 58, 32, 120, 32, 45, 62, 32, 105, 110, 116, 59, 32, 49]⟩, .string ⟨#[111, 112, 32, 97, 32, 58, 32, 105, 110, 116, 32, 45, 62, 32, 105, 110, 116, 59]⟩, .string ⟨#[120, 32, 102, 117, 110, 32, 121, 32, 45, 62, 32, 121]⟩, .string ⟨#[49, 32, 108, 101, 116, 32, 120, 32, 61, 32, 50, 32, 105, 110, 32, 120]⟩, .string ⟨#[45, 62]⟩, .string ⟨#[116, 114, 117, 101, 32, 102, 97, 108, 115, 101, 32, 116, 104, 101, 110]⟩, .string ⟨#[49, 32, 43, 32, 42, 32, 50]⟩] 9) = W := ⟨_, rfl⟩
  have hd : (W1.alloc (.cells #[.int .i64 0, .int .i64 3, .int .i64 5, .int .i64 8, .int .i64 4, .int .i64 6, .int .i64 11, .int .i64 10, .int .i64 11, .int .i64 3, .int .i64 7, .int .i64 6, .int .i64 3, .int .i64 4, .int .i64 2, .int .i64 1, .int .i64 18, .int .i64 38, .int .i64 25, .int .i64 5, .int .i64 18, .int .i64 7, .int .i64 18, .int .i64 2, .int .i64 2, .int .i64 0, .int .i64 11, .int .i64 4] 3)).cell? ⟨W1.heap.size, m, none⟩ = some (.int .i64 y) := by
    rw [World.cell?_alloc_at _ _ _ _ (by rfl), ← hy'.out]
    have hcs : m = 0 ∨ m = 1 ∨ m = 2 ∨ m = 3 ∨ m = 4 ∨ m = 5 ∨ m = 6 ∨ m = 7 ∨ m = 8 ∨ m = 9 ∨ m = 10 ∨ m = 11 ∨ m = 12 ∨ m = 13 ∨ m = 14 ∨ m = 15 ∨ m = 16 ∨ m = 17 ∨ m = 18 ∨ m = 19 ∨ m = 20 ∨ m = 21 ∨ m = 22 ∨ m = 23 ∨ m = 24 ∨ m = 25 ∨ m = 26 ∨ m = 27 := (by omega); rcases hcs with rfl | rfl | rfl | rfl | rfl | rfl | rfl | rfl | rfl | rfl | rfl | rfl | rfl | rfl | rfl | rfl | rfl | rfl | rfl | rfl | rfl | rfl | rfl | rfl | rfl | rfl | rfl | rfl <;> rfl
  rw [hW1] at hc
  have hWb : Below w1.heap.size w1 W1 := by rw [← hW1]; exact below_alc _ _
  have hWs : W1.heap.size = w1.heap.size + 1 := by rw [← hW1]; simp
  go_upto_region 4 with fail
  try rw [hW1]
  go_upto_region 5 with fail
  obtain ⟨W2, hW2⟩ : ∃ W, W1.alloc (.cells #[.int .i64 0, .int .i64 3, .int .i64 5, .int .i64 8, .int .i64 4, .int .i64 6, .int .i64 11, .int .i64 10, .int .i64 11, .int .i64 3, .int .i64 7, .int .i64 6, .int .i64 3, .int .i64 4, .int .i64 2, .int .i64 1, .int .i64 18, .int .i64 38, .int .i64 25, .int .i64 5, .int .i64 18, .int .i64 7, .int .i64 18, .int .i64 2, .int .i64 2, .int .i64 0, .int .i64 11, .int .i64 4] 3) = W := ⟨_, rfl⟩
  rw [hW2] at hd ⊢
  have hb2 : Below W1.heap.size W1 W2 := by rw [← hW2]; exact below_alc _ _
  have hl2 : W1.heap.size < W2.heap.size := by rw [← hW2]; simp
  have hc := carry hb2 (by omega) hc
  clear hW1 hW2
  have hB2 := Lib.hid (belT hB1.out (belT hWb hb2))
  rw [hWs] at hd
  have hl2 : w1.heap.size + 1 < W2.heap.size := by omega
  clear hWb hb2 hWs hB1
  have hmi : (m : Int) < 28 := by omega
  go_wp2_with fail
  refine (kP.out W2 hB2.out).mono ?_
  intro e w3 hpost
  obtain ⟨rfl, hb3⟩ := prp_no hpost hr.out
  have hd := carry hb3 hl2 hd
  have hB3 := Lib.hid (belT hB2.out hb3)
  have hl3 : w1.heap.size + 1 < w3.heap.size := Nat.lt_of_lt_of_le hl2 hb3.size
  clear hpost hb3 hc kP
  dsimp only
  go_wp2_with ((go_at_call 12; refine (num_any _ _ (by omega) (by omega)).mono ?_; rintro e w' ⟨rfl, rfl⟩))
  go_ret
  exact ⟨rfl, by first | exact hB3.out | exact belT hB3.out (by (repeat' (first | with_reducible exact Below.refl _ _ | with_reducible assumption | with_reducible apply Below.setCell | with_reducible apply Below.alloc | with_reducible apply Below.drew | with_reducible apply below_drewN | with_reducible exact Nat.le_refl _ | (simp; done) | (simp; omega) | omega | exact Nat.le_refl _)))⟩
theorem own : ownKnob Tryd.prog.godebug = none := by kernel_rfl
theorem laidOut : laidOutB Tryd.prog = true := by kernel_rfl
set_option maxRecDepth 100000 in
theorem contract (H : Type) (enc : TypeId × Value → H) (W : World) (base : Nat) (args : Array Value) (ds gs : List (DataW H)) (before : List MemPlace)
    (hval0 : ∀ (j : Nat) t v, Tryd.f6.params[j]? = some t → args[j]? = some v → Value.okWide Tryd.prog W .any base t v)
    (hW : DataW.Whole enc Tryd.prog Tryd.f6.params.toList Rows.parseFormsSpec.vars false W args.toList ds gs before)
    (hsz0 : (DataW.weightsEach Tryd.prog (Tryd.f6.params.toList ++ Rows.parseFormsSpec.plain.varTypes Tryd.prog) (ds ++ gs)).all (· ≤ reachBytes) = true)
    (hL : laidMetH Tryd.prog Rows.parseFormsRow.laid W)
    : Calls Tryd.prog 6 args W fun e W' => ∃ v, e = .returned v ∧ Rows.parseFormsSpec.post enc Tryd.prog Tryd.f6 false true false false W args v W' := by
  have hval : ∀ (j : Nat) t v, Tryd.f6.params[j]? = some t → args[j]? = some v → Value.okWide Tryd.prog W .any base t v := hval0
  have hsz : (DataW.weightsEach Tryd.prog (Tryd.f6.params.toList ++ Rows.parseFormsSpec.plain.varTypes Tryd.prog) (ds ++ gs)).all (· ≤ reachBytes) = true := hsz0
  have hW' := hW
  obtain ⟨p, q, hA0, hV, rfl, hfz, hnd⟩ := hW
  have hA : DataW.TrodAll enc Tryd.prog W 0 (fun _ => true) true Tryd.f6.params.toList args.toList ds p := hA0
  rw [Tryd.params6] at hA hval hsz
  obtain ⟨v0, vs0, d0, ds0, p0, q0, hargs, rfl, rfl, h0, r0⟩ := trodAll_cons hA
  obtain ⟨rfl, rfl, rfl⟩ := trodAll_nil r0
  obtain rfl : args = #[v0] := by cases args; simp_all
  obtain ⟨rfl, rfl⟩ := trodVars_none hV
  have k0 := h0
  have lt0 : ∀ x ∈ p0, x.block < W.heap.size := by obtain ⟨m, hm⟩ := k0; exact DataW.trod_lt m _ _ _ hm
  obtain ⟨a0, rfl, rfl, rfl, m0⟩ := open_int Tryd.underlying3 (hval 0 3 v0 rfl rfl) h0
  clear hA0 hval0
  refine (walk a0 W (bd_i64 m0) (tabs hL)).mono fun e W' ⟨he, bel⟩ => ?_
  subst he
  exact ⟨_, rfl, _, _, _, [], _, [], hW', trodAll_mk1 (shut_bool Tryd.underlying4 _), (trodAll_cons_mk (Below.trod laidOut (by kernel_rfl) (of_decide_eq_true (by kernel_rfl)) k0 bel lt0) trodAll_mk0), rfl, bel.frame _, fun h => by cases h⟩
theorem laid_met (os : Os) : laidMetH Tryd.prog Rows.parseFormsRow.laid ((handleWorld os).forCall (fun _ _ => 0) ⟨#[], #[.int .i64 0], []⟩).memory := laidMetH_of_parts (laidMet_nil _ _) (by kernel_rfl)
theorem reads (os : Os) {H : Type} (enc : TypeId × Value → H) : ∃ places, DataW.whole enc Tryd.prog ((handleWorld os).forCall (fun _ _ => 0) ⟨#[], #[.int .i64 0], []⟩).memory Tryd.f6.params.toList Rows.parseFormsSpec.vars false #[(.int .i64 0 : Value)].toList 8 = some ([.lit (.int .i64 0)], [], places) := ⟨[], by kernel_rfl⟩
set_option maxRecDepth 100000 in
theorem lifted (os : Os) (started : os.Started) (H : Type) (enc : TypeId × Value → H) (F : Stop.Interp) :
    ReturnsInHanded {} Tryd.checked os 6 .any ((OpenSpec.ofChange Rows.parseFormsSpec).preRow enc Tryd.prog Tryd.f6 Rows.parseFormsRow.domain false Rows.parseFormsRow.laid) (((OpenSpec.ofChange Rows.parseFormsSpec).at F).post enc Tryd.prog Tryd.f6 false true false false) := by
  obtain ⟨places, hx⟩ := reads os enc
  refine returnsInHanded_of_row (C := Tryd.checked) (s := (OpenSpec.ofChange Rows.parseFormsSpec)) own started (by kernel_rfl) Tryd.func6
    (witness_row_at (enc := enc) (C := Tryd.checked) false (handleWorld os) #[.int .i64 0] rfl (by kernel_rfl) (by kernel_rfl) (by kernel_rfl)
      (OpenSpec.preRow_of_cond 8 hx (by kernel_rfl) (fun k hk => by cases hk) (by kernel_rfl) (laid_met os))) ?_
  intro W base args ds gs before hval hW _ hcnd hsz hL _ _
  exact contract H enc W base args ds gs before hval hW hsz  hL
theorem said : Rows.ParseFormsSaid :=
  OpenClaim.holds_of_cond 6 Tryd.f6 rfl rfl rfl rfl rfl rfl rfl ⟨rfl, rfl, rfl, rfl, rfl⟩ rfl rfl rfl rfl rfl (by kernel_rfl) Tryd.func6 (by kernel_rfl)
    (of_decide_eq_true (by kernel_rfl)) (by unfold Func.isWrapper; first | (rw [if_pos (by decide +kernel)]; kernel_rfl) | (rw [if_neg (by decide +kernel)]; exact ⟨rfl, rfl⟩))
    (fun os started H enc _ F => by rw [OpenClaim.pre_eq_preRow]; exact lifted os started H enc F)
theorem plain (f : FuncId) (fn : Func) (hf : Tryd.pinned.checked.prog.funcNamed "trammel/trammellaw4.ParseForms" = some f) (hfn : Tryd.pinned.checked.prog.funcs[f]? = some fn) :
    true = Tryd.pinned.checked.prog.looks [] ∧ ∀ (j : Nat) t, fn.params[j]? = some t → Tryd.pinned.checked.prog.wantsStandIn t = false := by
  obtain rfl : f = 6 := Option.some.inj ((show Tryd.prog.funcNamed "trammel/trammellaw4.ParseForms" = some 6 by kernel_rfl).symm.trans hf) |>.symm
  obtain rfl : fn = Tryd.f6 := (Option.some.inj (Tryd.func6.symm.trans hfn)).symm
  refine ⟨by kernel_rfl, fun j t ht => ?_⟩
  rw [Tryd.params6] at ht
  have hm := Array.mem_of_getElem? ht
  have hm2 : t ∈ ([3] : List Nat) := by simpa using hm
  simp only [List.mem_cons, List.not_mem_nil, or_false] at hm2
  subst hm2; exact (show Tryd.prog.wantsStandIn 3 = false by kernel_rfl)
theorem proved : Rows.ParseFormsCardSaid :=
  Claim7.holds_tied_plain_at .later [] _ _ _ _ said (fun _ h => by cases h) (by kernel_rfl) (fun _ h => by cases h) parseForms_row_tie rfl ⟨rfl, rfl⟩ (by kernel_rfl) rfl plain (by kernel_rfl)
end Go.Proofs.YtnhfbbognjdnpaaDoor.parseForms
