/- TargetNest holds for every row of numbers and every number. No condition. -/
import Derived.Test.YtohgiapngmocgaaNeA
import Derived.Test.YtohgiapngmocgaaRows
import Derived.WalkKit
import Derived.ProofKit
import Derived.OpenShut
import Derived.ShutString
import Derived.ChangeOld
import Derived.Below
import Derived.SizedLaws
import Derived.Carry
import Derived.Lib.SmallJoins
namespace Go.Proofs.Ytohgiapngmocgaa.targetNest
open Go.ChangeShapes Go.WideShapes Go.ChangeAt Go.RowKit
open Go.ChangeMaps (open_string shut_string)
set_option linter.unusedVariables false

set_option maxHeartbeats 2000000 in
set_option maxRecDepth 100000 in
theorem walk (p : Option Addr) (n c : Nat) (l : List Int) (a1 : Int) (w : World) (w0 : IArg w p n l) (_ : -9223372036854775808 ≤ a1 ∧ a1 ≤ 9223372036854775807) :
    Calls Try.prog 5 #[.slice p n c, .int .i64 a1] w fun e w' => e = .returned (.bool true) ∧ Below w.heap.size w w' := by
  have hn := Lib.hid w0.1
  have w0' := Lib.hid w0; clear w0
  have hk := and1023 a1
  have hu : 0 ≤ a1 % 1024 ∧ a1 % 1024 < 1024 := by omega
  generalize a1 % 1024 = u at hk hu
  have hone := Lib.hid (Nest.one u hu.1 hu.2)
  obtain ⟨i0, hi, hz0, hz1, hz2⟩ := info_parts infoT
  go_enter Try.func5, Try.ntmps5
  go_wp2_with fail
  refine (awake_any _).mono ?_
  rintro e w1 ⟨rfl, hb1⟩
  have hb1s := hb1.size
  go_wp2_with fail
  go_loopw [5, 6, 7] (fun tsv mo i wr => ∃ j : Nat, j ≤ n ∧ j ≤ 30 ∧ i = .int .i64 j ∧ Below w.heap.size w wr ∧ ∃ (ts : List Tg) (m : Int), Hid (ts.length = 2 + 2 * j) ∧ mo = .int .i64 m ∧ 0 ≤ m ∧ m < 4096 ∧ Hid (Nest ts m) ∧ Hid (wr.ownsRow w.heap.size 34 9 tsv ts.length (rowT ts))) (fun _ _ i _ => 30 - (intOf i).toNat)
  case atStart =>
    refine ⟨0, by omega, by omega, rfl, hb1.alloc hb1s _, [⟨0, 0, 0, 0, u, 0, 0, 0, 0⟩, nRet 0], u, Lib.hid rfl, rfl, hu.1, by omega, hone, Lib.hid ?_⟩
    exact ⟨rfl, .inr ⟨w1.heap.size, 2, (rowT [⟨0, 0, 0, 0, u, 0, 0, 0, 0⟩, nRet 0]).toArray, rfl, hb1s, heap_alloc_last w1 _, Nat.le_refl _, by decide, rfl, rfl⟩⟩
  case round =>
    obtain ⟨j, hj, hj30, rfl, hbw, ts, m, hlen, rfl, hm0, hm1, hnest, hown⟩ := hrel
    have hl2 : 2 ≤ ts.length := by rw [hlen.out]; omega
    have hl62 : ts.length ≤ 62 := by rw [hlen.out]; omega
    obtain ⟨g, cap, hv, hbg, hgl, hcap, _, hsl⟩ := owns_sl hown.out (by omega)
    subst hv
    have hsl' := Lib.hid hsl; clear hsl
    have hbws := hbw.size
    have hcase : (j < n ∧ j < 30) ∨ (j < n ∧ j = 30) ∨ (¬ j < n ∧ j ≤ 30) := by omega
    rcases hcase with ⟨hjn, hj3⟩ | hend
    · obtain ⟨b, off, rfl, hcell, hbl⟩ : ∃ b off, p = some ⟨b, off, none⟩ ∧ (∀ i, i < l.length → w.cell? ⟨b, off + i, none⟩ = some (.int .i64 (l.getD i 0))) ∧ b < w.heap.size := by
        obtain ⟨_, h0 | h⟩ := w0'.out
        · omega
        · exact h
      have hca : wr.cell? ⟨b, off + j, none⟩ = some (.int .i64 (l.getD j 0)) := by
        rw [hbw.cell (p := ⟨b, off + j, none⟩) hbl]; exact hcell j (by rw [hn.out]; exact hjn)
      clear hcell
      generalize l.getD j 0 = a at hca
      have hka := and4095 a
      have hx : 0 ≤ a % 4096 ∧ a % 4096 < 4096 := by omega
      generalize a % 4096 = x at hka hx
      have hstep := Lib.hid (hnest.out.step x hx.1 hx.2)
      have hblr : b < wr.heap.size := by omega
      have hownA : Hid ((wr.alloc (.cells (rowT [nFun ((ts.length : Int) - 1) x, nRet ts.length]).toArray 34)).ownsRow w.heap.size 34 9 (.slice (some ⟨g, 0, none⟩) ts.length cap) ts.length (rowT ts)) := Lib.hid (hown.out.alloc _)
      have hnews : Hid (∀ j u, (rowT [nFun ((ts.length : Int) - 1) x, nRet ts.length])[j]? = some u → (wr.alloc (.cells (rowT [nFun ((ts.length : Int) - 1) x, nRet ts.length]).toArray 34)).cell? ((⟨wr.heap.size, 0, none⟩ : Addr).add j) = some u) := Lib.hid (by
        intro j u hj
        have e : (⟨wr.heap.size, 0, none⟩ : Addr).add j = ⟨wr.heap.size, j, none⟩ := by simp [Addr.add]; try omega
        rw [e, World.cell?_alloc_new]
        simpa using hj)
      have hm : m < x ∨ ¬ m < x := by omega
      rcases hm with hmx | hmx
      all_goals
        first | rw [if_pos hmx] at hstep | rw [if_neg hmx] at hstep
        go_wp2_with (at_builtin; refine wpList_append_own (w := wr.alloc (.cells (rowT [nFun ((ts.length : Int) - 1) x, nRet ts.length]).toArray 34)) rfl (.tmp 38) (.tmp 47) 22 rfl w.heap.size 34 i0 zT 9 72 Try.underlying22 hi hz0 hz1 hz2 rfl (by decide) _ ts.length (rowT ts) rfl hownA.out ⟨wr.heap.size, 0, none⟩ 2 2 (rowT [nFun ((ts.length : Int) - 1) x, nRet ts.length]) rfl (rowT_len _) hnews.out (rowT_one _) (by unfold maxLen; omega) (by omega) (by simp; omega) ?_)
        intro v' w3 hown3 hgr _
        have hbel : Below w.heap.size w w3 := (hbw.alloc (by omega) _).grown hgr (by simp; omega) (by
          intro k hk; simp [Value.ownBlock] at hk; omega)
        rw [← rowT_app] at hown3
        have hown3' := Lib.hid hown3
        clear hown3 hgr hnews hownA
        go_wp2_with fail
        go_round
        case rel => exact ⟨j + 1, by omega, by omega, by go_num, hbel, ts ++ [nFun ((ts.length : Int) - 1) x, nRet ts.length], _, Lib.hid (by rw [List.length_append, hlen.out]; show 2 + 2 * j + 2 = _; omega), rfl, by omega, by omega, hstep, by rw [List.length_append]; exact hown3'⟩
        case measure => simp [intOf]; omega
    · have hmay := Lib.hid (hnest.out.may (by omega))
      have hnv : Hid (namV ts = m + 1 ∧ namE ts = 0) := Lib.hid (by unfold namV namE; rw [hmay.out]; exact ⟨hnest.out.mx, rfl⟩)
      have hl' : ts.length ≤ 140737488351232 := by omega
      rcases hend with ⟨hjn, rfl⟩ | ⟨hjn, _⟩
      all_goals
        go_wp2_with fail
        refine (Names_any g 0 cap ts _ hsl' hgl hl').mono ?_
        rintro e w4 ⟨rfl, hb4⟩
        rw [hnv.out.1, hnv.out.2]
        have hg4 : g < w4.heap.size := by have := hb4.size; omega
        have hsl4 := Lib.hid (hsl'.out.below hb4 hgl)
        go_wp2_with fail
        refine (may_any g 0 cap ts _ hsl4 hg4 hl').mono ?_
        rintro e w5 ⟨rfl, hb5⟩
        rw [hmay.out]
        go_wp2_with (go_at_call 9; refine (num_any _ _ (by omega) (by omega)).mono ?_; rintro e w' ⟨rfl, rfl⟩)
        go_ret
        exact ⟨rfl, belT (belT hbw hb4) hb5⟩

theorem own : ownKnob Try.prog.godebug = none := by kernel_rfl
theorem laidOut : laidOutB Try.prog = true := by kernel_rfl
set_option maxRecDepth 100000 in
theorem lifted (os : Os) (started : os.Started) (H : Type) (enc : TypeId × Value → H) :
    ReturnsInHanded {} Try.checked os 5 .any (Rows.targetNestSpec.pre6 enc Try.prog Try.f5 Rows.targetNestRow.domain false) (Rows.targetNestSpec.post enc Try.prog Try.f5 false true false false) := by
  refine returnsInHanded_of_change_sized (C := Try.checked) own started (by kernel_rfl) Try.func5
    (ChangeSpec.witness6 (enc := enc) (C := Try.checked) false ⟨#[], #[.slice none 0 0, .int .i64 0], []⟩ 8 (by kernel_rfl) (by kernel_rfl) (by kernel_rfl) (by kernel_rfl)) ?_
  intro W base args ds gs before hval0 hW hcnd hsz0 _
  have hval : ∀ (j : Nat) t v, Try.f5.params[j]? = some t → args[j]? = some v → Value.okWide Try.prog W .any base t v := hval0
  have hsz : (DataW.weightsEach Try.prog (Try.f5.params.toList ++ Rows.targetNestSpec.plain.varTypes Try.prog) (ds ++ gs)).all (· ≤ reachBytes) = true := hsz0
  have hW' := hW
  obtain ⟨p, q, hA0, hV, rfl, hfz, hnd⟩ := hW
  have hA : DataW.TrodAll enc Try.prog W 0 (fun _ => true) true Try.f5.params.toList args.toList ds p := hA0
  rw [Try.params5] at hA hval hsz
  obtain ⟨v0, vs0, d0, ds0, p0, q0, hargs, rfl, rfl, h0, r0⟩ := trodAll_cons hA
  obtain ⟨v1, vs1, d1, ds1, p1, q1, rfl, rfl, rfl, h1, r1⟩ := trodAll_cons r0
  obtain ⟨rfl, rfl, rfl⟩ := trodAll_nil r1
  obtain rfl : args = #[v0, v1] := by cases args; simp_all
  obtain ⟨rfl, rfl⟩ := trodVars_none hV
  obtain ⟨a0, n0, c0, rfl⟩ := okWide_slice Try.underlying37 (hval 0 37 v0 rfl rfl)
  have k0 := h0
  have lt0 : ∀ x ∈ p0, x.block < W.heap.size := by obtain ⟨m, hm⟩ := k0; exact DataW.trod_lt m _ _ _ hm
  obtain ⟨t0, w0⟩ : ∃ l, IArg W a0 n0 l := by
    obtain ⟨fu, hf⟩ := h0
    simp only [Value.cells] at hf
    rcases ints_arg Try.underlying37 Try.underlying3 (by kernel_rfl) hf with h0 | ⟨b, off, rfl, hc⟩
    · exact ⟨[], by rw [h0]; rfl, .inl h0⟩
    · by_cases h0 : n0 = 0
      · exact ⟨[], by rw [h0]; rfl, .inl h0⟩
      obtain ⟨l, hl, hs⟩ := ints_of_cells W b off n0 hc
      have hb := World.block_lt_of_cell? _ _ (hs 0 (by omega))
      exact ⟨l, hl, .inr ⟨b, off, rfl, hs, hb⟩⟩
  obtain ⟨a1, rfl, rfl, rfl, m1⟩ := open_int Try.underlying3 (hval 1 3 v1 rfl rfl) h1
  have w1 : -9223372036854775808 ≤ a1 ∧ a1 ≤ 9223372036854775807 := by simpa [Lit.wf, IntKind.min, IntKind.max, IntKind.signed, IntKind.bits] using m1
  clear hA0 hval0
  refine (walk a0 n0 c0 t0 a1 W w0 w1).mono fun e W' ⟨he, bel⟩ => ?_
  subst he
  exact ⟨_, rfl, _, _, _, [], _, [], hW', trodAll_mk1 (shut_bool Try.underlying4 _), (trodAll_cons_mk (Below.trod laidOut (by kernel_rfl) (of_decide_eq_true (by kernel_rfl)) k0 bel lt0) (trodAll_cons_mk (shut_int Try.underlying3 m1) trodAll_mk0)), rfl, bel.frame _, fun h => by cases h⟩
theorem over : Rows.targetNestRow.holds Try.pinned (OpenSpec.ofChange Rows.targetNestSpec) :=
  OpenClaim.holds_of_wide 5 Try.f5 rfl rfl rfl rfl rfl rfl rfl ⟨rfl, rfl, rfl, rfl, rfl⟩ rfl rfl rfl rfl rfl (by kernel_rfl) Try.func5 (by kernel_rfl)
    (of_decide_eq_true (by kernel_rfl)) (by unfold Func.isWrapper; first | (rw [if_pos (by decide +kernel)]; kernel_rfl) | (rw [if_neg (by decide +kernel)]; exact ⟨rfl, rfl⟩))
    (fun os started H enc _ => lifted os started H enc)
theorem proved : Rows.TargetNestSaid := over
end Go.Proofs.Ytohgiapngmocgaa.targetNest
