/- The machine of layer 21: a step at a name, or at a node whose A comes first. -/
import Derived.Test.YtnjalpcmjkahkaaRmF
import Derived.Test.YtnjalpcmjkahkaaRnQ
import Derived.Test.YtnjalpcmjkahkaaEnB
import Derived.Deep.DeepCutAuto
namespace Go.Proofs.Ytnjalpcmjkahkaa
open Go.RowKit
set_option linter.unusedVariables false
set_option linter.unusedSimpArgs false

section
variable {P : Program} {ops : Array Oper} {Q : Exit → Act → World → Prop} {md : Region.Mode} {S : World → Prop}
theorem rg_twoF (i j : Nat) {o p : Oper} {fuel : Nat} {listed : Array Bool} {a : Act} {w : World} (hi : ops[i]? = some o) (hj : ops[j]? = some p) (hr : Region.ready md ops listed = [i, j]) (hw : Region.wanted o (yielded ops a.tmps) = true) (hw' : Region.wanted p (yielded ops a.tmps) = true)
    (h : ∀ K' : Act → World → Prop, Shut (∀ a w, S w → (S w → wpAnyH P md ops Q S fuel (listed.setIfInBounds i true) a w) → K' a w) → Oper.wp P o a w K' Q)
    (h' : ∀ K' : Act → World → Prop, Shut (∀ a w, S w → (S w → wpAnyH P md ops Q S fuel (listed.setIfInBounds j true) a w) → K' a w) → Oper.wp P p a w K' Q) : wpAnyH P md ops Q S (fuel + 1) listed a w := by
  refine wpAnyH_ready hr (by simp) (AllReadyH.cons hi (fun K hK => ?_) (AllReadyH.cons hj (fun K hK => ?_) AllReadyH.nil))
  · rw [if_pos hw]; exact h K hK
  · rw [if_pos hw']; exact h' K hK
end
/-- a box of a thing, made ahead of a call. -/
theorem bx5 {W0 W w9 : World} {a b : Int} {c d e : Option Addr} {T : TypeId} {g : Nat} (hg : g = W.heap.size) (hb0 : Below W0.heap.size W0 W) (hb : Below (W.alloc (.cells #[.int .i64 a, .int .i64 b, .pointer c, .pointer d, .pointer e] T)).heap.size (W.alloc (.cells #[.int .i64 a, .int .i64 b, .pointer c, .pointer d, .pointer e] T)) w9) :
    (w9.cell? ⟨g, 0, none⟩ = some (.int .i64 a) ∧ w9.cell? ⟨g, 1, none⟩ = some (.int .i64 b) ∧ w9.cell? ⟨g, 2, none⟩ = some (.pointer c) ∧ w9.cell? ⟨g, 3, none⟩ = some (.pointer d) ∧ w9.cell? ⟨g, 4, none⟩ = some (.pointer e)) ∧
      (∀ o, w9.frozen? ⟨g, o, none⟩ = false) ∧ Below W0.heap.size W0 w9 ∧ g < w9.heap.size := by
  subst hg
  have hl : W.heap.size < (W.alloc (.cells #[.int .i64 a, .int .i64 b, .pointer c, .pointer d, .pointer e] T)).heap.size := by simp
  refine ⟨⟨carry hb hl (by simp [go_sem]), carry hb hl (by simp [go_sem]), carry hb hl (by simp [go_sem]), carry hb hl (by simp [go_sem]), carry hb hl (by simp [go_sem])⟩, fun o => by rw [hb.frozen (p := ⟨W.heap.size, o, none⟩) hl]; simp [go_sem], (belA _ hb0).trans (hb.mono (by have := hb0.size; simp; omega)), Nat.lt_of_lt_of_le hl hb.size⟩
theorem at_val (o : Option Th) : ∃ t ok, atV o = .tuple #[t.val, .bool ok] ∧ (o = none → ok = false) ∧ ∀ x, o = some x → ok = true ∧ t = x := by
  cases o with
  | none => exact ⟨th0, false, rfl, fun _ => rfl, fun _ h => by cases h⟩
  | some x => exact ⟨x, true, rfl, fun h => (by cases h), fun _ h => ⟨rfl, by cases h; rfl⟩⟩

set_option maxRecDepth 100000 in
set_option maxHeartbeats 4000000 in
theorem nodeStep_var (B G : Nat) (tv fv sv : Value) (c : Mc) (l : List Fr) (ts : List Tg) (fur : List Int) (w : World) (stk : List RF) (i : Nat) (env : RV)
    (h : Hid (MRc B G tv fv sv c l w)) (hv : Hid (MRv G sv c l w (.ev stk i env))) (ht : Hid (TvR B G w tv ts)) (hF : Hid (FvR B G w fv fur)) (hi : i < ts.length) (hfl : fur.length = ts.length)
    (hfb : -1 ≤ fur.getD i 0 ∧ fur.getD i 0 ≤ 1000000000) (hel : env.list.length ≤ 1000000000) (hk : (ts.getD i tg0).k = 0) :
    Calls Try.prog 73 #[.pointer (some ⟨G, 0, none⟩)] w (NsP c.w0 B G tv fv (rNode (ts.getD i tg0) (fur.getD i 0) stk i env)) := by
  have hgive := Lib.hid fun (W : World) (t : Th) (hh : Hid (McC W G tv fv sv c)) => give_any W G tv fv sv c t hh
  have hstuck := Lib.hid fun (W : World) (hh : Hid (McC W G tv fv sv c)) => stuck_any W G tv fv sv c hh
  obtain ⟨T, off, cp, rfl, hTB, hTG, hTw, hT⟩ := ht.out
  obtain ⟨F, fc, rfl, hFB, hFG, hFw, hFc⟩ := hF.out
  obtain ⟨he, hhv, hnd, hst, e, hE, hR⟩ := hv.out
  have hG := h.out.mc.lt
  have c3 := h.out.mc.c3; have c4 := h.out.mc.c4; have c12 := h.out.mc.c12; have c13 := h.out.mc.c13
  rw [hnd] at c12
  have hF0 := hFc i (by omega)
  obtain ⟨f, hf⟩ : ∃ f, fur.getD i 0 = f := ⟨_, rfl⟩
  rw [hf] at hF0 hfb
  rw [hf]
  have hat := Lib.hid fun (W : World) (hb : Below w.heap.size w W) => eAt_any W (.pointer c.en) e f (Lib.hid (hE.below hb)) (by have := hR.len; omega) hfb
  have hra := Lib.hid (hR.at_ f)
  obtain ⟨v5, ok, hvo, hvn, hvs⟩ := at_val (ansE e f)
  rw [hvo, show v5.val = .agg #[.int .i64 v5.a, .int .i64 v5.b, .pointer v5.c, .pointer v5.d, .pointer v5.e] from rfl] at hat
  have hvn := Lib.hid hvn
  have hvs := Lib.hid hvs
  obtain ⟨v0, v1, v2, v3, v4⟩ := v5
  dsimp only at hat
  obtain ⟨x, hx⟩ : ∃ x, ts.getD i tg0 = x := ⟨_, rfl⟩
  have hx0 := hT i hi
  have hk0 := Lib.hid hk
  obtain ⟨R, hRn⟩ : ∃ R, rNode (ts.getD i tg0) f stk i env = R := ⟨_, rfl⟩
  rw [hRn]
  have hRn := Lib.hid hRn
  rw [hx] at hx0 hk
  obtain ⟨xk, xa, xb, xc, xn, xx, xy, xz, xw⟩ := x
  obtain ⟨t0, t1, t2, t3, t4, t5, t6, t7, t8⟩ := hx0
  dsimp only at hk t0 t1 t2 t3 t4 t5 t6 t7 t8
  subst hk
  rw [hfl] at c4
  have hfz := h.out.mc.fz
  clear hT hE hR hst he hhv hx hFc hf hvo
  go_enter Try.func73, Try.ntmps73
  go_wp2_with fail
  go_region
  go_wp2_with fail
  obtain ⟨W0, hW0, hb0⟩ : ∃ W0, W0 = (w.alloc (.cells #[.int .i64 0, .int .i64 xa, .int .i64 xb, .int .i64 xc, .int .i64 xn, .int .i64 xx, .int .i64 xy, .int .i64 xz, .int .i64 xw] 37)).drew ∧ Below w.heap.size w W0 := ⟨_, rfl, by (repeat' (first | with_reducible exact Below.refl _ _ | with_reducible assumption | with_reducible apply Below.setCell | with_reducible apply Below.alloc | with_reducible apply Below.drew | with_reducible apply below_drewN | with_reducible exact Nat.le_refl _ | (simp; done) | (simp; omega) | omega | exact Nat.le_refl _))⟩
  rw [← hW0]
  have c4 : W0.cell? _ = _ := carry hb0 hG c4
  have c12 : W0.cell? _ = _ := carry hb0 hG c12
  have c13 : W0.cell? _ = _ := carry hb0 hG c13
  have hF0 : W0.cell? _ = _ := carry hb0 hFw hF0
  have hGW : G < W0.heap.size := Nat.lt_of_lt_of_le hG hb0.size
  have hFW : F < W0.heap.size := Nat.lt_of_lt_of_le hFw hb0.size
  have hi0 : (0 : Int) ≤ (i : Int) := by omega
  have hi1 : (i : Int) < (ts.length : Int) := by omega
  have hb0 := Lib.hid hb0
  clear hW0 hfz c3 t0 t1 t2 t3 t4 t5 t6 t7 t8
  go_cut [3, 4] (fun s3 s4 W => ∃ g : Nat, s3 = .pointer (some ⟨g, 0, none⟩) ∧ s4 = .bool ok ∧ ThC W g ⟨v0, v1, v2, v3, v4⟩ ∧ g < W.heap.size ∧ Below W0.heap.size W0 W)
  case first =>
    refine wp_region_held_drew (S := fun W => Below W0.heap.size W0 W) (by kernel_rfl) ((Below.refl _ _).drew) (fun hHeld => ?_)
    refine rg_take 0 (some 39) (v := ?v1) rfl rfl (by kernel_rfl) (by kernel_rfl) (by kernel_rfl) (fun _ _ _ h => h) (by rfl) ?hy1 (by assumption) ?_
    case hy1 => intro W hSW; (try dsimp only at hSW); have z0 := carry hSW hGW c4; have z1 := carry hSW hGW c12; have z2 := carry hSW hGW c13; have z3 := carry hSW hFW hF0; have z5 := Nat.lt_of_lt_of_le hGW hSW.size; have z6 := Nat.lt_of_lt_of_le hFW hSW.size; go_simp; (try with_reducible rfl)
    try simp only [Act.put, List.setIfInBounds_toArray, List.set_cons_zero, List.set_cons_succ]
    refine rg_take 1 (some 40) (v := ?v2) rfl rfl (by kernel_rfl) (by kernel_rfl) (by kernel_rfl) (fun _ _ _ h => h) (by rfl) ?hy2 (by assumption) ?_
    case hy2 => intro W hSW; (try dsimp only at hSW); have z0 := carry hSW hGW c4; have z1 := carry hSW hGW c12; have z2 := carry hSW hGW c13; have z3 := carry hSW hFW hF0; have z5 := Nat.lt_of_lt_of_le hGW hSW.size; have z6 := Nat.lt_of_lt_of_le hFW hSW.size; go_simp; (try with_reducible rfl)
    try simp only [Act.put, List.setIfInBounds_toArray, List.set_cons_zero, List.set_cons_succ]
    refine rg_take 2 (some 41) (v := ?v3) rfl rfl (by kernel_rfl) (by kernel_rfl) (by kernel_rfl) (fun _ _ _ h => h) (by rfl) ?hy3 (by assumption) ?_
    case hy3 => intro W hSW; (try dsimp only at hSW); have z0 := carry hSW hGW c4; have z1 := carry hSW hGW c12; have z2 := carry hSW hGW c13; have z3 := carry hSW hFW hF0; have z5 := Nat.lt_of_lt_of_le hGW hSW.size; have z6 := Nat.lt_of_lt_of_le hFW hSW.size; go_simp; (try with_reducible rfl)
    try simp only [Act.put, List.setIfInBounds_toArray, List.set_cons_zero, List.set_cons_succ]
    refine rg_take 3 (some 42) (v := ?v4) rfl rfl (by kernel_rfl) (by kernel_rfl) (by kernel_rfl) (fun _ _ _ h => h) (by rfl) ?hy4 (by assumption) ?_
    case hy4 => intro W hSW; (try dsimp only at hSW); have z0 := carry hSW hGW c4; have z1 := carry hSW hGW c12; have z2 := carry hSW hGW c13; have z3 := carry hSW hFW hF0; have z5 := Nat.lt_of_lt_of_le hGW hSW.size; have z6 := Nat.lt_of_lt_of_le hFW hSW.size; go_simp; (try with_reducible rfl)
    try simp only [Act.put, List.setIfInBounds_toArray, List.set_cons_zero, List.set_cons_succ]
    refine rg_take 4 (some 43) (v := ?v5) rfl rfl (by kernel_rfl) (by kernel_rfl) (by kernel_rfl) (fun _ _ _ h => h) (by rfl) ?hy5 (by assumption) ?_
    case hy5 => intro W hSW; (try dsimp only at hSW); have z0 := carry hSW hGW c4; have z1 := carry hSW hGW c12; have z2 := carry hSW hGW c13; have z3 := carry hSW hFW hF0; have z5 := Nat.lt_of_lt_of_le hGW hSW.size; have z6 := Nat.lt_of_lt_of_le hFW hSW.size; go_simp; (try with_reducible rfl)
    try simp only [Act.put, List.setIfInBounds_toArray, List.set_cons_zero, List.set_cons_succ]
    refine rg_take 5 (some 44) (v := ?v6) rfl rfl (by kernel_rfl) (by kernel_rfl) (by kernel_rfl) (fun _ _ _ h => h) (by rfl) ?hy6 (by assumption) ?_
    case hy6 => intro W hSW; (try dsimp only at hSW); have z0 := carry hSW hGW c4; have z1 := carry hSW hGW c12; have z2 := carry hSW hGW c13; have z3 := carry hSW hFW hF0; have z5 := Nat.lt_of_lt_of_le hGW hSW.size; have z6 := Nat.lt_of_lt_of_le hFW hSW.size; go_simp; (try with_reducible rfl)
    try simp only [Act.put, List.setIfInBounds_toArray, List.set_cons_zero, List.set_cons_succ]
    refine rg_take 6 (some 45) (v := ?v7) rfl rfl (by kernel_rfl) (by kernel_rfl) (by kernel_rfl) (fun _ _ _ h => h) (by rfl) ?hy7 (by assumption) ?_
    case hy7 => intro W hSW; (try dsimp only at hSW); have z0 := carry hSW hGW c4; have z1 := carry hSW hGW c12; have z2 := carry hSW hGW c13; have z3 := carry hSW hFW hF0; have z5 := Nat.lt_of_lt_of_le hGW hSW.size; have z6 := Nat.lt_of_lt_of_le hFW hSW.size; go_simp; (try with_reducible rfl)
    try simp only [Act.put, List.setIfInBounds_toArray, List.set_cons_zero, List.set_cons_succ]
    refine rg_take 7 (some 46) (v := ?v8) rfl rfl (by kernel_rfl) (by kernel_rfl) (by kernel_rfl) (fun _ _ _ h => h) (by rfl) ?hy8 (by assumption) ?_
    case hy8 => intro W hSW; (try dsimp only at hSW); have z0 := carry hSW hGW c4; have z1 := carry hSW hGW c12; have z2 := carry hSW hGW c13; have z3 := carry hSW hFW hF0; have z5 := Nat.lt_of_lt_of_le hGW hSW.size; have z6 := Nat.lt_of_lt_of_le hFW hSW.size; go_simp; (try with_reducible rfl)
    try simp only [Act.put, List.setIfInBounds_toArray, List.set_cons_zero, List.set_cons_succ]
    refine rg_take 8 (some 47) (v := ?v9) rfl rfl (by kernel_rfl) (by kernel_rfl) (by kernel_rfl) (fun _ _ _ h => h) (by rfl) ?hy9 (by assumption) ?_
    case hy9 => intro W hSW; (try dsimp only at hSW); have z0 := carry hSW hGW c4; have z1 := carry hSW hGW c12; have z2 := carry hSW hGW c13; have z3 := carry hSW hFW hF0; have z5 := Nat.lt_of_lt_of_le hGW hSW.size; have z6 := Nat.lt_of_lt_of_le hFW hSW.size; go_simp; (try with_reducible rfl)
    try simp only [Act.put, List.setIfInBounds_toArray, List.set_cons_zero, List.set_cons_succ]
    refine rg_take 9 (some 48) (v := ?v10) rfl rfl (by kernel_rfl) (by kernel_rfl) (by kernel_rfl) (fun _ _ _ h => h) (by rfl) ?hy10 (by assumption) ?_
    case hy10 => intro W hSW; (try dsimp only at hSW); have z0 := carry hSW hGW c4; have z1 := carry hSW hGW c12; have z2 := carry hSW hGW c13; have z3 := carry hSW hFW hF0; have z5 := Nat.lt_of_lt_of_le hGW hSW.size; have z6 := Nat.lt_of_lt_of_le hFW hSW.size; go_simp; (try with_reducible rfl)
    try simp only [Act.put, List.setIfInBounds_toArray, List.set_cons_zero, List.set_cons_succ]
    refine rg_take 10 (some 49) (v := ?v11) rfl rfl (by kernel_rfl) (by kernel_rfl) (by kernel_rfl) (fun _ _ _ h => h) (by rfl) ?hy11 (by assumption) ?_
    case hy11 => intro W hSW; (try dsimp only at hSW); have z0 := carry hSW hGW c4; have z1 := carry hSW hGW c12; have z2 := carry hSW hGW c13; have z3 := carry hSW hFW hF0; have z5 := Nat.lt_of_lt_of_le hGW hSW.size; have z6 := Nat.lt_of_lt_of_le hFW hSW.size; go_simp; (try with_reducible rfl)
    try simp only [Act.put, List.setIfInBounds_toArray, List.set_cons_zero, List.set_cons_succ]
    refine rg_take 11 (some 50) (v := ?v12) rfl rfl (by kernel_rfl) (by kernel_rfl) (by kernel_rfl) (fun _ _ _ h => h) (by rfl) ?hy12 (by assumption) ?_
    case hy12 => intro W hSW; (try dsimp only at hSW); have z0 := carry hSW hGW c4; have z1 := carry hSW hGW c12; have z2 := carry hSW hGW c13; have z3 := carry hSW hFW hF0; have z5 := Nat.lt_of_lt_of_le hGW hSW.size; have z6 := Nat.lt_of_lt_of_le hFW hSW.size; go_simp; (try with_reducible rfl)
    try simp only [Act.put, List.setIfInBounds_toArray, List.set_cons_zero, List.set_cons_succ]
    refine rg_take 12 (some 51) (v := ?v13) rfl rfl (by kernel_rfl) (by kernel_rfl) (by kernel_rfl) (fun _ _ _ h => h) (by rfl) ?hy13 (by assumption) ?_
    case hy13 => intro W hSW; (try dsimp only at hSW); have z0 := carry hSW hGW c4; have z1 := carry hSW hGW c12; have z2 := carry hSW hGW c13; have z3 := carry hSW hFW hF0; have z5 := Nat.lt_of_lt_of_le hGW hSW.size; have z6 := Nat.lt_of_lt_of_le hFW hSW.size; go_simp; (try with_reducible rfl)
    try simp only [Act.put, List.setIfInBounds_toArray, List.set_cons_zero, List.set_cons_succ]
    refine rg_take 13 (some 52) (v := ?v14) rfl rfl (by kernel_rfl) (by kernel_rfl) (by kernel_rfl) (fun _ _ _ h => h) (by rfl) ?hy14 (by assumption) ?_
    case hy14 => intro W hSW; (try dsimp only at hSW); have z0 := carry hSW hGW c4; have z1 := carry hSW hGW c12; have z2 := carry hSW hGW c13; have z3 := carry hSW hFW hF0; have z5 := Nat.lt_of_lt_of_le hGW hSW.size; have z6 := Nat.lt_of_lt_of_le hFW hSW.size; go_simp; (try with_reducible rfl)
    try simp only [Act.put, List.setIfInBounds_toArray, List.set_cons_zero, List.set_cons_succ]
    refine rg_twoF 14 18 rfl rfl (by kernel_rfl) (by rfl) (by rfl) (fun K hK => ?callf) (fun K hK => ?allocf)
    case callf =>
      go_simp
      refine (hat.out _ (belT hb0.out ((Below.refl _ _).drew))).mono ?_
      rintro e9 w9 ⟨rfl, hb9⟩
      have hb99 : Below W0.heap.size W0 w9 := belT ((Below.refl _ _).drew) hb9
      refine hK.out _ _ hb99 (fun hH1 => ?_)
      clear hK K
      try simp only [Act.put, List.setIfInBounds_toArray, List.set_cons_zero, List.set_cons_succ]
      refine rg_take 15 (some 38) (v := ?v15) rfl rfl (by kernel_rfl) (by kernel_rfl) (by kernel_rfl) (fun _ _ _ h => h) (by rfl) ?hy15 (by assumption) ?_
      case hy15 => intro W hSW; (try dsimp only at hSW); go_simp; (try with_reducible rfl)
      try simp only [Act.put, List.setIfInBounds_toArray, List.set_cons_zero, List.set_cons_succ]
      refine rg_take 16 (some 54) (v := ?v16) rfl rfl (by kernel_rfl) (by kernel_rfl) (by kernel_rfl) (fun _ _ _ h => h) (by rfl) ?hy16 (by assumption) ?_
      case hy16 => intro W hSW; (try dsimp only at hSW); go_simp; (try with_reducible rfl)
      try simp only [Act.put, List.setIfInBounds_toArray, List.set_cons_zero, List.set_cons_succ]
      refine rg_take 17 (some 55) (v := ?v17) rfl rfl (by kernel_rfl) (by kernel_rfl) (by kernel_rfl) (fun _ _ _ h => h) (by rfl) ?hy17 (by assumption) ?_
      case hy17 => intro W hSW; (try dsimp only at hSW); go_simp; (try with_reducible rfl)
      try simp only [Act.put, List.setIfInBounds_toArray, List.set_cons_zero, List.set_cons_succ]
      refine rg_one 18 rfl (by kernel_rfl) (by rfl) (fun K hK => ?_)
      go_simp
      refine hK.out _ _ (hH1.trans (show Below W0.heap.size w9 _ from by have := hH1.size; (repeat' (first | with_reducible exact Below.refl _ _ | with_reducible assumption | with_reducible apply Below.setCell | with_reducible apply Below.alloc | with_reducible apply Below.drew | with_reducible apply below_drewN | with_reducible exact Nat.le_refl _ | (simp; done) | (simp; omega) | omega | exact Nat.le_refl _)))) (fun hH18 => ?_)
      clear hK K
      try simp only [Act.put, List.setIfInBounds_toArray, List.set_cons_zero, List.set_cons_succ]
      refine rg_one 19 rfl (by kernel_rfl) (by rfl) (fun K hK => ?_)
      go_simp
      refine hK.out _ _ (hH1.trans (show Below W0.heap.size w9 _ from by have := hH1.size; (repeat' (first | with_reducible exact Below.refl _ _ | with_reducible assumption | with_reducible apply Below.setCell | with_reducible apply Below.alloc | with_reducible apply Below.drew | with_reducible apply below_drewN | with_reducible exact Nat.le_refl _ | (simp; done) | (simp; omega) | omega | exact Nat.le_refl _)))) (fun hH19 => ?_)
      clear hK K
      try simp only [Act.put, List.setIfInBounds_toArray, List.set_cons_zero, List.set_cons_succ]
      refine rg_take 20 (some 4) (v := ?v18) rfl rfl (by kernel_rfl) (by kernel_rfl) (by kernel_rfl) (fun _ _ _ h => h) (by rfl) ?hy18 (by assumption) ?_
      case hy18 => intro W hSW; (try dsimp only at hSW); go_simp; (try with_reducible rfl)
      try simp only [Act.put, List.setIfInBounds_toArray, List.set_cons_zero, List.set_cons_succ]
      refine wpAnyH_done (by kernel_rfl) ?_ _
      go_wp2_with fail
      go_meet
      exact ⟨w9.heap.size, rfl, rfl, ⟨by simp [go_sem], by simp [go_sem], by simp [go_sem], by simp [go_sem], by simp [go_sem]⟩, by simp, hH19⟩
    case allocf =>
      go_simp
      refine hK.out _ _ (belA _ ((Below.refl _ _).drew)) (fun hH23 => ?_)
      clear hK K
      try simp only [Act.put, List.setIfInBounds_toArray, List.set_cons_zero, List.set_cons_succ]
      refine rg_one 14 rfl (by kernel_rfl) (by rfl) (fun K hK => ?_)
      go_simp
      refine (hat.out _ (belT hb0.out (belA _ ((Below.refl _ _).drew)))).mono ?_
      rintro e9 w9 ⟨rfl, hb9⟩
      obtain ⟨⟨x0, x1, x2, x3, x4⟩, xf, hb5, xl⟩ := bx5 (W := W0.drew) (g := W0.heap.size) rfl ((Below.refl _ _).drew) hb9
      have hb99 : Below W0.heap.size W0 w9 := hb5
      refine hK.out _ _ hb99 (fun hH1 => ?_)
      clear hK K hb9
      try simp only [Act.put, List.setIfInBounds_toArray, List.set_cons_zero, List.set_cons_succ]
      refine rg_take 15 (some 38) (v := ?v19) rfl rfl (by kernel_rfl) (by kernel_rfl) (by kernel_rfl) (fun _ _ _ h => h) (by rfl) ?hy19 (by assumption) ?_
      case hy19 => intro W hSW; (try dsimp only at hSW); go_simp; (try with_reducible rfl)
      try simp only [Act.put, List.setIfInBounds_toArray, List.set_cons_zero, List.set_cons_succ]
      refine rg_take 16 (some 54) (v := ?v20) rfl rfl (by kernel_rfl) (by kernel_rfl) (by kernel_rfl) (fun _ _ _ h => h) (by rfl) ?hy20 (by assumption) ?_
      case hy20 => intro W hSW; (try dsimp only at hSW); go_simp; (try with_reducible rfl)
      try simp only [Act.put, List.setIfInBounds_toArray, List.set_cons_zero, List.set_cons_succ]
      refine rg_take 17 (some 55) (v := ?v21) rfl rfl (by kernel_rfl) (by kernel_rfl) (by kernel_rfl) (fun _ _ _ h => h) (by rfl) ?hy21 (by assumption) ?_
      case hy21 => intro W hSW; (try dsimp only at hSW); go_simp; (try with_reducible rfl)
      try simp only [Act.put, List.setIfInBounds_toArray, List.set_cons_zero, List.set_cons_succ]
      refine rg_one 19 rfl (by kernel_rfl) (by rfl) (fun K hK => ?_)
      have xf0 := xf 0; have xf1 := xf 1; have xf2 := xf 2; have xf3 := xf 3; have xf4 := xf 4
      go_simp
      refine hK.out _ _ (hH1.trans (show Below W0.heap.size w9 _ from by have := hH1.size; (repeat' (first | with_reducible exact Below.refl _ _ | with_reducible assumption | with_reducible apply Below.setCell | with_reducible apply Below.alloc | with_reducible apply Below.drew | with_reducible apply below_drewN | with_reducible exact Nat.le_refl _ | (simp; done) | (simp; omega) | omega | exact Nat.le_refl _)))) (fun hH24 => ?_)
      clear hK K
      try simp only [Act.put, List.setIfInBounds_toArray, List.set_cons_zero, List.set_cons_succ]
      refine rg_take 20 (some 4) (v := ?v22) rfl rfl (by kernel_rfl) (by kernel_rfl) (by kernel_rfl) (fun _ _ _ h => h) (by rfl) ?hy22 (by assumption) ?_
      case hy22 => intro W hSW; (try dsimp only at hSW); go_simp; (try with_reducible rfl)
      try simp only [Act.put, List.setIfInBounds_toArray, List.set_cons_zero, List.set_cons_succ]
      refine wpAnyH_done (by kernel_rfl) ?_ _
      go_wp2_with fail
      go_meet
      exact ⟨W0.heap.size, rfl, rfl, ⟨by simp [go_sem, x0, x1, x2, x3, x4], by simp [go_sem, x0, x1, x2, x3, x4], by simp [go_sem, x0, x1, x2, x3, x4], by simp [go_sem, x0, x1, x2, x3, x4], by simp [go_sem, x0, x1, x2, x3, x4]⟩, by simp; exact xl, hH24⟩
  case rest =>
    rename World => W2
    obtain ⟨g, rfl, rfl, ⟨d0, d1, d2, d3, d4⟩, hgl, hb2⟩ := ‹∃ g, _›
    have h2 := h.out.below (belT hb0.out hb2)
    have hv2 := hv.out.below (belT hb0.out hb2)
    have hvr2 : env.atI f = none ∧ ansE e f = none ∨ ∃ v t, env.atI f = some v ∧ ansE e f = some t ∧ RR (Bp G sv) W2 v (.inl t) := by
      rcases hra.out with h | ⟨v, t, h1, h3, h4⟩
      · exact .inl h
      · exact .inr ⟨v, t, h1, h3, h4.below (belT hb0.out hb2)⟩
    clear hb2 hb0 c4 c12 c13 hF0 hGW hFW hi0 hi1 hat
    rcases hvr2 with ⟨ha, hb⟩ | ⟨v, t, ha, hb, hvr⟩
    · obtain rfl := hRn.out.symm.trans (rNode_no hk0.out ha)
      obtain rfl := hvn.out hb
      clear ha hb hvn hvs hra
      have hfin := Lib.hid fun (w1 : World) (hm : McC w1 G _ _ sv { c with k := 5, n := 0, ended := true }) (hb : Bar (Bq G) W2 w1) => mr_en h2 hm hb
      have hmc := Lib.hid h2.mc
      clear h2 hv2
      go_wp2_with (refine (hstuck.out _ hmc).mono ?_; rintro e1 w1 ⟨rfl, h3, h4⟩)
      all_goals go_end0
      all_goals exact ⟨rfl, hfin.out _ h3 h4⟩
    · obtain rfl := hRn.out.symm.trans (rNode_at hk0.out ha)
      obtain ⟨rfl, rfl⟩ := hvs.out t hb
      clear ha hb hvn hvs hra
      have hfin := Lib.hid fun (w1 : World) (hm : McC w1 G _ _ sv { c with hv := true, th := ⟨v0, v1, v2, v3, v4⟩ }) (hb : Bar (Bq G) W2 w1) => mr_gv (v := v) h2 hv2.1 hv2.2.2.2.1 hvr hm hb
      have hmc := Lib.hid h2.mc
      clear h2 hv2 hvr
      go_wp2_with (refine (hgive.out _ ⟨v0, v1, v2, v3, v4⟩ hmc).mono ?_; rintro e1 w1 ⟨rfl, h3, h4⟩)
      all_goals go_end0
      all_goals exact ⟨rfl, hfin.out _ h3 h4⟩
end Go.Proofs.Ytnjalpcmjkahkaa
