/- The machine of layer 21: a step at a name, or at a node whose A comes first. -/
import Derived.Test.YtnjalpcmjkahkaaZt10
import Derived.Test.YtnjalpcmjkahkaaZt16
import Derived.Test.YtnjalpcmjkahkaaZt24
import Derived.Deep.DeepCutAuto
import Derived.WalkSmall
set_option maxRecDepth 100000
set_option maxHeartbeats 8000000
namespace Go.Proofs.Ytnjalpcmjkahkaa
open Go.RowKit
set_option linter.unusedVariables false
set_option linter.unusedSimpArgs false
section
variable {P : Program} {ops : Array Oper} {Q : Exit → Act → World → Prop} {md : Region.Mode} {S : World → Prop}
theorem rg_twoF (i j : Nat) {o p : Oper} {fuel : Nat} {listed : Array Bool} {a : Act} {w : World} (hi : ops[i]? = some o) (hj : ops[j]? = some p) (hr : Region.ready md ops listed = [i, j]) (hw : Region.wanted o (yielded ops a.tmps) = true) (hw' : Region.wanted p (yielded ops a.tmps) = true)
  (h : ∀ K' : Act → World → Prop, Shut (∀ a w, S w → (S w → wpAnyH P md ops Q S fuel (listed.setIfInBounds i true) a w) → K' a w) → Oper.wp P o a w K' Q)
  (h' : ∀ K' : Act → World → Prop, Shut (∀ a w, S w → (S w → wpAnyH P md ops Q S fuel (listed.setIfInBounds j true) a w) → K' a w) → Oper.wp P p a w K' Q) : wpAnyH P md ops Q S (fuel + 1) listed a w := by
 refine wpAnyH_ready hr (by simp) (AllReadyH.cons hi (fun K hK => ?_) (AllReadyH.cons hj (fun K hK => ?_) AllReadyH.nil))
 ·rw [if_pos hw]; exact h K hK
 ·rw [if_pos hw']; exact h' K hK
end
theorem bx5 {W0 W w9 : World} {a b : Int} {c d e : Option Addr} {T : TypeId} {g : Nat} (hg : g = W.heap.size) (hb0 : Below W0.heap.size W0 W) (hb : Below (W.alloc (.cells #[.int .i64 a, .int .i64 b, .pointer c, .pointer d, .pointer e] T)).heap.size (W.alloc (.cells #[.int .i64 a, .int .i64 b, .pointer c, .pointer d, .pointer e] T)) w9) :
  (w9.cell? ⟨g, 0, none⟩ = some (.int .i64 a) ∧ w9.cell? ⟨g, 1, none⟩ = some (.int .i64 b) ∧ w9.cell? ⟨g, 2, none⟩ = some (.pointer c) ∧ w9.cell? ⟨g, 3, none⟩ = some (.pointer d) ∧ w9.cell? ⟨g, 4, none⟩ = some (.pointer e)) ∧
   (∀ o, w9.frozen? ⟨g, o, none⟩ = false) ∧ Below W0.heap.size W0 w9 ∧ g < w9.heap.size := by
 subst hg
 have hl : W.heap.size < (W.alloc (.cells #[.int .i64 a, .int .i64 b, .pointer c, .pointer d, .pointer e] T)).heap.size := by simp
 refine ⟨⟨carry hb hl (by simp [go_sem]), carry hb hl (by simp [go_sem]), carry hb hl (by simp [go_sem]), carry hb hl (by simp [go_sem]), carry hb hl (by simp [go_sem])⟩, fun o => by rw [hb.frozen (p := ⟨W.heap.size, o, none⟩) hl]; simp [go_sem], (belA _ hb0).trans (hb.mono (by have := hb0.size; simp; omega)), Nat.lt_of_lt_of_le hl hb.size⟩
theorem at_val (o : Option Th) : ∃ t ok, atV o = .tuple #[t.val, .bool ok] ∧ (o = none → ok = false) ∧ ∀ x, o = some x → ok = true ∧ t = x := by
 cases o with
 | none => exact ⟨th0, false, rfl, fun _ => rfl, fun _ h => by cases h⟩
 | some x => exact ⟨x, true, rfl, fun h => (by cases h), fun _ h => ⟨rfl, by cases h; rfl⟩⟩
theorem nodeStep_var (B G : Nat) (tv fv sv : Value) (c : Mc) (l : List Fr) (ts : List Tg) (fur : List Int) (w : World) (stk : List RF) (i : Nat) (env : RV)
  (h : Hid (MRc B G tv fv sv c l w)) (hv : Hid (MRv G sv c l w (.ev stk i env))) (ht : Hid (TvR B G w tv ts)) (hF : Hid (FvR B G w fv fur)) (hi : i < ts.length) (hfl : fur.length = ts.length)
  (hfb : -1 ≤ fur.getD i 0 ∧ fur.getD i 0 ≤ 1000000000) (hel : env.list.length ≤ 1000000000) (hk : (ts.getD i tg0).k = 0) :
  Calls Try.prog 73 #[.pointer (some ⟨G, 0, none⟩)] w (NsP c.w0 B G tv fv (rNode (ts.getD i tg0) (fur.getD i 0) stk i env)) := by
 have hgive := Lib.hid fun (W : World) (t : Th) (hh : Hid (McC W G tv fv sv c)) => give_any W G tv fv sv c t hh
 have hstuck := Lib.hid fun (W : World) (hh : Hid (McC W G tv fv sv c)) => stuck_any W G tv fv sv c hh
 obtain ⟨T, off, cp, rfl, hTB, hTG, hTw, hT⟩ := ht.out
 obtain ⟨F, fc, rfl, hFB, hFG, hFw, hFc⟩ := hF.out
 obtain ⟨he, hhv, hnd, hst, e, hE, hR⟩ := hv.out
 have hG := h.out.mc.lt
 have c3 := h.out.mc.c3; have c4 := h.out.mc.c4; have c12 := h.out.mc.c12; have c13 := h.out.mc.c13
 rw [hnd] at c12
 have hF0 := hFc i (by omega)
 obtain ⟨f, hf⟩ : ∃ f, fur.getD i 0 = f := ⟨_, rfl⟩
 rw [hf] at hF0 hfb
 rw [hf]
 have hat := Lib.hid fun (W : World) (hb : Below w.heap.size w W) => eAt_any W (.pointer c.en) e f (Lib.hid (hE.below hb)) (by have := hR.len; omega) hfb
 have hra := Lib.hid (hR.at_ f)
 obtain ⟨v5, ok, hvo, hvn, hvs⟩ := at_val (ansE e f)
 rw [hvo, show v5.val = .agg #[.int .i64 v5.a, .int .i64 v5.b, .pointer v5.c, .pointer v5.d, .pointer v5.e] from rfl] at hat
 have hvn := Lib.hid hvn
 have hvs := Lib.hid hvs
 obtain ⟨v0, v1, v2, v3, v4⟩ := v5
 dsimp only at hat
 obtain ⟨x, hx⟩ : ∃ x, ts.getD i tg0 = x := ⟨_, rfl⟩
 have hx0 := hT i hi
 have hk0 := Lib.hid hk
 obtain ⟨R, hRn⟩ : ∃ R, rNode (ts.getD i tg0) f stk i env = R := ⟨_, rfl⟩
 rw [hRn]
 have hRn := Lib.hid hRn
 rw [hx] at hx0 hk
 obtain ⟨xk, xa, xb, xc, xn, xx, xy, xz, xw⟩ := x
 obtain ⟨t0, t1, t2, t3, t4, t5, t6, t7, t8⟩ := hx0
 dsimp only at hk t0 t1 t2 t3 t4 t5 t6 t7 t8
 subst hk
 rw [hfl] at c4
 have hfz := h.out.mc.fz
 clear hT hE hR hst he hhv hx hFc hf hvo
 go_enter Try.func73, Try.ntmps73
 go_wp2_with fail
 go_region
 go_wp2_with fail
 obtain ⟨W0, hW0, hb0⟩ : ∃ W0, W0 = (w.alloc (.cells #[.int .i64 0, .int .i64 xa, .int .i64 xb, .int .i64 xc, .int .i64 xn, .int .i64 xx, .int .i64 xy, .int .i64 xz, .int .i64 xw] 37)).drew ∧ Below w.heap.size w W0 := ⟨_, rfl, by (repeat' (first | (with_reducible first | exact bR _ _ | assumption | apply bS | apply bA | apply bD | apply bN | exact bL _) | (simp; done) | (simp; omega) | omega | exact bL _))⟩
 rw [← hW0]
 have c4 : W0.cell? _ = _ := carry hb0 hG c4
 have c12 : W0.cell? _ = _ := carry hb0 hG c12
 have c13 : W0.cell? _ = _ := carry hb0 hG c13
 have hF0 : W0.cell? _ = _ := carry hb0 hFw hF0
 have hGW : G < W0.heap.size := Nat.lt_of_lt_of_le hG hb0.size
 have hFW : F < W0.heap.size := Nat.lt_of_lt_of_le hFw hb0.size
 have hi0 : (0 : Int) ≤ (i : Int) := by omega
 have hi1 : (i : Int) < (ts.length : Int) := by omega
 have hb0 := Lib.hid hb0
 clear hW0 hfz c3 t0 t1 t2 t3 t4 t5 t6 t7 t8
 go_cut [3, 4] (fun s3 s4 W => ∃ g : Nat, s3 = .pointer (some ⟨g, 0, none⟩) ∧ s4 = .bool ok ∧ ThC W g ⟨v0, v1, v2, v3, v4⟩ ∧ g < W.heap.size ∧ Below W0.heap.size W0 W)
 case first =>
  refine wp_region_held_drew (S := fun W => Below W0.heap.size W0 W) (by kernel_rfl) ((Below.refl _ _).drew) (fun hHeld => ?_)
  refine rg_take 0 (some 39) (v := ?v1) rfl rfl (by kernel_rfl) (by kernel_rfl) (by kernel_rfl) (fun _ _ _ h => h) (by rfl) ?hy1 (by assumption) ?_
  case hy1 => intro W hSW; (try dsimp only at hSW); have z0 := carry hSW hGW c4; have z1 := carry hSW hGW c12; have z2 := carry hSW hGW c13; have z3 := carry hSW hFW hF0; have z5 := Nat.lt_of_lt_of_le hGW hSW.size; have z6 := Nat.lt_of_lt_of_le hFW hSW.size; go_simp; (try with_reducible rfl)
  try simp only [Act.put, bP, bQ, bT]
  refine rg_take 1 (some 40) (v := ?v2) rfl rfl (by kernel_rfl) (by kernel_rfl) (by kernel_rfl) (fun _ _ _ h => h) (by rfl) ?hy2 (by assumption) ?_
  case hy2 => intro W hSW; (try dsimp only at hSW); have z0 := carry hSW hGW c4; have z1 := carry hSW hGW c12; have z2 := carry hSW hGW c13; have z3 := carry hSW hFW hF0; have z5 := Nat.lt_of_lt_of_le hGW hSW.size; have z6 := Nat.lt_of_lt_of_le hFW hSW.size; go_simp; (try with_reducible rfl)
  try simp only [Act.put, bP, bQ, bT]
  refine rg_take 2 (some 41) (v := ?v3) rfl rfl (by kernel_rfl) (by kernel_rfl) (by kernel_rfl) (fun _ _ _ h => h) (by rfl) ?hy3 (by assumption) ?_
  case hy3 => intro W hSW; (try dsimp only at hSW); have z0 := carry hSW hGW c4; have z1 := carry hSW hGW c12; have z2 := carry hSW hGW c13; have z3 := carry hSW hFW hF0; have z5 := Nat.lt_of_lt_of_le hGW hSW.size; have z6 := Nat.lt_of_lt_of_le hFW hSW.size; go_simp; (try with_reducible rfl)
  try simp only [Act.put, bP, bQ, bT]
  refine rg_take 3 (some 42) (v := ?v4) rfl rfl (by kernel_rfl) (by kernel_rfl) (by kernel_rfl) (fun _ _ _ h => h) (by rfl) ?hy4 (by assumption) ?_
  case hy4 => intro W hSW; (try dsimp only at hSW); have z0 := carry hSW hGW c4; have z1 := carry hSW hGW c12; have z2 := carry hSW hGW c13; have z3 := carry hSW hFW hF0; have z5 := Nat.lt_of_lt_of_le hGW hSW.size; have z6 := Nat.lt_of_lt_of_le hFW hSW.size; go_simp; (try with_reducible rfl)
  try simp only [Act.put, bP, bQ, bT]
  refine rg_take 4 (some 43) (v := ?v5) rfl rfl (by kernel_rfl) (by kernel_rfl) (by kernel_rfl) (fun _ _ _ h => h) (by rfl) ?hy5 (by assumption) ?_
  case hy5 => intro W hSW; (try dsimp only at hSW); have z0 := carry hSW hGW c4; have z1 := carry hSW hGW c12; have z2 := carry hSW hGW c13; have z3 := carry hSW hFW hF0; have z5 := Nat.lt_of_lt_of_le hGW hSW.size; have z6 := Nat.lt_of_lt_of_le hFW hSW.size; go_simp; (try with_reducible rfl)
  try simp only [Act.put, bP, bQ, bT]
  refine rg_take 5 (some 44) (v := ?v6) rfl rfl (by kernel_rfl) (by kernel_rfl) (by kernel_rfl) (fun _ _ _ h => h) (by rfl) ?hy6 (by assumption) ?_
  case hy6 => intro W hSW; (try dsimp only at hSW); have z0 := carry hSW hGW c4; have z1 := carry hSW hGW c12; have z2 := carry hSW hGW c13; have z3 := carry hSW hFW hF0; have z5 := Nat.lt_of_lt_of_le hGW hSW.size; have z6 := Nat.lt_of_lt_of_le hFW hSW.size; go_simp; (try with_reducible rfl)
  try simp only [Act.put, bP, bQ, bT]
  refine rg_take 6 (some 45) (v := ?v7) rfl rfl (by kernel_rfl) (by kernel_rfl) (by kernel_rfl) (fun _ _ _ h => h) (by rfl) ?hy7 (by assumption) ?_
  case hy7 => intro W hSW; (try dsimp only at hSW); have z0 := carry hSW hGW c4; have z1 := carry hSW hGW c12; have z2 := carry hSW hGW c13; have z3 := carry hSW hFW hF0; have z5 := Nat.lt_of_lt_of_le hGW hSW.size; have z6 := Nat.lt_of_lt_of_le hFW hSW.size; go_simp; (try with_reducible rfl)
  try simp only [Act.put, bP, bQ, bT]
  refine rg_take 7 (some 46) (v := ?v8) rfl rfl (by kernel_rfl) (by kernel_rfl) (by kernel_rfl) (fun _ _ _ h => h) (by rfl) ?hy8 (by assumption) ?_
  case hy8 => intro W hSW; (try dsimp only at hSW); have z0 := carry hSW hGW c4; have z1 := carry hSW hGW c12; have z2 := carry hSW hGW c13; have z3 := carry hSW hFW hF0; have z5 := Nat.lt_of_lt_of_le hGW hSW.size; have z6 := Nat.lt_of_lt_of_le hFW hSW.size; go_simp; (try with_reducible rfl)
  try simp only [Act.put, bP, bQ, bT]
  refine rg_take 8 (some 47) (v := ?v9) rfl rfl (by kernel_rfl) (by kernel_rfl) (by kernel_rfl) (fun _ _ _ h => h) (by rfl) ?hy9 (by assumption) ?_
  case hy9 => intro W hSW; (try dsimp only at hSW); have z0 := carry hSW hGW c4; have z1 := carry hSW hGW c12; have z2 := carry hSW hGW c13; have z3 := carry hSW hFW hF0; have z5 := Nat.lt_of_lt_of_le hGW hSW.size; have z6 := Nat.lt_of_lt_of_le hFW hSW.size; go_simp; (try with_reducible rfl)
  try simp only [Act.put, bP, bQ, bT]
  refine rg_take 9 (some 48) (v := ?v10) rfl rfl (by kernel_rfl) (by kernel_rfl) (by kernel_rfl) (fun _ _ _ h => h) (by rfl) ?hy10 (by assumption) ?_
  case hy10 => intro W hSW; (try dsimp only at hSW); have z0 := carry hSW hGW c4; have z1 := carry hSW hGW c12; have z2 := carry hSW hGW c13; have z3 := carry hSW hFW hF0; have z5 := Nat.lt_of_lt_of_le hGW hSW.size; have z6 := Nat.lt_of_lt_of_le hFW hSW.size; go_simp; (try with_reducible rfl)
  try simp only [Act.put, bP, bQ, bT]
  refine rg_take 10 (some 49) (v := ?v11) rfl rfl (by kernel_rfl) (by kernel_rfl) (by kernel_rfl) (fun _ _ _ h => h) (by rfl) ?hy11 (by assumption) ?_
  case hy11 => intro W hSW; (try dsimp only at hSW); have z0 := carry hSW hGW c4; have z1 := carry hSW hGW c12; have z2 := carry hSW hGW c13; have z3 := carry hSW hFW hF0; have z5 := Nat.lt_of_lt_of_le hGW hSW.size; have z6 := Nat.lt_of_lt_of_le hFW hSW.size; go_simp; (try with_reducible rfl)
  try simp only [Act.put, bP, bQ, bT]
  refine rg_take 11 (some 50) (v := ?v12) rfl rfl (by kernel_rfl) (by kernel_rfl) (by kernel_rfl) (fun _ _ _ h => h) (by rfl) ?hy12 (by assumption) ?_
  case hy12 => intro W hSW; (try dsimp only at hSW); have z0 := carry hSW hGW c4; have z1 := carry hSW hGW c12; have z2 := carry hSW hGW c13; have z3 := carry hSW hFW hF0; have z5 := Nat.lt_of_lt_of_le hGW hSW.size; have z6 := Nat.lt_of_lt_of_le hFW hSW.size; go_simp; (try with_reducible rfl)
  try simp only [Act.put, bP, bQ, bT]
  refine rg_take 12 (some 51) (v := ?v13) rfl rfl (by kernel_rfl) (by kernel_rfl) (by kernel_rfl) (fun _ _ _ h => h) (by rfl) ?hy13 (by assumption) ?_
  case hy13 => intro W hSW; (try dsimp only at hSW); have z0 := carry hSW hGW c4; have z1 := carry hSW hGW c12; have z2 := carry hSW hGW c13; have z3 := carry hSW hFW hF0; have z5 := Nat.lt_of_lt_of_le hGW hSW.size; have z6 := Nat.lt_of_lt_of_le hFW hSW.size; go_simp; (try with_reducible rfl)
  try simp only [Act.put, bP, bQ, bT]
  refine rg_take 13 (some 52) (v := ?v14) rfl rfl (by kernel_rfl) (by kernel_rfl) (by kernel_rfl) (fun _ _ _ h => h) (by rfl) ?hy14 (by assumption) ?_
  case hy14 => intro W hSW; (try dsimp only at hSW); have z0 := carry hSW hGW c4; have z1 := carry hSW hGW c12; have z2 := carry hSW hGW c13; have z3 := carry hSW hFW hF0; have z5 := Nat.lt_of_lt_of_le hGW hSW.size; have z6 := Nat.lt_of_lt_of_le hFW hSW.size; go_simp; (try with_reducible rfl)
  try simp only [Act.put, bP, bQ, bT]
  refine rg_twoF 14 18 rfl rfl (by kernel_rfl) (by rfl) (by rfl) (fun K hK => ?callf) (fun K hK => ?allocf)
  case callf =>
   go_simp
   refine (hat.out _ (belT hb0.out ((Below.refl _ _).drew))).mono ?_
   rintro e9 w9 ⟨rfl, hb9⟩
   have hb99 : Below W0.heap.size W0 w9 := belT ((Below.refl _ _).drew) hb9
   refine hK.out _ _ hb99 (fun hH1 => ?_)
   clear hK K
   try simp only [Act.put, bP, bQ, bT]
   refine rg_take 15 (some 38) (v := ?v15) rfl rfl (by kernel_rfl) (by kernel_rfl) (by kernel_rfl) (fun _ _ _ h => h) (by rfl) ?hy15 (by assumption) ?_
   case hy15 => intro W hSW; (try dsimp only at hSW); go_simp; (try with_reducible rfl)
   try simp only [Act.put, bP, bQ, bT]
   refine rg_take 16 (some 54) (v := ?v16) rfl rfl (by kernel_rfl) (by kernel_rfl) (by kernel_rfl) (fun _ _ _ h => h) (by rfl) ?hy16 (by assumption) ?_
   case hy16 => intro W hSW; (try dsimp only at hSW); go_simp; (try with_reducible rfl)
   try simp only [Act.put, bP, bQ, bT]
   refine rg_take 17 (some 55) (v := ?v17) rfl rfl (by kernel_rfl) (by kernel_rfl) (by kernel_rfl) (fun _ _ _ h => h) (by rfl) ?hy17 (by assumption) ?_
   case hy17 => intro W hSW; (try dsimp only at hSW); go_simp; (try with_reducible rfl)
   try simp only [Act.put, bP, bQ, bT]
   refine rg_one 18 rfl (by kernel_rfl) (by rfl) (fun K hK => ?_)
   go_simp
   refine hK.out _ _ (hH1.trans (show Below W0.heap.size w9 _ from by have := hH1.size; (repeat' (first | (with_reducible first | exact bR _ _ | assumption | apply bS | apply bA | apply bD | apply bN | exact bL _) | (simp; done) | (simp; omega) | omega | exact bL _)))) (fun hH18 => ?_)
   clear hK K
   try simp only [Act.put, bP, bQ, bT]
   refine rg_one 19 rfl (by kernel_rfl) (by rfl) (fun K hK => ?_)
   go_simp
   refine hK.out _ _ (hH1.trans (show Below W0.heap.size w9 _ from by have := hH1.size; (repeat' (first | (with_reducible first | exact bR _ _ | assumption | apply bS | apply bA | apply bD | apply bN | exact bL _) | (simp; done) | (simp; omega) | omega | exact bL _)))) (fun hH19 => ?_)
   clear hK K
   try simp only [Act.put, bP, bQ, bT]
   refine rg_take 20 (some 4) (v := ?v18) rfl rfl (by kernel_rfl) (by kernel_rfl) (by kernel_rfl) (fun _ _ _ h => h) (by rfl) ?hy18 (by assumption) ?_
   case hy18 => intro W hSW; (try dsimp only at hSW); go_simp; (try with_reducible rfl)
   try simp only [Act.put, bP, bQ, bT]
   refine wpAnyH_done (by kernel_rfl) ?_ _
   go_wp2_with fail
   go_meet
   exact ⟨w9.heap.size, rfl, rfl, ⟨by simp [go_sem], by simp [go_sem], by simp [go_sem], by simp [go_sem], by simp [go_sem]⟩, by simp, hH19⟩
  case allocf =>
   go_simp
   refine hK.out _ _ (belA _ ((Below.refl _ _).drew)) (fun hH23 => ?_)
   clear hK K
   try simp only [Act.put, bP, bQ, bT]
   refine rg_one 14 rfl (by kernel_rfl) (by rfl) (fun K hK => ?_)
   go_simp
   refine (hat.out _ (belT hb0.out (belA _ ((Below.refl _ _).drew)))).mono ?_
   rintro e9 w9 ⟨rfl, hb9⟩
   obtain ⟨⟨x0, x1, x2, x3, x4⟩, xf, hb5, xl⟩ := bx5 (W := W0.drew) (g := W0.heap.size) rfl ((Below.refl _ _).drew) hb9
   have hb99 : Below W0.heap.size W0 w9 := hb5
   refine hK.out _ _ hb99 (fun hH1 => ?_)
   clear hK K hb9
   try simp only [Act.put, bP, bQ, bT]
   refine rg_take 15 (some 38) (v := ?v19) rfl rfl (by kernel_rfl) (by kernel_rfl) (by kernel_rfl) (fun _ _ _ h => h) (by rfl) ?hy19 (by assumption) ?_
   case hy19 => intro W hSW; (try dsimp only at hSW); go_simp; (try with_reducible rfl)
   try simp only [Act.put, bP, bQ, bT]
   refine rg_take 16 (some 54) (v := ?v20) rfl rfl (by kernel_rfl) (by kernel_rfl) (by kernel_rfl) (fun _ _ _ h => h) (by rfl) ?hy20 (by assumption) ?_
   case hy20 => intro W hSW; (try dsimp only at hSW); go_simp; (try with_reducible rfl)
   try simp only [Act.put, bP, bQ, bT]
   refine rg_take 17 (some 55) (v := ?v21) rfl rfl (by kernel_rfl) (by kernel_rfl) (by kernel_rfl) (fun _ _ _ h => h) (by rfl) ?hy21 (by assumption) ?_
   case hy21 => intro W hSW; (try dsimp only at hSW); go_simp; (try with_reducible rfl)
   try simp only [Act.put, bP, bQ, bT]
   refine rg_one 19 rfl (by kernel_rfl) (by rfl) (fun K hK => ?_)
   have xf0 := xf 0; have xf1 := xf 1; have xf2 := xf 2; have xf3 := xf 3; have xf4 := xf 4
   go_simp
   refine hK.out _ _ (hH1.trans (show Below W0.heap.size w9 _ from by have := hH1.size; (repeat' (first | (with_reducible first | exact bR _ _ | assumption | apply bS | apply bA | apply bD | apply bN | exact bL _) | (simp; done) | (simp; omega) | omega | exact bL _)))) (fun hH24 => ?_)
   clear hK K
   try simp only [Act.put, bP, bQ, bT]
   refine rg_take 20 (some 4) (v := ?v22) rfl rfl (by kernel_rfl) (by kernel_rfl) (by kernel_rfl) (fun _ _ _ h => h) (by rfl) ?hy22 (by assumption) ?_
   case hy22 => intro W hSW; (try dsimp only at hSW); go_simp; (try with_reducible rfl)
   try simp only [Act.put, bP, bQ, bT]
   refine wpAnyH_done (by kernel_rfl) ?_ _
   go_wp2_with fail
   go_meet
   exact ⟨W0.heap.size, rfl, rfl, ⟨by simp [go_sem, x0, x1, x2, x3, x4], by simp [go_sem, x0, x1, x2, x3, x4], by simp [go_sem, x0, x1, x2, x3, x4], by simp [go_sem, x0, x1, x2, x3, x4], by simp [go_sem, x0, x1, x2, x3, x4]⟩, by simp; exact xl, hH24⟩
 case rest =>
  rename World => W2
  obtain ⟨g, rfl, rfl, ⟨d0, d1, d2, d3, d4⟩, hgl, hb2⟩ := ‹∃ g, _›
  have h2 := h.out.below (belT hb0.out hb2)
  have hv2 := hv.out.below (belT hb0.out hb2)
  have hvr2 : env.atI f = none ∧ ansE e f = none ∨ ∃ v t, env.atI f = some v ∧ ansE e f = some t ∧ RR (Bp G sv) W2 v (.inl t) := by
   rcases hra.out with h | ⟨v, t, h1, h3, h4⟩
   ·exact .inl h
   ·exact .inr ⟨v, t, h1, h3, h4.below (belT hb0.out hb2)⟩
  clear hb2 hb0 c4 c12 c13 hF0 hGW hFW hi0 hi1 hat
  rcases hvr2 with ⟨ha, hb⟩ | ⟨v, t, ha, hb, hvr⟩
  ·obtain rfl := hRn.out.symm.trans (rNode_no hk0.out ha)
   obtain rfl := hvn.out hb
   clear ha hb hvn hvs hra
   have hfin := Lib.hid fun (w1 : World) (hm : McC w1 G _ _ sv { c with k := 5, n := 0, ended := true }) (hb : Bar (Bq G) W2 w1) => mr_en h2 hm hb
   have hmc := Lib.hid h2.mc
   clear h2 hv2
   go_wp2_with (refine (hstuck.out _ hmc).mono ?_; rintro e1 w1 ⟨rfl, h3, h4⟩)
   all_goals go_end0
   all_goals exact ⟨rfl, hfin.out _ h3 h4⟩
  ·obtain rfl := hRn.out.symm.trans (rNode_at hk0.out ha)
   obtain ⟨rfl, rfl⟩ := hvs.out t hb
   clear ha hb hvn hvs hra
   have hfin := Lib.hid fun (w1 : World) (hm : McC w1 G _ _ sv { c with hv := true, th := ⟨v0, v1, v2, v3, v4⟩ }) (hb : Bar (Bq G) W2 w1) => mr_gv (v := v) h2 hv2.1 hv2.2.2.2.1 hvr hm hb
   have hmc := Lib.hid h2.mc
   clear h2 hv2 hvr
   go_wp2_with (refine (hgive.out _ ⟨v0, v1, v2, v3, v4⟩ hmc).mono ?_; rintro e1 w1 ⟨rfl, h3, h4⟩)
   all_goals go_end0
   all_goals exact ⟨rfl, hfin.out _ h3 h4⟩
open Go.RowKit
theorem thC_lit {W : World} {t : Th} {arr : Array Value} {T : TypeId} {g : Nat} (hg : g = W.heap.size) (r : List Value) (h : arr.toList = [.int .i64 t.a, .int .i64 t.b, .pointer t.c, .pointer t.d, .pointer t.e] ++ r) : ThC (W.alloc (.cells arr T)) g t := by
 subst hg
 have e : ∀ j v, arr.toList[j]? = some v → (W.alloc (.cells arr T)).cell? ⟨W.heap.size, j, none⟩ = some v := fun j v hv => by
  rw [World.cell?_alloc_at _ _ _ _ rfl, ← Array.getElem?_toList]; exact hv
 exact ⟨e 0 _ (by rw [h]; rfl), e 1 _ (by rw [h]; rfl), e 2 _ (by rw [h]; rfl), e 3 _ (by rw [h]; rfl), e 4 _ (by rw [h]; rfl)⟩
def WiP (W : World) (l : List Th) (t : Th) (e : Ending) (w' : World) : Prop := ∃ p', e = .returned (.agg #[.pointer p']) ∧ EnR w' (.pointer p') (t :: l) ∧ Below W.heap.size W w'
theorem part_lit {W : World} {g : Nat} (ks : List Nat) (k : Nat) {i o : Value} {l1 l2 : List Th} {arr : Array Value} (hg : g = W.heap.size) (h : arr = #[.int .i64 l1.length, i, o]) (h1 : TrR W (k + 1) i l1) (h2 : PtR W ks o l2) : PtR (W.alloc (.cells arr 142)) (k :: ks) (.pointer (some ⟨g, 0, none⟩)) (l1 ++ l2) := by
 subst hg h
 have hb := below_alc W (.cells #[.int .i64 l1.length, i, o] 142)
 exact ⟨W.heap.size, i, o, l1, l2, rfl, by simp, TyAt.new _ _ _, ⟨by simp [go_sem], by simp [go_sem], by simp [go_sem]⟩, h1.below hb, h2.bar (Bar.of_below (S := fun _ => False) hb) (enF_no W), rfl⟩
theorem tree_lit {W : World} {g : Nat} (k : Nat) {i o : Value} {l1 l2 : List Th} {t : Th} {arr : Array Value} (hg : g = W.heap.size) (h : arr = #[.int .i64 t.a, .int .i64 t.b, .pointer t.c, .pointer t.d, .pointer t.e, i, o]) (h1 : TrR W k i l1) (h2 : TrR W k o l2) : TrR (W.alloc (.cells arr 145)) (k + 1) (.pointer (some ⟨g, 0, none⟩)) (t :: (l1 ++ l2)) := by
 subst hg h
 have hb := below_alc W (.cells #[.int .i64 t.a, .int .i64 t.b, .pointer t.c, .pointer t.d, .pointer t.e, i, o] 145)
 exact ⟨W.heap.size, t, i, o, l1, l2, rfl, by simp, TyAt.new _ _ _, ⟨thC_lit rfl [i, o] rfl, by simp [go_sem], by simp [go_sem]⟩, h1.below hb, h2.below hb, rfl⟩
theorem tr_ptr {W : World} {k : Nat} {p : Value} {l : List Th} (h : TrR W k p l) : ∃ a, p = .pointer a := by
 cases k with
 | zero => exact ⟨_, h.1⟩
 | succ k => obtain ⟨g, _, _, _, _, _, rfl, _⟩ := h; exact ⟨_, rfl⟩
theorem pt_ptr {W : World} {ks : List Nat} {p : Value} {l : List Th} (h : PtR W ks p l) : ∃ a, p = .pointer a := by
 cases ks with
 | nil => exact ⟨_, h.1⟩
 | cons k ks => obtain ⟨g, _, _, _, _, rfl, _⟩ := h; exact ⟨_, rfl⟩
theorem tr_eq {W : World} {k k' : Nat} {p p' : Value} {l l' : List Th} (h : TrR W k p l) (h' : TrR W k' p' l') (hl : l.length = l'.length) : k = k' := by
 have e1 := h.len; have e2 := h'.len
 have e : 2 ^ k = 2 ^ k' := by omega
 exact Nat.pow_right_inj (by omega) |>.1 e
theorem wi_new {W W1 : World} {l : List Th} {pa : Option Addr} {ks : List Nat} (t : Th) (hb : Below W.heap.size W W1) (hrl : W.heap.size + 1 + 1 < W1.heap.size) (hrT : TyAt W1 (W.heap.size + 1 + 1) 53) (hT : PtR W1 ks (.pointer pa) l) {arr arr2 : Array Value} (h1 : arr = #[.int .i64 t.a, .int .i64 t.b, .pointer t.c, .pointer t.d, .pointer t.e, .pointer none, .pointer none]) (h2 : arr2 = #[.int .i64 1, .pointer (some ⟨W1.heap.size, 0, none⟩), .pointer pa]) {V : Value} (hV : V = .pointer (some ⟨W1.heap.size + 1, 0, none⟩)) :
  WiP W l t (.returned (.agg #[.pointer (some ⟨W1.heap.size + 1, 0, none⟩)])) (((W1.alloc (.cells arr 145)).alloc (.cells arr2 142)).setCell ⟨W.heap.size + 1 + 1, 0, none⟩ V) := by
 subst hV
 have hx := below_alc W1 (.cells arr 145)
 have q1 := tree_lit (W := W1) (g := W1.heap.size) (arr := arr) 0 (i := .pointer none) (o := .pointer none) (l1 := []) (l2 := []) (t := t) rfl h1 ⟨rfl, rfl⟩ ⟨rfl, rfl⟩
 have q2 := part_lit (W := W1.alloc (.cells arr 145)) (g := W1.heap.size + 1) ks 0 (arr := arr2) (by simp) (by rw [h2]; rfl) q1 (PtR.bar (Bar.of_below (S := fun _ => False) hx) (enF_no W1) hT)
 have hy := below_alc (W1.alloc (.cells arr 145)) (.cells arr2 142)
 have hT2 := (hrT.bar (Bar.of_below (S := fun _ => False) (belT hx hy)) id)
 refine ⟨_, rfl, ⟨0 :: ks, ?_⟩, (belT hb (belT hx hy)).setCell (by show W.heap.size ≤ W.heap.size + 1 + 1; omega) _⟩
 exact PtR.bar (S := fun k => k = W.heap.size + 1 + 1) (Bar.set ⟨W.heap.size + 1 + 1, 0, none⟩ _ rfl) (fun g e => by subst e; exact ⟨fun h => hT2.ne h (by decide) rfl, fun h => hT2.ne h (by decide) rfl⟩) q2
theorem eWith_any (W : World) (p : Value) (l : List Th) (t : Th) (h : Hid (EnR W p l)) (hl : l.length ≤ 1000000000) :
  Calls Try.prog 81 #[.agg #[p], .agg #[.int .i64 t.a, .int .i64 t.b, .pointer t.c, .pointer t.d, .pointer t.e]] W (WiP W l t) := by
 obtain ⟨ks, hks⟩ := h.out
 obtain ⟨pa, rfl⟩ : ∃ a, p = .pointer a := by
  cases ks with
  | nil => exact ⟨_, hks.1⟩
  | cons k ks => obtain ⟨g, _, _, _, _, rfl, _⟩ := hks; exact ⟨_, rfl⟩
 obtain ⟨W1, hW1⟩ : ∃ w, ((W.alloc (.cells #[.pointer pa] 53)).alloc (.cells #[.int .i64 t.a, .int .i64 t.b, .pointer t.c, .pointer t.d, .pointer t.e] 56)).alloc (.cells #[.pointer none] 53) = w := ⟨_, rfl⟩
 have hb : Below W.heap.size W W1 := by rw [← hW1]; (repeat' (first | (with_reducible first | exact bR _ _ | assumption | apply bS | apply bA | apply bD | apply bN | exact bL _) | (simp; done) | (simp; omega) | omega | exact bL _))
 have hb0 : W1.cell? ⟨W.heap.size, 0, none⟩ = some (.pointer pa) := by rw [← hW1]; simp [go_sem]
 have ht : ThC W1 (W.heap.size + 1) t := by rw [← hW1]; exact ⟨by simp [go_sem], by simp [go_sem], by simp [go_sem], by simp [go_sem], by simp [go_sem]⟩
 have hr0 : W1.cell? ⟨W.heap.size + 1 + 1, 0, none⟩ = some (.pointer none) := by rw [← hW1]; simp [go_sem]
 have hrf : W1.frozen? ⟨W.heap.size + 1 + 1, 0, none⟩ = false := by rw [← hW1]; simp [go_sem]
 have hrl : W.heap.size + 1 + 1 < W1.heap.size := by rw [← hW1]; simp
 have hrT := Lib.hid (show TyAt W1 (W.heap.size + 1 + 1) 53 by rw [← hW1]; simpa using TyAt.new ((W.alloc (.cells #[.pointer pa] 53)).alloc (.cells #[.int .i64 t.a, .int .i64 t.b, .pointer t.c, .pointer t.d, .pointer t.e] 56)) #[.pointer none] 53)
 have hT := Lib.hid (PtR.bar (Bar.of_below (S := fun _ => False) hb) (enF_no W) hks)
 have hbh := Lib.hid hb
 have hW1h := Lib.hid hW1
 obtain ⟨t0, t1, t2, t3, t4⟩ := ht
 clear hb hks h hW1
 go_enter Try.func81, Try.ntmps81
 go_upto_region 1 with fail
 rw [hW1h.out]
 clear hW1h
 have hcs : (∃ k g i, ks = [k] ∧ pa = some ⟨g, 0, none⟩ ∧ g < W1.heap.size ∧ W1.cell? ⟨g, 0, none⟩ = some (.int .i64 l.length) ∧ W1.cell? ⟨g, 1, none⟩ = some i ∧ W1.cell? ⟨g, 2, none⟩ = some (.pointer none)) ∨ (pa = none ∧ l = []) ∨ (∃ k k2 ks2 g i g2 i2 o2 l1 l2 l3, ks = k :: k2 :: ks2 ∧ l = l1 ++ (l2 ++ l3) ∧ pa = some ⟨g, 0, none⟩ ∧ g < W1.heap.size ∧ g2 < W1.heap.size ∧ (W1.cell? ⟨g, 0, none⟩ = some (.int .i64 l1.length) ∧ W1.cell? ⟨g, 1, none⟩ = some i ∧ W1.cell? ⟨g, 2, none⟩ = some (.pointer (some ⟨g2, 0, none⟩))) ∧ (W1.cell? ⟨g2, 0, none⟩ = some (.int .i64 l2.length) ∧ W1.cell? ⟨g2, 1, none⟩ = some i2 ∧ W1.cell? ⟨g2, 2, none⟩ = some o2) ∧ TrR W1 (k + 1) i l1 ∧ TrR W1 (k2 + 1) i2 l2 ∧ PtR W1 ks2 o2 l3) := by
  cases ks with
  | nil => obtain ⟨e, e2⟩ := hT.out; injection e with e; exact .inr (.inl ⟨e, e2⟩)
  | cons k ks =>
   obtain ⟨g, i, o, l1, l2, e, hg, _, ⟨c0, c1, c2⟩, h1, h2, rfl⟩ := hT.out
   injection e with e
   cases ks with
   | nil =>
    obtain ⟨rfl, rfl⟩ := h2
    exact .inl ⟨k, g, i, rfl, e, hg, by rw [List.append_nil]; exact c0, c1, c2⟩
   | cons k2 ks2 =>
    obtain ⟨g2, i2, o2, l2, l3, rfl, hg2, _, ⟨d0, d1, d2⟩, h3, h4, rfl⟩ := h2
    exact .inr (.inr ⟨k, k2, ks2, g, i, g2, i2, o2, l1, l2, l3, rfl, rfl, e, hg, hg2, ⟨c0, c1, c2⟩, ⟨d0, d1, d2⟩, h1, h3, h4⟩)
 have hb := hbh
 rcases hcs with ⟨k, g, i, rfl, rfl, hg, c0, c1, c2⟩ | ⟨rfl, rfl⟩ | ⟨k, k2, ks2, g, i, g2, i2, o2, l1, l2, l3, rfl, rfl, rfl, hg, hg2, ⟨c0, c1, c2⟩, ⟨d0, d1, d2⟩, h1, h2, h3⟩
 ·go_wp2_with fail
  go_quiet (fail)
  have hdq : Below W1.heap.size W1 (W1.drewN nq) := by (repeat' (first | (with_reducible first | exact bR _ _ | assumption | apply bS | apply bA | apply bD | apply bN | exact bL _) | (simp; done) | (simp; omega) | omega | exact bL _))
  have hbq := Lib.hid (belT hb.out hdq)
  have hTq := Lib.hid (PtR.bar (Bar.of_below (S := fun _ => False) hdq) (enF_no W1) hT.out)
  have hrTq := Lib.hid (hrT.out.bar (Bar.of_below (S := fun _ => False) hdq) id)
  have hl1 : W.heap.size + 1 < W1.heap.size := by omega
  have t0 := carry hdq hl1 t0; have t1 := carry hdq hl1 t1; have t2 := carry hdq hl1 t2; have t3 := carry hdq hl1 t3; have t4 := carry hdq hl1 t4
  have hr0 := carry hdq hrl hr0
  have hrf := (hdq.frozen (p := ⟨W.heap.size + 1 + 1, 0, none⟩) hrl).trans hrf
  have hrl : W.heap.size + 1 + 1 < (W1.drewN nq).heap.size := Nat.lt_of_lt_of_le hrl hdq.size
  generalize W1.drewN nq = wq at hdq hbq hTq hrTq t0 t1 t2 t3 t4 hr0 hrf hrl ⊢
  have hfin := Lib.hid fun (arr arr2 : Array Value) V e1 e2 e3 => wi_new (arr := arr) (arr2 := arr2) (V := V) t hbq.out hrl hrTq.out hTq.out e1 e2 e3
  clear hdq hb0 hl1 c0 c1 c2 hg
  have hc2 : ∀ o o2 : Obj, ((wq.alloc o).alloc o2).cell? ⟨W.heap.size + 1 + 1, 0, none⟩ = some (.pointer none) := fun o o2 => carry (belT (below_alc wq o) (below_alc _ o2)) hrl hr0
  have hf2 : ∀ o o2 : Obj, ((wq.alloc o).alloc o2).frozen? ⟨W.heap.size + 1 + 1, 0, none⟩ = false := fun o o2 => ((belT (below_alc wq o) (below_alc _ o2)).frozen (p := ⟨W.heap.size + 1 + 1, 0, none⟩) hrl).trans hrf
  go_wp2_with fail
  have s0 := setS (v := .pointer (some ⟨wq.heap.size + 1, 0, none⟩)) (hc2 (.cells #[.int .i64 t.a, .int .i64 t.b, .pointer t.c, .pointer t.d, .pointer t.e, .pointer none, .pointer none] 145) (.cells #[.int .i64 1, .pointer (some ⟨wq.heap.size, 0, none⟩), .pointer (some ⟨g, 0, none⟩)] 142))
  exact bodyPost_ret (v := .agg #[.pointer (some ⟨wq.heap.size + 1, 0, none⟩)]) (by simp only [results, Try.results81]; simp [go_sem, s0]) rfl (hfin.out _ _ _ rfl rfl rfl)
 ·go_wp2_with fail
  go_quiet (fail)
  have hdq : Below W1.heap.size W1 (W1.drewN nq) := by (repeat' (first | (with_reducible first | exact bR _ _ | assumption | apply bS | apply bA | apply bD | apply bN | exact bL _) | (simp; done) | (simp; omega) | omega | exact bL _))
  have hbq := Lib.hid (belT hb.out hdq)
  have hTq := Lib.hid (PtR.bar (Bar.of_below (S := fun _ => False) hdq) (enF_no W1) hT.out)
  have hrTq := Lib.hid (hrT.out.bar (Bar.of_below (S := fun _ => False) hdq) id)
  have hl1 : W.heap.size + 1 < W1.heap.size := by omega
  have t0 := carry hdq hl1 t0; have t1 := carry hdq hl1 t1; have t2 := carry hdq hl1 t2; have t3 := carry hdq hl1 t3; have t4 := carry hdq hl1 t4
  have hr0 := carry hdq hrl hr0
  have hrf := (hdq.frozen (p := ⟨W.heap.size + 1 + 1, 0, none⟩) hrl).trans hrf
  have hrl : W.heap.size + 1 + 1 < (W1.drewN nq).heap.size := Nat.lt_of_lt_of_le hrl hdq.size
  generalize W1.drewN nq = wq at hdq hbq hTq hrTq t0 t1 t2 t3 t4 hr0 hrf hrl ⊢
  have hfin := Lib.hid fun (arr arr2 : Array Value) V e1 e2 e3 => wi_new (arr := arr) (arr2 := arr2) (V := V) t hbq.out hrl hrTq.out hTq.out e1 e2 e3
  clear hdq hb0 hl1
  have hc2 : ∀ o o2 : Obj, ((wq.alloc o).alloc o2).cell? ⟨W.heap.size + 1 + 1, 0, none⟩ = some (.pointer none) := fun o o2 => carry (belT (below_alc wq o) (below_alc _ o2)) hrl hr0
  have hf2 : ∀ o o2 : Obj, ((wq.alloc o).alloc o2).frozen? ⟨W.heap.size + 1 + 1, 0, none⟩ = false := fun o o2 => ((belT (below_alc wq o) (below_alc _ o2)).frozen (p := ⟨W.heap.size + 1 + 1, 0, none⟩) hrl).trans hrf
  go_wp2_with fail
  have s0 := setS (v := .pointer (some ⟨wq.heap.size + 1, 0, none⟩)) (hc2 (.cells #[.int .i64 t.a, .int .i64 t.b, .pointer t.c, .pointer t.d, .pointer t.e, .pointer none, .pointer none] 145) (.cells #[.int .i64 1, .pointer (some ⟨wq.heap.size, 0, none⟩), .pointer none] 142))
  exact bodyPost_ret (v := .agg #[.pointer (some ⟨wq.heap.size + 1, 0, none⟩)]) (by simp only [results, Try.results81]; simp [go_sem, s0]) rfl (hfin.out _ _ _ rfl rfl rfl)
 ·by_cases hs : l1.length = l2.length
  ·have hk : k = k2 := by have := tr_eq h1 h2 hs; omega
   subst hk
   have hsi : (l1.length : Int) = (l2.length : Int) := by omega
   obtain ⟨ia, rfl⟩ := tr_ptr h1
   obtain ⟨ib, rfl⟩ := tr_ptr h2
   obtain ⟨oc, rfl⟩ := pt_ptr h3
   have h1h := Lib.hid h1; have h2h := Lib.hid h2; have h3h := Lib.hid h3; have hsh := Lib.hid hs
   rw [← hsi] at d0
   have hlb : l1.length ≤ 1000000000 := by rw [List.length_append] at hl; omega
   clear h1 h2 h3 hs hsi
   go_wp2_with fail
   go_quiet (fail)
   have hdq : Below W1.heap.size W1 (W1.drewN nq) := by (repeat' (first | (with_reducible first | exact bR _ _ | assumption | apply bS | apply bA | apply bD | apply bN | exact bL _) | (simp; done) | (simp; omega) | omega | exact bL _))
   have hbq := Lib.hid (belT hb.out hdq)
   have q1 := Lib.hid (h1h.out.below hdq)
   have q2 := Lib.hid (h2h.out.below hdq)
   have q3 := Lib.hid (PtR.bar (Bar.of_below (S := fun _ => False) hdq) (enF_no W1) h3h.out)
   have hrTq := Lib.hid (hrT.out.bar (Bar.of_below (S := fun _ => False) hdq) id)
   have hl1 : W.heap.size + 1 < W1.heap.size := by omega
   have t0 := carry hdq hl1 t0; have t1 := carry hdq hl1 t1; have t2 := carry hdq hl1 t2; have t3 := carry hdq hl1 t3; have t4 := carry hdq hl1 t4
   have c0 := carry hdq hg c0; have c1 := carry hdq hg c1; have c2 := carry hdq hg c2
   have d0 := carry hdq hg2 d0; have d1 := carry hdq hg2 d1; have d2 := carry hdq hg2 d2
   have hr0 := carry hdq hrl hr0
   have hrf := (hdq.frozen (p := ⟨W.heap.size + 1 + 1, 0, none⟩) hrl).trans hrf
   have hrl : W.heap.size + 1 + 1 < (W1.drewN nq).heap.size := Nat.lt_of_lt_of_le hrl hdq.size
   have hg : g < (W1.drewN nq).heap.size := Nat.lt_of_lt_of_le hg hdq.size
   have hg2 : g2 < (W1.drewN nq).heap.size := Nat.lt_of_lt_of_le hg2 hdq.size
   generalize W1.drewN nq = wq at hdq hbq q1 q2 q3 hrTq t0 t1 t2 t3 t4 c0 c1 c2 d0 d1 d2 hr0 hrf hrl hg hg2 ⊢
   clear hdq hb0 hl1 h1h h2h h3h hT hrT
   go_upto_region 4 with fail
   go_region
   have hx := below_alc wq (.cells #[.int .i64 t.a, .int .i64 t.b, .pointer t.c, .pointer t.d, .pointer t.e, .pointer ia, .pointer ib] 145)
   have hxd : Below wq.heap.size wq (wq.alloc (.cells #[.int .i64 t.a, .int .i64 t.b, .pointer t.c, .pointer t.d, .pointer t.e, .pointer ia, .pointer ib] 145)).drew := hx.drew
   have qt := Lib.hid ((tree_lit (W := wq) (g := wq.heap.size) (k + 1) (t := t) (arr := #[.int .i64 t.a, .int .i64 t.b, .pointer t.c, .pointer t.d, .pointer t.e, .pointer ia, .pointer ib]) rfl rfl q1.out q2.out).below (Below.drew (Below.refl _ _)))
   have q3 := Lib.hid (PtR.bar (Bar.of_below (S := fun _ => False) hxd) (enF_no wq) q3.out)
   have hrTq := Lib.hid (hrTq.out.bar (Bar.of_below (S := fun _ => False) hxd) id)
   have hbq := Lib.hid (belT hbq.out hxd)
   have c0 := carry hxd hg c0; have c1 := carry hxd hg c1; have c2 := carry hxd hg c2
   have d0 := carry hxd hg2 d0; have d1 := carry hxd hg2 d1; have d2 := carry hxd hg2 d2
   have hr0 := carry hxd hrl hr0
   have hrf := (hxd.frozen (p := ⟨W.heap.size + 1 + 1, 0, none⟩) hrl).trans hrf
   have hsz := hxd.size
   have hrl := Nat.lt_of_lt_of_le hrl hsz
   have hg := Nat.lt_of_lt_of_le hg hsz
   have hg2 := Nat.lt_of_lt_of_le hg2 hsz
   obtain ⟨G, hG⟩ : ∃ G, wq.heap.size = G := ⟨_, rfl⟩
   rw [hG] at qt ⊢
   generalize (wq.alloc (.cells #[.int .i64 t.a, .int .i64 t.b, .pointer t.c, .pointer t.d, .pointer t.e, .pointer ia, .pointer ib] 145)).drew = wt at hxd qt q3 hrTq hbq c0 c1 c2 d0 d1 d2 hr0 hrf hrl hg hg2 ⊢
   clear hx hxd hsz hG t0 t1 t2 t3 t4 q1 q2
   go_upto_region 5 with fail
   go_region
   obtain ⟨W2, hW2⟩ : ∃ w, wt.setCell ⟨W.heap.size + 1 + 1, 0, none⟩ (.pointer (some ⟨wt.heap.size, 0, none⟩)) = w := ⟨_, rfl⟩
   have hb2 : Bar (fun k => k = W.heap.size + 1 + 1) wt W2 := by rw [← hW2]; exact Bar.set ⟨W.heap.size + 1 + 1, 0, none⟩ _ rfl
   have hF : EnF (fun k => k = W.heap.size + 1 + 1) wt := fun g e => by subst e; exact ⟨fun h => hrTq.out.ne h (by decide) rfl, fun h => hrTq.out.ne h (by decide) rfl⟩
   have qt2 := qt.out.bar hb2 hF
   have q32 := PtR.bar hb2 hF q3.out
   have hs2 : W2.heap.size = wt.heap.size := by rw [← hW2]; simp
   have s0 : W2.cell? ⟨W.heap.size + 1 + 1, 0, none⟩ = some (.pointer (some ⟨wt.heap.size, 0, none⟩)) := by rw [← hW2]; exact setS hr0
   have hB2 : Below W.heap.size W W2 := by rw [← hW2]; exact hbq.out.setCell (by show W.heap.size ≤ W.heap.size + 1 + 1; omega) _
   have hlt : W.heap.size + 1 + 1 < W2.heap.size := by omega
   rw [hW2]
   have hlen : 2 * (l1.length : Int) + 1 = ((t :: (l1 ++ l2)).length : Int) := by have := hsh.out; rw [List.length_cons, List.length_append]; omega
   have qp := part_lit (W := W2) (g := wt.heap.size) ks2 (k + 1) (i := .pointer (some ⟨G, 0, none⟩)) (o := .pointer oc) (l1 := t :: (l1 ++ l2)) (l2 := l3) (arr := #[.int .i64 (2 * (l1.length : Int) + 1), .pointer (some ⟨G, 0, none⟩), .pointer oc]) hs2.symm (by rw [hlen]) qt2 q32
   rw [show t :: (l1 ++ l2) ++ l3 = t :: (l1 ++ (l2 ++ l3)) by simp] at qp
   have hx := below_alc W2 (.cells #[.int .i64 (2 * (l1.length : Int) + 1), .pointer (some ⟨G, 0, none⟩), .pointer oc] 142)
   have hfin := Lib.hid (show WiP W (l1 ++ (l2 ++ l3)) t (.returned (.agg #[.pointer (some ⟨wt.heap.size, 0, none⟩)])) (W2.alloc (.cells #[.int .i64 (2 * (l1.length : Int) + 1), .pointer (some ⟨G, 0, none⟩), .pointer oc] 142)).drew from
    ⟨_, rfl, ⟨(k + 1) :: ks2, PtR.bar (Bar.of_below (S := fun _ => False) ((Below.refl _ _).drew)) (enF_no _) qp⟩, (belT hB2 hx).drew⟩)
   have s1 := carry hx.drew hlt s0
   clear hb2 hF qt2 q32 hW2 hB2 hlen qp hx c0 c1 c2 d0 d1 d2 hr0 hrf qt q3
   generalize (W2.alloc (.cells #[.int .i64 (2 * (l1.length : Int) + 1), .pointer (some ⟨G, 0, none⟩), .pointer oc] 142)).drew = wz at hfin s1 ⊢
   go_wp2_with fail
   exact bodyPost_ret (v := .agg #[.pointer (some ⟨wt.heap.size, 0, none⟩)]) (by simp [results, Try.results81, go_sem, s1]) rfl hfin.out
  ·have hsi : ¬ (l1.length : Int) = (l2.length : Int) := by omega
   clear h1 h2 h3
   go_wp2_with fail
   go_quiet (fail)
   have hdq : Below W1.heap.size W1 (W1.drewN nq) := by (repeat' (first | (with_reducible first | exact bR _ _ | assumption | apply bS | apply bA | apply bD | apply bN | exact bL _) | (simp; done) | (simp; omega) | omega | exact bL _))
   have hbq := Lib.hid (belT hb.out hdq)
   have hTq := Lib.hid (PtR.bar (Bar.of_below (S := fun _ => False) hdq) (enF_no W1) hT.out)
   have hrTq := Lib.hid (hrT.out.bar (Bar.of_below (S := fun _ => False) hdq) id)
   have hl1 : W.heap.size + 1 < W1.heap.size := by omega
   have t0 := carry hdq hl1 t0; have t1 := carry hdq hl1 t1; have t2 := carry hdq hl1 t2; have t3 := carry hdq hl1 t3; have t4 := carry hdq hl1 t4
   have hr0 := carry hdq hrl hr0
   have hrf := (hdq.frozen (p := ⟨W.heap.size + 1 + 1, 0, none⟩) hrl).trans hrf
   have hrl : W.heap.size + 1 + 1 < (W1.drewN nq).heap.size := Nat.lt_of_lt_of_le hrl hdq.size
   generalize W1.drewN nq = wq at hdq hbq hTq hrTq t0 t1 t2 t3 t4 hr0 hrf hrl ⊢
   have hfin := Lib.hid fun (arr arr2 : Array Value) V e1 e2 e3 => wi_new (arr := arr) (arr2 := arr2) (V := V) t hbq.out hrl hrTq.out hTq.out e1 e2 e3
   clear hdq hb0 hl1 c0 c1 c2 d0 d1 d2 hg hg2
   have hc2 : ∀ o o2 : Obj, ((wq.alloc o).alloc o2).cell? ⟨W.heap.size + 1 + 1, 0, none⟩ = some (.pointer none) := fun o o2 => carry (belT (below_alc wq o) (below_alc _ o2)) hrl hr0
   have hf2 : ∀ o o2 : Obj, ((wq.alloc o).alloc o2).frozen? ⟨W.heap.size + 1 + 1, 0, none⟩ = false := fun o o2 => ((belT (below_alc wq o) (below_alc _ o2)).frozen (p := ⟨W.heap.size + 1 + 1, 0, none⟩) hrl).trans hrf
   go_wp2_with fail
   have s0 := setS (v := .pointer (some ⟨wq.heap.size + 1, 0, none⟩)) (hc2 (.cells #[.int .i64 t.a, .int .i64 t.b, .pointer t.c, .pointer t.d, .pointer t.e, .pointer none, .pointer none] 145) (.cells #[.int .i64 1, .pointer (some ⟨wq.heap.size, 0, none⟩), .pointer (some ⟨g, 0, none⟩)] 142))
   exact bodyPost_ret (v := .agg #[.pointer (some ⟨wq.heap.size + 1, 0, none⟩)]) (by simp only [results, Try.results81]; simp [go_sem, s0]) rfl (hfin.out _ _ _ rfl rfl rfl)
end Go.Proofs.Ytnjalpcmjkahkaa
